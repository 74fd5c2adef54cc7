/-
  NARROWER THAN 'FOR EVERY INPUT', by the rows' own cells (each row's printed sentence says how): HopFields: laid · HopStrips: laid · HopJudged: laid · HopLoops: laid · HopKnown: laid.
  DERIVED. THE GIVEN ROWS OF THIS SEAT. 5 by the template 'for every input the law returns true; each argument reads behind the call as it read before'; 0 by the template 'total and deterministic' (their statements: YtinibacmhmmcdaaDoorTotals.lean).
  GIVEN WITH THE SEED: the statements are not yours to turn. If you find one false, say at which input.
  Laid BY PROGRAM, IN A SANDBOX (cutbox-rows.mjs): the forced cells as the released guide's own fill.sh prints them over the translation d2a831ccd5300820… (all of the seat's roots in one cut). By AI agents, Wed Nov 11 2026. No macro, syntax, notation, axiom, sorry.
-/
import Derived.Test.YtinibacmhmmcdaaDoorChecked
import GoSem.PinnedTables
import GoSem.Claim
import GoSem.ClaimJoined
import GoSem.ClaimMapViews
import Derived.JoinedTies
import Derived.KernelRfl
namespace Go.Proofs.YtinibacmhmmcdaaDoor
/- THE CELL 'sum', in the pinned program and in every row, IS THE sha256 OF THE DUMP (.gsa) THAT YtinibacmhmmcdaaDoorProg.lean LOADS. Nothing in Lean hashes anything: it is a label: what it is worth is what the hold of that sum in a sandbox is worth. -/
noncomputable def Tryd.pinned : Pinned := { name := "ytinibacmhmmcdaadoor", sum := "d2a831ccd5300820f87566bed58ff41905a7d349efe1e29f89bab26633294d6e", checked := Tryd.checked }
namespace Rows
def none {H : Type} : Left H := { results := [], args := [] }

/- WHAT THE LISTED PACKAGE-LEVEL VARIABLES READ AS WHEN THE CALL BEGINS. Each datum BY PROGRAM (the guide's laid-datum.mjs) off the statement by which the dump's own 'gosem.cut.vars' lays the variable. In a bare row this is a premise. The card (YtinibacmhmmcdaaDoorCards.lean) ties it to the program's text. -/
def laid_unicode_utf8_acceptRanges {H : Type} : DataW H := .agg [.agg [.lit (.int .u8 128), .lit (.int .u8 191)], .agg [.lit (.int .u8 160), .lit (.int .u8 191)], .agg [.lit (.int .u8 128), .lit (.int .u8 159)], .agg [.lit (.int .u8 144), .lit (.int .u8 191)], .agg [.lit (.int .u8 128), .lit (.int .u8 143)], .agg [.lit (.int .u8 0), .lit (.int .u8 0)], .agg [.lit (.int .u8 0), .lit (.int .u8 0)], .agg [.lit (.int .u8 0), .lit (.int .u8 0)], .agg [.lit (.int .u8 0), .lit (.int .u8 0)], .agg [.lit (.int .u8 0), .lit (.int .u8 0)], .agg [.lit (.int .u8 0), .lit (.int .u8 0)], .agg [.lit (.int .u8 0), .lit (.int .u8 0)], .agg [.lit (.int .u8 0), .lit (.int .u8 0)], .agg [.lit (.int .u8 0), .lit (.int .u8 0)], .agg [.lit (.int .u8 0), .lit (.int .u8 0)], .agg [.lit (.int .u8 0), .lit (.int .u8 0)]]
/-- One of Go's own tables, pinned by name: the form's constant. -/
def laid_unicode_utf8_first : DataW Unit := Go.Pinned.utf8First

/-- 'tollhouselaw11.HopFields': WHATEVER THE INPUT: true; the input reads as it did. -/
def hopFieldsSpec : ChangeSpec := { name := "hopFields", fn := fun _ => fun
  | [d1, d2, d3] => { results := [.lit (.bool true)], args := [d1, d2, d3] }
  | _ => none }
def hopFieldsRow : OpenClaim := { program := "ytinibacmhmmcdaadoor", sum := "d2a831ccd5300820f87566bed58ff41905a7d349efe1e29f89bab26633294d6e", func := "tollhouse/tollhouselaw11.HopFields", spec := "hopFields", inPlace := ["internal/bytealg.IndexByteString", "internal/bytealg.IndexString"], unfollowed := true, recurses := true, named := ["unicode/utf8.first", "unicode/utf8.acceptRanges", "internal/bytealg.MaxLen"], apart := false, laid := [("unicode/utf8.acceptRanges", laid_unicode_utf8_acceptRanges), ("unicode/utf8.first", laid_unicode_utf8_first)] }
def HopFieldsSaid : Prop := hopFieldsRow.holds Tryd.pinned (OpenSpec.ofChange hopFieldsSpec)

/-- ITS FALSE NEIGHBOUR: 'it returns false'. Refute it at one input. -/
def hopFieldsWrong : ChangeSpec := { name := "hopFields", fn := fun _ => fun
  | [d1, d2, d3] => { results := [.lit (.bool false)], args := [d1, d2, d3] }
  | _ => none }
def HopFieldsWrongFalsely : Prop := hopFieldsRow.holds Tryd.pinned (OpenSpec.ofChange hopFieldsWrong)

/-- 'tollhouselaw11.HopStrips': WHATEVER THE INPUT: true; the input reads as it did. -/
def hopStripsSpec : ChangeSpec := { name := "hopStrips", fn := fun _ => fun
  | [d1, d2] => { results := [.lit (.bool true)], args := [d1, d2] }
  | _ => none }
def hopStripsRow : OpenClaim := { program := "ytinibacmhmmcdaadoor", sum := "d2a831ccd5300820f87566bed58ff41905a7d349efe1e29f89bab26633294d6e", func := "tollhouse/tollhouselaw11.HopStrips", spec := "hopStrips", inPlace := ["internal/bytealg.IndexByteString", "internal/bytealg.IndexString"], unfollowed := true, recurses := true, named := ["unicode/utf8.first", "unicode/utf8.acceptRanges", "internal/bytealg.MaxLen"], apart := false, laid := [("unicode/utf8.acceptRanges", laid_unicode_utf8_acceptRanges), ("unicode/utf8.first", laid_unicode_utf8_first)] }
def HopStripsSaid : Prop := hopStripsRow.holds Tryd.pinned (OpenSpec.ofChange hopStripsSpec)

/-- ITS FALSE NEIGHBOUR: 'it returns false'. Refute it at one input. -/
def hopStripsWrong : ChangeSpec := { name := "hopStrips", fn := fun _ => fun
  | [d1, d2] => { results := [.lit (.bool false)], args := [d1, d2] }
  | _ => none }
def HopStripsWrongFalsely : Prop := hopStripsRow.holds Tryd.pinned (OpenSpec.ofChange hopStripsWrong)

/-- 'tollhouselaw11.HopJudged': WHATEVER THE INPUT: true; the input reads as it did. -/
def hopJudgedSpec : ChangeSpec := { name := "hopJudged", fn := fun _ => fun
  | [d1, d2] => { results := [.lit (.bool true)], args := [d1, d2] }
  | _ => none }
def hopJudgedRow : OpenClaim := { program := "ytinibacmhmmcdaadoor", sum := "d2a831ccd5300820f87566bed58ff41905a7d349efe1e29f89bab26633294d6e", func := "tollhouse/tollhouselaw11.HopJudged", spec := "hopJudged", inPlace := ["internal/bytealg.IndexByteString", "internal/bytealg.IndexString"], unfollowed := true, recurses := true, named := ["unicode/utf8.first", "unicode/utf8.acceptRanges", "internal/bytealg.MaxLen"], apart := false, laid := [("unicode/utf8.acceptRanges", laid_unicode_utf8_acceptRanges), ("unicode/utf8.first", laid_unicode_utf8_first)] }
def HopJudgedSaid : Prop := hopJudgedRow.holds Tryd.pinned (OpenSpec.ofChange hopJudgedSpec)

/-- ITS FALSE NEIGHBOUR: 'it returns false'. Refute it at one input. -/
def hopJudgedWrong : ChangeSpec := { name := "hopJudged", fn := fun _ => fun
  | [d1, d2] => { results := [.lit (.bool false)], args := [d1, d2] }
  | _ => none }
def HopJudgedWrongFalsely : Prop := hopJudgedRow.holds Tryd.pinned (OpenSpec.ofChange hopJudgedWrong)

/-- 'tollhouselaw11.HopLoops': WHATEVER THE INPUT: true; the input reads as it did. -/
def hopLoopsSpec : ChangeSpec := { name := "hopLoops", fn := fun _ => fun
  | [d1, d2, d3] => { results := [.lit (.bool true)], args := [d1, d2, d3] }
  | _ => none }
def hopLoopsRow : OpenClaim := { program := "ytinibacmhmmcdaadoor", sum := "d2a831ccd5300820f87566bed58ff41905a7d349efe1e29f89bab26633294d6e", func := "tollhouse/tollhouselaw11.HopLoops", spec := "hopLoops", inPlace := ["internal/bytealg.IndexByteString", "internal/bytealg.IndexString"], unfollowed := true, recurses := true, named := ["unicode/utf8.first", "unicode/utf8.acceptRanges", "internal/bytealg.MaxLen"], apart := false, laid := [("unicode/utf8.acceptRanges", laid_unicode_utf8_acceptRanges), ("unicode/utf8.first", laid_unicode_utf8_first)] }
def HopLoopsSaid : Prop := hopLoopsRow.holds Tryd.pinned (OpenSpec.ofChange hopLoopsSpec)

/-- ITS FALSE NEIGHBOUR: 'it returns false'. Refute it at one input. -/
def hopLoopsWrong : ChangeSpec := { name := "hopLoops", fn := fun _ => fun
  | [d1, d2, d3] => { results := [.lit (.bool false)], args := [d1, d2, d3] }
  | _ => none }
def HopLoopsWrongFalsely : Prop := hopLoopsRow.holds Tryd.pinned (OpenSpec.ofChange hopLoopsWrong)

/-- 'tollhouselaw11.HopKnown': WHATEVER THE INPUT: true; the input reads as it did. -/
def hopKnownSpec : ChangeSpec := { name := "hopKnown", fn := fun _ => fun
  | [] => { results := [.lit (.bool true)], args := [] }
  | _ => none }
def hopKnownRow : OpenClaim := { program := "ytinibacmhmmcdaadoor", sum := "d2a831ccd5300820f87566bed58ff41905a7d349efe1e29f89bab26633294d6e", func := "tollhouse/tollhouselaw11.HopKnown", spec := "hopKnown", inPlace := ["internal/bytealg.IndexByteString", "internal/bytealg.IndexString"], unfollowed := true, recurses := true, named := ["unicode/utf8.first", "unicode/utf8.acceptRanges", "internal/bytealg.MaxLen"], apart := false, laid := [("unicode/utf8.acceptRanges", laid_unicode_utf8_acceptRanges), ("unicode/utf8.first", laid_unicode_utf8_first)] }
def HopKnownSaid : Prop := hopKnownRow.holds Tryd.pinned (OpenSpec.ofChange hopKnownSpec)

/-- ITS FALSE NEIGHBOUR: 'it returns false'. Refute it at one input. -/
def hopKnownWrong : ChangeSpec := { name := "hopKnown", fn := fun _ => fun
  | [] => { results := [.lit (.bool false)], args := [] }
  | _ => none }
def HopKnownWrongFalsely : Prop := hopKnownRow.holds Tryd.pinned (OpenSpec.ofChange hopKnownWrong)

/- THE SECOND FORM. 'bulk': how many values and letters a reading holds, each counted each time it is reached (what is shared counts as often as it is met; a slice's spare places count too). A statement '..UptoSaid' is the law's where the arguments, and the package variables that the reading takes, are together of bulk at most 1048576: NARROWER than '..Said'. Prove '..Said' where nothing that the law and all that it calls make is longer than what came in: it says more and counts as full. Else prove '..UptoSaid'. A law counts once. -/
mutual
def uptoBulk {H : Type} : DataW H → Nat
  | .lit (.string bytes) => bytes.length + 1
  | .lit _ => 1
  | .nil => 1
  | .ptr d => uptoBulk d + 1
  | .slice elems spare => uptoBulkAll elems + uptoBulkAll spare + 1
  | .agg parts => uptoBulkAll parts + 1
  | .iface _ d => uptoBulk d + 1
  | .map entries => uptoBulkEntries entries + 1
  | .held _ => 1
def uptoBulkAll {H : Type} : List (DataW H) → Nat
  | [] => 0
  | d :: r => uptoBulk d + uptoBulkAll r
def uptoBulkEntries {H : Type} : List (Lit × DataW H) → Nat
  | [] => 0
  | x :: r => uptoBulkEntry x + uptoBulkEntries r
def uptoBulkEntry {H : Type} : Lit × DataW H → Nat
  | (.string bytes, d) => bytes.length + uptoBulk d + 1
  | (_, d) => uptoBulk d + 1
 end
def uptoSmall : (H : Type) → List (DataW H) → Bool := fun _ ds => decide (uptoBulkAll ds ≤ 1048576)
def OpenSpec.upto (s : _root_.Go.ChangeSpec) : _root_.Go.OpenSpec := { _root_.Go.OpenSpec.ofChange s with cond := some uptoSmall }

/-- 'tollhouselaw11.HopFields', WHERE WHAT IT READS IS OF BULK AT MOST 1048576: true; the input reads as it did. -/
def hopFieldsUptoRow : OpenClaim := { program := "ytinibacmhmmcdaadoor", sum := "d2a831ccd5300820f87566bed58ff41905a7d349efe1e29f89bab26633294d6e", func := "tollhouse/tollhouselaw11.HopFields", spec := "hopFields", inPlace := ["internal/bytealg.IndexByteString", "internal/bytealg.IndexString"], unfollowed := true, recurses := true, named := ["unicode/utf8.first", "unicode/utf8.acceptRanges", "internal/bytealg.MaxLen"], apart := false, laid := [("unicode/utf8.acceptRanges", laid_unicode_utf8_acceptRanges), ("unicode/utf8.first", laid_unicode_utf8_first)], narrowed := true }
def HopFieldsUptoSaid : Prop := hopFieldsUptoRow.holds Tryd.pinned (OpenSpec.upto hopFieldsSpec)

/-- 'tollhouselaw11.HopStrips', WHERE WHAT IT READS IS OF BULK AT MOST 1048576: true; the input reads as it did. -/
def hopStripsUptoRow : OpenClaim := { program := "ytinibacmhmmcdaadoor", sum := "d2a831ccd5300820f87566bed58ff41905a7d349efe1e29f89bab26633294d6e", func := "tollhouse/tollhouselaw11.HopStrips", spec := "hopStrips", inPlace := ["internal/bytealg.IndexByteString", "internal/bytealg.IndexString"], unfollowed := true, recurses := true, named := ["unicode/utf8.first", "unicode/utf8.acceptRanges", "internal/bytealg.MaxLen"], apart := false, laid := [("unicode/utf8.acceptRanges", laid_unicode_utf8_acceptRanges), ("unicode/utf8.first", laid_unicode_utf8_first)], narrowed := true }
def HopStripsUptoSaid : Prop := hopStripsUptoRow.holds Tryd.pinned (OpenSpec.upto hopStripsSpec)

/-- 'tollhouselaw11.HopJudged', WHERE WHAT IT READS IS OF BULK AT MOST 1048576: true; the input reads as it did. -/
def hopJudgedUptoRow : OpenClaim := { program := "ytinibacmhmmcdaadoor", sum := "d2a831ccd5300820f87566bed58ff41905a7d349efe1e29f89bab26633294d6e", func := "tollhouse/tollhouselaw11.HopJudged", spec := "hopJudged", inPlace := ["internal/bytealg.IndexByteString", "internal/bytealg.IndexString"], unfollowed := true, recurses := true, named := ["unicode/utf8.first", "unicode/utf8.acceptRanges", "internal/bytealg.MaxLen"], apart := false, laid := [("unicode/utf8.acceptRanges", laid_unicode_utf8_acceptRanges), ("unicode/utf8.first", laid_unicode_utf8_first)], narrowed := true }
def HopJudgedUptoSaid : Prop := hopJudgedUptoRow.holds Tryd.pinned (OpenSpec.upto hopJudgedSpec)

/-- 'tollhouselaw11.HopLoops', WHERE WHAT IT READS IS OF BULK AT MOST 1048576: true; the input reads as it did. -/
def hopLoopsUptoRow : OpenClaim := { program := "ytinibacmhmmcdaadoor", sum := "d2a831ccd5300820f87566bed58ff41905a7d349efe1e29f89bab26633294d6e", func := "tollhouse/tollhouselaw11.HopLoops", spec := "hopLoops", inPlace := ["internal/bytealg.IndexByteString", "internal/bytealg.IndexString"], unfollowed := true, recurses := true, named := ["unicode/utf8.first", "unicode/utf8.acceptRanges", "internal/bytealg.MaxLen"], apart := false, laid := [("unicode/utf8.acceptRanges", laid_unicode_utf8_acceptRanges), ("unicode/utf8.first", laid_unicode_utf8_first)], narrowed := true }
def HopLoopsUptoSaid : Prop := hopLoopsUptoRow.holds Tryd.pinned (OpenSpec.upto hopLoopsSpec)

/-- 'tollhouselaw11.HopKnown', WHERE WHAT IT READS IS OF BULK AT MOST 1048576: true; the input reads as it did. -/
def hopKnownUptoRow : OpenClaim := { program := "ytinibacmhmmcdaadoor", sum := "d2a831ccd5300820f87566bed58ff41905a7d349efe1e29f89bab26633294d6e", func := "tollhouse/tollhouselaw11.HopKnown", spec := "hopKnown", inPlace := ["internal/bytealg.IndexByteString", "internal/bytealg.IndexString"], unfollowed := true, recurses := true, named := ["unicode/utf8.first", "unicode/utf8.acceptRanges", "internal/bytealg.MaxLen"], apart := false, laid := [("unicode/utf8.acceptRanges", laid_unicode_utf8_acceptRanges), ("unicode/utf8.first", laid_unicode_utf8_first)], narrowed := true }
def HopKnownUptoSaid : Prop := hopKnownUptoRow.holds Tryd.pinned (OpenSpec.upto hopKnownSpec)

end Rows
end Go.Proofs.YtinibacmhmmcdaaDoor
