/-
  NARROWER THAN 'FOR EVERY INPUT', by the rows' own cells (each row's printed sentence says how): VaryNames: laid · VarySelects: laid · VaryMatters: laid · VaryOthers: laid · VaryAgain: laid · VaryKnown: laid.
  DERIVED. THE GIVEN ROWS OF THIS SEAT. 6 by the template 'for every input the law returns true; each argument reads behind the call as it read before'; 0 by the template 'total and deterministic' (their statements: YtbkpiadbgpnhlaaDoorTotals.lean).
  GIVEN WITH THE SEED: the statements are not yours to turn. If you find one false, say at which input.
  Laid BY PROGRAM, IN A SANDBOX (cutbox-rows.mjs): the forced cells as the released guide's own fill.sh prints them over the translation e9f89920237a82a4… (all of the seat's roots in one cut). By AI agents, Wed Nov 11 2026. No macro, syntax, notation, axiom, sorry.
-/
import Derived.Test.YtbkpiadbgpnhlaaDoorChecked
import GoSem.PinnedTables
import GoSem.Claim
import GoSem.ClaimJoined
import GoSem.ClaimMapViews
import Derived.JoinedTies
import Derived.KernelRfl
namespace Go.Proofs.YtbkpiadbgpnhlaaDoor
/- THE CELL 'sum', in the pinned program and in every row, IS THE sha256 OF THE DUMP (.gsa) THAT YtbkpiadbgpnhlaaDoorProg.lean LOADS. Nothing in Lean hashes anything: it is a label: what it is worth is what the hold of that sum in a sandbox is worth. -/
noncomputable def Tryd.pinned : Pinned := { name := "ytbkpiadbgpnhlaadoor", sum := "e9f89920237a82a45433e42d753feb0efe482db80cbf2a34709b6f9538f830b8", checked := Tryd.checked }
namespace Rows
def none {H : Type} : Left H := { results := [], args := [] }

/- WHAT THE LISTED PACKAGE-LEVEL VARIABLES READ AS WHEN THE CALL BEGINS. Each datum BY PROGRAM (the guide's laid-datum.mjs) off the statement by which the dump's own 'gosem.cut.vars' lays the variable. In a bare row this is a premise. The card (YtbkpiadbgpnhlaaDoorCards.lean) ties it to the program's text. -/
def laid_unicode_utf8_acceptRanges {H : Type} : DataW H := .agg [.agg [.lit (.int .u8 128), .lit (.int .u8 191)], .agg [.lit (.int .u8 160), .lit (.int .u8 191)], .agg [.lit (.int .u8 128), .lit (.int .u8 159)], .agg [.lit (.int .u8 144), .lit (.int .u8 191)], .agg [.lit (.int .u8 128), .lit (.int .u8 143)], .agg [.lit (.int .u8 0), .lit (.int .u8 0)], .agg [.lit (.int .u8 0), .lit (.int .u8 0)], .agg [.lit (.int .u8 0), .lit (.int .u8 0)], .agg [.lit (.int .u8 0), .lit (.int .u8 0)], .agg [.lit (.int .u8 0), .lit (.int .u8 0)], .agg [.lit (.int .u8 0), .lit (.int .u8 0)], .agg [.lit (.int .u8 0), .lit (.int .u8 0)], .agg [.lit (.int .u8 0), .lit (.int .u8 0)], .agg [.lit (.int .u8 0), .lit (.int .u8 0)], .agg [.lit (.int .u8 0), .lit (.int .u8 0)], .agg [.lit (.int .u8 0), .lit (.int .u8 0)]]
/-- One of Go's own tables, pinned by name: the form's constant. -/
def laid_unicode_utf8_first : DataW Unit := Go.Pinned.utf8First

/-- 'tollhouselaw16.VaryNames': WHATEVER THE INPUT: true; the input reads as it did. -/
def varyNamesSpec : ChangeSpec := { name := "varyNames", fn := fun _ => fun
  | [d] => { results := [.lit (.bool true)], args := [d] }
  | _ => none }
def varyNamesRow : OpenClaim := { program := "ytbkpiadbgpnhlaadoor", sum := "e9f89920237a82a45433e42d753feb0efe482db80cbf2a34709b6f9538f830b8", func := "tollhouse/tollhouselaw16.VaryNames", spec := "varyNames", inPlace := ["internal/bytealg.IndexByteString", "internal/bytealg.IndexString"], unfollowed := true, recurses := true, named := ["unicode/utf8.first", "unicode/utf8.acceptRanges", "internal/bytealg.MaxLen"], apart := false, laid := [("unicode/utf8.acceptRanges", laid_unicode_utf8_acceptRanges), ("unicode/utf8.first", laid_unicode_utf8_first)] }
def VaryNamesSaid : Prop := varyNamesRow.holds Tryd.pinned (OpenSpec.ofChange varyNamesSpec)

/-- ITS FALSE NEIGHBOUR: 'it returns false'. Refute it at one input. -/
def varyNamesWrong : ChangeSpec := { name := "varyNames", fn := fun _ => fun
  | [d] => { results := [.lit (.bool false)], args := [d] }
  | _ => none }
def VaryNamesWrongFalsely : Prop := varyNamesRow.holds Tryd.pinned (OpenSpec.ofChange varyNamesWrong)

/-- 'tollhouselaw16.VarySelects': WHATEVER THE INPUT: true; the input reads as it did. -/
def varySelectsSpec : ChangeSpec := { name := "varySelects", fn := fun _ => fun
  | [d1, d2, d3] => { results := [.lit (.bool true)], args := [d1, d2, d3] }
  | _ => none }
def varySelectsRow : OpenClaim := { program := "ytbkpiadbgpnhlaadoor", sum := "e9f89920237a82a45433e42d753feb0efe482db80cbf2a34709b6f9538f830b8", func := "tollhouse/tollhouselaw16.VarySelects", spec := "varySelects", inPlace := ["internal/bytealg.IndexByteString", "internal/bytealg.IndexString"], unfollowed := true, recurses := true, named := ["unicode/utf8.first", "unicode/utf8.acceptRanges", "internal/bytealg.MaxLen"], apart := false, laid := [("unicode/utf8.acceptRanges", laid_unicode_utf8_acceptRanges), ("unicode/utf8.first", laid_unicode_utf8_first)] }
def VarySelectsSaid : Prop := varySelectsRow.holds Tryd.pinned (OpenSpec.ofChange varySelectsSpec)

/-- ITS FALSE NEIGHBOUR: 'it returns false'. Refute it at one input. -/
def varySelectsWrong : ChangeSpec := { name := "varySelects", fn := fun _ => fun
  | [d1, d2, d3] => { results := [.lit (.bool false)], args := [d1, d2, d3] }
  | _ => none }
def VarySelectsWrongFalsely : Prop := varySelectsRow.holds Tryd.pinned (OpenSpec.ofChange varySelectsWrong)

/-- 'tollhouselaw16.VaryMatters': WHATEVER THE INPUT: true; the input reads as it did. -/
def varyMattersSpec : ChangeSpec := { name := "varyMatters", fn := fun _ => fun
  | [d1, d2, d3] => { results := [.lit (.bool true)], args := [d1, d2, d3] }
  | _ => none }
def varyMattersRow : OpenClaim := { program := "ytbkpiadbgpnhlaadoor", sum := "e9f89920237a82a45433e42d753feb0efe482db80cbf2a34709b6f9538f830b8", func := "tollhouse/tollhouselaw16.VaryMatters", spec := "varyMatters", inPlace := ["internal/bytealg.IndexByteString", "internal/bytealg.IndexString"], unfollowed := true, recurses := true, named := ["unicode/utf8.first", "unicode/utf8.acceptRanges", "internal/bytealg.MaxLen"], apart := false, laid := [("unicode/utf8.acceptRanges", laid_unicode_utf8_acceptRanges), ("unicode/utf8.first", laid_unicode_utf8_first)] }
def VaryMattersSaid : Prop := varyMattersRow.holds Tryd.pinned (OpenSpec.ofChange varyMattersSpec)

/-- ITS FALSE NEIGHBOUR: 'it returns false'. Refute it at one input. -/
def varyMattersWrong : ChangeSpec := { name := "varyMatters", fn := fun _ => fun
  | [d1, d2, d3] => { results := [.lit (.bool false)], args := [d1, d2, d3] }
  | _ => none }
def VaryMattersWrongFalsely : Prop := varyMattersRow.holds Tryd.pinned (OpenSpec.ofChange varyMattersWrong)

/-- 'tollhouselaw16.VaryOthers': WHATEVER THE INPUT: true; the input reads as it did. -/
def varyOthersSpec : ChangeSpec := { name := "varyOthers", fn := fun _ => fun
  | [d1, d2, d3, d4] => { results := [.lit (.bool true)], args := [d1, d2, d3, d4] }
  | _ => none }
def varyOthersRow : OpenClaim := { program := "ytbkpiadbgpnhlaadoor", sum := "e9f89920237a82a45433e42d753feb0efe482db80cbf2a34709b6f9538f830b8", func := "tollhouse/tollhouselaw16.VaryOthers", spec := "varyOthers", inPlace := ["internal/bytealg.IndexByteString", "internal/bytealg.IndexString"], unfollowed := true, recurses := true, named := ["unicode/utf8.first", "unicode/utf8.acceptRanges", "internal/bytealg.MaxLen"], apart := false, laid := [("unicode/utf8.acceptRanges", laid_unicode_utf8_acceptRanges), ("unicode/utf8.first", laid_unicode_utf8_first)] }
def VaryOthersSaid : Prop := varyOthersRow.holds Tryd.pinned (OpenSpec.ofChange varyOthersSpec)

/-- ITS FALSE NEIGHBOUR: 'it returns false'. Refute it at one input. -/
def varyOthersWrong : ChangeSpec := { name := "varyOthers", fn := fun _ => fun
  | [d1, d2, d3, d4] => { results := [.lit (.bool false)], args := [d1, d2, d3, d4] }
  | _ => none }
def VaryOthersWrongFalsely : Prop := varyOthersRow.holds Tryd.pinned (OpenSpec.ofChange varyOthersWrong)

/-- 'tollhouselaw16.VaryAgain': WHATEVER THE INPUT: true; the input reads as it did. -/
def varyAgainSpec : ChangeSpec := { name := "varyAgain", fn := fun _ => fun
  | [d] => { results := [.lit (.bool true)], args := [d] }
  | _ => none }
def varyAgainRow : OpenClaim := { program := "ytbkpiadbgpnhlaadoor", sum := "e9f89920237a82a45433e42d753feb0efe482db80cbf2a34709b6f9538f830b8", func := "tollhouse/tollhouselaw16.VaryAgain", spec := "varyAgain", inPlace := ["internal/bytealg.IndexByteString", "internal/bytealg.IndexString"], unfollowed := true, recurses := true, named := ["unicode/utf8.first", "unicode/utf8.acceptRanges", "internal/bytealg.MaxLen"], apart := false, laid := [("unicode/utf8.acceptRanges", laid_unicode_utf8_acceptRanges), ("unicode/utf8.first", laid_unicode_utf8_first)] }
def VaryAgainSaid : Prop := varyAgainRow.holds Tryd.pinned (OpenSpec.ofChange varyAgainSpec)

/-- ITS FALSE NEIGHBOUR: 'it returns false'. Refute it at one input. -/
def varyAgainWrong : ChangeSpec := { name := "varyAgain", fn := fun _ => fun
  | [d] => { results := [.lit (.bool false)], args := [d] }
  | _ => none }
def VaryAgainWrongFalsely : Prop := varyAgainRow.holds Tryd.pinned (OpenSpec.ofChange varyAgainWrong)

/-- 'tollhouselaw16.VaryKnown': WHATEVER THE INPUT: true; the input reads as it did. -/
def varyKnownSpec : ChangeSpec := { name := "varyKnown", fn := fun _ => fun
  | [] => { results := [.lit (.bool true)], args := [] }
  | _ => none }
def varyKnownRow : OpenClaim := { program := "ytbkpiadbgpnhlaadoor", sum := "e9f89920237a82a45433e42d753feb0efe482db80cbf2a34709b6f9538f830b8", func := "tollhouse/tollhouselaw16.VaryKnown", spec := "varyKnown", inPlace := ["internal/bytealg.IndexByteString", "internal/bytealg.IndexString"], unfollowed := true, recurses := true, named := ["unicode/utf8.first", "unicode/utf8.acceptRanges", "internal/bytealg.MaxLen"], apart := false, laid := [("unicode/utf8.acceptRanges", laid_unicode_utf8_acceptRanges), ("unicode/utf8.first", laid_unicode_utf8_first)] }
def VaryKnownSaid : Prop := varyKnownRow.holds Tryd.pinned (OpenSpec.ofChange varyKnownSpec)

/-- ITS FALSE NEIGHBOUR: 'it returns false'. Refute it at one input. -/
def varyKnownWrong : ChangeSpec := { name := "varyKnown", fn := fun _ => fun
  | [] => { results := [.lit (.bool false)], args := [] }
  | _ => none }
def VaryKnownWrongFalsely : Prop := varyKnownRow.holds Tryd.pinned (OpenSpec.ofChange varyKnownWrong)

/- THE SECOND FORM. 'bulk': how many values and letters a reading holds, each counted each time it is reached (what is shared counts as often as it is met; a slice's spare places count too). A statement '..UptoSaid' is the law's where the arguments, and the package variables that the reading takes, are together of bulk at most 1048576: NARROWER than '..Said'. Prove '..Said' where nothing that the law and all that it calls make is longer than what came in: it says more and counts as full. Else prove '..UptoSaid'. A law counts once. -/
mutual
def uptoBulk {H : Type} : DataW H → Nat
  | .lit (.string bytes) => bytes.length + 1
  | .lit _ => 1
  | .nil => 1
  | .ptr d => uptoBulk d + 1
  | .slice elems spare => uptoBulkAll elems + uptoBulkAll spare + 1
  | .agg parts => uptoBulkAll parts + 1
  | .iface _ d => uptoBulk d + 1
  | .map entries => uptoBulkEntries entries + 1
  | .held _ => 1
def uptoBulkAll {H : Type} : List (DataW H) → Nat
  | [] => 0
  | d :: r => uptoBulk d + uptoBulkAll r
def uptoBulkEntries {H : Type} : List (Lit × DataW H) → Nat
  | [] => 0
  | x :: r => uptoBulkEntry x + uptoBulkEntries r
def uptoBulkEntry {H : Type} : Lit × DataW H → Nat
  | (.string bytes, d) => bytes.length + uptoBulk d + 1
  | (_, d) => uptoBulk d + 1
 end
def uptoSmall : (H : Type) → List (DataW H) → Bool := fun _ ds => decide (uptoBulkAll ds ≤ 1048576)
def OpenSpec.upto (s : _root_.Go.ChangeSpec) : _root_.Go.OpenSpec := { _root_.Go.OpenSpec.ofChange s with cond := some uptoSmall }

/-- 'tollhouselaw16.VaryNames', WHERE WHAT IT READS IS OF BULK AT MOST 1048576: true; the input reads as it did. -/
def varyNamesUptoRow : OpenClaim := { program := "ytbkpiadbgpnhlaadoor", sum := "e9f89920237a82a45433e42d753feb0efe482db80cbf2a34709b6f9538f830b8", func := "tollhouse/tollhouselaw16.VaryNames", spec := "varyNames", inPlace := ["internal/bytealg.IndexByteString", "internal/bytealg.IndexString"], unfollowed := true, recurses := true, named := ["unicode/utf8.first", "unicode/utf8.acceptRanges", "internal/bytealg.MaxLen"], apart := false, laid := [("unicode/utf8.acceptRanges", laid_unicode_utf8_acceptRanges), ("unicode/utf8.first", laid_unicode_utf8_first)], narrowed := true }
def VaryNamesUptoSaid : Prop := varyNamesUptoRow.holds Tryd.pinned (OpenSpec.upto varyNamesSpec)

/-- 'tollhouselaw16.VarySelects', WHERE WHAT IT READS IS OF BULK AT MOST 1048576: true; the input reads as it did. -/
def varySelectsUptoRow : OpenClaim := { program := "ytbkpiadbgpnhlaadoor", sum := "e9f89920237a82a45433e42d753feb0efe482db80cbf2a34709b6f9538f830b8", func := "tollhouse/tollhouselaw16.VarySelects", spec := "varySelects", inPlace := ["internal/bytealg.IndexByteString", "internal/bytealg.IndexString"], unfollowed := true, recurses := true, named := ["unicode/utf8.first", "unicode/utf8.acceptRanges", "internal/bytealg.MaxLen"], apart := false, laid := [("unicode/utf8.acceptRanges", laid_unicode_utf8_acceptRanges), ("unicode/utf8.first", laid_unicode_utf8_first)], narrowed := true }
def VarySelectsUptoSaid : Prop := varySelectsUptoRow.holds Tryd.pinned (OpenSpec.upto varySelectsSpec)

/-- 'tollhouselaw16.VaryMatters', WHERE WHAT IT READS IS OF BULK AT MOST 1048576: true; the input reads as it did. -/
def varyMattersUptoRow : OpenClaim := { program := "ytbkpiadbgpnhlaadoor", sum := "e9f89920237a82a45433e42d753feb0efe482db80cbf2a34709b6f9538f830b8", func := "tollhouse/tollhouselaw16.VaryMatters", spec := "varyMatters", inPlace := ["internal/bytealg.IndexByteString", "internal/bytealg.IndexString"], unfollowed := true, recurses := true, named := ["unicode/utf8.first", "unicode/utf8.acceptRanges", "internal/bytealg.MaxLen"], apart := false, laid := [("unicode/utf8.acceptRanges", laid_unicode_utf8_acceptRanges), ("unicode/utf8.first", laid_unicode_utf8_first)], narrowed := true }
def VaryMattersUptoSaid : Prop := varyMattersUptoRow.holds Tryd.pinned (OpenSpec.upto varyMattersSpec)

/-- 'tollhouselaw16.VaryOthers', WHERE WHAT IT READS IS OF BULK AT MOST 1048576: true; the input reads as it did. -/
def varyOthersUptoRow : OpenClaim := { program := "ytbkpiadbgpnhlaadoor", sum := "e9f89920237a82a45433e42d753feb0efe482db80cbf2a34709b6f9538f830b8", func := "tollhouse/tollhouselaw16.VaryOthers", spec := "varyOthers", inPlace := ["internal/bytealg.IndexByteString", "internal/bytealg.IndexString"], unfollowed := true, recurses := true, named := ["unicode/utf8.first", "unicode/utf8.acceptRanges", "internal/bytealg.MaxLen"], apart := false, laid := [("unicode/utf8.acceptRanges", laid_unicode_utf8_acceptRanges), ("unicode/utf8.first", laid_unicode_utf8_first)], narrowed := true }
def VaryOthersUptoSaid : Prop := varyOthersUptoRow.holds Tryd.pinned (OpenSpec.upto varyOthersSpec)

/-- 'tollhouselaw16.VaryAgain', WHERE WHAT IT READS IS OF BULK AT MOST 1048576: true; the input reads as it did. -/
def varyAgainUptoRow : OpenClaim := { program := "ytbkpiadbgpnhlaadoor", sum := "e9f89920237a82a45433e42d753feb0efe482db80cbf2a34709b6f9538f830b8", func := "tollhouse/tollhouselaw16.VaryAgain", spec := "varyAgain", inPlace := ["internal/bytealg.IndexByteString", "internal/bytealg.IndexString"], unfollowed := true, recurses := true, named := ["unicode/utf8.first", "unicode/utf8.acceptRanges", "internal/bytealg.MaxLen"], apart := false, laid := [("unicode/utf8.acceptRanges", laid_unicode_utf8_acceptRanges), ("unicode/utf8.first", laid_unicode_utf8_first)], narrowed := true }
def VaryAgainUptoSaid : Prop := varyAgainUptoRow.holds Tryd.pinned (OpenSpec.upto varyAgainSpec)

/-- 'tollhouselaw16.VaryKnown', WHERE WHAT IT READS IS OF BULK AT MOST 1048576: true; the input reads as it did. -/
def varyKnownUptoRow : OpenClaim := { program := "ytbkpiadbgpnhlaadoor", sum := "e9f89920237a82a45433e42d753feb0efe482db80cbf2a34709b6f9538f830b8", func := "tollhouse/tollhouselaw16.VaryKnown", spec := "varyKnown", inPlace := ["internal/bytealg.IndexByteString", "internal/bytealg.IndexString"], unfollowed := true, recurses := true, named := ["unicode/utf8.first", "unicode/utf8.acceptRanges", "internal/bytealg.MaxLen"], apart := false, laid := [("unicode/utf8.acceptRanges", laid_unicode_utf8_acceptRanges), ("unicode/utf8.first", laid_unicode_utf8_first)], narrowed := true }
def VaryKnownUptoSaid : Prop := varyKnownUptoRow.holds Tryd.pinned (OpenSpec.upto varyKnownSpec)

end Rows
end Go.Proofs.YtbkpiadbgpnhlaaDoor
