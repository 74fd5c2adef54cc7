/-
  No cell of these rows narrows 'for every input' (looked for: loops, veiled, ifaces, maps, wideKeys, modest, calm, conditions, laid).
  DERIVED. THE GIVEN ROWS OF THIS SEAT. 4 by the template 'for every input the law returns true; each argument reads behind the call as it read before'; 0 by the template 'total and deterministic' (their statements: YtfkpihilcngbnaaTotals.lean).
  GIVEN WITH THE SEED: the statements are not yours to turn. If you find one false, say at which input.
  Laid BY PROGRAM, IN A SANDBOX (cutbox-rows.mjs): the forced cells as the released guide's own fill.sh prints them over the translation e083c9c895b7907f… (all of the seat's roots in one cut). By AI agents, Wed Nov 11 2026. No macro, syntax, notation, axiom, sorry.
-/
import Derived.Test.YtfkpihilcngbnaaChecked
import GoSem.Claim
import GoSem.ClaimJoined
import GoSem.ClaimMapViews
import Derived.JoinedTies
import Derived.KernelRfl
namespace Go.Proofs.Ytfkpihilcngbnaa
/- THE CELL 'sum', in the pinned program and in every row, IS THE sha256 OF THE DUMP (.gsa) THAT YtfkpihilcngbnaaProg.lean LOADS. Nothing in Lean hashes anything: it is a label: what it is worth is what the hold of that sum in a sandbox is worth. -/
noncomputable def Try.pinned : Pinned := { name := "ytfkpihilcngbnaa", sum := "e083c9c895b7907fa577b23d082ff57cbffc7c3b82815d7f5cac0bf8da3f3b82", checked := Try.checked }
namespace Rows
def none {H : Type} : Left H := { results := [], args := [] }

/-- 'tollhouselaw13.BucketPlays': WHATEVER THE INPUT: true; the input reads as it did. -/
def bucketPlaysSpec : ChangeSpec := { name := "bucketPlays", fn := fun _ => fun
  | [d1, d2, d3] => { results := [.lit (.bool true)], args := [d1, d2, d3] }
  | _ => none }
def bucketPlaysRow : OpenClaim := { program := "ytfkpihilcngbnaa", sum := "e083c9c895b7907fa577b23d082ff57cbffc7c3b82815d7f5cac0bf8da3f3b82", func := "tollhouse/tollhouselaw13.BucketPlays", spec := "bucketPlays", apart := false }
def BucketPlaysSaid : Prop := bucketPlaysRow.holds Try.pinned (OpenSpec.ofChange bucketPlaysSpec)

/-- ITS FALSE NEIGHBOUR: 'it returns false'. Refute it at one input. -/
def bucketPlaysWrong : ChangeSpec := { name := "bucketPlays", fn := fun _ => fun
  | [d1, d2, d3] => { results := [.lit (.bool false)], args := [d1, d2, d3] }
  | _ => none }
def BucketPlaysWrongFalsely : Prop := bucketPlaysRow.holds Try.pinned (OpenSpec.ofChange bucketPlaysWrong)

/-- 'tollhouselaw13.BucketNever': WHATEVER THE INPUT: true; the input reads as it did. -/
def bucketNeverSpec : ChangeSpec := { name := "bucketNever", fn := fun _ => fun
  | [d] => { results := [.lit (.bool true)], args := [d] }
  | _ => none }
def bucketNeverRow : OpenClaim := { program := "ytfkpihilcngbnaa", sum := "e083c9c895b7907fa577b23d082ff57cbffc7c3b82815d7f5cac0bf8da3f3b82", func := "tollhouse/tollhouselaw13.BucketNever", spec := "bucketNever", apart := false }
def BucketNeverSaid : Prop := bucketNeverRow.holds Try.pinned (OpenSpec.ofChange bucketNeverSpec)

/-- ITS FALSE NEIGHBOUR: 'it returns false'. Refute it at one input. -/
def bucketNeverWrong : ChangeSpec := { name := "bucketNever", fn := fun _ => fun
  | [d] => { results := [.lit (.bool false)], args := [d] }
  | _ => none }
def BucketNeverWrongFalsely : Prop := bucketNeverRow.holds Try.pinned (OpenSpec.ofChange bucketNeverWrong)

/-- 'tollhouselaw13.BucketAlways': WHATEVER THE INPUT: true; the input reads as it did. -/
def bucketAlwaysSpec : ChangeSpec := { name := "bucketAlways", fn := fun _ => fun
  | [d] => { results := [.lit (.bool true)], args := [d] }
  | _ => none }
def bucketAlwaysRow : OpenClaim := { program := "ytfkpihilcngbnaa", sum := "e083c9c895b7907fa577b23d082ff57cbffc7c3b82815d7f5cac0bf8da3f3b82", func := "tollhouse/tollhouselaw13.BucketAlways", spec := "bucketAlways", apart := false }
def BucketAlwaysSaid : Prop := bucketAlwaysRow.holds Try.pinned (OpenSpec.ofChange bucketAlwaysSpec)

/-- ITS FALSE NEIGHBOUR: 'it returns false'. Refute it at one input. -/
def bucketAlwaysWrong : ChangeSpec := { name := "bucketAlways", fn := fun _ => fun
  | [d] => { results := [.lit (.bool false)], args := [d] }
  | _ => none }
def BucketAlwaysWrongFalsely : Prop := bucketAlwaysRow.holds Try.pinned (OpenSpec.ofChange bucketAlwaysWrong)

/-- 'tollhouselaw13.BucketKnown': WHATEVER THE INPUT: true; the input reads as it did. -/
def bucketKnownSpec : ChangeSpec := { name := "bucketKnown", fn := fun _ => fun
  | [] => { results := [.lit (.bool true)], args := [] }
  | _ => none }
def bucketKnownRow : OpenClaim := { program := "ytfkpihilcngbnaa", sum := "e083c9c895b7907fa577b23d082ff57cbffc7c3b82815d7f5cac0bf8da3f3b82", func := "tollhouse/tollhouselaw13.BucketKnown", spec := "bucketKnown", apart := false }
def BucketKnownSaid : Prop := bucketKnownRow.holds Try.pinned (OpenSpec.ofChange bucketKnownSpec)

/-- ITS FALSE NEIGHBOUR: 'it returns false'. Refute it at one input. -/
def bucketKnownWrong : ChangeSpec := { name := "bucketKnown", fn := fun _ => fun
  | [] => { results := [.lit (.bool false)], args := [] }
  | _ => none }
def BucketKnownWrongFalsely : Prop := bucketKnownRow.holds Try.pinned (OpenSpec.ofChange bucketKnownWrong)

/- THE SECOND FORM. 'bulk': how many values and letters a reading holds, each counted each time it is reached (what is shared counts as often as it is met; a slice's spare places count too). A statement '..UptoSaid' is the law's where the arguments, and the package variables that the reading takes, are together of bulk at most 1048576: NARROWER than '..Said'. Prove '..Said' where nothing that the law and all that it calls make is longer than what came in: it says more and counts as full. Else prove '..UptoSaid'. A law counts once. -/
mutual
def uptoBulk {H : Type} : DataW H → Nat
  | .lit (.string bytes) => bytes.length + 1
  | .lit _ => 1
  | .nil => 1
  | .ptr d => uptoBulk d + 1
  | .slice elems spare => uptoBulkAll elems + uptoBulkAll spare + 1
  | .agg parts => uptoBulkAll parts + 1
  | .iface _ d => uptoBulk d + 1
  | .map entries => uptoBulkEntries entries + 1
  | .held _ => 1
def uptoBulkAll {H : Type} : List (DataW H) → Nat
  | [] => 0
  | d :: r => uptoBulk d + uptoBulkAll r
def uptoBulkEntries {H : Type} : List (Lit × DataW H) → Nat
  | [] => 0
  | x :: r => uptoBulkEntry x + uptoBulkEntries r
def uptoBulkEntry {H : Type} : Lit × DataW H → Nat
  | (.string bytes, d) => bytes.length + uptoBulk d + 1
  | (_, d) => uptoBulk d + 1
 end
def uptoSmall : (H : Type) → List (DataW H) → Bool := fun _ ds => decide (uptoBulkAll ds ≤ 1048576)
def OpenSpec.upto (s : _root_.Go.ChangeSpec) : _root_.Go.OpenSpec := { _root_.Go.OpenSpec.ofChange s with cond := some uptoSmall }

/-- 'tollhouselaw13.BucketPlays', WHERE WHAT IT READS IS OF BULK AT MOST 1048576: true; the input reads as it did. -/
def bucketPlaysUptoRow : OpenClaim := { program := "ytfkpihilcngbnaa", sum := "e083c9c895b7907fa577b23d082ff57cbffc7c3b82815d7f5cac0bf8da3f3b82", func := "tollhouse/tollhouselaw13.BucketPlays", spec := "bucketPlays", apart := false, narrowed := true }
def BucketPlaysUptoSaid : Prop := bucketPlaysUptoRow.holds Try.pinned (OpenSpec.upto bucketPlaysSpec)

/-- 'tollhouselaw13.BucketNever', WHERE WHAT IT READS IS OF BULK AT MOST 1048576: true; the input reads as it did. -/
def bucketNeverUptoRow : OpenClaim := { program := "ytfkpihilcngbnaa", sum := "e083c9c895b7907fa577b23d082ff57cbffc7c3b82815d7f5cac0bf8da3f3b82", func := "tollhouse/tollhouselaw13.BucketNever", spec := "bucketNever", apart := false, narrowed := true }
def BucketNeverUptoSaid : Prop := bucketNeverUptoRow.holds Try.pinned (OpenSpec.upto bucketNeverSpec)

/-- 'tollhouselaw13.BucketAlways', WHERE WHAT IT READS IS OF BULK AT MOST 1048576: true; the input reads as it did. -/
def bucketAlwaysUptoRow : OpenClaim := { program := "ytfkpihilcngbnaa", sum := "e083c9c895b7907fa577b23d082ff57cbffc7c3b82815d7f5cac0bf8da3f3b82", func := "tollhouse/tollhouselaw13.BucketAlways", spec := "bucketAlways", apart := false, narrowed := true }
def BucketAlwaysUptoSaid : Prop := bucketAlwaysUptoRow.holds Try.pinned (OpenSpec.upto bucketAlwaysSpec)

/-- 'tollhouselaw13.BucketKnown', WHERE WHAT IT READS IS OF BULK AT MOST 1048576: true; the input reads as it did. -/
def bucketKnownUptoRow : OpenClaim := { program := "ytfkpihilcngbnaa", sum := "e083c9c895b7907fa577b23d082ff57cbffc7c3b82815d7f5cac0bf8da3f3b82", func := "tollhouse/tollhouselaw13.BucketKnown", spec := "bucketKnown", apart := false, narrowed := true }
def BucketKnownUptoSaid : Prop := bucketKnownUptoRow.holds Try.pinned (OpenSpec.upto bucketKnownSpec)

end Rows
end Go.Proofs.Ytfkpihilcngbnaa
