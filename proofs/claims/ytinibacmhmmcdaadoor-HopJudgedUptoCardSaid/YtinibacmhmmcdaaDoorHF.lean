/-
  What the reference's With and Put answer.
  Conditions: those that each theorem names.
-/
import Derived.Test.YtinibacmhmmcdaaDoorHE
namespace Go.Proofs.YtinibacmhmmcdaaDoor
open Go.RowKit

theorem srcs_one (w : World) (x : List UInt8) : SrcS (w.alloc (.cells #[.string ⟨x.toArray⟩] 9)) (fun _ => True) (some ⟨w.heap.size, 0, none⟩) [x] := fun _ => by
  refine ⟨_, rfl, trivial, by simp, fun i l hl => ?_⟩
  have hi : Is (w.alloc (.cells #[.string ⟨x.toArray⟩] 9)) w.heap.size 9 [strV x] := Is.made w 9 [strV x]
  rw [add_at, Nat.zero_add, hi.cell]
  match i, hl with
  | 0, hl =>
    simp only [List.getElem?_cons_zero, Option.some.injEq] at hl
    rw [hl]
    rfl

end Go.Proofs.YtinibacmhmmcdaaDoor
