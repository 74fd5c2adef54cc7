/-
  Words of the laws: what a message's box holds; an empty list of the call's own.
  Conditions: those that each theorem names.
-/
import Derived.Test.YtcpohdejdiljnaaDoorFV
import Derived.Test.YtcpohdejdiljnaaDoorFU
namespace Go.Proofs.YtcpohdejdiljnaaDoor
open Go.RowKit

/-- A message's box. -/
def BoxAt (X : World) (g : Nat) (st : Int) (m : ByteArray) (mi : Int) (v : Value) : Prop :=
  X.cell? ⟨g, 0, none⟩ = some (.int .i64 st) ∧ X.cell? ⟨g, 1, none⟩ = some (.string m) ∧ X.cell? ⟨g, 2, none⟩ = some (.int .i64 mi) ∧ X.cell? ⟨g, 3, none⟩ = some v
theorem BoxAt.made (w : World) (t : TypeId) (st : Int) (m : ByteArray) (mi : Int) (v : Value) : BoxAt (w.alloc (.cells #[.int .i64 st, .string m, .int .i64 mi, v] t)) w.heap.size st m mi v := by
  have hi := Is.made w t [.int .i64 st, .string m, .int .i64 mi, v]
  exact ⟨hi.cell 0, hi.cell 1, hi.cell 2, hi.cell 3⟩
theorem BoxAt.turn {S : Nat → Prop} {X X' : World} {g : Nat} {st : Int} {m : ByteArray} {mi : Int} {v : Value} (h : BoxAt X g st m mi v) (ht : Turn S X X') (hg : ¬ S g) : BoxAt X' g st m mi v :=
  ⟨(ht.cell (Lib.lt_of_cell h.1) hg).trans h.1, (ht.cell (Lib.lt_of_cell h.2.1) hg).trans h.2.1, (ht.cell (Lib.lt_of_cell h.2.2.1) hg).trans h.2.2.1, (ht.cell (Lib.lt_of_cell h.2.2.2) hg).trans h.2.2.2⟩
theorem BoxAt.below {X X' : World} {g : Nat} {st : Int} {m : ByteArray} {mi : Int} {v : Value} (h : BoxAt X g st m mi v) (hb : Below X.heap.size X X') : BoxAt X' g st m mi v := h.turn (Turn.of_below (S := fun _ => False) hb) (fun h => h)
theorem OwnF.built (w : World) : OwnF (w.alloc (.cells #[] 34)) (.slice (some ⟨w.heap.size, 0, none⟩) 0 0) (some w.heap.size) [] :=
  ⟨⟨rfl, .inr ⟨w.heap.size, 0, #[], rfl, Nat.zero_le _, heap_alloc_new w _, Nat.le_refl _, Nat.zero_le _, rfl, rfl⟩⟩, rfl⟩
theorem Turn.none_below {X X' w0 : World} {o : Option Nat} (hb : Below w0.heap.size w0 X) (ho : ∀ k, o = some k → w0.heap.size ≤ k) (ht : Turn (fun k => o = some k) X X') : Below w0.heap.size w0 X' :=
  ((Turn.of_below (S := fun k => w0.heap.size ≤ k) hb).trans ht (fun k hk h => ho k h)).below (fun k hk h => by omega)
end Go.Proofs.YtcpohdejdiljnaaDoor
