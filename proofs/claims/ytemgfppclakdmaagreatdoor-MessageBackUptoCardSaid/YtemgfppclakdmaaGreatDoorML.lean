/-
  What is told of messages, in parts: bounds; what stays.
  Conditions: those that each theorem names.
-/
import Derived.Test.YtemgfppclakdmaaGreatDoorMK
namespace Go.Proofs.YtemgfppclakdmaaGreatDoor
open Go.RowKit

theorem msgM_bulk {α : Type} (begin : List UInt8 → Option α) (kind : α → List Fld → Kd) (ended : Bool) (b : List UInt8) (a : α) (l : List Fld) (x : List UInt8) (h : (msgM begin kind ended b).1 = some (a, l, x)) : bulkF l ≤ 1000000 := by
  unfold msgM lineM at h
  split at h
  · cases h
  · split at h
    · cases h
    · unfold restM at h
      split at h
      · cases h
      · split at h
        · cases h
        · unfold doneM at h
          split at h
          · cases h
          · simp only [Option.some.injEq, Prod.mk.injEq] at h
            rw [← h.2.1]
            exact fieldsM_bulk b _
theorem bulk_len (ls : List Fld) : ls.length ≤ bulkF ls := by
  induction ls with
  | nil => exact Nat.le_refl _
  | cons f r ih =>
    rw [bulkF_cons, List.length_cons]
    omega
/-- A request that is told, in parts. -/
theorem req_parts (b : List UInt8) : ∃ (am at_ : List UInt8) (an : Nat) (fl : List Fld) (x : List UInt8) (u f : Nat), (requestM b).1.getD rqZ = ((am, at_, an), fl, x) ∧ (requestM b).2 = (u, f) ∧ x.length ≤ 4096 ∧ u ≤ b.length ∧ (f ≠ 0 → u = 0) ∧ fl.length ≤ 1000000 := by
  rcases request_range b with ⟨⟨am, at_, an⟩, fl, x, h1, h2, h3, h4⟩ | ⟨h1, h2, h3⟩
  · refine ⟨am, at_, an, fl, x, (requestM b).2.1, (requestM b).2.2, by rw [h1]; rfl, rfl, h3, h4, fun h => absurd h2 h, ?_⟩
    exact Nat.le_trans (bulk_len fl) (msgM_bulk _ _ _ b _ fl x h1)
  · exact ⟨[], [], 0, [], [], (requestM b).2.1, (requestM b).2.2, by rw [h2]; rfl, rfl, by simp, by omega, fun _ => h3, by simp⟩
theorem res_parts (b m : List UInt8) (ended : Bool) : ∃ (ar : List UInt8) (an as_ : Nat) (fl : List Fld) (x : List UInt8) (u f : Nat), (responseM b m ended).1.getD rsZ = ((an, as_, ar), fl, x) ∧ (responseM b m ended).2 = (u, f) ∧ x.length ≤ 4096 ∧ u ≤ b.length ∧ (f ≠ 0 → u = 0) ∧ fl.length ≤ 1000000 := by
  rcases response_range b m ended with ⟨⟨an, as_, ar⟩, fl, x, h1, h2, h3, h4⟩ | ⟨h1, h2, h3⟩
  · refine ⟨ar, an, as_, fl, x, (responseM b m ended).2.1, (responseM b m ended).2.2, by rw [h1]; rfl, rfl, h3, h4, fun h => absurd h2 h, ?_⟩
    exact Nat.le_trans (bulk_len fl) (msgM_bulk _ _ _ b _ fl x h1)
  · exact ⟨[], 0, 0, [], [], (responseM b m ended).2.1, (responseM b m ended).2.2, by rw [h2]; rfl, rfl, by simp, by omega, fun _ => h3, by simp⟩
end Go.Proofs.YtemgfppclakdmaaGreatDoor
