/-
  What the reference's small functions of package uri answer: hex, letter, cut, port, octet, number, decimal.
  Conditions: those that each theorem names.
-/
import Derived.Test.YtopanahgeeolbaaGreatDoorYB
import Derived.Test.YtopanahgeeolbaaGreatDoorRB
import Derived.Test.YtopanahgeeolbaaGreatDoorNE
import Derived.IntWalk
namespace Go.Proofs.YtopanahgeeolbaaGreatDoor.Uri
open Go.RowKit

theorem byte_int (c d : UInt8) : ((c.toNat : Int) == (d.toNat : Int)) = (c == d) := by
  rw [Bool.eq_iff_iff, beq_iff_eq, beq_iff_eq]
  constructor
  · intro h; exact UInt8.toNat_inj.1 (by omega)
  · rintro rfl; rfl

def alB (c : UInt8) : Bool := (decide (97 ≤ c.toNat) && decide (c.toNat ≤ 122)) || (decide (65 ≤ c.toNat) && decide (c.toNat ≤ 90)) || (decide (48 ≤ c.toNat) && decide (c.toNat ≤ 57))

/-! ## cut -/
/-- What stands ahead of the first byte that p says, and what begins there. -/
def cutB (p : UInt8 → Bool) : List UInt8 → List UInt8 × List UInt8
  | [] => ([], [])
  | c :: l => if p c = true then ([], c :: l) else (c :: (cutB p l).1, (cutB p l).2)
theorem cutB_hit (p : UInt8 → Bool) : ∀ (a : List UInt8) (c : UInt8) (b : List UInt8), a.all (fun c => !p c) = true → p c = true → cutB p (a ++ c :: b) = (a, c :: b)
  | [], c, b, _, h => by rw [List.nil_append]; unfold cutB; rw [if_pos h]
  | x :: a, c, b, ha, h => by
    simp only [List.all_cons, Bool.and_eq_true, Bool.not_eq_true'] at ha
    rw [List.cons_append]
    unfold cutB
    rw [ha.1, if_neg (by simp), cutB_hit p a c b (by simpa using ha.2) h]
theorem cutB_none (p : UInt8 → Bool) : ∀ l : List UInt8, l.all (fun c => !p c) = true → cutB p l = (l, [])
  | [], _ => rfl
  | c :: l, h => by
    simp only [List.all_cons, Bool.and_eq_true, Bool.not_eq_true'] at h
    unfold cutB
    rw [h.1, if_neg (by simp), cutB_none p l (by simpa using h.2)]
theorem cutB_end : ∀ l : List UInt8, cutB endB l = cutA l
  | [] => rfl
  | c :: l => by unfold cutB cutA; rw [cutB_end l]
theorem cutB_colon (l : List UInt8) : (58 ∉ l ∧ cutB (fun c => c == 58) l = (l, []) ∧ cutC 58 l = (l, [])) ∨ ∃ a b, cutB (fun c => c == 58) l = (a, 58 :: b) ∧ cutC 58 l = (a, b) ∧ 58 ∈ l := by
  rcases cutC_or 58 l with ⟨hn, hc⟩ | ⟨a, b, hl, ha, hc⟩
  · refine .inl ⟨hn, cutB_none _ l ?_, hc⟩
    rw [List.all_eq_true]
    intro c hm
    have : c ≠ 58 := fun e => hn (e ▸ hm)
    simpa using this
  · refine .inr ⟨a, b, ?_, hc, by rw [hl]; simp⟩
    rw [hl]
    refine cutB_hit _ a 58 b ?_ rfl
    rw [List.all_eq_true]
    intro c hm
    have : c ≠ 58 := fun e => ha (e ▸ hm)
    simpa using this
theorem take_no (s : ByteArray) (p : UInt8 → Bool) (k : Nat) (h : k < s.size) (h1 : ((bl s).take k).all (fun c => !p c) = true) (h2 : p s[k] = false) : ((bl s).take (k + 1)).all (fun c => !p c) = true := by
  rw [bl_take s k h, List.all_append, h1]
  simp [h2]
theorem no_take (m : ByteArray) (c : UInt8) (k : Nat) (h : k < m.size) (h1 : ((bl m).take k).contains c = false) (h2 : (c == m[k]) = false) : ((bl m).take (k + 1)).contains c = false := by
  rw [bl_take m k h, List.contains_eq_any_beq, List.any_append, ← List.contains_eq_any_beq, h1]
  simp [h2]
end Go.Proofs.YtopanahgeeolbaaGreatDoor.Uri
