/-
  What the document's own Matches, Admits answer.
  Conditions: those that each theorem names.
-/
import Derived.Test.YtopanahgeeolbaaGreatDoorAD
import Derived.StillTailTactics
namespace Go.Proofs.YtopanahgeeolbaaGreatDoor.Acl
open Go.RowKit

/-- A rule's Host is the host itself, as the document's own walk asks it. -/
def selfF (nm h : List UInt8) : Bool := nm == [42] || (nm == h && !(decide (h.head? = some 46)))
theorem covers_dot {nm h : List UInt8} (h0 : nm.head? = some 46) : coversF nm h = endsF nm h ∧ selfF nm h = false := by
  refine ⟨by unfold coversF; rw [if_pos h0], ?_⟩
  unfold selfF
  have h1 : (nm == [42]) = false := beq_eq_false_iff_ne.2 (by rintro rfl; simp at h0)
  rw [h1, Bool.false_or]
  by_cases he : nm = h
  · subst he
    rw [decide_eq_true h0]
    simp
  · rw [beq_eq_false_iff_ne.2 he, Bool.false_and]
theorem covers_no {nm h : List UInt8} (h0 : ¬ nm.head? = some 46) : coversF nm h = selfF nm h := by
  unfold coversF selfF
  rw [if_neg h0]
  by_cases he : nm = h
  · subst he
    rw [decide_eq_false h0]
    simp
  · rw [beq_eq_false_iff_ne.2 he, Bool.false_and]
def dotF (nm h : List UInt8) : Bool := decide (nm.head? = some 46) && endsF nm h
theorem covers_or (nm h : List UInt8) : coversF nm h = (selfF nm h || dotF nm h) := by
  unfold dotF
  by_cases h0 : nm.head? = some 46
  · rw [(covers_dot h0).1, (covers_dot h0).2, decide_eq_true h0, Bool.true_and, Bool.false_or]
  · rw [covers_no h0, decide_eq_false h0, Bool.false_and, Bool.or_false]
theorem below_dn {B : Nat} {a w : World} (h : Below B a w) (n : Nat) : Below B a (w.drewN n) := ⟨h.os, h.tape, h.output, h.size, h.block⟩
theorem head_at (s : ByteArray) (h : 0 < s.size) : (bl s).head? = some s[0] := by
  rw [List.head?_eq_getElem?]
  exact bl_get s 0 h
theorem head_byte (s : ByteArray) (h : 0 < s.size) : decide ((bl s).head? = some 46) = ((s[0].toNat : Int) == 46) := by
  rw [head_at s h, Bool.eq_iff_iff, decide_eq_true_eq, beq_iff_eq, Option.some.injEq, ← UInt8.toNat_inj]
  show s[0].toNat = 46 ↔ _
  omega
theorem head_nil (s : ByteArray) (h : ¬ 0 < s.size) : (bl s).head? = none := by
  have : bl s = [] := List.eq_nil_of_length_eq_zero (by rw [bl_length]; omega)
  rw [this]; rfl
end Go.Proofs.YtopanahgeeolbaaGreatDoor.Acl
