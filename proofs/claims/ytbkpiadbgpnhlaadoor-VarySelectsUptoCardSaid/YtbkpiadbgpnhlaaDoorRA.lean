/-
  What the document's own text functions do (the reference): shown, Visible, Token.
  Conditions: those that each theorem names.
-/
import Derived.Test.YtbkpiadbgpnhlaaDoorBL
namespace Go.Proofs.YtbkpiadbgpnhlaaDoor
open Go.RowKit

def shownB (c : UInt8) : Bool := c == 9 || (32 ≤ c && c ≤ 126) || 128 ≤ c
theorem shownB_nat (c : UInt8) : shownB c = (((c.toNat : Int) == 9) || (decide (32 ≤ (c.toNat : Int)) && decide ((c.toNat : Int) ≤ 126)) || decide (128 ≤ (c.toNat : Int))) := by
  unfold shownB
  rw [Bool.eq_iff_iff]
  simp [UInt8.le_iff_toNat_le, ← UInt8.toNat_inj]
  omega


def visF (l : List UInt8) : Bool := l.all shownB
theorem visF_no (l : List UInt8) (k : Nat) (c : UInt8) (h : l[k]? = some c) (hc : shownB c = false) : visF l = false := by
  have hm : c ∈ l := List.mem_of_getElem? h
  unfold visF
  rw [Bool.eq_false_iff]
  intro hall
  have := List.all_eq_true.1 hall c hm
  rw [hc] at this
  cases this


/-- The signs that a token may have. -/
def signsS : ByteArray := ⟨#[33, 35, 36, 37, 38, 39, 42, 43, 45, 46, 94, 95, 96, 124, 126]⟩
def alnumB (c : UInt8) : Bool := (97 ≤ c && c ≤ 122) || (65 ≤ c && c ≤ 90) || (48 ≤ c && c ≤ 57)
def signB (c : UInt8) (k : Nat) : Bool := alnumB c || ((bl signsS).take k).any (· == c)
def tokB (c : UInt8) : Bool := signB c 15
def tokF (l : List UInt8) : Bool := !l.isEmpty && l.all tokB
theorem alnumB_nat (c : UInt8) : alnumB c = ((decide (97 ≤ (c.toNat : Int)) && decide ((c.toNat : Int) ≤ 122)) || (decide (65 ≤ (c.toNat : Int)) && decide ((c.toNat : Int) ≤ 90)) || (decide (48 ≤ (c.toNat : Int)) && decide ((c.toNat : Int) ≤ 57))) := by
  unfold alnumB
  rw [Bool.eq_iff_iff]
  simp [UInt8.le_iff_toNat_le]
  omega
theorem tokF_no (l : List UInt8) (k : Nat) (c : UInt8) (h : l[k]? = some c) (hc : signB c 15 = false) : tokF l = false := by
  have hm : c ∈ l := List.mem_of_getElem? h
  unfold tokF
  rw [Bool.and_eq_false_iff]
  right
  rw [Bool.eq_false_iff]
  intro hall
  have := List.all_eq_true.1 hall c hm
  rw [tokB, hc] at this
  cases this
theorem signB_zero (c : UInt8) : signB c 0 = alnumB c := by simp [signB]
theorem signB_succ (c : UInt8) (k : Nat) (h : k < signsS.size) : signB c (k + 1) = (signB c k || ((signsS[k].toNat : Int) == (c.toNat : Int))) := by
  unfold signB
  rw [bl_take _ _ h, List.any_append, Bool.or_assoc]
  congr 2
  rw [Bool.eq_iff_iff]
  simp [← UInt8.toNat_inj]
  omega

end Go.Proofs.YtbkpiadbgpnhlaaDoor
