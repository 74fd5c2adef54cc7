/-
  What the document's own text functions do (the reference): Trim.
  Conditions: those that each theorem names.
-/
import Derived.Test.YtopanahgeeolbaaGreatDoorRB
namespace Go.Proofs.YtopanahgeeolbaaGreatDoor
open Go.RowKit

def blankB (c : UInt8) : Bool := c == 32 || c == 9
def ltrim (l : List UInt8) : List UInt8 := l.dropWhile blankB
def rtrim (l : List UInt8) : List UInt8 := (l.reverse.dropWhile blankB).reverse
def trimF (l : List UInt8) : List UInt8 := rtrim (ltrim l)
theorem blankB_nat (c : UInt8) : blankB c = (((c.toNat : Int) == 32) || ((c.toNat : Int) == 9)) := by
  unfold blankB
  rw [Bool.eq_iff_iff]
  simp [← UInt8.toNat_inj]
  omega
theorem ltrim_yes (c : UInt8) (l : List UInt8) (h : blankB c = true) : ltrim (c :: l) = ltrim l := by simp [ltrim, h]
theorem ltrim_no (c : UInt8) (l : List UInt8) (h : blankB c = false) : ltrim (c :: l) = c :: l := by simp [ltrim, h]
theorem rtrim_yes (c : UInt8) (l : List UInt8) (h : blankB c = true) : rtrim (l ++ [c]) = rtrim l := by simp [rtrim, h]
theorem rtrim_no (c : UInt8) (l : List UInt8) (h : blankB c = false) : rtrim (l ++ [c]) = l ++ [c] := by simp [rtrim, h]

end Go.Proofs.YtopanahgeeolbaaGreatDoor
