/-
  What package num's Decimal and Hex do.
  Conditions: those that each theorem names.
-/
import Derived.Test.YtopanahgeeolbaaGreatDoorNA
import Derived.Test.YtopanahgeeolbaaGreatDoorUA
namespace Go.Proofs.YtopanahgeeolbaaGreatDoor
open Go.RowKit

/-- Two results: a number, and whether it is one. -/
def Worth (d : Nat) (t : Bool) (w : World) (e : Ending) (w' : World) : Prop := e = .returned (.tuple #[.int .u64 (d : Int), .bool t]) ∧ w = w'
theorem Worth.mk {a : Int} {d : Nat} {t : Bool} {w : World} (h : a = d) : Worth d t w (.returned (.tuple #[.int .u64 a, .bool t])) w := ⟨by rw [h], rfl⟩

structure Worths (f : FuncId) (b : Nat) : Prop where
  yes : ∀ (c : UInt8) (w : World), worth c < b → Calls Tryz.prog f #[.int .i32 (c.toNat : Int)] w (Worth (worth c) true w)
  no : ∀ (c : UInt8) (w : World), c.toNat < 128 → ¬ worth c < b → Calls Tryz.prog f #[.int .i32 (c.toNat : Int)] w (Worth 0 false w)
  high : ∀ (r : Int) (w : World), 128 ≤ r → r ≤ 2147483647 → Calls Tryz.prog f #[.int .i32 r] w (Worth 0 false w)

set_option maxHeartbeats 1000000 in
set_option maxRecDepth 100000 in
theorem dec_yes (c : UInt8) (w : World) (h : worth c < 10) : Calls Tryz.prog 123 #[.int .i32 (c.toNat : Int)] w (Worth (worth c) true w) := by
  have hc : 48 ≤ c.toNat ∧ c.toNat ≤ 57 ∧ worth c = c.toNat - 48 := by
    unfold worth at *
    split at h
    · rename_i h'; exact ⟨h'.1, h'.2, by rw [if_pos h']⟩
    · repeat' split at h
      all_goals omega
  obtain ⟨h1, h2, h3⟩ := hc
  have H3 := Lib.hid h3
  clear h3 h
  have e1 : decide ((48 : Int) ≤ (c.toNat : Int)) = true := by simp; omega
  have e2 : decide ((c.toNat : Int) ≤ 57) = true := by simp; omega
  go_enter Tryz.func123, Tryz.ntmps123
  go_wp2
  go_ret2
  exact Worth.mk (by rw [H3.out]; omega)
set_option maxHeartbeats 1000000 in
set_option maxRecDepth 100000 in
theorem dec_no (r : Int) (w : World) (h : r < 48 ∨ 57 < r) : Calls Tryz.prog 123 #[.int .i32 r] w (Worth 0 false w) := by
  by_cases h1 : 48 ≤ r
  · have e1 : decide ((48 : Int) ≤ r) = true := by simpa using h1
    have e2 : decide (r ≤ 57) = false := by simp; omega
    clear h h1
    go_enter Tryz.func123, Tryz.ntmps123
    go_wp2
    go_ret2
    exact Worth.mk rfl
  · have e1 : decide ((48 : Int) ≤ r) = false := by simpa using h1
    clear h h1
    go_enter Tryz.func123, Tryz.ntmps123
    go_wp2
    go_ret2
    exact Worth.mk rfl
theorem dec_worths : Worths 123 10 := by
  refine ⟨dec_yes, fun c w _ h => dec_no _ w ?_, fun r w h1 _ => dec_no _ w (.inr (by omega))⟩
  unfold worth at h
  split at h
  · omega
  · omega


/-- Two results: a number, and an error. -/
def Read (p : Nat × Nat) (w : World) (e : Ending) (w' : World) : Prop := e = .returned (.tuple #[.int .u64 (p.1 : Int), .int .i64 (p.2 : Int)]) ∧ Below w.heap.size w w'
theorem Read.mk {a b : Int} {p q : Nat} {r : Nat × Nat} {w w' : World} (h : r = (p, q)) (ha : a = p) (hb : b = q) (hB : Below w.heap.size w w') : Read r w (.returned (.tuple #[.int .u64 a, .int .i64 b])) w' := ⟨by rw [h, ha, hb], hB⟩

/-- What stands in n: what was read, or one more than the greatest number. -/
def capF (v : Nat) : Nat := min v 9007199254740992
theorem capF_step (b v d : Nat) (hb : 1 ≤ b) : capF (v * b + d) = min (capF v * b + d) 9007199254740992 := by
  unfold capF
  by_cases h : v ≤ 9007199254740992
  · rw [Nat.min_eq_left h]
  · rw [Nat.min_eq_right (show 9007199254740992 ≤ v by omega)]
    have h1 := Nat.mul_le_mul_left v hb
    have h2 := Nat.mul_le_mul_left 9007199254740992 hb
    omega

end Go.Proofs.YtopanahgeeolbaaGreatDoor
