/-
  What package num's Decimal and Hex do.
  Conditions: those that each theorem names.
-/
import Derived.Test.YtilgljnmdfejmaaDoorNA
import Derived.Test.YtilgljnmdfejmaaDoorUA
namespace Go.Proofs.YtilgljnmdfejmaaDoor
open Go.RowKit

/-- Two results: a number, and whether it is one. -/
def Worth (d : Nat) (t : Bool) (w : World) (e : Ending) (w' : World) : Prop := e = .returned (.tuple #[.int .u64 (d : Int), .bool t]) ∧ w = w'
theorem Worth.mk {a : Int} {d : Nat} {t : Bool} {w : World} (h : a = d) : Worth d t w (.returned (.tuple #[.int .u64 a, .bool t])) w := ⟨by rw [h], rfl⟩

structure Worths (f : FuncId) (b : Nat) : Prop where
  yes : ∀ (c : UInt8) (w : World), worth c < b → Calls Tryd.prog f #[.int .i32 (c.toNat : Int)] w (Worth (worth c) true w)
  no : ∀ (c : UInt8) (w : World), c.toNat < 128 → ¬ worth c < b → Calls Tryd.prog f #[.int .i32 (c.toNat : Int)] w (Worth 0 false w)
  high : ∀ (r : Int) (w : World), 128 ≤ r → r ≤ 2147483647 → Calls Tryd.prog f #[.int .i32 r] w (Worth 0 false w)


set_option maxHeartbeats 2000000 in
set_option maxRecDepth 100000 in
theorem hex_yes (c : UInt8) (w : World) (h : worth c < 16) : Calls Tryd.prog 46 #[.int .i32 (c.toNat : Int)] w (Worth (worth c) true w) := by
  have hc : (48 ≤ c.toNat ∧ c.toNat ≤ 57 ∧ worth c = c.toNat - 48) ∨ (97 ≤ c.toNat ∧ c.toNat ≤ 102 ∧ worth c = c.toNat - 87) ∨ (65 ≤ c.toNat ∧ c.toNat ≤ 70 ∧ worth c = c.toNat - 55) := by
    have he : worth c = if 48 ≤ c.toNat ∧ c.toNat ≤ 57 then c.toNat - 48 else if 97 ≤ c.toNat ∧ c.toNat ≤ 102 then c.toNat - 87 else if 65 ≤ c.toNat ∧ c.toNat ≤ 70 then c.toNat - 55 else 99 := rfl
    generalize worth c = x at *
    repeat' split at he
    all_goals omega
  clear h
  rcases hc with ⟨h1, h2, h3⟩ | ⟨h1, h2, h3⟩ | ⟨h1, h2, h3⟩
  · have H3 := Lib.hid h3
    clear h3
    have e1 : decide ((48 : Int) ≤ (c.toNat : Int)) = true := by simp; omega
    have e2 : decide ((c.toNat : Int) ≤ 57) = true := by simp; omega
    go_enter Tryd.func46, Tryd.ntmps46
    go_wp2
    go_ret2
    exact Worth.mk (by rw [H3.out]; omega)
  · have H3 := Lib.hid h3
    clear h3
    have e0 : decide ((48 : Int) ≤ (c.toNat : Int)) = true := by simp; omega
    have e1 : decide ((c.toNat : Int) ≤ 57) = false := by simp; omega
    have e2 : decide ((97 : Int) ≤ (c.toNat : Int)) = true := by simp; omega
    have e3 : decide ((c.toNat : Int) ≤ 102) = true := by simp; omega
    go_enter Tryd.func46, Tryd.ntmps46
    go_wp2
    go_ret2
    exact Worth.mk (by rw [H3.out]; omega)
  · have H3 := Lib.hid h3
    clear h3
    have e0 : decide ((48 : Int) ≤ (c.toNat : Int)) = true := by simp; omega
    have e1 : decide ((c.toNat : Int) ≤ 57) = false := by simp; omega
    have e2 : decide ((97 : Int) ≤ (c.toNat : Int)) = false := by simp; omega
    have e3 : decide ((65 : Int) ≤ (c.toNat : Int)) = true := by simp; omega
    have e4 : decide ((c.toNat : Int) ≤ 70) = true := by simp; omega
    go_enter Tryd.func46, Tryd.ntmps46
    go_wp2
    go_ret2
    exact Worth.mk (by rw [H3.out]; omega)
set_option maxHeartbeats 2000000 in
set_option maxRecDepth 100000 in
theorem hex_no (r : Int) (w : World) (h1 : ¬ (48 ≤ r ∧ r ≤ 57)) (h2 : ¬ (97 ≤ r ∧ r ≤ 102)) (h3 : ¬ (65 ≤ r ∧ r ≤ 70)) : Calls Tryd.prog 46 #[.int .i32 r] w (Worth 0 false w) := by
  by_cases a1 : r < 48
  · have e1 : decide ((48 : Int) ≤ r) = false := by simp; omega
    have e2 : decide ((97 : Int) ≤ r) = false := by simp; omega
    have e3 : decide ((65 : Int) ≤ r) = false := by simp; omega
    clear h1 h2 h3 a1
    go_enter Tryd.func46, Tryd.ntmps46
    go_wp2
    go_ret2
    exact Worth.mk rfl
  · have e1 : decide ((48 : Int) ≤ r) = true := by simp; omega
    have e2 : decide (r ≤ 57) = false := by simp; omega
    by_cases a2 : r < 65
    · have e3 : decide ((97 : Int) ≤ r) = false := by simp; omega
      have e4 : decide ((65 : Int) ≤ r) = false := by simp; omega
      clear h1 h2 h3 a1 a2
      go_enter Tryd.func46, Tryd.ntmps46
      go_wp2
      go_ret2
      exact Worth.mk rfl
    · have e4 : decide ((65 : Int) ≤ r) = true := by simp; omega
      have e5 : decide (r ≤ 70) = false := by simp; omega
      by_cases a3 : r < 97
      · have e3 : decide ((97 : Int) ≤ r) = false := by simp; omega
        clear h1 h2 h3 a1 a2 a3
        go_enter Tryd.func46, Tryd.ntmps46
        go_wp2
        go_ret2
        exact Worth.mk rfl
      · have e3 : decide ((97 : Int) ≤ r) = true := by simp; omega
        have e6 : decide (r ≤ 102) = false := by simp; omega
        clear h1 h2 h3 a1 a2 a3
        go_enter Tryd.func46, Tryd.ntmps46
        go_wp2
        go_ret2
        exact Worth.mk rfl
theorem hex_worths : Worths 46 16 := by
  refine ⟨hex_yes, fun c w _ h => ?_, fun r w h1 _ => hex_no _ w (by omega) (by omega) (by omega)⟩
  unfold worth at h
  refine hex_no _ w ?_ ?_ ?_
  all_goals
    intro h'
    revert h
    repeat' split
    all_goals omega

/-- Two results: a number, and an error. -/
def Read (p : Nat × Nat) (w : World) (e : Ending) (w' : World) : Prop := e = .returned (.tuple #[.int .u64 (p.1 : Int), .int .i64 (p.2 : Int)]) ∧ Below w.heap.size w w'
theorem Read.mk {a b : Int} {p q : Nat} {r : Nat × Nat} {w w' : World} (h : r = (p, q)) (ha : a = p) (hb : b = q) (hB : Below w.heap.size w w') : Read r w (.returned (.tuple #[.int .u64 a, .int .i64 b])) w' := ⟨by rw [h, ha, hb], hB⟩

/-- What stands in n: what was read, or one more than the greatest number. -/
def capF (v : Nat) : Nat := min v 9007199254740992
theorem capF_step (b v d : Nat) (hb : 1 ≤ b) : capF (v * b + d) = min (capF v * b + d) 9007199254740992 := by
  unfold capF
  by_cases h : v ≤ 9007199254740992
  · rw [Nat.min_eq_left h]
  · rw [Nat.min_eq_right (show 9007199254740992 ≤ v by omega)]
    have h1 := Nat.mul_le_mul_left v hb
    have h2 := Nat.mul_le_mul_left 9007199254740992 hb
    omega

end Go.Proofs.YtilgljnmdfejmaaDoor
