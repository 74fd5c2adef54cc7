/-
  What the reference's small functions of dates answer.
  Conditions: those that each theorem names.
-/
import Derived.Test.YtcnfobjmddncgaaDoorDC
namespace Go.Proofs.YtcnfobjmddncgaaDoor
open Go.RowKit

/-- A text is told; nothing that was there has turned. -/
def ToldD (l : List UInt8) (w : World) (e : Ending) (w' : World) : Prop := e = .returned (.string ⟨l.toArray⟩) ∧ Below w.heap.size w w'
theorem ret_i64 {a b : Int} (h : a = b) : Ending.returned (.int .i64 a) = .returned (.int .i64 b) := by rw [h]
set_option maxHeartbeats 1000000 in
theorem rlong (y : Nat) (hy : y ≤ 1000000) (w : World) : Calls Tryd.prog 15 #[.int .i64 (y : Int)] w (Same (.bool (leapB y)) w) := by
  go_enter Tryd.func15, Tryd.ntmps15
  go_wp2
  all_goals
    go_ret
    refine ⟨ret_bool ?_, rfl⟩
    rw [Bool.eq_iff_iff]
    simp [leapB]
    omega

set_option maxHeartbeats 1000000 in
theorem rdays (y m : Nat) (hy : y ≤ 1000000) (hm : m < 12) (w : World) : Calls Tryd.prog 16 #[.int .i64 (y : Int), .int .i64 (m : Int)] w (Tell (.int .i64 (ml y m : Int)) w) := by
  have C := Lib.hid (fun W : World => rlong y hy W)
  have HM := Lib.hid (show ml y m = if m = 1 ∧ leapB y = true then 29 else mdays m from rfl)
  generalize leapB y = b at *
  have HS : ∀ m' : Nat, m' = m → (mdays m : Int) = mdays m' := fun m' e => by rw [e]
  rcases (show m = 0 ∨ m = 1 ∨ m = 2 ∨ m = 3 ∨ m = 4 ∨ m = 5 ∨ m = 6 ∨ m = 7 ∨ m = 8 ∨ m = 9 ∨ m = 10 ∨ m = 11 by omega) with rfl | rfl | rfl | rfl | rfl | rfl | rfl | rfl | rfl | rfl | rfl | rfl
  all_goals
    clear HS hm
    generalize ml y _ = r at *
    go_enter Tryd.func16, Tryd.ntmps16
    go_wp2_with (go_at_call 15; refine (C.out _).mono ?_; rintro e w' ⟨rfl, rfl⟩)
    all_goals
      go_ret
      refine ⟨ret_i64 ?_, ?_⟩
      · rw [HM.out]
        simp_all [mdays]
      · exact (Below.refl _ _).alloc (Nat.le_refl _) _
end Go.Proofs.YtcnfobjmddncgaaDoor
