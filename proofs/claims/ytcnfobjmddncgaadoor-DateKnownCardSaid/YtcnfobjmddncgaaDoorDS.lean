/-
  What the reference's weekday, month, laid and digits answer.
  Conditions: those that each theorem names.
-/
import Derived.Test.YtcnfobjmddncgaaDoorDR
import Derived.Test.YtcnfobjmddncgaaDoorWords
namespace Go.Proofs.YtcnfobjmddncgaaDoor
open Go.RowKit

set_option maxHeartbeats 1000000 in
theorem rmonth (m : Nat) (hm : m < 12) (w : World) : Calls Tryd.prog 19 #[.int .i64 (m : Int)] w (ToldD (mnN m) w) := by
  rcases (show m = 0 ∨ m = 1 ∨ m = 2 ∨ m = 3 ∨ m = 4 ∨ m = 5 ∨ m = 6 ∨ m = 7 ∨ m = 8 ∨ m = 9 ∨ m = 10 ∨ m = 11 by omega) with rfl | rfl | rfl | rfl | rfl | rfl | rfl | rfl | rfl | rfl | rfl | rfl
  all_goals
    clear hm
    go_enter Tryd.func19, Tryd.ntmps19
    go_wp2_with fail
    go_ret
    exact ⟨rfl, (Below.refl _ _).alloc (Nat.le_refl _) _⟩
set_option maxHeartbeats 1000000 in
theorem rweekday_at (n : Nat) (w : World) : ∀ k : Nat, n % 7 = k → Calls Tryd.prog 17 #[.int .u64 (n : Int)] w (ToldD (wdN k) w) := by
  intro k hk
  have hk2 : (n : Int) % 7 = (k : Int) := by omega
  have hkl : k < 7 := by omega
  clear hk
  rcases (show k = 0 ∨ k = 1 ∨ k = 2 ∨ k = 3 ∨ k = 4 ∨ k = 5 ∨ k = 6 by omega) with rfl | rfl | rfl | rfl | rfl | rfl | rfl
  all_goals
    clear hkl
    go_enter Tryd.func17, Tryd.ntmps17
    go_wp2_with fail
    go_ret
    exact ⟨rfl, (Below.refl _ _).alloc (Nat.le_refl _) _⟩
theorem rweekday (n : Nat) (w : World) : Calls Tryd.prog 17 #[.int .u64 (n : Int)] w (ToldD (wdN (n % 7)) w) := rweekday_at n w _ rfl
end Go.Proofs.YtcnfobjmddncgaaDoor
