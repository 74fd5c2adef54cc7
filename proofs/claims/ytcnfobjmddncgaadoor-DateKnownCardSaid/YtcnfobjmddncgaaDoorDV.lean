/-
  What the reference's Parse answers: what package date's answers.
  Conditions: those that each theorem names.
-/
import Derived.Test.YtcnfobjmddncgaaDoorDP
namespace Go.Proofs.YtcnfobjmddncgaaDoor
open Go.RowKit

theorem rdigits_at (s : ByteArray) (x y : Int) (a mn : Nat) (hx : x = a) (hy : y = mn) (ha : a ≤ 1000) (hm : mn ≤ 4) (hs : a + mn ≤ s.size) (X : World) :
    Calls Tryd.prog 22 #[.string s, .int .i64 x, .int .i64 y] X (Same (.int .i64 (rdigF (piece s a (a + mn)))) X) := by
  rw [hx, hy]
  exact rdigits s a mn ha hm hs X
theorem rdigF_lo (l : List UInt8) (w : Nat) (h : l.length ≤ w) : -1 ≤ rdigF l ∧ rdigF l < 10 ^ w := by
  unfold rdigF
  split
  · rename_i e
    have h1 := (fixF_back l.length l rfl e).2
    have h2 : 10 ^ l.length ≤ 10 ^ w := Nat.pow_le_pow_right (by omega) h
    constructor
    · omega
    · have : valF 10 l < 10 ^ w := by omega
      exact_mod_cast this
  · constructor
    · omega
    · have : 0 < 10 ^ w := Nat.pow_pos (by omega)
      have : (0 : Int) < 10 ^ w := by exact_mod_cast this
      omega

set_option maxHeartbeats 8000000 in
set_option maxRecDepth 100000 in
theorem rparse_short (s : ByteArray) (hs : ¬ s.size = 29) (w : World) : Calls Tryd.prog 12 #[.string s] w (ParseTold (parseF s) w) := by
  have e1 : ((s.size : Int) == 29) = false := beq_false_of_ne (by omega)
  have e2 : ¬ (s.size : Int) = 29 := by omega
  have HQ : Hid (parseF s = (0, 5)) := Lib.hid (if_neg (fun h => hs h.1))
  generalize parseF s = r at *
  clear hs
  go_enter Tryd.func12, Tryd.ntmps12
  go_wp2_with fail
  go_ret2
  exact ParseTold.mk HQ.out rfl rfl (Below.refl _ _)
set_option maxHeartbeats 8000000 in
set_option maxRecDepth 100000 in
theorem rparse_apart (s : ByteArray) (hs : s.size = 29) (hsep : ¬ sepP s) (w : World) : Calls Tryd.prog 12 #[.string s] w (ParseTold (parseF s) w) := by
  have HQ : Hid (parseF s = (0, 5)) := Lib.hid (no_ok s (fun ⟨_, _, _, _, _, _, h⟩ => hsep h.sep))
  generalize parseF s = r at *
  have HS := Lib.hid hsep
  clear hsep
  go_enter Tryd.func12, Tryd.ntmps12
  go_wp2_with fail
  all_goals
    first
      | (go_ret2; exact ParseTold.mk HQ.out rfl rfl (Below.refl _ _))
      | (exfalso; exact HS.out ⟨hs, by assumption, by assumption, by assumption, by assumption, by assumption, by assumption, by simp_all⟩)
end Go.Proofs.YtcnfobjmddncgaaDoor
