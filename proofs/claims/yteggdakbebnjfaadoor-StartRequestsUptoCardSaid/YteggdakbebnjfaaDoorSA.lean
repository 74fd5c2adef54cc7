/-
  The reference's minor and target.
  Conditions: those that each theorem names.
-/
import Derived.Test.YteggdakbebnjfaaDoorSB
namespace Go.Proofs.YteggdakbebnjfaaDoor
open Go.RowKit

set_option maxHeartbeats 1000000 in
theorem rminor_any (s : ByteArray) (w : World) : Calls Tryd.prog 24 #[.string s] w fun e w' => e = .returned (.int .i64 (minI (minorF (bl s)))) ∧ w = w' := by
  by_cases h0 : bl s = versL 0
  · have e0 : (s.toList == [72, 84, 84, 80, 47, 49, 46, 48]) = true := by rw [eq_str]; exact decide_eq_true h0
    have HM := Lib.hid (show minI (minorF (bl s)) = 0 by unfold minorF; rw [if_pos h0]; rfl)
    clear h0
    go_enter Tryd.func24, Tryd.ntmps24
    go_wp2_with fail
    go_ret
    exact ⟨by rw [HM.out]; rfl, rfl⟩
  · have e0 : (s.toList == [72, 84, 84, 80, 47, 49, 46, 48]) = false := by rw [eq_str]; exact decide_eq_false h0
    by_cases h1 : bl s = versL 1
    · have e1 : (s.toList == [72, 84, 84, 80, 47, 49, 46, 49]) = true := by rw [eq_str]; exact decide_eq_true h1
      have HM := Lib.hid (show minI (minorF (bl s)) = 1 by unfold minorF; rw [if_neg h0, if_pos h1]; rfl)
      clear h0 h1
      go_enter Tryd.func24, Tryd.ntmps24
      go_wp2_with fail
      go_ret
      exact ⟨by rw [HM.out]; rfl, rfl⟩
    · have e1 : (s.toList == [72, 84, 84, 80, 47, 49, 46, 49]) = false := by rw [eq_str]; exact decide_eq_false h1
      have HM := Lib.hid (show minI (minorF (bl s)) = -1 by unfold minorF; rw [if_neg h0, if_neg h1]; rfl)
      clear h0 h1
      go_enter Tryd.func24, Tryd.ntmps24
      go_wp2_with fail
      go_ret
      exact ⟨by rw [HM.out]; rfl, rfl⟩

set_option maxHeartbeats 2000000 in
theorem rtarget_any (s : ByteArray) (w : World) (hs : s.size ≤ 140737488355328) : Calls Tryd.prog 26 #[.string s] w fun e w' => e = .returned (.bool (targF (bl s))) ∧ w = w' := by
  go_enter Tryd.func26, Tryd.ntmps26
  go_wp2_with fail
  go_loopw [3] (fun vi wr => ∃ k : Nat, vi = .int .i64 (k : Int) ∧ k ≤ s.size ∧ Hid (((bl s).take k).all targB = true) ∧ w = wr) (fun vi _ => s.size - (intOf vi).toNat)
  case atStart => exact ⟨0, rfl, Nat.zero_le _, Lib.hid rfl, rfl⟩
  case round =>
    obtain ⟨k, rfl, hk, HA, rfl⟩ := hrel
    by_cases hlt : k < s.size
    · have HTK := Lib.hid (bl_take s k hlt)
      have HG := Lib.hid (bl_get s k hlt)
      by_cases h1 : (s[k].toNat : Int) < 33
      · have HN := Lib.hid (targ_no (bl s) k _ HG.out (by unfold targB; rw [decide_eq_false (by omega)]; rfl))
        clear HTK HG
        go_wp2_with fail
        go_ret
        exact ⟨ret_bool HN.out.symm, rfl⟩
      · by_cases h2 : (126 : Int) < (s[k].toNat : Int)
        · have HN := Lib.hid (targ_no (bl s) k _ HG.out (by unfold targB; rw [decide_eq_false (show ¬ s[k].toNat ≤ 126 by omega)]; simp))
          clear HTK HG
          go_wp2_with fail
          go_ret
          exact ⟨ret_bool HN.out.symm, rfl⟩
        · have HN := Lib.hid (show ((bl s).take (k + 1)).all targB = true by rw [HTK.out, List.all_append, HA.out]; simp [targB]; omega)
          clear HTK HG
          go_wp2_with fail
          go_roundw
          case rel => exact ⟨k + 1, by go_num, hlt, HN, trivial⟩
          case measure => simp [intOf]; omega
    · have HF := Lib.hid (show targF (bl s) = decide (0 < s.size) by
        have h1 := HA.out
        rw [List.take_of_length_le (by rw [bl_length]; omega)] at h1
        unfold targF
        rw [h1, ← bl_length]
        cases bl s <;> simp)
      go_wp2_with fail
      go_ret
      exact ⟨ret_bool (by rw [HF.out]), rfl⟩
end Go.Proofs.YteggdakbebnjfaaDoor
