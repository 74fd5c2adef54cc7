/-
  The document's own number and least of layer 12.
  Conditions: a text of at most 140737488351232 bytes.
-/
import Derived.Test.YtkccmjeabkfmdaaDoorEA
import Derived.Test.YtkccmjeabkfmdaaDoorVE
namespace Go.Proofs.YtkccmjeabkfmdaaDoor.Con
open Go.RowKit Hop

theorem least_any (a b : Int) (w : World) : Calls Tryd.prog 27 #[.int .i64 a, .int .i64 b] w fun e w' => e = .returned (.int .i64 (leastF a b)) ∧ w' = w := by
  by_cases h1 : a < 0
  · have HF := Lib.hid (show leastF a b = b by unfold leastF; rw [if_pos (.inl h1)])
    go_enter Tryd.func27, Tryd.ntmps27
    go_wp2_with fail
    go_ret
    exact ⟨by rw [HF.out]; rfl, rfl⟩
  · by_cases h2 : b < a
    · have HF := Lib.hid (show leastF a b = b by unfold leastF; rw [if_pos (.inr h2)])
      go_enter Tryd.func27, Tryd.ntmps27
      go_wp2_with fail
      go_ret
      exact ⟨by rw [HF.out]; rfl, rfl⟩
    · have HF := Lib.hid (show leastF a b = a by unfold leastF; rw [if_neg (by omega)])
      go_enter Tryd.func27, Tryd.ntmps27
      go_wp2_with fail
      go_ret
      exact ⟨by rw [HF.out]; rfl, rfl⟩

theorem digit_iff (c : UInt8) : digB 10 c = (decide (48 ≤ c.toNat) && decide (c.toNat ≤ 57)) := by
  have := byte_every (fun c => digB 10 c == (decide (48 ≤ c.toNat) && decide (c.toNat ≤ 57))) (by decide +kernel) c
  simpa using this
theorem digit_worth (c : UInt8) (h : digB 10 c = true) : worth c = c.toNat - 48 := by
  rw [digit_iff] at h
  simp at h
  unfold worth
  rw [if_pos h]
theorem cap_no (l : List UInt8) (k : Nat) (c : UInt8) (h : l[k]? = some c) (hd : digB 10 c = false) : capN l = 0 := by
  unfold capN
  split
  · rfl
  · rw [if_neg]
    intro hall
    have := List.all_eq_true.1 hall c (List.mem_of_getElem? h)
    rw [hd] at this
    cases this
theorem cap_step (v d : Nat) (hd : d ≤ 9) : min (10 * min v Top + d) Top = min (v * 10 + d) Top := by
  unfold Top
  omega

set_option maxHeartbeats 4000000 in
set_option maxRecDepth 100000 in
theorem number_any (s : ByteArray) (w : World) (hs : s.size ≤ 140737488351232) : Calls Tryd.prog 26 #[.string s] w fun e w' => e = .returned (.int .i64 (capN (bl s) : Nat)) ∧ w' = w := by
  by_cases h0 : s.size = 0
  · have HF := Lib.hid (show capN (bl s) = 0 by
      have : bl s = [] := List.eq_nil_of_length_eq_zero (by rw [bl_length]; exact h0)
      rw [this]
      rfl)
    go_enter Tryd.func26, Tryd.ntmps26
    go_wp2_with fail
    go_ret
    exact ⟨by rw [HF.out]; rfl, rfl⟩
  · have e0 : ((s.size : Int) == 0) = false := beq_eq_false_iff_ne.2 (by omega)
    have HNE := Lib.hid (show bl s ≠ [] by
      intro e
      have := bl_length s
      rw [e] at this
      exact h0 this.symm)
    clear h0
    go_enter Tryd.func26, Tryd.ntmps26
    go_wp2_with fail
    clear e0
    go_loopw [4] (fun i wx => ∃ k : Nat, i = .int .i64 (k : Int) ∧ k ≤ s.size ∧ Hid (((bl s).take k).all (digB 10) = true) ∧ wx = w) (fun i _ => s.size - (intOf i).toNat)
    case atStart => exact ⟨0, rfl, Nat.zero_le _, Lib.hid rfl, rfl⟩
    case round =>
      obtain ⟨k, rfl, hk, HA, rfl⟩ := hrel
      by_cases hlt : k < s.size
      · have HG := Lib.hid (bl_get s k hlt)
        cases hd : digB 10 s[k] with
        | false =>
          have HF := Lib.hid (cap_no _ k _ HG.out hd)
          rw [digit_iff] at hd
          by_cases h1 : (s[k].toNat : Int) < 48
          · clear hd
            go_wp2_with fail
            go_ret
            exact ⟨by rw [HF.out]; rfl, rfl⟩
          · have h2 : (57 : Int) < (s[k].toNat : Int) := by
              simp at hd
              omega
            clear hd
            go_wp2_with fail
            go_ret
            exact ⟨by rw [HF.out]; rfl, rfl⟩
        | true =>
          have HT := Lib.hid (show ((bl s).take (k + 1)).all (digB 10) = true by rw [bl_take s k hlt, List.all_append, HA.out]; simp [hd])
          rw [digit_iff] at hd
          have h1 : ¬ (s[k].toNat : Int) < 48 := by simp at hd; omega
          have h2 : ¬ (57 : Int) < (s[k].toNat : Int) := by simp at hd; omega
          clear hd
          go_wp2_with fail
          go_roundw
          case rel => exact ⟨k + 1, by go_num, hlt, HT, trivial⟩
          case measure => simp [intOf]; omega
      · have HALL := Lib.hid (show (bl s).all (digB 10) = true by
          have := HA.out
          rw [List.take_of_length_le (by rw [bl_length]; omega)] at this
          exact this)
        have HF := Lib.hid (show capN (bl s) = min (valF 10 (bl s)) Top by unfold capN; rw [if_neg HNE.out, if_pos HALL.out])
        go_wp2_with fail
        go_loopw [5, 3] (fun i n wx => ∃ k m : Nat, i = .int .i64 (k : Int) ∧ n = .int .i64 (m : Int) ∧ k ≤ s.size ∧ m ≤ 2147483647 ∧ Hid (m = min (valF 10 ((bl s).take k)) Top) ∧ wx = wr) (fun i _ _ => s.size - (intOf i).toNat)
        case atStart => exact ⟨0, 0, rfl, rfl, Nat.zero_le _, by omega, Lib.hid rfl, rfl⟩
        case round =>
          obtain ⟨k2, m, rfl, rfl, hk2, hm, HM, rfl⟩ := hrel
          by_cases hlt2 : k2 < s.size
          · have hd : digB 10 s[k2] = true := List.all_eq_true.1 HALL.out _ (List.mem_of_getElem? (bl_get s k2 hlt2))
            have hw := digit_worth _ hd
            rw [digit_iff] at hd
            have HS := Lib.hid (show min (10 * m + (s[k2].toNat - 48)) Top = min (valF 10 ((bl s).take (k2 + 1))) Top by
              rw [bl_take s k2 hlt2, valF_snoc, hw, HM.out]
              simp at hd
              exact cap_step _ _ (by omega))
            obtain ⟨d, hdd⟩ : ∃ d : Nat, s[k2].toNat = 48 + d := ⟨s[k2].toNat - 48, by simp at hd; omega⟩
            have hd9 : d ≤ 9 := by simp at hd; omega
            have e1 : s[k2].toNat - 48 = d := by omega
            rw [e1] at HS
            have e2 : (s[k2].toNat : Int) = 48 + (d : Int) := by omega
            clear hd hw e1 hdd
            by_cases hgt : (2147483647 : Int) < 10 * (m : Int) + (d : Int)
            · go_wp2_with fail
              go_roundw
              case rel => exact ⟨k2 + 1, 2147483647, by go_num, rfl, hlt2, by omega, Lib.hid (by rw [← HS.out]; unfold Top; omega), trivial⟩
              case measure => simp [intOf]; omega
            · go_wp2_with fail
              go_roundw
              case rel => exact ⟨k2 + 1, 10 * m + d, by go_num, by go_num, hlt2, by omega, Lib.hid (by rw [← HS.out]; unfold Top; omega), trivial⟩
              case measure => simp [intOf]; omega
          · have HQ := Lib.hid (show m = capN (bl s) by
              rw [HF.out, HM.out, List.take_of_length_le (by rw [bl_length]; omega)])
            go_wp2_with fail
            go_ret
            exact ⟨by rw [← HQ.out]; rfl, rfl⟩
end Go.Proofs.YtkccmjeabkfmdaaDoor.Con
