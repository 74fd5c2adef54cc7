/-
  What the reference's port, octet, number, decimal of package uri answer.
  Conditions: those that each theorem names.
-/
import Derived.Test.YtopanahgeeolbaaGreatDoorYR
namespace Go.Proofs.YtopanahgeeolbaaGreatDoor.Uri
open Go.RowKit

theorem bl_ne' (s : ByteArray) (h : 0 < s.size) : bl s ≠ [] := by
  intro e
  have := bl_length s
  rw [e, List.length_nil] at this
  omega
/-- The port that digits say; 0: none. -/
def portR (l : List UInt8) : Nat := (numbF 65535 l).getD 0
theorem portR_val {l : List UInt8} (h0 : l ≠ []) (h1 : l.all digB10 = true) (h2 : l.take 1 ≠ [48]) : portR l = if valF 10 l ≤ 65535 then valF 10 l else 0 := by
  unfold portR
  by_cases hv : valF 10 l ≤ 65535
  · rw [(numb_iff 65535 (by unfold Most; omega) l (valF 10 l)).2 ⟨h0, h1, fun h => absurd h h2, hv, rfl⟩, if_pos hv]
    rfl
  · rw [if_neg hv]
    cases hn : numbF 65535 l with
    | none => rfl
    | some n => exact absurd ((numb_iff 65535 (by unfold Most; omega) l n).1 hn).2.2.2.1 hv
theorem portR_bad {l : List UInt8} (h : l.all digB10 = false) : portR l = 0 := by
  unfold portR
  cases hn : numbF 65535 l with
  | none => rfl
  | some n =>
    have := ((numb_iff 65535 (by unfold Most; omega) l n).1 hn).2.1
    rw [h] at this
    cases this
theorem portR_nil : portR [] = 0 := rfl
theorem portR_long {l : List UInt8} (h : 5 < l.length) (h2 : l.take 1 ≠ [48]) : portR l = 0 := by
  unfold portR
  cases hn : numbF 65535 l with
  | none => rfl
  | some n =>
    obtain ⟨_, _, _, h4, _⟩ := (numb_iff 65535 (by unfold Most; omega) l n).1 hn
    cases l with
    | nil => simp at h
    | cons c r =>
      have hc : c ≠ 48 := fun e => h2 (by rw [e]; rfl)
      have := valF_short c r hc
      have h5 : 10 ^ 5 ≤ 10 ^ r.length := Nat.pow_le_pow_right (by omega) (by simp at h; omega)
      omega
theorem portR_nought {l : List UInt8} (h2 : l.take 1 = [48]) : portR l = 0 := by
  unfold portR
  cases hn : numbF 65535 l with
  | none => rfl
  | some n =>
    obtain ⟨_, _, h3, _, h5⟩ := (numb_iff 65535 (by unfold Most; omega) l n).1 hn
    have h1 := h3 h2
    have hl : l = [48] := by
      rw [List.take_of_length_le (by omega)] at h2
      exact h2
    rw [h5, hl]
    rfl
theorem val_snoc (s : ByteArray) (k : Nat) (h : k < s.size) (hd : digB10 s[k] = true) : valF 10 ((bl s).take (k + 1)) = valF 10 ((bl s).take k) * 10 + (s[k].toNat - 48) := by
  rw [bl_take s k h, valF_snoc]
  have : ∀ c : UInt8, digB10 c = true → worth c = c.toNat - 48 := fun c hc => by
    have := byte_every (fun c => !digB10 c || (worth c == c.toNat - 48)) (by decide +kernel) c
    simpa [hc] using this
  rw [this _ hd]
theorem all_snocD (s : ByteArray) (k : Nat) (h : k < s.size) (h1 : ((bl s).take k).all digB10 = true) (hd : digB10 s[k] = true) : ((bl s).take (k + 1)).all digB10 = true := by
  rw [bl_take s k h, List.all_append, h1]
  simp [hd]
theorem all_noD (l : List UInt8) (p : UInt8 → Bool) (c : UInt8) (k : Nat) (h : l[k]? = some c) (hc : p c = false) : l.all p = false := by
  rw [Bool.eq_false_iff]
  intro hall
  have := List.all_eq_true.1 hall c (List.mem_of_getElem? h)
  rw [hc] at this
  cases this
theorem dig_yes (c : UInt8) (h1 : 48 ≤ (c.toNat : Int)) (h2 : (c.toNat : Int) ≤ 57) : digB10 c = true := by
  unfold digB10
  rw [decide_eq_true (by omega), decide_eq_true (by omega)]
  rfl
theorem dig_no (c : UInt8) (h : ¬ (48 ≤ (c.toNat : Int) ∧ (c.toNat : Int) ≤ 57)) : digB10 c = false := by
  unfold digB10
  rw [Bool.and_eq_false_iff]
  by_cases h1 : 48 ≤ c.toNat
  · right; simp; omega
  · left; simp; omega
theorem first_is (s : ByteArray) (h : 0 < s.size) : (bl s).take 1 = [s[0]] := by
  have := bl_take s 0 h
  simpa using this
theorem val_lt (s : ByteArray) (k : Nat) (hk : k ≤ s.size) (h : ((bl s).take k).all digB10 = true) : valF 10 ((bl s).take k) < 10 ^ k := by
  refine valF_up k _ (by rw [List.length_take, bl_length]; omega) ?_
  rw [show digB 10 = digB10 from funext dig_ten]
  exact h


theorem octF_is (l : List UInt8) : octF l = (decide (l ≠ []) && (l.all digB10 && ((decide (l.take 1 ≠ [48]) || decide (l.length = 1)) && decide (valF 10 l ≤ 255)))) := by
  rw [Bool.eq_iff_iff]
  unfold octF
  rw [Option.isSome_iff_exists]
  simp only [Bool.and_eq_true, Bool.or_eq_true, decide_eq_true_eq]
  constructor
  · rintro ⟨n, h⟩
    obtain ⟨h1, h2, h3, h4, _⟩ := (numb_iff 255 (by unfold Most; omega) l n).1 h
    refine ⟨h1, h2, ?_, h4⟩
    by_cases h5 : l.take 1 = [48]
    · exact .inr (h3 h5)
    · exact .inl h5
  · rintro ⟨h1, h2, h3, h4⟩
    refine ⟨valF 10 l, (numb_iff 255 (by unfold Most; omega) l _).2 ⟨h1, h2, fun h => ?_, h4, rfl⟩⟩
    rcases h3 with h3 | h3
    · exact absurd h h3
    · exact h3
theorem oct_long {l : List UInt8} (h : 3 < l.length) : octF l = false := by
  rw [Bool.eq_false_iff, octF_is]
  intro hx
  simp only [Bool.and_eq_true, Bool.or_eq_true, decide_eq_true_eq] at hx
  obtain ⟨_, _, h3, h4⟩ := hx
  rcases h3 with h3 | h3
  · cases l with
    | nil => simp at h
    | cons c r =>
      have hc : c ≠ 48 := fun e => h3 (by rw [e]; rfl)
      have := valF_short c r hc
      have h5 : 10 ^ 3 ≤ 10 ^ r.length := Nat.pow_le_pow_right (by omega) (by simp at h; omega)
      omega
  · omega
theorem oct_bad {l : List UInt8} (h : l.all digB10 = false) : octF l = false := by
  rw [octF_is, h]
  simp
set_option maxHeartbeats 4000000 in
set_option maxRecDepth 100000 in
theorem roctet_any (s : ByteArray) (w : World) (hs : s.size ≤ 1125899906842624) : Calls Tryz.prog 87 #[.string s] w fun e w' => e = .returned (.bool (octF (bl s))) ∧ w = w' := by
  go_enter Tryz.func87, Tryz.ntmps87
  go_wp2_with fail
  go_loopw [3, 4] (fun vn vi wr => ∃ k n : Nat, vi = .int .i64 (k : Int) ∧ k ≤ s.size ∧ k ≤ 3 ∧ vn = .int .i64 (n : Int) ∧ n < 1000 ∧ Hid (n = valF 10 ((bl s).take k)) ∧ Hid (((bl s).take k).all digB10 = true) ∧ w = wr) (fun _ vi _ => s.size - (intOf vi).toNat)
  case atStart => exact ⟨0, 0, rfl, Nat.zero_le _, by omega, rfl, by omega, Lib.hid rfl, Lib.hid rfl, rfl⟩
  case round =>
    obtain ⟨k, n, rfl, hk, hk3, rfl, hn, HN, HA, rfl⟩ := hrel
    by_cases hlt : k < s.size
    · have HG := Lib.hid (bl_get s k hlt)
      by_cases h1 : 48 ≤ (s[k].toNat : Int)
      · have h1' : ¬ (s[k].toNat : Int) < 48 := by omega
        by_cases h2 : (s[k].toNat : Int) ≤ 57
        · have h2' : ¬ (57 : Int) < (s[k].toNat : Int) := by omega
          by_cases h3 : k < 3
          · have hd := dig_yes s[k] h1 h2
            have HA2 := Lib.hid (all_snocD s k hlt HA.out hd)
            have hvs := val_snoc s k hlt hd
            rw [← HN.out] at hvs
            have hlt2 : n < 10 ^ k := by rw [HN.out]; exact val_lt s k (by omega) HA.out
            have hp : 10 ^ k ≤ 10 ^ 2 := Nat.pow_le_pow_right (by omega) (by omega)
            have hn4 : n < 100 := by omega
            have HN2 := Lib.hid hvs.symm
            have h3' : ¬ (3 : Int) ≤ (k : Int) := by omega
            clear hd hvs hlt2 hp HA
            go_wp2_with fail
            go_roundw
            case rel => exact ⟨k + 1, n * 10 + (s[k].toNat - 48), by go_num, hlt, by omega, by first | (congr 1; omega) | go_num, by omega, HN2, HA2, trivial⟩
            case measure => simp [intOf]; omega
          · have h3' : (3 : Int) ≤ (k : Int) := by omega
            have HR := Lib.hid (show octF (bl s) = false from oct_long (by rw [bl_length]; omega))
            go_wp2_with fail
            go_ret
            exact ⟨ret_bool HR.out.symm, rfl⟩
        · have h2' : (57 : Int) < (s[k].toNat : Int) := by omega
          have HR := Lib.hid (show octF (bl s) = false from oct_bad (all_noD _ _ s[k] k HG.out (dig_no _ (fun h => h2 h.2))))
          go_wp2_with fail
          go_ret
          exact ⟨ret_bool HR.out.symm, rfl⟩
      · have h1' : (s[k].toNat : Int) < 48 := by omega
        have HR := Lib.hid (show octF (bl s) = false from oct_bad (all_noD _ _ s[k] k HG.out (dig_no _ (fun h => h1 h.1))))
        go_wp2_with fail
        go_ret
        exact ⟨ret_bool HR.out.symm, rfl⟩
    · have htk : (bl s).take k = bl s := List.take_of_length_le (by rw [bl_length]; omega)
      have hN := HN.out
      have hA := HA.out
      rw [htk] at hN hA
      have hR := octF_is (bl s)
      rw [hA, ← hN, bl_length, Bool.true_and] at hR
      by_cases h0 : 0 < s.size
      · have i0 : (0 : Int) < (s.size : Int) := by omega
        have hne : bl s ≠ [] := bl_ne' s h0
        rw [first_is s h0, decide_eq_true hne, Bool.true_and] at hR
        have hbi := byte_int s[0] 48
        rw [show ((48 : UInt8).toNat : Int) = 48 from rfl] at hbi
        by_cases h48 : s[0] = 48
        · rw [show (s[0] == 48) = true from beq_iff_eq.2 h48] at hbi
          rw [h48, decide_eq_false (by simp), Bool.false_or] at hR
          have hbn : (((s[0]'h0).toNat : Int) != 48) = false := by rw [bne, hbi]; rfl
          have HR := Lib.hid hR
          clear htk hN hA hR hne hbi h48
          by_cases hm : n ≤ 255
          · have e1 : (n : Int) ≤ 255 := by omega
            by_cases hs1 : s.size = 1
            · have e2 : ((s.size : Int) == 1) = true := by rw [hs1]; rfl
              go_wp2_with fail
              go_ret
              exact ⟨ret_bool (by rw [HR.out, decide_eq_true hs1, decide_eq_true hm]; rfl), rfl⟩
            · have e2 : ((s.size : Int) == 1) = false := by simp; omega
              go_wp2_with fail
              go_ret
              exact ⟨ret_bool (by rw [HR.out, decide_eq_false hs1]; rfl), rfl⟩
          · have e1 : ¬ (n : Int) ≤ 255 := by omega
            go_wp2_with fail
            go_ret
            exact ⟨ret_bool (by rw [HR.out, decide_eq_false hm]; simp), rfl⟩
        · rw [show (s[0] == 48) = false from beq_eq_false_iff_ne.2 h48] at hbi
          rw [decide_eq_true (by simpa using h48), Bool.true_or, Bool.true_and] at hR
          have hbn : (((s[0]'h0).toNat : Int) != 48) = true := by rw [bne, hbi]; rfl
          have HR := Lib.hid hR
          clear htk hN hA hR hne hbi h48
          by_cases hm : n ≤ 255
          · have e1 : (n : Int) ≤ 255 := by omega
            go_wp2_with fail
            go_ret
            exact ⟨ret_bool (by rw [HR.out, decide_eq_true hm]), rfl⟩
          · have e1 : ¬ (n : Int) ≤ 255 := by omega
            go_wp2_with fail
            go_ret
            exact ⟨ret_bool (by rw [HR.out, decide_eq_false hm]), rfl⟩
      · have i0 : ¬ (0 : Int) < (s.size : Int) := by omega
        have hne : ¬ bl s ≠ [] := by
          intro h
          exact h (List.eq_nil_of_length_eq_zero (by rw [bl_length]; omega))
        rw [decide_eq_false hne, Bool.false_and] at hR
        have HR := Lib.hid hR
        clear htk hN hA hR hne
        go_wp2_with fail
        go_ret
        exact ⟨ret_bool HR.out.symm, rfl⟩
end Go.Proofs.YtopanahgeeolbaaGreatDoor.Uri
