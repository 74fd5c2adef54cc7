/-
  What the reference's path of package uri answers.
  Conditions: those that each theorem names.
-/
import Derived.Test.YthkcniimnaephaaGreatDoorYU
namespace Go.Proofs.YthkcniimnaephaaGreatDoor.Uri
open Go.RowKit

def signsL : List UInt8 := [45, 46, 95, 126, 33, 36, 38, 39, 40, 41, 42, 43, 44, 59, 61, 58, 64, 47]
theorem pathB_is (c : UInt8) : pathB c = (alB c || c == 63 || signsL.contains c) := by
  have := byte_every (fun c => pathB c == (alB c || c == 63 || signsL.contains c)) (by decide +kernel) c
  simpa using this
theorem path_pc (s : ByteArray) (k : Nat) (h : k < s.size) (hc : s[k] = 37) : pathF ((bl s).drop k) = (escF ((bl s).drop (k + 1)) && pathF ((bl s).drop (k + 1))) := by
  rw [bl_drop s k h, hc]
  show (if (37 : UInt8) = 37 then _ else _) = _
  rw [if_pos rfl]
  rfl
theorem path_no (s : ByteArray) (k : Nat) (h : k < s.size) (hc : s[k] ≠ 37) : pathF ((bl s).drop k) = (pathB s[k] && pathF ((bl s).drop (k + 1))) := by
  rw [bl_drop s k h]
  show (if s[k] = 37 then _ else _) = _
  rw [if_neg hc]
theorem esc_short (s : ByteArray) (k : Nat) (h : s.size ≤ k + 2) : escF ((bl s).drop (k + 1)) = false := by
  unfold escF
  rw [decide_eq_false (by rw [List.length_drop, bl_length]; omega), Bool.false_and]
theorem esc_long (s : ByteArray) (k : Nat) (h : k + 2 < s.size) : escF ((bl s).drop (k + 1)) = (hexB s[k + 1] && hexB s[k + 2]) := by
  unfold escF
  rw [decide_eq_true (by rw [List.length_drop, bl_length]; omega), Bool.true_and, bl_drop s (k + 1) (by omega), bl_drop s (k + 2) h]
  simp
theorem sign_take (m : ByteArray) (c : UInt8) (k : Nat) (h : k < m.size) : ((bl m).take (k + 1)).contains c = (((bl m).take k).contains c || c == m[k]) := by
  rw [bl_take m k h, List.contains_eq_any_beq, List.any_append, ← List.contains_eq_any_beq]
  simp

set_option maxHeartbeats 8000000 in
set_option maxRecDepth 100000 in
theorem rpath_any (s : ByteArray) (w : World) (hs : s.size ≤ 1125899906842624) : Calls Tryz.prog 27 #[.string s] w fun e w' => e = .returned (.bool (decide ((bl s).take 1 = [47]) && pathF (bl s))) ∧ w = w' := by
  by_cases h0 : s.size = 0
  · have e0 : ((s.size : Int) == 0) = true := by rw [h0]; rfl
    have HR := Lib.hid (show (decide ((bl s).take 1 = [47]) && pathF (bl s)) = false by rw [show bl s = [] from List.eq_nil_of_length_eq_zero (by rw [bl_length]; exact h0)]; rfl)
    clear h0
    go_enter Tryz.func27, Tryz.ntmps27
    go_wp2_with fail
    go_ret
    exact ⟨ret_bool HR.out.symm, rfl⟩
  · have e0 : ((s.size : Int) == 0) = false := beq_eq_false_iff_ne.2 (by omega)
    have h0' : 0 < s.size := by omega
    have i0 : (0 : Int) < (s.size : Int) := by omega
    have hf := first_is s h0'
    have hbi := byte_int s[0] 47
    rw [show ((47 : UInt8).toNat : Int) = 47 from rfl] at hbi
    by_cases h47 : s[0] = 47
    · have HR := Lib.hid (show (decide ((bl s).take 1 = [47]) && pathF (bl s)) = pathF (bl s) by rw [hf, h47, decide_eq_true rfl, Bool.true_and])
      rw [show (s[0] == 47) = true from beq_iff_eq.2 h47] at hbi
      have hbn : (((s[0]'h0').toNat : Int) != 47) = false := by rw [bne, hbi]; rfl
      clear hf h47 hbi h0
      go_enter Tryz.func27, Tryz.ntmps27
      go_wp2_with fail
      generalize hM : (⟨#[45, 46, 95, 126, 33, 36, 38, 39, 40, 41, 42, 43, 44, 59, 61, 58, 64, 47]⟩ : ByteArray) = M
      have hMz : M.size = 18 := by rw [← hM]; rfl
      have HMB := Lib.hid (show bl M = signsL by rw [← hM]; rfl)
      clear hM
      go_loopw [4, 5] (fun vq vi wr => ∃ (k : Nat) (q : Bool), vq = .bool q ∧ vi = .int .i64 (k : Int) ∧ k ≤ s.size ∧ Hid (pathF (bl s) = pathF ((bl s).drop k)) ∧ w = wr) (fun _ vi _ => s.size - (intOf vi).toNat)
      case atStart => exact ⟨0, false, rfl, rfl, Nat.zero_le _, Lib.hid rfl, rfl⟩
      case round =>
        obtain ⟨k, q, rfl, rfl, hk, HPF, rfl⟩ := hrel
        by_cases hlt : k < s.size
        · have hbc := byte_int s[k] 37
          rw [show ((37 : UInt8).toNat : Int) = 37 from rfl] at hbc
          by_cases h37 : s[k] = 37
          · rw [show (s[k] == 37) = true from beq_iff_eq.2 h37] at hbc
            have HE := Lib.hid (path_pc s k hlt h37)
            clear h37
            by_cases h2 : s.size ≤ k + 2
            · have HF := Lib.hid (show (decide ((bl s).take 1 = [47]) && pathF (bl s)) = false by rw [HR.out, HPF.out, HE.out, esc_short s k h2]; rfl)
              have i2 : (s.size : Int) ≤ (k : Int) + 2 := by omega
              go_wp2_with fail
              go_ret
              exact ⟨ret_bool HF.out.symm, rfl⟩
            · have i2 : ¬ (s.size : Int) ≤ (k : Int) + 2 := by omega
              have HE2 := Lib.hid (esc_long s k (by omega))
              have l1 : k + 1 < s.size := by omega
              have l2 : k + 2 < s.size := by omega
              have C1 := Lib.hid (rhex_any s[k + 1] w)
              have C2 := Lib.hid (rhex_any s[k + 2] w)
              cases b1 : hexB s[k + 1] with
              | false =>
                rw [b1] at C1
                have HF := Lib.hid (show (decide ((bl s).take 1 = [47]) && pathF (bl s)) = false by rw [HR.out, HPF.out, HE.out, HE2.out, b1]; rfl)
                clear b1
                go_wp2_with fail
                refine C1.out.mono ?_
                rintro e w2 ⟨rfl, rfl⟩
                go_wp2_with fail
                go_ret
                exact ⟨ret_bool HF.out.symm, rfl⟩
              | true =>
                rw [b1] at C1
                cases b2 : hexB s[k + 2] with
                | false =>
                  rw [b2] at C2
                  have HF := Lib.hid (show (decide ((bl s).take 1 = [47]) && pathF (bl s)) = false by rw [HR.out, HPF.out, HE.out, HE2.out, b1, b2]; rfl)
                  clear b1 b2
                  go_wp2_with fail
                  refine C1.out.mono ?_
                  rintro e w2 ⟨rfl, rfl⟩
                  go_wp2_with fail
                  refine C2.out.mono ?_
                  rintro e w2 ⟨rfl, rfl⟩
                  go_wp2_with fail
                  go_ret
                  exact ⟨ret_bool HF.out.symm, rfl⟩
                | true =>
                  rw [b2] at C2
                  have HP2 := Lib.hid (show pathF (bl s) = pathF ((bl s).drop (k + 1)) by rw [HPF.out, HE.out, HE2.out, b1, b2]; rfl)
                  clear b1 b2
                  go_wp2_with fail
                  refine C1.out.mono ?_
                  rintro e w2 ⟨rfl, rfl⟩
                  go_wp2_with fail
                  refine C2.out.mono ?_
                  rintro e w2 ⟨rfl, rfl⟩
                  go_wp2_with fail
                  go_roundw
                  case rel => exact ⟨k + 1, q, rfl, by go_num, hlt, HP2, trivial⟩
                  case measure => simp [intOf]; omega
          · rw [show (s[k] == 37) = false from beq_eq_false_iff_ne.2 h37] at hbc
            have HE := Lib.hid (path_no s k hlt h37)
            have hbq := byte_int s[k] 63
            rw [show ((63 : UInt8).toNat : Int) = 63 from rfl] at hbq
            have C1 := Lib.hid (rletter_any s[k] w)
            have HB := Lib.hid (pathB_is s[k])
            obtain ⟨a1, ha1⟩ : ∃ a1, alB s[k] = a1 := ⟨_, rfl⟩
            obtain ⟨a2, ha2⟩ : ∃ a2, (s[k] == 63) = a2 := ⟨_, rfl⟩
            rw [ha1] at C1 HB
            rw [ha2] at hbq HB
            clear h37 ha1 ha2
            go_wp2_with fail
            refine C1.out.mono ?_
            rintro e w2 ⟨rfl, rfl⟩
            obtain ⟨qn, hqn⟩ : ∃ qn : Bool, qn = (q || a2) := ⟨_, rfl⟩
            obtain ⟨is0, his⟩ : ∃ is0 : Bool, is0 = (a1 || a2) := ⟨_, rfl⟩
            rw [← his] at HB
            have HQN := Lib.hid hqn
            have HIS := Lib.hid his
            clear hqn his
            cases a1 <;> cases q <;> go_wp2_with fail
            all_goals
              go_loopw [7, 8] (fun vs vm wr => ∃ (m : Nat) (b : Bool), vs = .bool b ∧ vm = .int .i64 (m : Int) ∧ m ≤ M.size ∧ Hid (b = (is0 || ((bl M).take m).contains s[k])) ∧ w = wr) (fun _ vm _ => M.size - (intOf vm).toNat)
              case atStart => exact ⟨0, _, rfl, rfl, Nat.zero_le _, Lib.hid (by rw [HIS.out]; simp), rfl⟩
              case round =>
                obtain ⟨m, b, rfl, rfl, hm, HBM, rfl⟩ := hrel
                by_cases hml : m < M.size
                · have hbm := byte_int s[k] M[m]
                  have HST := Lib.hid (sign_take M s[k] m hml)
                  obtain ⟨a3, ha3⟩ : ∃ a3, (s[k] == M[m]) = a3 := ⟨_, rfl⟩
                  rw [ha3] at hbm HST
                  clear ha3
                  cases b with
                  | true =>
                    have HB3 := Lib.hid (show true = (is0 || ((bl M).take (m + 1)).contains s[k]) by rw [HST.out, ← Bool.or_assoc, ← HBM.out]; rfl)
                    go_wp2_with fail
                    go_roundw
                    case rel => exact ⟨m + 1, true, rfl, by go_num, hml, HB3, trivial⟩
                    case measure => simp [intOf]; omega
                  | false =>
                    have HB3 := Lib.hid (show a3 = (is0 || ((bl M).take (m + 1)).contains s[k]) by rw [HST.out, ← Bool.or_assoc, ← HBM.out]; rfl)
                    go_wp2_with fail
                    go_roundw
                    case rel => exact ⟨m + 1, a3, rfl, by go_num, hml, HB3, trivial⟩
                    case measure => simp [intOf]; omega
                · have hb := HBM.out
                  rw [List.take_of_length_le (by rw [bl_length]; omega), HMB.out] at hb
                  have HPB := Lib.hid (show pathB s[k] = b by rw [HB.out, hb])
                  clear hb
                  cases b with
                  | true =>
                    have HP2 := Lib.hid (show pathF (bl s) = pathF ((bl s).drop (k + 1)) by rw [HPF.out, HE.out, HPB.out]; rfl)
                    go_wp2_with fail
                    go_roundw
                    case rel => exact ⟨k + 1, _, rfl, by go_num, hlt, HP2, trivial⟩
                    case measure => simp [intOf]; omega
                  | false =>
                    have HF := Lib.hid (show (decide ((bl s).take 1 = [47]) && pathF (bl s)) = false by rw [HR.out, HPF.out, HE.out, HPB.out]; rfl)
                    go_wp2_with fail
                    go_ret
                    exact ⟨ret_bool HF.out.symm, rfl⟩
        · have HF := Lib.hid (show (decide ((bl s).take 1 = [47]) && pathF (bl s)) = true by rw [HR.out, HPF.out, List.drop_of_length_le (by rw [bl_length]; omega)]; rfl)
          go_wp2_with fail
          go_ret
          exact ⟨ret_bool HF.out.symm, rfl⟩
    · have HR := Lib.hid (show (decide ((bl s).take 1 = [47]) && pathF (bl s)) = false by rw [hf, decide_eq_false (by simpa using h47), Bool.false_and])
      rw [show (s[0] == 47) = false from beq_eq_false_iff_ne.2 h47] at hbi
      have hbn : (((s[0]'h0').toNat : Int) != 47) = true := by rw [bne, hbi]; rfl
      clear hf h47 hbi h0
      go_enter Tryz.func27, Tryz.ntmps27
      go_wp2_with fail
      go_ret
      exact ⟨ret_bool HR.out.symm, rfl⟩
end Go.Proofs.YthkcniimnaephaaGreatDoor.Uri
