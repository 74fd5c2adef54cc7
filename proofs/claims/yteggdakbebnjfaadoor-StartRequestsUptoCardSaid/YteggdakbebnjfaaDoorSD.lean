/-
  What the reference's Status answers.
  Conditions: those that each theorem names.
-/
import Derived.Test.YteggdakbebnjfaaDoorSC
namespace Go.Proofs.YteggdakbebnjfaaDoor
open Go.RowKit

def accF (l : List UInt8) : Nat → Nat
  | 0 => 0
  | j + 1 => 10 * accF l j + ((l.getD (9 + j) 0).toNat - 48)
theorem list13 {α : Type} : ∀ (l : List α), 13 ≤ l.length → ∃ v0 v1 v2 v3 v4 v5 v6 v7 s0 a b c s1 r, l = v0 :: v1 :: v2 :: v3 :: v4 :: v5 :: v6 :: v7 :: s0 :: a :: b :: c :: s1 :: r
  | v0 :: v1 :: v2 :: v3 :: v4 :: v5 :: v6 :: v7 :: s0 :: a :: b :: c :: s1 :: r, _ => ⟨v0, v1, v2, v3, v4, v5, v6, v7, s0, a, b, c, s1, r, rfl⟩
  | [], h | [_], h | [_, _], h | [_, _, _], h | [_, _, _, _], h | [_, _, _, _, _], h | [_, _, _, _, _, _], h | [_, _, _, _, _, _, _], h
  | [_, _, _, _, _, _, _, _], h | [_, _, _, _, _, _, _, _, _], h | [_, _, _, _, _, _, _, _, _, _], h | [_, _, _, _, _, _, _, _, _, _, _], h
  | [_, _, _, _, _, _, _, _, _, _, _, _], h => absurd h (by simp)
theorem stat_short (l : List UInt8) (h : l.length < 13) : statF l = none := by
  unfold statF
  split
  · simp at h
    omega
  · rfl
theorem stat_at (l : List UInt8) (h : 13 ≤ l.length) : statF l = (match minorF (l.take 8) with
    | some n => if l.getD 8 0 = 32 ∧ l.getD 12 0 = 32 ∧ digB (l.getD 9 0) = true ∧ digB (l.getD 10 0) = true ∧ digB (l.getD 11 0) = true ∧ 100 ≤ accF l 3 ∧ accF l 3 ≤ 599 ∧ visF (l.drop 13) = true ∧ l.length ≤ 512 then some (n, accF l 3, l.drop 13) else none
    | none => none) := by
  obtain ⟨v0, v1, v2, v3, v4, v5, v6, v7, s0, a, b, c, s1, r, rfl⟩ := list13 l h
  have hs : statOf a b c = accF (v0 :: v1 :: v2 :: v3 :: v4 :: v5 :: v6 :: v7 :: s0 :: a :: b :: c :: s1 :: r) 3 := by
    show 100 * (a.toNat - 48) + 10 * (b.toNat - 48) + (c.toNat - 48) = 10 * (10 * (10 * 0 + (a.toNat - 48)) + (b.toNat - 48)) + (c.toNat - 48)
    omega
  unfold statF
  rw [← hs]
  rfl
/-- What Status tells. -/
def StatGot (r : Option (Nat × Nat × List UInt8)) (w : World) (e : Ending) (w' : World) : Prop :=
  Below w.heap.size w w' ∧ match r with
    | none => e = .returned (.tuple #[.int .i64 0, .int .i64 0, .string ⟨#[]⟩, .int .i64 5])
    | some (n, st, t) => e = .returned (.tuple #[.int .i64 (n : Int), .int .i64 (st : Int), .string ⟨t.toArray⟩, .int .i64 0])
theorem at_getD (s : ByteArray) (k : Nat) (h : k < s.size) : (bl s).getD k 0 = s[k] := by
  rw [List.getD_eq_getElem?_getD, bl_get s k h]
  rfl
set_option maxHeartbeats 8000000 in
set_option maxRecDepth 100000 in
theorem rstat_any (s : ByteArray) (w : World) (hs : s.size ≤ 140737488355328) : Calls Tryd.prog 13 #[.string s] w (StatGot (statF (bl s)) w) := by
  by_cases hbig : 512 < s.size
  · have HN := Lib.hid (show statF (bl s) = none by
      rw [stat_at _ (by rw [bl_length]; omega)]
      split
      · rw [if_neg (by rintro ⟨_, _, _, _, _, _, _, _, h⟩; rw [bl_length] at h; omega)]
      · rfl)
    have i1 : (512 : Int) < (s.size : Int) := by omega
    go_enter Tryd.func13, Tryd.ntmps13
    go_wp2_with fail
    (try simp only [Exit.inBlock, Exit.then]); refine bodyPost_ret (results_tmp4 rfl _ _ _) rfl ?_
    exact ⟨Below.refl _ _, by rw [HN.out]; rfl⟩
  · have i1 : ¬ (512 : Int) < (s.size : Int) := by omega
    by_cases hsm : s.size < 13
    · have HN := Lib.hid (stat_short (bl s) (by rw [bl_length]; exact hsm))
      have i2 : (s.size : Int) < 13 := by omega
      go_enter Tryd.func13, Tryd.ntmps13
      go_wp2_with fail
      (try simp only [Exit.inBlock, Exit.then]); refine bodyPost_ret (results_tmp4 rfl _ _ _) rfl ?_
      exact ⟨Below.refl _ _, by rw [HN.out]; rfl⟩
    · have i2 : ¬ (s.size : Int) < 13 := by omega
      have l8 : 8 < s.size := by omega
      have l12 : 12 < s.size := by omega
      have HA := Lib.hid (stat_at (bl s) (by rw [bl_length]; omega))
      have e8 := byte_32 s[8]
      have e12 := byte_32 s[12]
      have g8 := at_getD s 8 l8
      have g12 := at_getD s 12 l12
      by_cases b8 : (s[8].toNat : Int) = 32
      · by_cases b12 : (s[12].toNat : Int) = 32
        · have hV : bl (s.extract 0 8) = (bl s).take 8 := by rw [extract_bl, piece_front]
          have hR : bl (s.extract 13 s.size) = (bl s).drop 13 := by rw [extract_bl, piece_back]
          have CM := Lib.hid (fun X : World => (rminor_any (s.extract 0 8) X).mono (fun _ _ h => (⟨h.1, h.2.symm⟩ : _ ∧ _)))
          rw [hV] at CM
          have HS8 := Lib.hid (show (bl s).getD 8 0 = 32 by rw [g8, e8]; exact b8)
          have HS12 := Lib.hid (show (bl s).getD 12 0 = 32 by rw [g12, e12]; exact b12)
          clear e8 e12 g8 g12
          go_enter Tryd.func13, Tryd.ntmps13
          go_wp2_with fail
          refine (CM.out _).mono ?_
          rintro e w ⟨rfl, rfl⟩
          go_wp2_with fail
          go_loopw [7, 8] (fun vs vi wr => ∃ k : Nat, vi = .int .i64 (k : Int) ∧ 9 ≤ k ∧ k ≤ 12 ∧ vs = .int .i64 (accF (bl s) (k - 9) : Int) ∧ accF (bl s) (k - 9) < 10 ^ (k - 9) ∧ Hid (∀ i, 9 ≤ i → i < k → digB ((bl s).getD i 0) = true) ∧ w = wr) (fun _ vi _ => 12 - (intOf vi).toNat)
          case atStart => exact ⟨9, rfl, by omega, by omega, rfl, Nat.zero_lt_one, Lib.hid (fun i h1 h2 => by omega), rfl⟩
          case round =>
            obtain ⟨k, rfl, hk9, hk, rfl, hac, HD, rfl⟩ := hrel
            by_cases hlt : k < 12
            · have lk : k < s.size := by omega
              have gk := at_getD s k lk
              have hstep : accF (bl s) (k + 1 - 9) = 10 * accF (bl s) (k - 9) + (s[k].toNat - 48) := by
                rw [show k + 1 - 9 = (k - 9) + 1 by omega]
                show 10 * accF (bl s) (k - 9) + (((bl s).getD (9 + (k - 9)) 0).toNat - 48) = _
                rw [show 9 + (k - 9) = k by omega, gk]
              have HNO := Lib.hid (show digB s[k] = false → statF (bl s) = none from fun hf => by
                rw [HA.out]
                split
                · rw [if_neg]
                  rintro ⟨_, _, d1, d2, d3, _⟩
                  have : k = 9 ∨ k = 10 ∨ k = 11 := by omega
                  rcases this with rfl | rfl | rfl
                  · rw [gk, hf] at d1; cases d1
                  · rw [gk, hf] at d2; cases d2
                  · rw [gk, hf] at d3; cases d3
                · rfl)
              have hac2 : accF (bl s) (k - 9) < 100 ∧ (10 : Nat) ^ (k + 1 - 9) = 10 * 10 ^ (k - 9) := by
                refine ⟨Nat.lt_of_lt_of_le hac ?_, ?_⟩
                · have : (10 : Nat) ^ (k - 9) ≤ 10 ^ 2 := Nat.pow_le_pow_right (by decide) (by omega)
                  omega
                · rw [show k + 1 - 9 = (k - 9) + 1 by omega, Nat.pow_succ, Nat.mul_comm]
              obtain ⟨hac3, hpow⟩ := hac2
              by_cases c1 : (s[k].toNat : Int) < 48
              · have HN := Lib.hid (HNO.out (by unfold digB; rw [decide_eq_false (by omega)]; rfl))
                clear HNO gk hstep hpow
                go_wp2_with fail
                (try simp only [Exit.inBlock, Exit.then]); refine bodyPost_ret (results_tmp4 rfl _ _ _) rfl ?_
                exact ⟨Below.refl _ _, by rw [HN.out]; rfl⟩
              · by_cases c2 : (57 : Int) < (s[k].toNat : Int)
                · have HN := Lib.hid (HNO.out (by unfold digB; rw [decide_eq_false (show ¬ s[k].toNat ≤ 57 by omega)]; simp))
                  clear HNO gk hstep hpow
                  go_wp2_with fail
                  (try simp only [Exit.inBlock, Exit.then]); refine bodyPost_ret (results_tmp4 rfl _ _ _) rfl ?_
                  exact ⟨Below.refl _ _, by rw [HN.out]; rfl⟩
                · have HDN := Lib.hid (show ∀ i, 9 ≤ i → i < k + 1 → digB ((bl s).getD i 0) = true from fun i h1 h2 => by
                    by_cases he : i = k
                    · subst he
                      rw [gk]
                      unfold digB
                      simp
                      omega
                    · exact HD.out i h1 (by omega))
                  have HST := Lib.hid (show (accF (bl s) (k + 1 - 9) : Int) = 10 * (accF (bl s) (k - 9) : Int) + ((s[k].toNat : Int) - 48) by omega)
                  have HLT := Lib.hid (show accF (bl s) (k + 1 - 9) < 10 ^ (k + 1 - 9) by rw [hpow, hstep]; omega)
                  clear HNO gk hpow hstep HD hac
                  have wr1 : IntKind.u8.wrap ((s[k].toNat : Int) - 48) = (s[k].toNat : Int) - 48 := by rw [IntKind.wrap_u8]; omega
                  generalize accF (bl s) (k - 9) = A at *
                  have wr2 : IntKind.i64.wrap (10 * (A : Int)) = 10 * (A : Int) := by rw [IntKind.wrap_i64]; omega
                  have wr3 : IntKind.i64.wrap (10 * (A : Int) + ((s[k].toNat : Int) - 48)) = 10 * (A : Int) + ((s[k].toNat : Int) - 48) := by rw [IntKind.wrap_i64]; omega
                  go_wp2_with fail
                  go_roundw
                  case rel => exact ⟨k + 1, by go_num, by omega, hlt, by rw [HST.out], HLT.out, HDN, trivial⟩
                  case measure => simp [intOf]; omega
            · have hk12 : k = 12 := by omega
              subst hk12
              have HD3 := Lib.hid (show digB ((bl s).getD 9 0) = true ∧ digB ((bl s).getD 10 0) = true ∧ digB ((bl s).getD 11 0) = true from ⟨HD.out 9 (by omega) (by omega), HD.out 10 (by omega) (by omega), HD.out 11 (by omega) (by omega)⟩)
              change accF (bl s) 3 < _ at hac
              have HAC : (12 : Nat) - 9 = 3 := rfl
              rw [HAC] at hac ⊢
              have hR : bl (s.extract 13 s.size) = (bl s).drop 13 := by rw [extract_bl, piece_back]
              have CV := Lib.hid (fun X : World => visible_any (s.extract 13 s.size) X (by have := extract_size s 13 s.size; unfold maxLen; omega))
              rw [hR] at CV
              have HRR := Lib.hid hR
              have HLS := Lib.hid (show (bl s).length ≤ 512 by rw [bl_length]; omega)
              obtain ⟨A, hA⟩ : ∃ A, accF (bl s) 3 = A := ⟨_, rfl⟩
              rw [hA] at HA hac ⊢
              have hA3 : A < 1000 := hac
              clear hac hA HAC hR HD
              cases hmi : minorF ((bl s).take 8) with
              | none =>
                have HN := Lib.hid (show statF (bl s) = none by rw [HA.out, hmi])
                have hmn : minI (none : Option Nat) = -1 := rfl
                rw [hmn]
                clear hmi
                go_wp2_with fail
                (try simp only [Exit.inBlock, Exit.then]); refine bodyPost_ret (results_tmp4 rfl _ _ _) rfl ?_
                exact ⟨Below.refl _ _, by rw [HN.out]; rfl⟩
              | some n =>
                have hmn : minI (some n) = (n : Int) := rfl
                rw [hmn]
                have i3 : ¬ (n : Int) < 0 := by omega
                have HB := Lib.hid (show ¬ (100 ≤ A ∧ A ≤ 599 ∧ visF ((bl s).drop 13) = true) → statF (bl s) = none from fun hf => by
                  rw [HA.out, hmi]
                  simp only
                  rw [if_neg (by rintro ⟨_, _, _, _, _, h1, h2, h3, _⟩; exact hf ⟨h1, h2, h3⟩)])
                by_cases a1 : A < 100
                · have HN := Lib.hid (HB.out (by rintro ⟨h, _⟩; omega))
                  have j1 : (A : Int) < 100 := by omega
                  clear hmi HB
                  go_wp2_with fail
                  (try simp only [Exit.inBlock, Exit.then]); refine bodyPost_ret (results_tmp4 rfl _ _ _) rfl ?_
                  exact ⟨Below.refl _ _, by rw [HN.out]; rfl⟩
                · have j1 : ¬ (A : Int) < 100 := by omega
                  by_cases a2 : 599 < A
                  · have HN := Lib.hid (HB.out (by rintro ⟨_, h, _⟩; omega))
                    have j2 : (599 : Int) < (A : Int) := by omega
                    clear hmi HB
                    go_wp2_with fail
                    (try simp only [Exit.inBlock, Exit.then]); refine bodyPost_ret (results_tmp4 rfl _ _ _) rfl ?_
                    exact ⟨Below.refl _ _, by rw [HN.out]; rfl⟩
                  · have j2 : ¬ (599 : Int) < (A : Int) := by omega
                    by_cases a3 : visF ((bl s).drop 13) = true
                    · have HN := Lib.hid (show statF (bl s) = some (n, A, (bl s).drop 13) by
                        rw [HA.out, hmi]
                        simp only
                        rw [if_pos ⟨HS8.out, HS12.out, HD3.out.1, HD3.out.2.1, HD3.out.2.2, by omega, by omega, a3, HLS.out⟩])
                      rw [a3] at CV
                      clear hmi HB a3 a1 a2
                      go_wp2_with fail
                      refine (CV.out _).mono ?_
                      rintro e w ⟨rfl, rfl⟩
                      go_wp2_with fail
                      go_quiet (fail)
                      go_wp2_with fail
                      (try simp only [Exit.inBlock, Exit.then]); refine bodyPost_ret (results_tmp4 rfl _ _ _) rfl ?_
                      refine ⟨below_drewN (Below.refl _ _) nq, ?_⟩
                      rw [HN.out, ← HRR.out]
                      simp only
                      rw [mk_bl]
                      rfl
                    · rw [Bool.not_eq_true] at a3
                      have HN := Lib.hid (HB.out (by rintro ⟨_, _, h⟩; rw [a3] at h; cases h))
                      rw [a3] at CV
                      clear hmi HB a3 a1 a2
                      go_wp2_with fail
                      refine (CV.out _).mono ?_
                      rintro e w ⟨rfl, rfl⟩
                      go_wp2_with fail
                      (try simp only [Exit.inBlock, Exit.then]); refine bodyPost_ret (results_tmp4 rfl _ _ _) rfl ?_
                      exact ⟨Below.refl _ _, by rw [HN.out]; rfl⟩
        · have HN := Lib.hid (show statF (bl s) = none by
            rw [HA.out]
            split
            · rw [if_neg (by rintro ⟨_, h, _⟩; rw [g12, e12] at h; exact b12 h)]
            · rfl)
          clear e8 e12 g8 g12
          go_enter Tryd.func13, Tryd.ntmps13
          go_wp2_with fail
          (try simp only [Exit.inBlock, Exit.then]); refine bodyPost_ret (results_tmp4 rfl _ _ _) rfl ?_
          exact ⟨Below.refl _ _, by rw [HN.out]; rfl⟩
      · have HN := Lib.hid (show statF (bl s) = none by
          rw [HA.out]
          split
          · rw [if_neg (by rintro ⟨h, _⟩; rw [g8, e8] at h; exact b8 h)]
          · rfl)
        clear e8 e12 g8 g12
        go_enter Tryd.func13, Tryd.ntmps13
        go_wp2_with fail
        (try simp only [Exit.inBlock, Exit.then]); refine bodyPost_ret (results_tmp4 rfl _ _ _) rfl ?_
        exact ⟨Below.refl _ _, by rw [HN.out]; rfl⟩
end Go.Proofs.YteggdakbebnjfaaDoor
