/-
  What a line's parts say: plain mathematics.
  Conditions: those that each theorem names.
-/
import Derived.Test.YtemgfppclakdmaaGreatDoorSC
import Derived.Lib.Bytealg
import Derived.Lib.Atoi
import Derived.Lib.ItoaNum
namespace Go.Proofs.YtemgfppclakdmaaGreatDoor.Sta
open Go.RowKit

def accF (l : List UInt8) : Nat → Nat
  | 0 => 0
  | j + 1 => 10 * accF l j + ((l.getD (9 + j) 0).toNat - 48)
theorem list13 {α : Type} : ∀ (l : List α), 13 ≤ l.length → ∃ v0 v1 v2 v3 v4 v5 v6 v7 s0 a b c s1 r, l = v0 :: v1 :: v2 :: v3 :: v4 :: v5 :: v6 :: v7 :: s0 :: a :: b :: c :: s1 :: r
  | v0 :: v1 :: v2 :: v3 :: v4 :: v5 :: v6 :: v7 :: s0 :: a :: b :: c :: s1 :: r, _ => ⟨v0, v1, v2, v3, v4, v5, v6, v7, s0, a, b, c, s1, r, rfl⟩
  | [], h | [_], h | [_, _], h | [_, _, _], h | [_, _, _, _], h | [_, _, _, _, _], h | [_, _, _, _, _, _], h | [_, _, _, _, _, _, _], h
  | [_, _, _, _, _, _, _, _], h | [_, _, _, _, _, _, _, _, _], h | [_, _, _, _, _, _, _, _, _, _], h | [_, _, _, _, _, _, _, _, _, _, _], h
  | [_, _, _, _, _, _, _, _, _, _, _, _], h => absurd h (by simp)
theorem stat_short (l : List UInt8) (h : l.length < 13) : statF l = none := by
  unfold statF
  split
  · simp at h
    omega
  · rfl
theorem stat_at (l : List UInt8) (h : 13 ≤ l.length) : statF l = (match minorF (l.take 8) with
    | some n => if l.getD 8 0 = 32 ∧ l.getD 12 0 = 32 ∧ digB (l.getD 9 0) = true ∧ digB (l.getD 10 0) = true ∧ digB (l.getD 11 0) = true ∧ 100 ≤ accF l 3 ∧ accF l 3 ≤ 599 ∧ visF (l.drop 13) = true ∧ l.length ≤ 512 then some (n, accF l 3, l.drop 13) else none
    | none => none) := by
  obtain ⟨v0, v1, v2, v3, v4, v5, v6, v7, s0, a, b, c, s1, r, rfl⟩ := list13 l h
  have hs : statOf a b c = accF (v0 :: v1 :: v2 :: v3 :: v4 :: v5 :: v6 :: v7 :: s0 :: a :: b :: c :: s1 :: r) 3 := by
    show 100 * (a.toNat - 48) + 10 * (b.toNat - 48) + (c.toNat - 48) = 10 * (10 * (10 * 0 + (a.toNat - 48)) + (b.toNat - 48)) + (c.toNat - 48)
    omega
  unfold statF
  rw [← hs]
  rfl
/-- What Status tells. -/
def StatGot (r : Option (Nat × Nat × List UInt8)) (w : World) (e : Ending) (w' : World) : Prop :=
  Below w.heap.size w w' ∧ match r with
    | none => e = .returned (.tuple #[.int .i64 0, .int .i64 0, .string ⟨#[]⟩, .int .i64 5])
    | some (n, st, t) => e = .returned (.tuple #[.int .i64 (n : Int), .int .i64 (st : Int), .string ⟨t.toArray⟩, .int .i64 0])
theorem at_getD (s : ByteArray) (k : Nat) (h : k < s.size) : (bl s).getD k 0 = s[k] := by
  rw [List.getD_eq_getElem?_getD, bl_get s k h]
  rfl
set_option maxHeartbeats 8000000 in
set_option maxRecDepth 100000 in
theorem rstat_any (s : ByteArray) (w : World) (hs : s.size ≤ 140737488355328) : Calls Tryz.prog 40 #[.string s] w (StatGot (statF (bl s)) w) := by
  by_cases hbig : 512 < s.size
  · have HN := Lib.hid (show statF (bl s) = none by
      rw [stat_at _ (by rw [bl_length]; omega)]
      split
      · rw [if_neg (by rintro ⟨_, _, _, _, _, _, _, _, h⟩; rw [bl_length] at h; omega)]
      · rfl)
    have i1 : (512 : Int) < (s.size : Int) := by omega
    go_enter Tryz.func40, Tryz.ntmps40
    go_wp2_with fail
    (try simp only [Exit.inBlock, Exit.then]); refine bodyPost_ret (results_tmp4 rfl _ _ _) rfl ?_
    exact ⟨Below.refl _ _, by rw [HN.out]; rfl⟩
  · have i1 : ¬ (512 : Int) < (s.size : Int) := by omega
    by_cases hsm : s.size < 13
    · have HN := Lib.hid (stat_short (bl s) (by rw [bl_length]; exact hsm))
      have i2 : (s.size : Int) < 13 := by omega
      go_enter Tryz.func40, Tryz.ntmps40
      go_wp2_with fail
      (try simp only [Exit.inBlock, Exit.then]); refine bodyPost_ret (results_tmp4 rfl _ _ _) rfl ?_
      exact ⟨Below.refl _ _, by rw [HN.out]; rfl⟩
    · have i2 : ¬ (s.size : Int) < 13 := by omega
      have l8 : 8 < s.size := by omega
      have l12 : 12 < s.size := by omega
      have HA := Lib.hid (stat_at (bl s) (by rw [bl_length]; omega))
      have e8 := byte_32 s[8]
      have e12 := byte_32 s[12]
      have g8 := at_getD s 8 l8
      have g12 := at_getD s 12 l12
      by_cases b8 : (s[8].toNat : Int) = 32
      · by_cases b12 : (s[12].toNat : Int) = 32
        · have hV : bl (s.extract 0 8) = (bl s).take 8 := by rw [extract_bl, piece_front]
          have hR : bl (s.extract 13 s.size) = (bl s).drop 13 := by rw [extract_bl, piece_back]
          have CM := Lib.hid (fun X : World => (rminor_any (s.extract 0 8) X).mono (fun _ _ h => (⟨h.1, h.2.symm⟩ : _ ∧ _)))
          rw [hV] at CM
          have HS8 := Lib.hid (show (bl s).getD 8 0 = 32 by rw [g8, e8]; exact b8)
          have HS12 := Lib.hid (show (bl s).getD 12 0 = 32 by rw [g12, e12]; exact b12)
          clear e8 e12 g8 g12
          go_enter Tryz.func40, Tryz.ntmps40
          go_wp2_with fail
          refine (CM.out _).mono ?_
          rintro e w ⟨rfl, rfl⟩
          go_wp2_with fail
          go_loopw [7, 8] (fun vs vi wr => ∃ k : Nat, vi = .int .i64 (k : Int) ∧ 9 ≤ k ∧ k ≤ 12 ∧ vs = .int .i64 (accF (bl s) (k - 9) : Int) ∧ accF (bl s) (k - 9) < 10 ^ (k - 9) ∧ Hid (∀ i, 9 ≤ i → i < k → digB ((bl s).getD i 0) = true) ∧ w = wr) (fun _ vi _ => 12 - (intOf vi).toNat)
          case atStart => exact ⟨9, rfl, by omega, by omega, rfl, Nat.zero_lt_one, Lib.hid (fun i h1 h2 => by omega), rfl⟩
          case round =>
            obtain ⟨k, rfl, hk9, hk, rfl, hac, HD, rfl⟩ := hrel
            by_cases hlt : k < 12
            · have lk : k < s.size := by omega
              have gk := at_getD s k lk
              have hstep : accF (bl s) (k + 1 - 9) = 10 * accF (bl s) (k - 9) + (s[k].toNat - 48) := by
                rw [show k + 1 - 9 = (k - 9) + 1 by omega]
                show 10 * accF (bl s) (k - 9) + (((bl s).getD (9 + (k - 9)) 0).toNat - 48) = _
                rw [show 9 + (k - 9) = k by omega, gk]
              have HNO := Lib.hid (show digB s[k] = false → statF (bl s) = none from fun hf => by
                rw [HA.out]
                split
                · rw [if_neg]
                  rintro ⟨_, _, d1, d2, d3, _⟩
                  have : k = 9 ∨ k = 10 ∨ k = 11 := by omega
                  rcases this with rfl | rfl | rfl
                  · rw [gk, hf] at d1; cases d1
                  · rw [gk, hf] at d2; cases d2
                  · rw [gk, hf] at d3; cases d3
                · rfl)
              have hac2 : accF (bl s) (k - 9) < 100 ∧ (10 : Nat) ^ (k + 1 - 9) = 10 * 10 ^ (k - 9) := by
                refine ⟨Nat.lt_of_lt_of_le hac ?_, ?_⟩
                · have : (10 : Nat) ^ (k - 9) ≤ 10 ^ 2 := Nat.pow_le_pow_right (by decide) (by omega)
                  omega
                · rw [show k + 1 - 9 = (k - 9) + 1 by omega, Nat.pow_succ, Nat.mul_comm]
              obtain ⟨hac3, hpow⟩ := hac2
              by_cases c1 : (s[k].toNat : Int) < 48
              · have HN := Lib.hid (HNO.out (by unfold digB; rw [decide_eq_false (by omega)]; rfl))
                clear HNO gk hstep hpow
                go_wp2_with fail
                (try simp only [Exit.inBlock, Exit.then]); refine bodyPost_ret (results_tmp4 rfl _ _ _) rfl ?_
                exact ⟨Below.refl _ _, by rw [HN.out]; rfl⟩
              · by_cases c2 : (57 : Int) < (s[k].toNat : Int)
                · have HN := Lib.hid (HNO.out (by unfold digB; rw [decide_eq_false (show ¬ s[k].toNat ≤ 57 by omega)]; simp))
                  clear HNO gk hstep hpow
                  go_wp2_with fail
                  (try simp only [Exit.inBlock, Exit.then]); refine bodyPost_ret (results_tmp4 rfl _ _ _) rfl ?_
                  exact ⟨Below.refl _ _, by rw [HN.out]; rfl⟩
                · have HDN := Lib.hid (show ∀ i, 9 ≤ i → i < k + 1 → digB ((bl s).getD i 0) = true from fun i h1 h2 => by
                    by_cases he : i = k
                    · subst he
                      rw [gk]
                      unfold digB
                      simp
                      omega
                    · exact HD.out i h1 (by omega))
                  have HST := Lib.hid (show (accF (bl s) (k + 1 - 9) : Int) = 10 * (accF (bl s) (k - 9) : Int) + ((s[k].toNat : Int) - 48) by omega)
                  have HLT := Lib.hid (show accF (bl s) (k + 1 - 9) < 10 ^ (k + 1 - 9) by rw [hpow, hstep]; omega)
                  clear HNO gk hpow hstep HD hac
                  have wr1 : IntKind.u8.wrap ((s[k].toNat : Int) - 48) = (s[k].toNat : Int) - 48 := by rw [IntKind.wrap_u8]; omega
                  generalize accF (bl s) (k - 9) = A at *
                  have wr2 : IntKind.i64.wrap (10 * (A : Int)) = 10 * (A : Int) := by rw [IntKind.wrap_i64]; omega
                  have wr3 : IntKind.i64.wrap (10 * (A : Int) + ((s[k].toNat : Int) - 48)) = 10 * (A : Int) + ((s[k].toNat : Int) - 48) := by rw [IntKind.wrap_i64]; omega
                  go_wp2_with fail
                  go_roundw
                  case rel => exact ⟨k + 1, by go_num, by omega, hlt, by rw [HST.out], HLT.out, HDN, trivial⟩
                  case measure => simp [intOf]; omega
            · have hk12 : k = 12 := by omega
              subst hk12
              have HD3 := Lib.hid (show digB ((bl s).getD 9 0) = true ∧ digB ((bl s).getD 10 0) = true ∧ digB ((bl s).getD 11 0) = true from ⟨HD.out 9 (by omega) (by omega), HD.out 10 (by omega) (by omega), HD.out 11 (by omega) (by omega)⟩)
              change accF (bl s) 3 < _ at hac
              have HAC : (12 : Nat) - 9 = 3 := rfl
              rw [HAC] at hac ⊢
              have hR : bl (s.extract 13 s.size) = (bl s).drop 13 := by rw [extract_bl, piece_back]
              have CV := Lib.hid (fun X : World => visible_any (s.extract 13 s.size) X (by have := extract_size s 13 s.size; unfold maxLen; omega))
              rw [hR] at CV
              have HRR := Lib.hid hR
              have HLS := Lib.hid (show (bl s).length ≤ 512 by rw [bl_length]; omega)
              obtain ⟨A, hA⟩ : ∃ A, accF (bl s) 3 = A := ⟨_, rfl⟩
              rw [hA] at HA hac ⊢
              have hA3 : A < 1000 := hac
              clear hac hA HAC hR HD
              cases hmi : minorF ((bl s).take 8) with
              | none =>
                have HN := Lib.hid (show statF (bl s) = none by rw [HA.out, hmi])
                have hmn : minI (none : Option Nat) = -1 := rfl
                rw [hmn]
                clear hmi
                go_wp2_with fail
                (try simp only [Exit.inBlock, Exit.then]); refine bodyPost_ret (results_tmp4 rfl _ _ _) rfl ?_
                exact ⟨Below.refl _ _, by rw [HN.out]; rfl⟩
              | some n =>
                have hmn : minI (some n) = (n : Int) := rfl
                rw [hmn]
                have i3 : ¬ (n : Int) < 0 := by omega
                have HB := Lib.hid (show ¬ (100 ≤ A ∧ A ≤ 599 ∧ visF ((bl s).drop 13) = true) → statF (bl s) = none from fun hf => by
                  rw [HA.out, hmi]
                  simp only
                  rw [if_neg (by rintro ⟨_, _, _, _, _, h1, h2, h3, _⟩; exact hf ⟨h1, h2, h3⟩)])
                by_cases a1 : A < 100
                · have HN := Lib.hid (HB.out (by rintro ⟨h, _⟩; omega))
                  have j1 : (A : Int) < 100 := by omega
                  clear hmi HB
                  go_wp2_with fail
                  (try simp only [Exit.inBlock, Exit.then]); refine bodyPost_ret (results_tmp4 rfl _ _ _) rfl ?_
                  exact ⟨Below.refl _ _, by rw [HN.out]; rfl⟩
                · have j1 : ¬ (A : Int) < 100 := by omega
                  by_cases a2 : 599 < A
                  · have HN := Lib.hid (HB.out (by rintro ⟨_, h, _⟩; omega))
                    have j2 : (599 : Int) < (A : Int) := by omega
                    clear hmi HB
                    go_wp2_with fail
                    (try simp only [Exit.inBlock, Exit.then]); refine bodyPost_ret (results_tmp4 rfl _ _ _) rfl ?_
                    exact ⟨Below.refl _ _, by rw [HN.out]; rfl⟩
                  · have j2 : ¬ (599 : Int) < (A : Int) := by omega
                    by_cases a3 : visF ((bl s).drop 13) = true
                    · have HN := Lib.hid (show statF (bl s) = some (n, A, (bl s).drop 13) by
                        rw [HA.out, hmi]
                        simp only
                        rw [if_pos ⟨HS8.out, HS12.out, HD3.out.1, HD3.out.2.1, HD3.out.2.2, by omega, by omega, a3, HLS.out⟩])
                      rw [a3] at CV
                      clear hmi HB a3 a1 a2
                      go_wp2_with fail
                      refine (CV.out _).mono ?_
                      rintro e w ⟨rfl, rfl⟩
                      go_wp2_with fail
                      go_quiet (fail)
                      go_wp2_with fail
                      (try simp only [Exit.inBlock, Exit.then]); refine bodyPost_ret (results_tmp4 rfl _ _ _) rfl ?_
                      refine ⟨below_drewN (Below.refl _ _) nq, ?_⟩
                      rw [HN.out, ← HRR.out]
                      simp only
                      rw [mk_bl]
                      rfl
                    · rw [Bool.not_eq_true] at a3
                      have HN := Lib.hid (HB.out (by rintro ⟨_, _, h⟩; rw [a3] at h; cases h))
                      rw [a3] at CV
                      clear hmi HB a3 a1 a2
                      go_wp2_with fail
                      refine (CV.out _).mono ?_
                      rintro e w ⟨rfl, rfl⟩
                      go_wp2_with fail
                      (try simp only [Exit.inBlock, Exit.then]); refine bodyPost_ret (results_tmp4 rfl _ _ _) rfl ?_
                      exact ⟨Below.refl _ _, by rw [HN.out]; rfl⟩
        · have HN := Lib.hid (show statF (bl s) = none by
            rw [HA.out]
            split
            · rw [if_neg (by rintro ⟨_, h, _⟩; rw [g12, e12] at h; exact b12 h)]
            · rfl)
          clear e8 e12 g8 g12
          go_enter Tryz.func40, Tryz.ntmps40
          go_wp2_with fail
          (try simp only [Exit.inBlock, Exit.then]); refine bodyPost_ret (results_tmp4 rfl _ _ _) rfl ?_
          exact ⟨Below.refl _ _, by rw [HN.out]; rfl⟩
      · have HN := Lib.hid (show statF (bl s) = none by
          rw [HA.out]
          split
          · rw [if_neg (by rintro ⟨h, _⟩; rw [g8, e8] at h; exact b8 h)]
          · rfl)
        clear e8 e12 g8 g12
        go_enter Tryz.func40, Tryz.ntmps40
        go_wp2_with fail
        (try simp only [Exit.inBlock, Exit.then]); refine bodyPost_ret (results_tmp4 rfl _ _ _) rfl ?_
        exact ⟨Below.refl _ _, by rw [HN.out]; rfl⟩
end Go.Proofs.YtemgfppclakdmaaGreatDoor.Sta

namespace Go.Proofs.YtemgfppclakdmaaGreatDoor.Sta
open Go.RowKit

/-- The reason of a status. -/
def reasonF (n : Int) : List UInt8 :=
  if n = 200 then [79, 75] else
  if n = 304 then [78, 111, 116, 32, 77, 111, 100, 105, 102, 105, 101, 100] else
  if n = 400 then [66, 97, 100, 32, 82, 101, 113, 117, 101, 115, 116] else
  if n = 403 then [70, 111, 114, 98, 105, 100, 100, 101, 110] else
  if n = 407 then [80, 114, 111, 120, 121, 32, 65, 117, 116, 104, 101, 110, 116, 105, 99, 97, 116, 105, 111, 110, 32, 82, 101, 113, 117, 105, 114, 101, 100] else
  if n = 413 then [67, 111, 110, 116, 101, 110, 116, 32, 84, 111, 111, 32, 76, 97, 114, 103, 101] else
  if n = 429 then [84, 111, 111, 32, 77, 97, 110, 121, 32, 82, 101, 113, 117, 101, 115, 116, 115] else
  if n = 431 then [82, 101, 113, 117, 101, 115, 116, 32, 72, 101, 97, 100, 101, 114, 32, 70, 105, 101, 108, 100, 115, 32, 84, 111, 111, 32, 76, 97, 114, 103, 101] else
  if n = 501 then [78, 111, 116, 32, 73, 109, 112, 108, 101, 109, 101, 110, 116, 101, 100] else
  if n = 502 then [66, 97, 100, 32, 71, 97, 116, 101, 119, 97, 121] else
  if n = 503 then [83, 101, 114, 118, 105, 99, 101, 32, 85, 110, 97, 118, 97, 105, 108, 97, 98, 108, 101] else
  if n = 504 then [71, 97, 116, 101, 119, 97, 121, 32, 84, 105, 109, 101, 111, 117, 116] else
  []
/-- What PutStatus tells. -/
def PutGot (r : Option (List UInt8)) (w : World) (e : Ending) (w' : World) : Prop :=
  Below w.heap.size w w' ∧ match r with
    | none => e = .returned (.tuple #[.string ⟨#[]⟩, .int .i64 1])
    | some l => e = .returned (.tuple #[.string ⟨l.toArray⟩, .int .i64 0])
def putStatF (n st : Int) (r : List UInt8) : Option (List UInt8) :=
  if (n = 0 ∨ n = 1) ∧ 100 ≤ st ∧ st ≤ 599 ∧ visF r = true ∧ r.length + 13 ≤ 512 then some (statL n.toNat st.toNat r) else none
end Go.Proofs.YtemgfppclakdmaaGreatDoor.Sta

namespace Go.Proofs.YtemgfppclakdmaaGreatDoor.Sta
open Go.RowKit

theorem toList_bl (x : ByteArray) : x.toList = bl x := by
  rw [Lib.toList_data]
  rfl
def putReqF (n : Int) (m t : List UInt8) : Option (List UInt8) :=
  if (n = 0 ∨ n = 1) ∧ tokF m = true ∧ m.length ≤ 32 ∧ targF t = true ∧ m.length + t.length + 10 ≤ 512 then some (reqL m t n.toNat) else none
end Go.Proofs.YtemgfppclakdmaaGreatDoor.Sta

namespace Go.Proofs.YtemgfppclakdmaaGreatDoor.Sta
open Go.RowKit

/-- Cut at the first blank: what stands ahead, what behind, whether there is one. -/
def cutP : List UInt8 → List UInt8 × List UInt8 × Bool
  | [] => ([], [], false)
  | c :: l => if c = 32 then ([], l, true) else (c :: (cutP l).1, (cutP l).2.1, (cutP l).2.2)
theorem cut_hit : ∀ (m r : List UInt8), 32 ∉ m → cutP (m ++ 32 :: r) = (m, r, true)
  | [], r, _ => by simp [cutP]
  | c :: m, r, h => by
    have hc : ¬ c = 32 := fun e => h (by simp [e])
    have hm : 32 ∉ m := fun e => h (by simp [e])
    show (if c = 32 then _ else (c :: (cutP (m ++ 32 :: r)).1, (cutP (m ++ 32 :: r)).2.1, (cutP (m ++ 32 :: r)).2.2)) = _
    rw [if_neg hc, cut_hit m r hm]
theorem cut_miss : ∀ (l : List UInt8), 32 ∉ l → cutP l = (l, [], false)
  | [], _ => rfl
  | c :: l, h => by
    have hc : ¬ c = 32 := fun e => h (by simp [e])
    have hm : 32 ∉ l := fun e => h (by simp [e])
    show (if c = 32 then _ else _) = _
    rw [if_neg hc, cut_miss l hm]
theorem cut_or : ∀ (l : List UInt8), (32 ∉ l ∧ cutP l = (l, [], false)) ∨ ∃ m r, l = m ++ 32 :: r ∧ 32 ∉ m ∧ cutP l = (m, r, true)
  | [] => .inl ⟨by simp, rfl⟩
  | c :: l => by
    by_cases hc : c = 32
    · exact .inr ⟨[], l, by rw [hc]; rfl, by simp, by unfold cutP; rw [if_pos hc]⟩
    · rcases cut_or l with ⟨h1, _⟩ | ⟨m, r, h1, h2, _⟩
      · have : 32 ∉ c :: l := by
          simp only [List.mem_cons, not_or]
          exact ⟨fun e => hc e.symm, h1⟩
        exact .inl ⟨this, cut_miss _ this⟩
      · have : 32 ∉ c :: m := by
          simp only [List.mem_cons, not_or]
          exact ⟨fun e => hc e.symm, h2⟩
        exact .inr ⟨c :: m, r, by rw [h1]; rfl, this, by rw [h1]; exact cut_hit (c :: m) r this⟩
theorem idx_hit : ∀ (m r : List UInt8), 32 ∉ m → Lib.indexByte (m ++ 32 :: r) 32 = m.length
  | [], r, _ => by simp [Lib.indexByte]
  | c :: m, r, h => by
    have hc : (c == 32) = false := by simp; exact fun e => h (by simp [e])
    have hm : 32 ∉ m := fun e => h (by simp [e])
    have := idx_hit m r hm
    simp only [List.cons_append, Lib.indexByte, hc, this]
    have h1 : ((m.length : Int) == -1) = false := by simp
    rw [h1]
    simp
theorem idx_miss : ∀ (l : List UInt8), 32 ∉ l → Lib.indexByte l 32 = -1
  | [], _ => rfl
  | c :: l, h => by
    have hc : (c == 32) = false := by simp; exact fun e => h (by simp [e])
    have hm : 32 ∉ l := fun e => h (by simp [e])
    simp [Lib.indexByte, hc, idx_miss l hm]

theorem putreq_some (n : Nat) (m t : List UInt8) : (putReqF n m t).isSome = true ↔ n ≤ 1 ∧ tokF m = true ∧ m.length ≤ 32 ∧ targF t = true ∧ m.length + t.length + 10 ≤ 512 := by
  unfold putReqF
  split
  · rename_i h
    simp only [Option.isSome_some, true_iff]
    exact ⟨by omega, h.2⟩
  · rename_i h
    simp only [Option.isSome_none, Bool.false_eq_true, false_iff]
    exact fun h' => h ⟨by omega, h'.2⟩
theorem putstat_some (n st : Nat) (r : List UInt8) : (putStatF n st r).isSome = true ↔ n ≤ 1 ∧ 100 ≤ st ∧ st ≤ 599 ∧ visF r = true ∧ r.length + 13 ≤ 512 := by
  unfold putStatF
  split
  · rename_i h
    simp only [Option.isSome_some, true_iff]
    exact ⟨by omega, by omega, by omega, h.2.2.2⟩
  · rename_i h
    simp only [Option.isSome_none, Bool.false_eq_true, false_iff]
    exact fun h' => h ⟨by omega, by omega, by omega, h'.2.2.2⟩
theorem vers_nil (n : Nat) : versL n ≠ [] := by unfold versL; simp
theorem vers_len (n : Nat) : (versL n).length = 8 := rfl
theorem req_len (m t : List UInt8) (n : Nat) : (reqL m t n).length = m.length + t.length + 10 := by
  unfold reqL
  simp [vers_len]
  omega

/-- A request's line by its parts. -/
def lineF (l : List UInt8) : Option (List UInt8 × List UInt8 × Nat) := match minorF (cutP (cutP l).2.1).2.1 with
  | some n => if (putReqF n (cutP l).1 (cutP (cutP l).2.1).1).isSome = true then some ((cutP l).1, (cutP (cutP l).2.1).1, n) else none
  | none => none
theorem req_line (l : List UInt8) : reqF l = lineF l := by
  cases h : lineF l with
  | some x =>
    obtain ⟨m, t, n⟩ := x
    unfold lineF at h
    split at h
    · rename_i k hk
      split at h
      · rename_i hs
        simp only [Option.some.injEq, Prod.mk.injEq] at h
        obtain ⟨e1, e2, e3⟩ := h
        obtain ⟨hv, hk1⟩ := minor_some hk
        rw [e1, e2, e3] at hs
        obtain ⟨_, q1, q2, q3, q4⟩ := (putreq_some n m t).1 hs
        rcases cut_or (cutP l).2.1 with ⟨_, hc⟩ | ⟨t', v, hl2, _, hc⟩
        · rw [hc] at hv
          exact absurd hv.symm (vers_nil k)
        · rcases cut_or l with ⟨_, hd⟩ | ⟨m', r, hl1, _, hd⟩
          · rw [hd] at hl2
            exact absurd hl2 (by simp)
          · rw [hc] at hv e2
            rw [hd] at hl2 e1
            simp only at hv e2 hl2 e1
            subst e1 e2 e3
            have hl : l = reqL m' t' k := by rw [hl1, hl2, hv]; rfl
            exact (req_iff _ _ _ _).2 ⟨hl, q1, q2, q3, hk1, by rw [hl, req_len]; exact q4⟩
      · cases h
    · cases h
  | none =>
    cases hr : reqF l with
    | none => rfl
    | some x =>
      obtain ⟨m, t, n⟩ := x
      obtain ⟨hl, q1, q2, q3, q4, q5⟩ := (req_iff _ _ _ _).1 hr
      have c1 : cutP l = (m, t ++ 32 :: versL n, true) := by rw [hl]; exact cut_hit m _ (tok_blank q1)
      have c2 : cutP (t ++ 32 :: versL n) = (t, versL n, true) := cut_hit t _ (targ_blank q3)
      unfold lineF at h
      rw [c1] at h
      simp only at h
      rw [c2] at h
      simp only at h
      rw [minor_vers n q4] at h
      simp only at h
      rw [if_pos ((putreq_some n m t).2 ⟨q4, q1, q2, q3, by rw [hl, req_len] at q5; exact q5⟩)] at h
      cases h

/-- A status of three digits. -/
def readStF : List UInt8 → Option Nat
  | [a, b, c] => if digB a = true ∧ digB b = true ∧ digB c = true then some (statOf a b c) else none
  | _ => none
theorem readst_some {d : List UInt8} {st : Nat} (h : readStF d = some st) : d = digL st ∧ st ≤ 999 := by
  unfold readStF at h
  split at h
  · rename_i a b c
    split at h
    · rename_i hh
      injection h with h
      subst h
      obtain ⟨d1, d2, d3⟩ := hh
      have e1 := dig_back a d1
      have e2 := dig_back b d2
      have e3 := dig_back c d3
      have b1 : a.toNat - 48 ≤ 9 := by unfold digB at d1; simp only [Bool.and_eq_true, decide_eq_true_eq] at d1; omega
      have b2 : b.toNat - 48 ≤ 9 := by unfold digB at d2; simp only [Bool.and_eq_true, decide_eq_true_eq] at d2; omega
      have b3 : c.toNat - 48 ≤ 9 := by unfold digB at d3; simp only [Bool.and_eq_true, decide_eq_true_eq] at d3; omega
      have q1 : statOf a b c / 100 = a.toNat - 48 := by unfold statOf; omega
      have q2 : statOf a b c / 10 % 10 = b.toNat - 48 := by unfold statOf; omega
      have q3 : statOf a b c % 10 = c.toNat - 48 := by unfold statOf; omega
      refine ⟨?_, by unfold statOf; omega⟩
      unfold digL
      rw [q1, q2, q3, e1, e2, e3]
    · cases h
  · cases h
theorem readst_dig (st : Nat) (h : st ≤ 999) : readStF (digL st) = some st := by
  have e1 := dig_of (st / 100) (by omega)
  have e2 := dig_of (st / 10 % 10) (by omega)
  have e3 := dig_of (st % 10) (by omega)
  have hd : ∀ k, k ≤ 9 → digB (UInt8.ofNat (48 + k)) = true := fun k hk => by
    unfold digB
    rw [dig_of k hk]
    simp
    omega
  unfold digL readStF
  simp only
  rw [if_pos ⟨hd _ (by omega), hd _ (by omega), hd _ (by omega)⟩]
  unfold statOf
  rw [e1, e2, e3]
  congr 1
  omega
theorem dig_blank (st : Nat) (h : st ≤ 999) : (32 : UInt8) ∉ digL st := fun hm => by
  have e1 := dig_of (st / 100) (by omega)
  have e2 := dig_of (st / 10 % 10) (by omega)
  have e3 := dig_of (st % 10) (by omega)
  unfold digL at hm
  simp only [List.mem_cons, List.not_mem_nil, or_false] at hm
  rcases hm with h | h | h
  all_goals
    have := congrArg UInt8.toNat h
    rw [show (32 : UInt8).toNat = 32 from rfl] at this
    omega
/-- A response's line by its parts. -/
def tellF (l : List UInt8) : Option (Nat × Nat × List UInt8) := match minorF (cutP l).1 with
  | some n => if (cutP (cutP l).2.1).2.2 = true then match readStF (cutP (cutP l).2.1).1 with
    | some st => if (putStatF n st (cutP (cutP l).2.1).2.1).isSome = true then some (n, st, (cutP (cutP l).2.1).2.1) else none
    | none => none
    else none
  | none => none
theorem stat_len (n st : Nat) (r : List UInt8) : (statL n st r).length = r.length + 13 := by
  unfold statL digL
  simp [vers_len]
  omega
theorem stat_line (l : List UInt8) : statF l = tellF l := by
  cases h : tellF l with
  | some x =>
    obtain ⟨n, st, r⟩ := x
    unfold tellF at h
    split at h
    · rename_i k hk
      split at h
      · rename_i hp
        split at h
        · rename_i s hs
          split at h
          · rename_i hq
            simp only [Option.some.injEq, Prod.mk.injEq] at h
            obtain ⟨e1, e2, e3⟩ := h
            obtain ⟨hv, hk1⟩ := minor_some hk
            obtain ⟨hd, _⟩ := readst_some hs
            rw [e1, e2, e3] at hq
            obtain ⟨_, q1, q2, q3, q4⟩ := (putstat_some n st r).1 hq
            rcases cut_or (cutP l).2.1 with ⟨_, hc⟩ | ⟨d, w, hl2, _, hc⟩
            · rw [hc] at hp
              cases hp
            · rcases cut_or l with ⟨_, hd1⟩ | ⟨m', r', hl1, _, hd1⟩
              · rw [hd1] at hl2
                exact absurd hl2 (by simp)
              · rw [hc] at hd e3
                rw [hd1] at hl2 hv
                simp only at hd e3 hl2 hv
                subst e1 e2 e3
                have hl : l = statL k s w := by rw [hl1, hl2, hv, hd]; rfl
                exact (stat_iff _ _ _ _).2 ⟨hl, hk1, q1, q2, q3, by rw [hl, stat_len]; exact q4⟩
          · cases h
        · cases h
      · cases h
    · cases h
  | none =>
    cases hr : statF l with
    | none => rfl
    | some x =>
      obtain ⟨n, st, r⟩ := x
      obtain ⟨hl, q1, q2, q3, q4, q5⟩ := (stat_iff _ _ _ _).1 hr
      have c1 : cutP l = (versL n, digL st ++ 32 :: r, true) := by rw [hl]; exact cut_hit _ _ (vers_blank n)
      have c2 : cutP (digL st ++ 32 :: r) = (digL st, r, true) := cut_hit _ _ (dig_blank st (by omega))
      unfold tellF at h
      rw [c1] at h
      simp only at h
      rw [c2] at h
      simp only at h
      rw [minor_vers n q1] at h
      simp only [if_pos] at h
      rw [readst_dig st (by omega)] at h
      simp only at h
      rw [if_pos ((putstat_some n st r).2 ⟨q1, q2, q3, q4, by rw [hl, stat_len] at q5; exact q5⟩)] at h
      cases h

/-- Atoi's answer at three digits; Itoa's at a status, at a minor. -/
theorem atoi_st {d : List UInt8} {st : Nat} (h : readStF d = some st) : Lib.atoi d = some (st : Int) := by
  unfold readStF at h
  split at h
  · rename_i a b c
    split at h
    · rename_i hh
      injection h with h
      subst h
      obtain ⟨d1, d2, d3⟩ := hh
      unfold digB at d1 d2 d3
      simp only [Bool.and_eq_true, decide_eq_true_eq] at d1 d2 d3
      have h45 : (a == 45) = false := by
        simp only [beq_eq_false_iff_ne, ne_eq]
        rintro rfl
        exact absurd d1.1 (by decide)
      have h43 : (a == 43) = false := by
        simp only [beq_eq_false_iff_ne, ne_eq]
        rintro rfl
        exact absurd d1.1 (by decide)
      unfold Lib.atoi
      simp only [h45, h43, Bool.false_eq_true, if_false]
      simp only [Lib.decNat, List.isEmpty_cons, Bool.false_eq_true, if_false, Lib.decFrom, Lib.digitVal, if_pos d1, if_pos d2, if_pos d3, Option.map_some]
      unfold statOf
      congr 2
      omega
    · cases h
  · cases h
theorem dec_one (k : Nat) (h : k < 10) : Lib.decDigits k = [UInt8.ofNat (48 + k)] := by rw [Lib.decDigits, dif_pos h]
theorem itoa_st (st : Nat) (h1 : 100 ≤ st) (h2 : st ≤ 599) : Lib.itoa (st : Int) = digL st := by
  unfold Lib.itoa
  rw [if_neg (by omega), Int.toNat_natCast, Lib.decDigits, dif_neg (by omega), Lib.decDigits, dif_neg (by omega), dec_one _ (by omega)]
  unfold digL
  rw [show st / 10 / 10 = st / 100 by omega]
  rfl
theorem itoa_01 (n : Nat) (h : n ≤ 1) : ([72, 84, 84, 80, 47, 49, 46] : List UInt8) ++ Lib.itoa (n : Int) = versL n := by
  unfold Lib.itoa
  rw [if_neg (by omega), Int.toNat_natCast, dec_one _ (by omega)]
  rcases (show n = 0 ∨ n = 1 by omega) with rfl | rfl <;> rfl
end Go.Proofs.YtemgfppclakdmaaGreatDoor.Sta
