/-
  The law DateDays: walk.
  Conditions: the tables and the variable that are read hold what their texts lay.
-/
import Derived.Test.YtcnfobjmddncgaaDoorDQ
namespace Go.Proofs.YtcnfobjmddncgaaDoor
open Go.RowKit

theorem text_mom (x : Int) (n : Nat) (hx : x = n) (hn : n ≤ LastN) (t : ByteArray) (ht : momS n = t) (w : World) (hw : DTabs w) (X : World) (hX : Below w.heap.size w X) :
    Calls Tryd.prog 8 #[.int .u64 x] X (SinceV (.tuple #[.string t, .int .i64 0]) w) :=
  (text_at x n hx t 0 (by rw [show textF n = (momF n, 0) from if_pos hn]; exact ⟨ht, rfl⟩) X (hw.below hX)).mono fun _ _ h => ⟨h.1, hX.trans (h.2.mono hX.size)⟩

set_option maxHeartbeats 16000000 in
set_option maxRecDepth 100000 in
theorem days_law (n : Nat) (w : World) (ht : DTabs w) : Calls Tryd.prog 6 #[.int .u64 (n : Int)] w fun e w' => e = .returned (.bool true) ∧ Below w.heap.size w w' := by
  obtain ⟨v, hv⟩ : ∃ v, v = n % 253401696000 := ⟨_, rfl⟩
  have e0 : (n : Int) % 253401696000 = (v : Int) := by omega
  have hvl : v < 253401696000 := by omega
  clear hv
  have HT := Lib.hid ht
  clear ht
  obtain ⟨A, hA⟩ : ∃ A, momS v = A := ⟨_, rfl⟩
  obtain ⟨B, hB⟩ : ∃ B, momS (v + 86400) = B := ⟨_, rfl⟩
  obtain ⟨C, hC⟩ : ∃ C, momS (v + 604800) = C := ⟨_, rfl⟩
  have C1 := Lib.hid (fun X hX => text_mom (v : Int) v rfl (by unfold LastN; omega) A hA w HT.out X hX)
  have C2 := Lib.hid (fun X hX => text_mom ((v : Int) + 86400) (v + 86400) (by omega) (by unfold LastN; omega) B hB w HT.out X hX)
  have C3 := Lib.hid (fun X hX => text_mom ((v : Int) + 604800) (v + 604800) (by omega) (by unfold LastN; omega) C hC w HT.out X hX)
  have sA : A.size = 29 := by rw [← hA, momS_size]
  have sB : B.size = 29 := by rw [← hB, momS_size]
  have sC : C.size = 29 := by rw [← hC, momS_size]
  obtain ⟨d, hd⟩ : ∃ d, d = v / 86400 := ⟨_, rfl⟩
  have hd1 : (v + 86400) / 86400 = d + 1 := by omega
  have hd7 : (v + 604800) / 86400 = d + 7 := by omega
  have hc1 : (v + 86400) % 86400 = v % 86400 := by omega
  have hc7 : (v + 604800) % 86400 = v % 86400 := by omega
  obtain ⟨K, hK⟩ : ∃ K, K = (d + 3) % 7 := ⟨_, rfl⟩
  obtain ⟨x0, hx0⟩ : ∃ x0 : ByteArray, x0 = ⟨(wdN ((K + 4) % 7)).toArray⟩ := ⟨_, rfl⟩
  obtain ⟨x1, hx1⟩ : ∃ x1 : ByteArray, x1 = ⟨(wdN ((K + 5) % 7)).toArray⟩ := ⟨_, rfl⟩
  have hA03 : A.extract 0 3 = x0 := by rw [← hA, ext_03, hx0, ← hd, show (K + 4) % 7 = d % 7 by omega]
  have hB03 : B.extract 0 3 = x1 := by rw [← hB, ext_03, hx1, hd1, show (K + 5) % 7 = (d + 1) % 7 by omega]
  have hC03 : C.extract 0 3 = x0 := by rw [← hC, ext_03, hx0, hd7, show (K + 4) % 7 = (d + 7) % 7 by omega]
  obtain ⟨y, hy⟩ : ∃ y : ByteArray, y = ⟨([32] ++ (clockF (v % 86400) ++ [32, 71, 77, 84])).toArray⟩ := ⟨_, rfl⟩
  have hA16 : A.extract 16 29 = y := by rw [← hA, ext_1629, hy]
  have hB16 : B.extract 16 29 = y := by rw [← hB, ext_1629, hc1, hy]
  have hC16 : C.extract 16 29 = y := by rw [← hC, ext_1629, hc7, hy]
  have hK7 : K < 7 := by omega
  obtain ⟨day, hday⟩ : ∃ day, day = (monthAt d).2 + 1 := ⟨_, rfl⟩
  obtain ⟨nxt, hnxt⟩ : ∃ nxt, nxt = (monthAt (d + 1)).2 + 1 := ⟨_, rfl⟩
  have hA56 := mom_56 v (by rw [momS_size]; omega) (by rw [momS_size]; omega)
  have hB56 := mom_56 (v + 86400) (by rw [momS_size]; omega) (by rw [momS_size]; omega)
  rw [← hd, ← hday] at hA56
  rw [hd1, ← hnxt] at hB56
  simp only [hA] at hA56
  simp only [hB] at hB56
  obtain ⟨a5, ha5⟩ : ∃ a5, a5 = day / 10 % 10 := ⟨_, rfl⟩
  obtain ⟨a6, ha6⟩ : ∃ a6, a6 = day % 10 := ⟨_, rfl⟩
  obtain ⟨b5, hb5⟩ : ∃ b5, b5 = nxt / 10 % 10 := ⟨_, rfl⟩
  obtain ⟨b6, hb6⟩ : ∃ b6, b6 = nxt % 10 := ⟨_, rfl⟩
  rw [← ha5, ← ha6] at hA56
  rw [← hb5, ← hb6] at hB56
  have g1 : ((A[5]'(by rw [sA]; decide)).toNat : Int) = 48 + (a5 : Int) := by have := hA56.1; omega
  have g2 : ((A[6]'(by rw [sA]; decide)).toNat : Int) = 48 + (a6 : Int) := by have := hA56.2; omega
  have g3 : ((B[5]'(by rw [sB]; decide)).toNat : Int) = 48 + (b5 : Int) := by have := hB56.1; omega
  have g4 : ((B[6]'(by rw [sB]; decide)).toNat : Int) = 48 + (b6 : Int) := by have := hB56.2; omega
  have n1 : a5 < 10 := by omega
  have n2 : a6 < 10 := by omega
  have n3 : b5 < 10 := by omega
  have n4 : b6 < 10 := by omega
  have HDAY := Lib.hid hday
  have HNXT := Lib.hid hnxt
  have HQ5 := Lib.hid ha5
  have HQ6 := Lib.hid ha6
  have HQ7 := Lib.hid hb5
  have HQ8 := Lib.hid hb6
  clear hA56 hB56 hday hnxt ha5 ha6 hb5 hb6
  have HX0 := Lib.hid hx0
  have HX1 := Lib.hid hx1
  have HA := Lib.hid hA
  have HB := Lib.hid hB
  have HD := Lib.hid hd
  have HD1 := Lib.hid hd1
  clear hx0 hx1 hA hB hC hd hd1 hd7 hc1 hc7 hy hK
  go_enter Tryd.func6, Tryd.ntmps6
  go_wp2_with fail
  refine (C1.out _ (Below.refl _ _)).mono ?_
  rintro e w1 ⟨rfl, b1⟩
  have B1 := Lib.hid b1
  clear b1
  go_wp2_with fail
  refine (C2.out _ B1.out).mono ?_
  rintro e w2 ⟨rfl, b2⟩
  have B2 := Lib.hid b2
  clear b2 B1
  go_wp2_with fail
  refine (C3.out _ B2.out).mono ?_
  rintro e w3 ⟨rfl, b3⟩
  have B3 := Lib.hid b3
  clear b3 B2
  go_wp2_with fail
  generalize hwk : (⟨#[77, 111, 110, 84, 117, 101, 87, 101, 100, 84, 104, 117, 70, 114, 105, 83, 97, 116, 83, 117, 110, 77, 111, 110]⟩ : ByteArray) = wk
  have HWK := Lib.hid wk_ext
  have hws : wk.size = 24 := by rw [← hwk]; rfl
  rw [hwk] at HWK
  clear hwk
  go_loopw [10] (fun vi wr => ∃ k : Nat, vi = .int .i64 (k : Int) ∧ (∃ j, k = 3 * j) ∧ k ≤ 3 * K ∧ Hid (Below w.heap.size w wr)) (fun vi _ => 24 - (intOf vi).toNat)
  case atStart => exact ⟨0, rfl, ⟨0, rfl⟩, by omega, B3⟩
  case round =>
    obtain ⟨k, rfl, ⟨j, hj⟩, hk, BW⟩ := hrel
    have hz := HWK.out j (by omega)
    rw [← hj] at hz
    obtain ⟨z, hzz⟩ : ∃ z : ByteArray, z = ⟨(wdN ((j + 4) % 7)).toArray⟩ := ⟨_, rfl⟩
    rw [← hzz] at hz
    have wr1 : IntKind.i64.wrap ((k : Int) + 3) = (k : Int) + 3 := by rw [IntKind.wrap_i64]; omega
    by_cases hjk : j = K
    · have hzx : z = x0 := by rw [hzz, HX0.out, hjk]
      have HJK := Lib.hid (show k = 3 * K ∧ j = K by omega)
      clear hzz hjk hj
      subst hzx
      go_wp2_with fail
      go_quiet (fail)
      have hz2 : wk.extract (k + 3) (k + 6) = x1 := by
        obtain ⟨h1, h2⟩ := HJK.out
        have hz2 := HWK.out (K + 1) (by omega)
        rw [show 3 * (K + 1) = k + 3 by omega, show K + 1 + 4 = K + 5 by omega, ← HX1.out] at hz2
        exact hz2
      have hk18 : (k : Int) ≤ 18 := by
        obtain ⟨h1, h2⟩ := HJK.out
        omega
      have wr2 : IntKind.i64.wrap ((k : Int) + 6) = (k : Int) + 6 := by rw [IntKind.wrap_i64]; omega
      have BQ : Hid (Below w.heap.size w (wr.drewN nq)) := Lib.hid (below_drewN BW.out nq)
      generalize wr.drewN nq = wq at *
      have s1 : (48 : Int) + (a5 : Int) - 48 = (a5 : Int) := by omega
      have s2 : (48 : Int) + (a6 : Int) - 48 = (a6 : Int) := by omega
      have s3 : (48 : Int) + (b5 : Int) - 48 = (b5 : Int) := by omega
      have s4 : (48 : Int) + (b6 : Int) - 48 = (b6 : Int) := by omega
      have hd31 : day ≤ 31 ∧ nxt ≤ 31 := by
        have h1 := (month_within d).1.2
        have h2 := ml_le (1970 + (yearAt d).1) (monthAt d).1
        have h3 := (month_within (d + 1)).1.2
        have h4 := ml_le (1970 + (yearAt (d + 1)).1) (monthAt (d + 1)).1
        have h5 := HDAY.out
        have h6 := HNXT.out
        omega
      have s5 : 10 * (a5 : Int) + (a6 : Int) = (day : Int) := by
        have h1 := HQ5.out
        have h2 := HQ6.out
        omega
      have s6 : 10 * (b5 : Int) + (b6 : Int) = (nxt : Int) := by
        have h1 := HQ7.out
        have h2 := HQ8.out
        omega
      go_wp2_with fail
      go_quiet (fail)
      have BQ2 : Hid (Below w.heap.size w (wq.drewN nq)) := Lib.hid (below_drewN BQ.out nq)
      generalize wq.drewN nq = wq2 at *
      go_wp2_with fail
      go_quiet (fail)
      have BQ3 : Hid (Below w.heap.size w (wq2.drewN nq)) := Lib.hid (below_drewN BQ2.out nq)
      generalize wq2.drewN nq = wq3 at *
      go_wp2_with fail
      go_quiet (fail)
      have BZ : Hid (Below w.heap.size w (wq3.drewN nq)) := Lib.hid (below_drewN BQ3.out nq)
      generalize wq3.drewN nq = wq4 at *
      clear BQ BQ2 BQ3 BW B3 hz hz2
      rcases month_next d with ⟨hc1, hya, hma⟩ | ⟨hc1, hM, hya, hma⟩ | ⟨hc1, hM11, hya, hma⟩
      · have hnb : ((nxt : Int) == (day : Int) + 1) = true := by
          have h1 := HDAY.out
          have h2 := HNXT.out
          rw [hma] at h2
          simp only at h2
          rw [beq_iff_eq]
          omega
        obtain ⟨u, hue⟩ : ∃ u : ByteArray, u = ⟨(mnN (monthAt d).1 ++ ([32] ++ fixF 4 (1970 + (yearAt d).1))).toArray⟩ := ⟨_, rfl⟩
        have hu1 : A.extract 8 16 = u := by rw [← HA.out, ext_816, ← HD.out, hue]
        have hu2 : B.extract 8 16 = u := by rw [← HB.out, ext_816, HD1.out, hma, hya, hue]
        have BD5 : Hid (Below w.heap.size w wq4.drew) := Lib.hid (below_drewN BZ.out 1)
        have CW := Lib.hid (wakes_any wq4.drew (HT.out.below BD5.out))
        clear hc1 hya hma hue
        go_wp2_with fail
        go_region_held3 (fun _ => True) (trivial)
          (first
            | (go_at_call 10; (with_reducible refine CW.out.mono ?_); rintro e v5 ⟨rfl, b5'⟩; have B5 := Lib.hid (BD5.out.trans (b5'.mono BD5.out.size)); clear b5'))
        all_goals
          go_wp2_with fail
          go_ret
          exact ⟨rfl, B5.out⟩
      · have h28 := ml_28 (1970 + (yearAt d).1) (monthAt d).1 (by have := (month_within d).2; omega)
        have hn1 : nxt = 1 ∧ 28 ≤ day := by
          have h1 := HDAY.out
          have h2 := HNXT.out
          rw [hma] at h2
          simp only at h2
          omega
        have hnb : ((nxt : Int) == (day : Int) + 1) = false := beq_false_of_ne (by omega)
        have hn2 : ((nxt : Int) == 1) = true := beq_iff_eq.2 (by omega)
        have hn3 : (28 : Int) ≤ (day : Int) := by omega
        have hYl := year_last d (by have := HD.out; omega)
        have hYl1 := year_last (d + 1) (by have := HD.out; omega)
        rw [hya] at hYl1
        obtain ⟨M, hMe⟩ : ∃ M, M = (monthAt d).1 := ⟨_, rfl⟩
        obtain ⟨Yd, hYe⟩ : ∃ Yd, Yd = (yearAt d).1 := ⟨_, rfl⟩
        obtain ⟨p0, hp0e⟩ : ∃ p0 : ByteArray, p0 = ⟨(mnN M).toArray⟩ := ⟨_, rfl⟩
        obtain ⟨p1, hp1e⟩ : ∃ p1 : ByteArray, p1 = ⟨(mn13 (M + 1)).toArray⟩ := ⟨_, rfl⟩
        obtain ⟨r0, hr0e⟩ : ∃ r0 : ByteArray, r0 = ⟨(fixF 4 (1970 + Yd)).toArray⟩ := ⟨_, rfl⟩
        have hp0 : A.extract 8 11 = p0 := by rw [← HA.out, ext_811, ← HD.out, hp0e, hMe]
        have hr0 : A.extract 12 16 = r0 := by rw [← HA.out, ext_1216, ← HD.out, hr0e, hYe]
        have hM12 : M < 12 := by rw [hMe]; have := (month_within d).2; omega
        rw [← hMe] at hM hma
        rw [← hYe] at hya hYl hYl1
        clear hMe hYe hc1 h28 hn1
        have hp1 : B.extract 8 11 = p1 := by rw [← HB.out, ext_811, HD1.out, hma, hp1e, mn13, if_neg (by omega)]
        have hr1 : B.extract 12 16 = r0 := by rw [← HB.out, ext_1216, HD1.out, hya, hr0e]
        have hdec : (p0.toList == [68, 101, 99]) = false := by
          refine beq_false_of_ne fun h => ?_
          rw [Lib.toList_data] at h
          have h2 : mnN M = [68, 101, 99] := by
            have h3 : bl p0 = mnN M := by rw [hp0e, bl_mk]
            exact h3.symm.trans h
          have := mnN_inj M 11 (by omega) (by omega) h2
          omega
        have HP0 := Lib.hid hp0e
        have HP1 := Lib.hid hp1e
        clear hp0e hp1e hr0e hma hya hM
        go_wp2_with fail
        generalize hmo : (⟨#[74, 97, 110, 70, 101, 98, 77, 97, 114, 65, 112, 114, 77, 97, 121, 74, 117, 110, 74, 117, 108, 65, 117, 103, 83, 101, 112, 79, 99, 116, 78, 111, 118, 68, 101, 99, 74, 97, 110]⟩ : ByteArray) = mo
        have HMO := Lib.hid mo_ext
        have hmos : mo.size = 39 := by rw [← hmo]; rfl
        unfold monthsS at HMO
        rw [hmo] at HMO
        clear hmo
        go_loopw [14] (fun vi wr => ∃ i : Nat, vi = .int .i64 (i : Int) ∧ (∃ c, i = 3 * c) ∧ i ≤ 3 * M ∧ Hid (Below w.heap.size w wr)) (fun vi _ => 39 - (intOf vi).toNat)
        case atStart => exact ⟨0, rfl, ⟨0, rfl⟩, by omega, BZ⟩
        case round =>
          obtain ⟨i, rfl, ⟨c, hic⟩, hi, BV⟩ := hrel
          have hzm := HMO.out c (by omega)
          rw [← hic] at hzm
          obtain ⟨zz, hzz⟩ : ∃ zz : ByteArray, zz = ⟨(mn13 c).toArray⟩ := ⟨_, rfl⟩
          rw [← hzz] at hzm
          have wr3 : IntKind.i64.wrap ((i : Int) + 3) = (i : Int) + 3 := by rw [IntKind.wrap_i64]; omega
          by_cases hcM : c = M
          · have hzx : zz = p0 := by rw [hzz, HP0.out, hcM, mn13, if_neg (by omega)]
            have HIM := Lib.hid (show i = 3 * M by omega)
            clear hzz hcM hic
            subst hzx
            go_wp2_with fail
            go_quiet (fail)
            have hzm2 : mo.extract ((i : Int) + 3).toNat ((i : Int) + 6).toNat = p1 := by
              rw [show ((i : Int) + 3).toNat = i + 3 by omega, show ((i : Int) + 6).toNat = i + 6 by omega]
              have h1 := HMO.out (M + 1) (by omega)
              have h2 := HIM.out
              rw [show 3 * (M + 1) = i + 3 by omega, ← HP1.out] at h1
              exact h1
            have hi33 : (i : Int) ≤ 33 := by
              have h2 := HIM.out
              omega
            have wr4 : IntKind.i64.wrap ((i : Int) + 6) = (i : Int) + 6 := by rw [IntKind.wrap_i64]; omega
            have j1 : (0 : Int) ≤ (i : Int) + 3 := by omega
            have j2 : (i : Int) + 3 ≤ (i : Int) + 6 := by omega
            have j3 : (i : Int) + 6 ≤ 39 := by omega
            have BQ2 : Hid (Below w.heap.size w (wr.drewN nq)) := Lib.hid (below_drewN BV.out nq)
            generalize wr.drewN nq = wq5 at *
            have BD5 : Hid (Below w.heap.size w wq5.drew) := Lib.hid (below_drewN BQ2.out 1)
            have CW := Lib.hid (wakes_any wq5.drew (HT.out.below BD5.out))
            go_wp2_with fail
            go_region_held3 (fun _ => True) (trivial)
              (first
                | (go_at_call 10; (with_reducible refine CW.out.mono ?_); rintro e v5 ⟨rfl, b5'⟩; have B5 := Lib.hid (BD5.out.trans (b5'.mono BD5.out.size)); clear b5'))
            all_goals
              go_wp2_with fail
              go_ret
              exact ⟨rfl, B5.out⟩
          · have hcl : c < M := by omega
            have hzx : ¬ zz = p0 := by
              rw [hzz, HP0.out, mn13, if_neg (by omega)]
              intro h
              have h2 := congrArg bl h
              rw [bl_mk, bl_mk] at h2
              exact hcM (mnN_inj _ _ (by omega) (by omega) h2)
            have hzb := beq_no hzx
            have hk33 : ¬ (33 : Int) < (i : Int) + 3 := by omega
            have HJ := Lib.hid hic
            clear hzx hcM hzz hic
            go_wp2_with fail
            go_quiet (fail)
            go_wp2_with fail
            go_roundw
            case rel => exact ⟨i + 3, by go_num, ⟨c + 1, by have := HJ.out; omega⟩, by have := HJ.out; omega, Lib.hid (below_drewN BV.out _)⟩
            case measure => simp [intOf]; omega
      · have h28 := ml_28 (1970 + (yearAt d).1) (monthAt d).1 (by have := (month_within d).2; omega)
        have hn1 : nxt = 1 ∧ 28 ≤ day := by
          have h1 := HDAY.out
          have h2 := HNXT.out
          rw [hma] at h2
          simp only at h2
          omega
        have hnb : ((nxt : Int) == (day : Int) + 1) = false := beq_false_of_ne (by omega)
        have hn2 : ((nxt : Int) == 1) = true := beq_iff_eq.2 (by omega)
        have hn3 : (28 : Int) ≤ (day : Int) := by omega
        have hYl := year_last d (by have := HD.out; omega)
        have hYl1 := year_last (d + 1) (by have := HD.out; omega)
        rw [hya] at hYl1
        obtain ⟨M, hMe⟩ : ∃ M, M = (monthAt d).1 := ⟨_, rfl⟩
        obtain ⟨Yd, hYe⟩ : ∃ Yd, Yd = (yearAt d).1 := ⟨_, rfl⟩
        obtain ⟨p0, hp0e⟩ : ∃ p0 : ByteArray, p0 = ⟨(mnN M).toArray⟩ := ⟨_, rfl⟩
        obtain ⟨p1, hp1e⟩ : ∃ p1 : ByteArray, p1 = ⟨(mn13 (M + 1)).toArray⟩ := ⟨_, rfl⟩
        obtain ⟨r0, hr0e⟩ : ∃ r0 : ByteArray, r0 = ⟨(fixF 4 (1970 + Yd)).toArray⟩ := ⟨_, rfl⟩
        have hp0 : A.extract 8 11 = p0 := by rw [← HA.out, ext_811, ← HD.out, hp0e, hMe]
        have hr0 : A.extract 12 16 = r0 := by rw [← HA.out, ext_1216, ← HD.out, hr0e, hYe]
        have hM12 : M < 12 := by rw [hMe]; have := (month_within d).2; omega
        rw [← hMe] at hM11
        rw [← hYe] at hya hYl hYl1
        clear hMe hYe hc1 h28 hn1
        have hp1 : B.extract 8 11 = p1 := by rw [← HB.out, ext_811, HD1.out, hma, hp1e, hM11]; rfl
        obtain ⟨r1, hr1e⟩ : ∃ r1 : ByteArray, r1 = ⟨(fixF 4 (1970 + (Yd + 1))).toArray⟩ := ⟨_, rfl⟩
        have hr1 : B.extract 12 16 = r1 := by rw [← HB.out, ext_1216, HD1.out, hya, hr1e]
        have hrb : (r0.toList == r1.toList) = false := by
          refine beq_no fun h => ?_
          rw [hr0e, hr1e] at h
          have h2 := congrArg bl h
          rw [bl_mk, bl_mk] at h2
          have h3 := congrArg (valF 10) h2
          rw [fixF_val 4 _ (by omega), fixF_val 4 _ (by omega)] at h3
          omega
        have hdec : (p0.toList == [68, 101, 99]) = true := by
          rw [Lib.toList_data]
          have h3 : bl p0 = mnN M := by rw [hp0e, bl_mk]
          show (bl p0 == [68, 101, 99]) = true
          rw [h3, hM11]
          rfl
        have HP0 := Lib.hid hp0e
        have HP1 := Lib.hid hp1e
        clear hp0e hp1e hr0e hr1e hma hya hM11
        go_wp2_with fail
        generalize hmo : (⟨#[74, 97, 110, 70, 101, 98, 77, 97, 114, 65, 112, 114, 77, 97, 121, 74, 117, 110, 74, 117, 108, 65, 117, 103, 83, 101, 112, 79, 99, 116, 78, 111, 118, 68, 101, 99, 74, 97, 110]⟩ : ByteArray) = mo
        have HMO := Lib.hid mo_ext
        have hmos : mo.size = 39 := by rw [← hmo]; rfl
        unfold monthsS at HMO
        rw [hmo] at HMO
        clear hmo
        go_loopw [14] (fun vi wr => ∃ i : Nat, vi = .int .i64 (i : Int) ∧ (∃ c, i = 3 * c) ∧ i ≤ 3 * M ∧ Hid (Below w.heap.size w wr)) (fun vi _ => 39 - (intOf vi).toNat)
        case atStart => exact ⟨0, rfl, ⟨0, rfl⟩, by omega, BZ⟩
        case round =>
          obtain ⟨i, rfl, ⟨c, hic⟩, hi, BV⟩ := hrel
          have hzm := HMO.out c (by omega)
          rw [← hic] at hzm
          obtain ⟨zz, hzz⟩ : ∃ zz : ByteArray, zz = ⟨(mn13 c).toArray⟩ := ⟨_, rfl⟩
          rw [← hzz] at hzm
          have wr3 : IntKind.i64.wrap ((i : Int) + 3) = (i : Int) + 3 := by rw [IntKind.wrap_i64]; omega
          by_cases hcM : c = M
          · have hzx : zz = p0 := by rw [hzz, HP0.out, hcM, mn13, if_neg (by omega)]
            have HIM := Lib.hid (show i = 3 * M by omega)
            clear hzz hcM hic
            subst hzx
            go_wp2_with fail
            go_quiet (fail)
            have hzm2 : mo.extract ((i : Int) + 3).toNat ((i : Int) + 6).toNat = p1 := by
              rw [show ((i : Int) + 3).toNat = i + 3 by omega, show ((i : Int) + 6).toNat = i + 6 by omega]
              have h1 := HMO.out (M + 1) (by omega)
              have h2 := HIM.out
              rw [show 3 * (M + 1) = i + 3 by omega, ← HP1.out] at h1
              exact h1
            have hi33 : (i : Int) ≤ 33 := by
              have h2 := HIM.out
              omega
            have wr4 : IntKind.i64.wrap ((i : Int) + 6) = (i : Int) + 6 := by rw [IntKind.wrap_i64]; omega
            have j1 : (0 : Int) ≤ (i : Int) + 3 := by omega
            have j2 : (i : Int) + 3 ≤ (i : Int) + 6 := by omega
            have j3 : (i : Int) + 6 ≤ 39 := by omega
            have BQ2 : Hid (Below w.heap.size w (wr.drewN nq)) := Lib.hid (below_drewN BV.out nq)
            generalize wr.drewN nq = wq5 at *
            have BD5 : Hid (Below w.heap.size w wq5.drew) := Lib.hid (below_drewN BQ2.out 1)
            have CW := Lib.hid (wakes_any wq5.drew (HT.out.below BD5.out))
            go_wp2_with fail
            go_region_held3 (fun _ => True) (trivial)
              (first
                | (go_at_call 10; (with_reducible refine CW.out.mono ?_); rintro e v5 ⟨rfl, b5'⟩; have B5 := Lib.hid (BD5.out.trans (b5'.mono BD5.out.size)); clear b5'))
            all_goals
              go_wp2_with fail
              go_ret
              exact ⟨rfl, B5.out⟩
          · have hcl : c < M := by omega
            have hzx : ¬ zz = p0 := by
              rw [hzz, HP0.out, mn13, if_neg (by omega)]
              intro h
              have h2 := congrArg bl h
              rw [bl_mk, bl_mk] at h2
              exact hcM (mnN_inj _ _ (by omega) (by omega) h2)
            have hzb := beq_no hzx
            have hk33 : ¬ (33 : Int) < (i : Int) + 3 := by omega
            have HJ := Lib.hid hic
            clear hzx hcM hzz hic
            go_wp2_with fail
            go_quiet (fail)
            go_wp2_with fail
            go_roundw
            case rel => exact ⟨i + 3, by go_num, ⟨c + 1, by have := HJ.out; omega⟩, by have := HJ.out; omega, Lib.hid (below_drewN BV.out _)⟩
            case measure => simp [intOf]; omega
    · have hjl : j < K := by omega
      have hzx : ¬ z = x0 := by
        rw [hzz, HX0.out]
        intro h
        have h2 := congrArg bl h
        rw [bl_mk, bl_mk] at h2
        have h3 := wdN_inj _ _ (by omega) (by omega) h2
        omega
      have hzb := beq_no hzx
      have hk18 : ¬ (18 : Int) < (k : Int) + 3 := by omega
      have HJ := Lib.hid hj
      clear hzx hjk hzz hj
      go_wp2_with fail
      go_quiet (fail)
      go_wp2_with fail
      go_roundw
      case rel => exact ⟨k + 3, by go_num, ⟨j + 1, by have := HJ.out; omega⟩, by have := HJ.out; omega, Lib.hid (below_drewN BW.out _)⟩
      case measure => simp [intOf]; omega
end Go.Proofs.YtcnfobjmddncgaaDoor
