/-
  What the reference's Parse answers where the signs between the parts are right.
  Conditions: those that each theorem names.
-/
import Derived.Test.YtdcbcjljmjnopaaGreatDoorDV
namespace Go.Proofs.YtdcbcjljmjnopaaGreatDoor
open Go.RowKit

set_option maxHeartbeats 16000000 in
set_option maxRecDepth 100000 in
theorem rparse_sep (s : ByteArray) (hs : s.size = 29) (hsep : sepP s) (w : World) : Calls Tryz.prog 35 #[.string s] w (ParseTold (parseF s) w) := by
  have HSEP := Lib.hid hsep
  obtain ⟨_, f1, f2, f3, f4, f5, f6, f7⟩ := hsep
  have HNO := Lib.hid (no_ok s)
  have HOK := Lib.hid (ok_parse s)
  obtain ⟨u, hu⟩ : ∃ u, s.extract 8 11 = u := ⟨_, rfl⟩
  obtain ⟨u3, hu3⟩ : ∃ u3, s.extract 0 3 = u3 := ⟨_, rfl⟩
  have HP := Lib.hid (show piece s 8 11 = bl u by rw [← bl_ext, hu])
  have HP3 := Lib.hid (show piece s 0 3 = bl u3 by rw [← bl_ext, hu3])
  have C5 := Lib.hid (fun X : World => rdigits_at s 5 2 5 2 rfl rfl (by omega) (by omega) (by omega) X)
  have C12 := Lib.hid (fun X : World => rdigits_at s 12 4 12 4 rfl rfl (by omega) (by omega) (by omega) X)
  have C17 := Lib.hid (fun X : World => rdigits_at s 17 2 17 2 rfl rfl (by omega) (by omega) (by omega) X)
  have C20 := Lib.hid (fun X : World => rdigits_at s 20 2 20 2 rfl rfl (by omega) (by omega) (by omega) X)
  have C23 := Lib.hid (fun X : World => rdigits_at s 23 2 23 2 rfl rfl (by omega) (by omega) (by omega) X)
  simp only [Nat.reduceAdd] at C5 C12 C17 C20 C23
  have r1 := rdigF_lo (piece s 5 7) 2 (piece_len s 5 7)
  have r2 := rdigF_lo (piece s 12 16) 4 (piece_len s 12 16)
  have r3 := rdigF_lo (piece s 17 19) 2 (piece_len s 17 19)
  have r4 := rdigF_lo (piece s 20 22) 2 (piece_len s 20 22)
  have r5 := rdigF_lo (piece s 23 25) 2 (piece_len s 23 25)
  have r6 := lastF_lo (piece s 8 11) 12
  simp only [Int.reducePow] at r1 r2 r3 r4 r5
  obtain ⟨D, hD⟩ : ∃ D, rdigF (piece s 5 7) = D := ⟨_, rfl⟩
  obtain ⟨Y, hY⟩ : ∃ Y, rdigF (piece s 12 16) = Y := ⟨_, rfl⟩
  obtain ⟨H, hH⟩ : ∃ H, rdigF (piece s 17 19) = H := ⟨_, rfl⟩
  obtain ⟨I, hI⟩ : ∃ I, rdigF (piece s 20 22) = I := ⟨_, rfl⟩
  obtain ⟨S, hS⟩ : ∃ S, rdigF (piece s 23 25) = S := ⟨_, rfl⟩
  obtain ⟨M, hM⟩ : ∃ M, lastF (piece s 8 11) 12 = M := ⟨_, rfl⟩
  rw [hD] at C5 r1
  rw [hY] at C12 r2
  rw [hH] at C17 r3
  rw [hI] at C20 r4
  rw [hS] at C23 r5
  rw [hM] at r6
  have HD := Lib.hid hD
  have HY := Lib.hid hY
  have HH := Lib.hid hH
  have HI := Lib.hid hI
  have HS := Lib.hid hS
  have HM := Lib.hid hM
  clear hD hY hH hI hS hM
  have CN := Lib.hid (fun (k : Nat) (hk : k < 12) (X : World) (hX : Below w.heap.size w X) => since_toldD hX (rmonth k hk X))
  generalize parseF s = r at *
  go_enter Tryz.func35, Tryz.ntmps35
  go_wp2_with fail
  go_loopw [4, 5] (fun vm vi wr => ∃ k : Nat, ∃ z : Int, vm = .int .i64 z ∧ vi = .int .i64 (k : Int) ∧ k ≤ 12 ∧ Hid (lastF (piece s 8 11) k = z) ∧ Hid (Below w.heap.size w wr)) (fun _ vi _ => 12 - (intOf vi).toNat)
  case atStart => exact ⟨0, -1, rfl, rfl, Nat.zero_le _, Lib.hid rfl, Lib.hid (Below.refl _ _)⟩
  case round =>
    obtain ⟨k, z, rfl, rfl, hk, HZ, HB⟩ := hrel
    by_cases hlt : k < 12
    · have HSU := Lib.hid (show lastF (piece s 8 11) (k + 1) = if mnN k = piece s 8 11 then (k : Int) else lastF (piece s 8 11) k from rfl)
      rw [HZ.out, HP.out] at HSU
      have CK := Lib.hid (CN.out k hlt)
      obtain ⟨t, hT⟩ : ∃ t : ByteArray, t = ⟨(mnN k).toArray⟩ := ⟨_, rfl⟩
      have hTb : mnN k = bl t := by rw [hT, bl_mk]
      unfold Since at CK
      rw [← hT] at CK
      rw [hTb] at HSU
      clear hTb hT
      have BD : Hid (Below w.heap.size w wr.drew) := Lib.hid (below_drewN HB.out 1)
      by_cases hx : t = u
      · subst hx
        have HSV := Lib.hid (HSU.out.trans (if_pos rfl))
        clear HSU
        go_wp2_with fail
        go_region_held3 (fun _ => True) (trivial)
          (first
            | (go_at_call 54; (with_reducible refine (CK.out wr.drew BD.out).mono ?_); rintro e v5 ⟨rfl, b5⟩; have B5 := Lib.hid b5; clear b5))
        go_wp2_with fail
        go_roundw
        case rel => exact ⟨k + 1, (k : Int), by go_num, by go_num, hlt, Lib.hid (by rw [HP.out]; exact HSV.out), B5⟩
        case measure => simp [intOf]; omega
      · have hx2 := beq_no hx
        have HSV := Lib.hid (HSU.out.trans (if_neg (fun h => hx (by rw [← mk_bl t, ← mk_bl u, h]))))
        clear HSU
        go_wp2_with fail
        go_region_held3 (fun _ => True) (trivial)
          (first
            | (go_at_call 54; (with_reducible refine (CK.out wr.drew BD.out).mono ?_); rintro e v5 ⟨rfl, b5⟩; have B5 := Lib.hid b5; clear b5))
        go_wp2_with fail
        go_roundw
        case rel => exact ⟨k + 1, z, rfl, by go_num, hlt, Lib.hid (by rw [HP.out]; exact HSV.out), B5⟩
        case measure => simp [intOf]; omega
    · obtain rfl : k = 12 := by omega
      have hzM : z = M := HZ.out.symm.trans HM.out
      subst hzM
      clear HZ hlt hk CN
      by_cases hpre : 0 ≤ z ∧ 1970 ≤ Y ∧ 1 ≤ D
      · obtain ⟨p1, p2, p3⟩ := hpre
        obtain ⟨m, rfl⟩ : ∃ m : Nat, z = m := ⟨z.toNat, by omega⟩
        obtain ⟨year, rfl⟩ : ∃ y : Nat, Y = y := ⟨Y.toNat, by omega⟩
        obtain ⟨day, rfl⟩ : ∃ d : Nat, D = d := ⟨D.toNat, by omega⟩
        have hm12 : m < 12 := by omega
        have CD := Lib.hid (fun (i : Nat) (hi : i < 12) (X : World) (hX : Below w.heap.size w X) => days_since year i (by omega) hi w X hX)
        have CDM := Lib.hid (CD.out m hm12)
        have HML := Lib.hid (show ml year m = ml year m from rfl)
        obtain ⟨L, hL⟩ : ∃ L, ml year m = L := ⟨_, rfl⟩
        rw [hL] at CDM
        have hL31 : L ≤ 31 := by rw [← hL]; exact ml_le year m
        have HL := Lib.hid hL
        clear hL HML
        by_cases hrest : (day : Int) ≤ (L : Int) ∧ 0 ≤ H ∧ H ≤ 23 ∧ 0 ≤ I ∧ I ≤ 59 ∧ 0 ≤ S ∧ S ≤ 59
        · obtain ⟨q1, q2, q3, q4, q5, q6, q7⟩ := hrest
          obtain ⟨h, rfl⟩ : ∃ h : Nat, H = h := ⟨H.toNat, by omega⟩
          obtain ⟨mi, rfl⟩ : ∃ mi : Nat, I = mi := ⟨I.toNat, by omega⟩
          obtain ⟨se, rfl⟩ : ∃ se : Nat, S = se := ⟨S.toNat, by omega⟩
          have hyb := sumF_le yl 366 (fun k => (yl_pos k).2) (year - 1970)
          have hmb := sumF_le (ml year) 31 (fun k => ml_le year k) m
          have HV := Lib.hid (show dayOf m day year = sumF yl (year - 1970) + sumF (ml year) m + (day - 1) from rfl)
          obtain ⟨dv, hdv⟩ : ∃ dv, dayOf m day year = dv := ⟨_, rfl⟩
          have hdvb : dv < 4000000 := by rw [← hdv, HV.out]; omega
          have HMK := Lib.hid (fun (hw : wdN (dv % 7) = bl u3) => HOK.out m day year h mi se
            { sep := HSEP.out, mon := HM.out, dd := HD.out, yy := HY.out, hh := HH.out, mm := HI.out, ss := HS.out, y0 := by omega, d0 := by omega, d1 := by rw [HL.out]; omega,
              h1 := by omega, m1 := by omega, s1 := by omega, wd := by rw [hdv, HP3.out]; exact hw })
          have HMN := Lib.hid (fun (hw : ¬ wdN (dv % 7) = bl u3) => HNO.out (fun ⟨m', day', year', h', mi', se', ok⟩ => hw (by
              have e1 := ok.mon
              have e2 := ok.yy
              have e3 := ok.dd
              rw [HM.out] at e1
              rw [HY.out] at e2
              rw [HD.out] at e3
              obtain rfl : m' = m := by omega
              obtain rfl : year' = year := by omega
              obtain rfl : day' = day := by omega
              have d1 := ok.wd
              rw [hdv, HP3.out] at d1
              exact d1)))
          rw [hdv] at HMK HV
          have CW := Lib.hid (fun (X : World) (hX : Below w.heap.size w X) => since_toldD hX (rweekday dv X))
          clear hdv HNO HOK HP HP3 hu HSEP HL HM HD HY HH HI HS hmb
          have t1 : decide ((m : Int) < 0) = false := decide_eq_false (by omega)
          have t2 : decide ((year : Int) < 1970) = false := decide_eq_false (by omega)
          have t3 : decide ((day : Int) < 1) = false := decide_eq_false (by omega)
          have t4 : decide (L < day) = false := decide_eq_false (by omega)
          have t5 : decide ((h : Int) < 0) = false := decide_eq_false (by omega)
          have t6 : decide ((23 : Int) < (h : Int)) = false := decide_eq_false (by omega)
          have t7 : decide ((mi : Int) < 0) = false := decide_eq_false (by omega)
          have t8 : decide ((59 : Int) < (mi : Int)) = false := decide_eq_false (by omega)
          have t9 : decide ((se : Int) < 0) = false := decide_eq_false (by omega)
          have t10 : decide ((59 : Int) < (se : Int)) = false := decide_eq_false (by omega)
          go_wp2_with fail
          refine (C5.out _).mono ?_
          rintro e w1 ⟨rfl, rfl⟩
          go_wp2_with fail
          refine (C12.out _).mono ?_
          rintro e w1 ⟨rfl, rfl⟩
          go_wp2_with fail
          refine (C17.out _).mono ?_
          rintro e w1 ⟨rfl, rfl⟩
          go_wp2_with fail
          refine (C20.out _).mono ?_
          rintro e w1 ⟨rfl, rfl⟩
          go_wp2_with fail
          refine (C23.out _).mono ?_
          rintro e w1 ⟨rfl, rfl⟩
          go_wp2_with fail
          refine (CDM.out _ HB.out).mono ?_
          rintro e w1 ⟨rfl, b1⟩
          have B1 := Lib.hid b1
          clear b1 HB
          go_wp2_with fail
          go_loop [11, 12] (fun vd vy => ∃ x y : Nat, vd = .int .u64 (x : Int) ∧ vy = .int .i64 (y : Int) ∧ 1970 ≤ y ∧ y ≤ year ∧ x ≤ 4000000 ∧ Hid (x = sumF yl (y - 1970) + (day - 1))) (fun _ vy => year - (intOf vy).toNat)
          case atStart => exact ⟨day - 1, 1970, by go_num, rfl, by omega, by omega, by omega, Lib.hid (by simp [sumF])⟩
          case round =>
            obtain ⟨x, y, rfl, rfl, hy0, hy1, hx, HX⟩ := hrel
            by_cases hlt : y < year
            · have CL := Lib.hid (fun X : World => rlong y (by omega) X)
              have HYL := Lib.hid (yl_leap y hy0)
              have HSY := Lib.hid (show sumF yl (y + 1 - 1970) = sumF yl (y - 1970) + yl (y - 1970) by rw [show y + 1 - 1970 = y - 1970 + 1 by omega]; rfl)
              have HSB := Lib.hid (sumF_le yl 366 (fun k => (yl_pos k).2) (y + 1 - 1970))
              generalize leapB y = b at *
              have hx3 : x ≤ 3500000 := by
                have e1 := HX.out
                have e2 := HSY.out
                have e3 := HSB.out
                omega
              cases b
              all_goals
                go_wp2_with (go_at_call 57; refine (CL.out _).mono ?_; rintro e w' ⟨rfl, rfl⟩)
                go_round
                case rel =>
                  have e1 := HX.out
                  have e2 := HSY.out
                  have e3 := HSB.out
                  have e4 := HYL.out
                  simp only [if_true, Bool.false_eq_true, if_false] at e4
                  exact ⟨x + yl (y - 1970), y + 1, by rw [e4]; go_num, by go_num, by omega, by omega, by omega, Lib.hid (by omega)⟩
                case measure => simp [intOf]; omega
            · obtain rfl : y = year := by omega
              clear hlt hy0 hy1
              go_wp2_with fail
              go_loopw [11, 13] (fun vd vi wr => ∃ x i : Nat, vd = .int .u64 (x : Int) ∧ vi = .int .i64 (i : Int) ∧ i ≤ m ∧ x ≤ 5000000 ∧ Hid (x = sumF yl (y - 1970) + (day - 1) + sumF (ml y) i) ∧ Hid (Below w.heap.size w wr)) (fun _ vi _ => m - (intOf vi).toNat)
              case atStart => exact ⟨x, 0, rfl, rfl, by omega, by omega, Lib.hid (by rw [HX.out]; simp [sumF]), B1⟩
              case round =>
                obtain ⟨x2, i, rfl, rfl, hi, hx2b, HX2, HB2⟩ := hrel
                by_cases hil : i < m
                · have CDI := Lib.hid (CD.out i (by omega))
                  have HSM := Lib.hid (show sumF (ml y) (i + 1) = sumF (ml y) i + ml y i from rfl)
                  have HMB := Lib.hid (sumF_le (ml y) 31 (fun k => ml_le y k) (i + 1))
                  have hL2 := ml_le y i
                  generalize ml y i = L2 at *
                  have hx5 : x2 ≤ 4500000 := by
                    have e1 := HX2.out
                    have e2 := HSM.out
                    have e3 := HMB.out
                    omega
                  go_wp2_with fail
                  refine (CDI.out _ HB2.out).mono ?_
                  rintro e w2 ⟨rfl, b2⟩
                  have B2 := Lib.hid b2
                  clear b2 HB2
                  go_wp2_with fail
                  go_roundw
                  case rel =>
                    have e1 := HX2.out
                    have e2 := HSM.out
                    have e3 := HMB.out
                    exact ⟨x2 + L2, i + 1, by go_num, by go_num, hil, by omega, Lib.hid (by omega), B2⟩
                  case measure => simp [intOf]; omega
                · obtain rfl : i = m := by omega
                  obtain rfl : x2 = dv := by rw [HV.out, HX2.out]; omega
                  have BD : Hid (Below w.heap.size w wr.drew) := Lib.hid (below_drewN HB2.out 1)
                  obtain ⟨t, hT⟩ : ∃ t : ByteArray, t = ⟨(wdN (x2 % 7)).toArray⟩ := ⟨_, rfl⟩
                  have hTb : wdN (x2 % 7) = bl t := by rw [hT, bl_mk]
                  unfold Since at CW
                  rw [← hT] at CW
                  rw [hTb] at HMK HMN
                  clear hTb hT HV HX HX2 hil hi hyb
                  by_cases hx : t = u3
                  · have HR := Lib.hid (HMK.out (by rw [hx]))
                    subst hx
                    clear HMK HMN
                    go_wp2_with fail
                    go_region_held3 (fun _ => True) (trivial)
                      (first
                        | (go_at_call 58; (with_reducible refine (CW.out wr.drew BD.out).mono ?_); rintro e v5 ⟨rfl, b5⟩; have B5 := Lib.hid b5; clear b5))
                    go_wp2_with fail
                    go_ret2
                    exact ParseTold.mk HR.out (by omega) rfl B5.out
                  · have hx2 := beq_no hx
                    have HR := Lib.hid (HMN.out (fun h => hx (by rw [← mk_bl t, ← mk_bl u3, h])))
                    clear HMK HMN hx
                    go_wp2_with fail
                    go_region_held3 (fun _ => True) (trivial)
                      (first
                        | (go_at_call 58; (with_reducible refine (CW.out wr.drew BD.out).mono ?_); rintro e v5 ⟨rfl, b5⟩; have B5 := Lib.hid b5; clear b5))
                    go_wp2_with fail
                    go_ret2
                    exact ParseTold.mk HR.out rfl rfl B5.out
        · have HQ : Hid (r = (0, 5)) := Lib.hid (HNO.out (fun ⟨m', day', year', h', mi', se', ok⟩ => hrest (by
              have e1 := ok.mon
              have e2 := ok.yy
              have e3 := ok.dd
              have e4 := ok.hh
              have e5 := ok.mm
              have e6 := ok.ss
              rw [HM.out] at e1
              rw [HY.out] at e2
              rw [HD.out] at e3
              rw [HH.out] at e4
              rw [HI.out] at e5
              rw [HS.out] at e6
              obtain rfl : m' = m := by omega
              obtain rfl : year' = year := by omega
              have d1 := ok.d1
              have h1 := ok.h1
              have m1 := ok.m1
              have s1 := ok.s1
              rw [HL.out] at d1
              omega)))
          clear HNO HOK HP HP3 hu hu3
          go_wp2_with fail
          refine (C5.out _).mono ?_
          rintro e w1 ⟨rfl, rfl⟩
          go_wp2_with fail
          refine (C12.out _).mono ?_
          rintro e w1 ⟨rfl, rfl⟩
          go_wp2_with fail
          refine (C17.out _).mono ?_
          rintro e w1 ⟨rfl, rfl⟩
          go_wp2_with fail
          refine (C20.out _).mono ?_
          rintro e w1 ⟨rfl, rfl⟩
          go_wp2_with fail
          refine (C23.out _).mono ?_
          rintro e w1 ⟨rfl, rfl⟩
          go_wp2_with fail
          refine (CDM.out _ HB.out).mono ?_
          rintro e w1 ⟨rfl, b1⟩
          have B1 := Lib.hid b1
          clear b1
          go_wp2_with fail
          all_goals
            first
              | (go_ret2; exact ParseTold.mk HQ.out rfl rfl B1.out)
              | (exfalso; omega)
      · have HQ : Hid (r = (0, 5)) := Lib.hid (HNO.out (fun ⟨m', day', year', h', mi', se', ok⟩ => hpre ⟨by
            have h1 := ok.mon
            rw [HM.out] at h1
            omega, by
            have h1 := ok.yy
            have h2 := ok.y0
            rw [HY.out] at h1
            omega, by
            have h1 := ok.dd
            have h2 := ok.d0
            rw [HD.out] at h1
            omega⟩))
        clear HNO HOK HP HP3 hu hu3
        go_wp2_with fail
        refine (C5.out _).mono ?_
        rintro e w1 ⟨rfl, rfl⟩
        go_wp2_with fail
        refine (C12.out _).mono ?_
        rintro e w1 ⟨rfl, rfl⟩
        go_wp2_with fail
        refine (C17.out _).mono ?_
        rintro e w1 ⟨rfl, rfl⟩
        go_wp2_with fail
        refine (C20.out _).mono ?_
        rintro e w1 ⟨rfl, rfl⟩
        go_wp2_with fail
        refine (C23.out _).mono ?_
        rintro e w1 ⟨rfl, rfl⟩
        go_wp2_with fail
        all_goals
          first
            | (go_ret2; exact ParseTold.mk HQ.out rfl rfl HB.out)
            | (exfalso; omega)
theorem rparse_any (s : ByteArray) (w : World) : Calls Tryz.prog 35 #[.string s] w (ParseTold (parseF s) w) := by
  by_cases hs : s.size = 29
  · by_cases hsep : sepP s
    · exact rparse_sep s hs hsep w
    · exact rparse_apart s hs hsep w
  · exact rparse_short s hs w
end Go.Proofs.YtdcbcjljmjnopaaGreatDoor
