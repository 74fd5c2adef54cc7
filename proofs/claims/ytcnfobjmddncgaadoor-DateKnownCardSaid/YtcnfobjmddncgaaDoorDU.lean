/-
  What the reference's Text answers.
  Conditions: those that each theorem names.
-/
import Derived.Test.YtcnfobjmddncgaaDoorDT
import Derived.Test.YtcnfobjmddncgaaDoorDG
namespace Go.Proofs.YtcnfobjmddncgaaDoor
open Go.RowKit

theorem since_toldD {f : FuncId} {args : Array Value} {l : List UInt8} {w X : World} (hX : Below w.heap.size w X) (h : Calls Tryd.prog f args X (ToldD l X)) : Calls Tryd.prog f args X (Since l w) :=
  h.mono fun _ _ h => ⟨h.1, hX.trans (h.2.mono hX.size)⟩
theorem laid_since (x y : Int) (n wd : Nat) (hx : x = n) (hy : y = wd) (hw : wd ≤ 4) (hn : n ≤ 1000000) (w X : World) (hX : Below w.heap.size w X) : Calls Tryd.prog 18 #[.int .i64 x, .int .i64 y] X (Since (fixF wd n) w) := by
  rw [hx, hy]
  exact since_toldD hX (rlaid n wd hw hn X)
theorem days_since (y m : Nat) (hy : y ≤ 1000000) (hm : m < 12) (w X : World) (hX : Below w.heap.size w X) : Calls Tryd.prog 16 #[.int .i64 (y : Int), .int .i64 (m : Int)] X (SinceV (.int .i64 (ml y m : Int)) w) :=
  since_tell hX (rdays y m hy hm X)
theorem yl_leap (y : Nat) (h : 1970 ≤ y) : yl (y - 1970) = if leapB y = true then 366 else 365 := by
  unfold yl
  rw [show 1970 + (y - 1970) = y by omega]
theorem clock_min (s : Nat) : s % 3600 / 60 = s / 60 % 60 := by omega
theorem momF_form (n y m x : Nat) (h1 : yearAt (n / 86400) = (y - 1970, x)) (hy : 1970 ≤ y) (z : Nat) (h2 : monthAt (n / 86400) = (m, z)) :
    momF n = wdN (n / 86400 % 7) ++ ([44, 32] ++ (fixF 2 (z + 1) ++ ([32] ++ (mnN m ++ ([32] ++ (fixF 4 y ++ ([32] ++ (fixF 2 (n % 86400 / 3600) ++ ([58] ++ (fixF 2 (n % 86400 % 3600 / 60) ++ ([58] ++ (fixF 2 (n % 86400 % 60) ++ [32, 71, 77, 84])))))))))))) := by
  unfold momF dayTF clockF
  rw [h1, h2, clock_min]
  simp only [show 1970 + (y - 1970) = y by omega, List.append_assoc]

set_option maxHeartbeats 8000000 in
set_option maxRecDepth 100000 in
theorem rtext_any (n : Nat) (w : World) : Calls Tryd.prog 9 #[.int .u64 (n : Int)] w (TextTold (textF n) w) := by
  by_cases hn : n ≤ LastN
  · have hd : n / 86400 ≤ 2932896 := by unfold LastN at hn; omega
    have i0 : ¬ (253402300799 : Int) < (n : Int) := by unfold LastN at hn; omega
    have HR := Lib.hid (show textF n = (momF n, 0) from if_pos hn)
    have HF := Lib.hid (momF_form n)
    have HYW := Lib.hid (year_within (n / 86400))
    have HMW := Lib.hid (month_within (n / 86400))
    obtain ⟨d, hdd⟩ : ∃ d, d = n / 86400 := ⟨_, rfl⟩
    obtain ⟨c, hcc⟩ : ∃ c, c = n % 86400 := ⟨_, rfl⟩
    have e1 : (n : Int) / 86400 = (d : Int) := by omega
    have e2 : (n : Int) % 86400 = (c : Int) := by omega
    have hc : c < 86400 := by omega
    rw [← hdd] at HF HYW HMW hd
    rw [← hcc] at HF
    clear hdd hcc hn
    generalize textF n = r at *
    generalize momF n = mom at *
    have CW := Lib.hid (fun (X : World) (hX : Below w.heap.size w X) => since_toldD hX (rweekday d X))
    have CH := Lib.hid (fun (X : World) hX => laid_since ((c : Int) / 3600) 2 (c / 3600) 2 (by omega) rfl (by omega) (by omega) w X hX)
    have CM := Lib.hid (fun (X : World) hX => laid_since ((c : Int) % 3600 / 60) 2 (c % 3600 / 60) 2 (by omega) rfl (by omega) (by omega) w X hX)
    have CS := Lib.hid (fun (X : World) hX => laid_since ((c : Int) % 60) 2 (c % 60) 2 (by omega) rfl (by omega) (by omega) w X hX)
    have lW := wdN_len (d % 7) (by omega)
    have lH := fixF_len 2 (c / 3600)
    have lM := fixF_len 2 (c % 3600 / 60)
    have lS := fixF_len 2 (c % 60)
    generalize wdN (d % 7) = aW at *
    generalize fixF 2 (c / 3600) = aH at *
    generalize fixF 2 (c % 3600 / 60) = aM at *
    generalize fixF 2 (c % 60) = aS at *
    go_enter Tryd.func9, Tryd.ntmps9
    go_wp2_with fail
    go_loop [5, 6, 7] (fun vr vy _ => ∃ y x : Nat, vr = .int .u64 (x : Int) ∧ vy = .int .i64 (y : Int) ∧ 1970 ≤ y ∧ y ≤ 11000 ∧ x ≤ d ∧ Hid (d = sumF yl (y - 1970) + x)) (fun vr _ _ => (intOf vr).toNat)
    case atStart => exact ⟨1970, d, rfl, rfl, by omega, by omega, by omega, Lib.hid (by simp [sumF])⟩
    case round =>
      obtain ⟨y, x, rfl, rfl, hy0, hy1, hx, H⟩ := hrel
      have CL := Lib.hid (fun X : World => rlong y (by omega) X)
      have HL := Lib.hid (yl_leap y hy0)
      have HS := Lib.hid (show sumF yl (y + 1 - 1970) = sumF yl (y - 1970) + yl (y - 1970) by rw [show y + 1 - 1970 = y - 1970 + 1 by omega]; rfl)
      have HB := Lib.hid (sum_lower (y + 1 - 1970))
      generalize leapB y = b at *
      by_cases hlt : x < yl (y - 1970)
      · have HX := Lib.hid hlt
        rw [HL.out] at hlt
        have HXY : Hid (yearAt d = (y - 1970, x)) := Lib.hid (by
          obtain ⟨h1, h2⟩ := within_one HYW.out ⟨H.out, HX.out⟩
          exact Prod.ext h1 h2)
        have HMY : Hid (Within (ml y) x (monthAt d).1 (monthAt d).2 ∧ (monthAt d).1 ≤ 11) := Lib.hid (by
          have h := HMW.out
          rw [HXY.out] at h
          simp only [show 1970 + (y - 1970) = y by omega] at h
          exact h)
        have HTOT : Hid (x < sumF (ml y) 12) := Lib.hid (by
          rw [month_sum, ← yl_leap y hy0]
          exact HX.out)
        have HF2 := Lib.hid (fun m z h => HF.out y m x HXY.out hy0 z h)
        have CY := Lib.hid (fun (X : World) hX => laid_since (y : Int) 4 y 4 rfl rfl (by omega) (by omega) w X hX)
        have CD := Lib.hid (fun (m : Nat) (hm : m < 12) (X : World) (hX : Below w.heap.size w X) => days_since y m (by omega) hm w X hX)
        have HLE := Lib.hid (fun m => ml_le y m)
        have lY := fixF_len 4 y
        generalize fixF 4 y = aY at *
        have hx367 : x < 367 := by
          have := (yl_pos (y - 1970)).2
          have := HX.out
          omega
        clear HX HXY HMW HYW HF HS HB H
        cases b
        all_goals
          simp only [if_true, Bool.false_eq_true, if_false] at hlt
          first
            | (have hdt : decide ((x : Int) < 365) = true := decide_eq_true (by omega))
            | (have hdt : decide ((x : Int) < 366) = true := decide_eq_true (by omega))
          go_wp2_with (go_at_call 15; refine (CL.out _).mono ?_; rintro e w' ⟨rfl, rfl⟩)
          go_loopw [5, 8] (fun vr vm wr => ∃ m z : Nat, vr = .int .u64 (z : Int) ∧ vm = .int .i64 (m : Int) ∧ m ≤ 11 ∧ z ≤ x ∧ Hid (x = sumF (ml y) m + z) ∧ Hid (Below w.heap.size w wr)) (fun _ vm _ => 12 - (intOf vm).toNat)
          case atStart => exact ⟨0, x, rfl, rfl, by omega, Nat.le_refl _, Lib.hid (by simp [sumF]), Lib.hid (Below.refl _ _)⟩
          case round =>
            obtain ⟨m, z, rfl, rfl, hm, hz, HE, HB⟩ := hrel
            have CDM := Lib.hid (CD.out m (by omega))
            have HS2 := Lib.hid (show sumF (ml y) (m + 1) = sumF (ml y) m + ml y m from rfl)
            have hL := HLE.out m
            have HW := Lib.hid (show z < ml y m → monthAt d = (m, z) from fun h => by
              obtain ⟨h1, h2⟩ := within_one HMY.out.1 ⟨HE.out, h⟩
              exact Prod.ext h1 h2)
            have HM11 := Lib.hid (show ¬ z < ml y m → m < 11 from fun h => by
              rcases Nat.lt_or_ge m 11 with h' | h'
              · exact h'
              · exfalso
                obtain rfl : m = 11 := by omega
                have h1 := HS2.out
                have h2 := HTOT.out
                have h3 := HE.out
                simp only [Nat.reduceAdd] at h1
                omega)
            generalize ml y m = L at *
            by_cases hzl : z < L
            · have HFM := Lib.hid (HF2.out m z (HW.out hzl))
              have CZ := Lib.hid (fun (X : World) hX => laid_since ((z : Int) + 1) 2 (z + 1) 2 (by omega) rfl (by omega) (by omega) w X hX)
              have CN := Lib.hid (fun (X : World) (hX : Below w.heap.size w X) => since_toldD hX (rmonth m (by omega) X))
              have lZ := fixF_len 2 (z + 1)
              have lN := mnN_len m (by omega)
              generalize fixF 2 (z + 1) = aZ at *
              generalize mnN m = aN at *
              clear HW HM11 HS2 HE HF2
              go_wp2_with fail
              refine (CDM.out _ HB.out).mono ?_
              rintro e w1 ⟨rfl, b1⟩
              have B1 := Lib.hid b1
              clear b1 HB
              go_wp2_with fail
              refine (CW.out _ B1.out).mono ?_
              rintro e w2 ⟨rfl, b2⟩
              have B2 := Lib.hid b2
              clear b2 B1
              go_wp2_with fail
              refine (CZ.out _ B2.out).mono ?_
              rintro e w3 ⟨rfl, b3⟩
              have B3 := Lib.hid b3
              clear b3 B2
              go_wp2_with fail
              refine (CN.out _ B3.out).mono ?_
              rintro e w4 ⟨rfl, b4⟩
              have B4 := Lib.hid b4
              clear b4 B3
              go_wp2_with fail
              refine (CY.out _ B4.out).mono ?_
              rintro e w5 ⟨rfl, b5⟩
              have B5 := Lib.hid b5
              clear b5 B4
              go_wp2_with fail
              refine (CH.out _ B5.out).mono ?_
              rintro e w6 ⟨rfl, b6⟩
              have B6 := Lib.hid b6
              clear b6 B5
              go_wp2_with fail
              refine (CM.out _ B6.out).mono ?_
              rintro e w7 ⟨rfl, b7⟩
              have B7 := Lib.hid b7
              clear b7 B6
              go_wp2_with fail
              refine (CS.out _ B7.out).mono ?_
              rintro e w8 ⟨rfl, b8⟩
              have B8 := Lib.hid b8
              clear b8 B7
              go_wp2_with fail
              go_ret2
              exact ⟨by rw [HR.out, HFM.out]; simp only [mk_append, List.append_assoc]; rfl, B8.out⟩
            · have hm11 := HM11.out hzl
              have hzl2 : (L : Int) ≤ (z : Int) := by omega
              clear HM11 HW
              go_wp2_with fail
              refine (CDM.out _ HB.out).mono ?_
              rintro e w1 ⟨rfl, b1⟩
              have B1 := Lib.hid b1
              clear b1 HB
              go_wp2_with fail
              refine (CDM.out _ B1.out).mono ?_
              rintro e w2 ⟨rfl, b2⟩
              have B2 := Lib.hid b2
              clear b2 B1
              go_wp2_with fail
              go_roundw
              case rel =>
                have h3 := HE.out
                have h4 := HS2.out
                have rel : ∃ m' z' : Nat, Value.int .u64 ((z : Int) - (L : Int)) = .int .u64 (z' : Int) ∧ Value.int .i64 ((m : Int) + 1) = .int .i64 (m' : Int) ∧ m' ≤ 11 ∧ z' ≤ x ∧ Hid (x = sumF (ml y) m' + z') ∧ Hid (Below w.heap.size w w2) :=
                  ⟨m + 1, z - L, by go_num, by go_num, by omega, by omega, Lib.hid (by omega), B2⟩
                first | exact rel | exact ⟨_, _, _, _, _, _, _, _, _, _, _, _, _, _, _, _, rel, rfl⟩
              case measure => simp [intOf]; omega
      · have HX := Lib.hid hlt
        rw [HL.out] at hlt
        cases b
        all_goals
          simp only [if_true, Bool.false_eq_true, if_false] at hlt
          go_wp2_with (go_at_call 15; refine (CL.out _).mono ?_; rintro e w' ⟨rfl, rfl⟩)
          go_round
          case rel =>
            have h1 := HX.out
            have h2 := HL.out
            have h3 := H.out
            have h4 := HS.out
            have h5 := HB.out
            simp only [if_true, Bool.false_eq_true, if_false] at h2
            exact ⟨y + 1, x - yl (y - 1970), by rw [h2]; go_num, by go_num, by omega, by omega, by omega, Lib.hid (by omega)⟩
          case measure => simp [intOf]; omega
  · have i0 : (253402300799 : Int) < (n : Int) := by unfold LastN at hn; omega
    have hR : textF n = ([], 3) := if_neg hn
    rw [hR]
    clear hR hn
    go_enter Tryd.func9, Tryd.ntmps9
    go_wp2_with fail
    go_ret2
    exact ⟨rfl, Below.refl _ _⟩
end Go.Proofs.YtcnfobjmddncgaaDoor
