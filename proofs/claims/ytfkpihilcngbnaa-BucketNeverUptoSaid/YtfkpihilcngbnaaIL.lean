/-
  BucketNever: never more than burst and what grew.
  Conditions: those that the theorem names.
-/
import Derived.Test.YtfkpihilcngbnaaIK
namespace Go.Proofs.Ytfkpihilcngbnaa.Buc
open Go.RowKit

/-- What a round finds: the time, from when on is counted, how many were told true, the bucket. -/
def NvRel (W : World) (g R B n : Nat) (vn vb vt vi : Value) (wr : World) : Prop :=
  ∃ (k now began taken : Nat) (x : Bk), vi = .int .i64 (k : Int) ∧ vn = .int .u64 (now : Int) ∧ vb = .int .u64 (began : Int) ∧ vt = .int .i64 (taken : Int) ∧ k ≤ n ∧ now ≤ 4294967295 + 100000 * k ∧ taken ≤ k ∧ x.Ok ∧ x.r = R ∧ x.b = B ∧ Pay x taken began now ∧ At wr g x ∧ Turn (fun _ => False) W wr

theorem wrapN (n : Nat) (h : n ≤ 9223372036854775807) : IntKind.u64.wrap (n : Int) = (n : Int) := by
  rw [IntKind.wrap_u64]
  omega

/-- The sums of a round's test. -/
theorem never_sums (R B u tk k n1 began : Nat) (r2 : R ≤ 1000) (b2 : B ≤ 1000) (hk : k ≤ 1048576) (htk : tk ≤ k + 1) (hu : n1 - began = u) (ha : began ≤ n1) (hn : n1 ≤ 4294967295 + 100000 * (k + 1)) (HM : tk ≤ B + R * u / 1000) :
    ∃ m h s : Nat, (n1 : Int) - (began : Int) = (u : Int) ∧ (R : Int) * (u : Int) = (m : Int) ∧ (m : Int) / 1000 = (h : Int) ∧ (m : Int).tdiv 1000 = (h : Int) ∧ (B : Int) + (h : Int) = (s : Int) ∧ IntKind.u64.wrap (tk : Int) = (tk : Int) ∧
      IntKind.u64.wrap (B : Int) = (B : Int) ∧ IntKind.u64.wrap (R : Int) = (R : Int) ∧ IntKind.u64.wrap (u : Int) = (u : Int) ∧ IntKind.u64.wrap (m : Int) = (m : Int) ∧ IntKind.u64.wrap (h : Int) = (h : Int) ∧ IntKind.u64.wrap (s : Int) = (s : Int) ∧ ¬ (s : Int) < (tk : Int) ∧ m ≤ 200000000000000 ∧ h ≤ 200000000000 ∧ s ≤ 200000001000 ∧ u ≤ 200000000000 := by
  have u2 : u ≤ 200000000000 := by omega
  have m2 : R * u ≤ 1000 * 200000000000 := Nat.mul_le_mul r2 u2
  refine ⟨R * u, R * u / 1000, B + R * u / 1000, by omega, rfl, rfl, rfl, rfl, wrapN _ (by omega), wrapN _ (by omega), wrapN _ (by omega), wrapN _ (by omega), wrapN _ (by omega), wrapN _ (by omega), wrapN _ (by omega), ?_, by omega, by omega, by omega, u2⟩
  omega

theorem bound_next (n1 k : Nat) (h : n1 ≤ 4294967295 + 100000 * k + 100000) : n1 ≤ 4294967295 + 100000 * (k + 1) := by rw [Nat.mul_add, Nat.mul_one, ← Nat.add_assoc]; exact h

theorem pay_fresh (R B st : Nat) : Pay (fresh R B st) 0 st st := by
  refine ⟨rfl, Nat.le_refl _, ?_⟩
  unfold fresh
  simp only
  omega

set_option maxHeartbeats 8000000 in
set_option maxRecDepth 100000 in
theorem never_law (r b st fr : Nat) (hst : st ≤ 4294967295) (hfr : fr ≤ 65535) (A : Option Addr) (c : Nat) (ds : List Nat) (hc3 : ds.length ≤ 1048576) (hd : ∀ k, ds.getD k 0 ≤ 4294967295) (W : World) (HS : Src32 W A ds) :
    Calls Try.prog 4 #[.agg #[.int .u16 r, .int .u16 b, .int .u32 st, .slice A ds.length c, .int .u16 fr]] W fun e w' => e = .returned (.bool true) ∧ Turn (fun _ => False) W w' := by
  obtain ⟨W0, hW0⟩ : ∃ W0, W.alloc (.cells [Value.int .u16 r, .int .u16 b, .int .u32 st, .slice A ds.length c, .int .u16 fr].toArray 43) = W0 := ⟨_, rfl⟩
  have L0 : Is W0 W.heap.size 43 [.int .u16 r, .int .u16 b, .int .u32 st, .slice A ds.length c, .int .u16 fr] := by rw [← hW0]; exact Is.made W _ _
  have T0 : Hid (Turn (fun _ => False) W W0) := Lib.hid (by rw [← hW0]; exact (Turn.refl (fun _ => False) W).alloc _)
  have Z0 : Hid (W.heap.size < W0.heap.size) := Lib.hid L0.lt
  have c0 : W0.cell? ⟨W.heap.size, 0, none⟩ = some (.int .u16 r) := L0.cell 0
  have c1 : W0.cell? ⟨W.heap.size, 1, none⟩ = some (.int .u16 b) := L0.cell 1
  have HL : Hid (∀ V, Turn (fun _ => False) W0 V → V.cell? ⟨W.heap.size, 2, none⟩ = some (.int .u32 st) ∧ V.cell? ⟨W.heap.size, 3, none⟩ = some (.slice A ds.length c) ∧ V.cell? ⟨W.heap.size, 4, none⟩ = some (.int .u16 fr)) :=
    Lib.hid (fun V h => ⟨(L0.kept h (fun h => h)).cell 2, (L0.kept h (fun h => h)).cell 3, (L0.kept h (fun h => h)).cell 4⟩)
  obtain ⟨R, hR⟩ : ∃ R, 1 + r % 1000 = R := ⟨_, rfl⟩
  obtain ⟨B, hB⟩ : ∃ B, 1 + b % 1000 = B := ⟨_, rfl⟩
  have eR : 1 + (r : Int) % 1000 = (R : Int) := by omega
  have eB : 1 + (b : Int) % 1000 = (B : Int) := by omega
  have r1 : 1 ≤ R := by omega
  have r2 : R ≤ 1000 := by omega
  have b1 : 1 ≤ B := by omega
  have b2 : B ≤ 1000 := by omega
  have HF := Lib.hid hfr
  replace HS := Lib.hid HS
  replace hd := Lib.hid hd
  replace hW0 := Lib.hid hW0
  clear L0 hR hB hfr
  go_enter Try.func4, Try.ntmps4
  go_wp2_with fail
  rw [hW0.out]
  go_quiet (fail)
  clear eR eB c0 c1
  have D1 : Hid (Turn (fun _ => False) W0 (W0.drewN nq)) := Lib.hid ((Turn.refl _ W0).drewN nq)
  have c2 := (HL.out _ D1.out).1
  have Z1 : Hid (W.heap.size < (W0.drewN nq).heap.size) := Z0
  have T1 := Lib.hid (T0.out.trans (S := fun _ => False) D1.out (fun _ _ h => h))
  have C0 := Lib.hid (new_any R B st r1 r2 b1 b2 (by omega) (W0.drewN nq))
  unfold New1 at C0
  generalize W0.drewN nq = w1 at *
  go_wp2_with fail
  refine C0.out.mono ?_
  rintro e w2 ⟨rfl, g2, t2, z2⟩
  have T2 := Lib.hid (T1.out.trans (S := fun _ => False) t2 (fun _ _ h => h))
  have D2 := Lib.hid (D1.out.trans (S := fun _ => False) t2 (fun _ _ h => h))
  have G2 := Lib.hid g2
  have HG : Hid (W.heap.size ≤ w1.heap.size) := Lib.hid (Nat.le_of_lt Z1.out)
  have A2 := Lib.hid (awake_any w2)
  clear g2 t2 z2 C0 c2 T1 D1 Z1
  generalize w1.heap.size = g at *
  go_wp2_with fail
  refine A2.out.mono ?_
  rintro e w3 ⟨rfl, t3⟩
  have T3 := Lib.hid (T2.out.trans (S := fun _ => False) t3 (fun _ _ h => h))
  have D3 := D2.out.trans (S := fun _ => False) t3 (fun _ _ h => h)
  have c3 := (HL.out _ D3).2.1
  have c4 := (HL.out _ D3).2.2
  have G3 := Lib.hid (G2.out.kept t3 (fun h => h))
  clear t3 T2 D2 D3 G2 A2
  have FO := Lib.hid (fresh_ok (now := st) r1 r2 b1 b2 (by omega))
  obtain ⟨n, hn⟩ : ∃ n, ds.length = n := ⟨_, rfl⟩
  have HNl := Lib.hid hn
  rw [hn] at hc3 c3
  by_cases h0 : n = 0
  · have HE := Lib.hid h0
    have h0' : ¬ (0 : Int) < (n : Int) := by omega
    clear h0 hn
    go_wp2_with fail
    clear c3 c4
    go_loopw [56] (fun vi wr => vi = .int .i64 0 ∧ wr = w3) (fun _ _ => 0)
    case atStart => exact ⟨rfl, rfl⟩
    case round =>
      obtain ⟨rfl, rfl⟩ := hrel
      go_wp2_with fail
      go_ret
      exact ⟨rfl, T3.out⟩
  · obtain ⟨f, hf⟩ : ∃ f, fr % n = f := ⟨_, rfl⟩
    have hfn : f < n := by rw [← hf]; exact Nat.mod_lt _ (by omega)
    have ef : (fr : Int) % (n : Int) = (f : Int) := by rw [← hf]; rfl
    have ef2 : (fr : Int).tmod (n : Int) = (f : Int) := by rw [← hf]; rfl
    have hn0 : ((n : Int) == 0) = false := beq_eq_false_iff_ne.2 (by omega)
    have hnp : decide ((0 : Int) < (n : Int)) = true := decide_eq_true (by omega)
    have hnp2 : decide (0 < n) = true := decide_eq_true (by omega)
    have hnp3 : 0 < n := by omega
    have hfr := HF.out
    clear hf hn h0
    go_wp2_with fail
    clear c3 c4 ef ef2 hn0 hfr hnp hnp2 hnp3
    go_loopw [5, 9, 10, 56] (fun vn vb vt vi wr => NvRel W g R B n vn vb vt vi wr) (fun _ _ _ vi _ => n - (intOf vi).toNat)
    case atStart => exact ⟨0, st, st, 0, fresh R B st, rfl, rfl, rfl, rfl, Nat.zero_le _, by omega, Nat.le_refl _, FO.out, rfl, rfl, pay_fresh R B st, G3.out, T3.out⟩
    case round =>
      obtain ⟨k, now, began, taken, x, rfl, rfl, rfl, rfl, hk, hnow, htk, hx, hxr, hxb, hpay, ga, ta⟩ := hrel
      have GA := Lib.hid ga
      have TA := Lib.hid ta
      have HX := Lib.hid hx
      have HXR := Lib.hid hxr
      have HXB := Lib.hid hxb
      have HP := Lib.hid hpay
      clear G3 T3 FO hx hxr hxb hpay ga ta
      by_cases hlt : k < n
      · obtain ⟨a, rfl, hab, hac⟩ := (HS.out.kept TA.out) k (by rw [HNl.out]; exact hlt)
        have hat := fun V => run_at 41 40 Try.underlying41 u32Size a n c k hlt V
        have hdk := hd.out k
        generalize ds.getD k 0 = D at *
        clear hab
        obtain ⟨dd, hdd⟩ : ∃ dd, D % 100001 = dd := ⟨_, rfl⟩
        have edd : (D : Int) % 100001 = (dd : Int) := by omega
        have dd2 : dd ≤ 100000 := by omega
        obtain ⟨n1, hn1⟩ : ∃ n1, now + dd = n1 := ⟨_, rfl⟩
        have en1 : (now : Int) + (dd : Int) = (n1 : Int) := by omega
        have nb : n1 ≤ 4294967295 + 100000 * k + 100000 := by omega
        have HN1 := Lib.hid (bound_next n1 k nb)
        have C := Lib.hid (take_any g n1 x HX.out (by omega) wr GA.out)
        unfold Took at C
        have HY := Lib.hid (HX.out.take (now := n1) (by omega))
        have HYR := Lib.hid ((take_r x n1).trans HXR.out)
        have HYB := Lib.hid ((take_b x n1).trans HXB.out)
        by_cases hs : k = f
        · have hq : ((k : Int) == (f : Int)) = true := by rw [hs]; exact beq_self_eq_true _
          clear hs
          have HP2 := Lib.hid (Pay.start HX.out n1 (by omega) (by have := HP.out.time; omega))
          generalize x.take n1 = y at *
          generalize x.has n1 = q at *
          cases q with
          | true =>
            have HP3 : Hid (Pay y (1) n1 n1) := Lib.hid (by have := HP2.out; simpa using this)
            have HM := HP3.out.most
            have HA := HP3.out.ahead
            rw [HYR.out, HYB.out] at HM
            obtain ⟨tk, htk2⟩ : ∃ tk, 1 = tk := ⟨_, rfl⟩
            rw [htk2] at HM HP3
            have t2 : tk ≤ k + 1 := by omega
            obtain ⟨u, hu⟩ : ∃ u, n1 - n1 = u := ⟨_, rfl⟩
            rw [hu] at HM
            have et : (0 : Int) + 1 = (tk : Int) := by omega
            obtain ⟨m, h, s, eu, em, eh, eh2, es, wt, wB, wR, wu, wm, wh, ws, hcmp, m2, h2, s2, u2⟩ := never_sums R B u tk k n1 n1 r2 b2 (by omega) t2 hu HA HN1.out HM
            have HTK := Lib.hid t2
            clear hdk dd2 hdd hn1 HX HXR HXB HP HP2 hu HM HA htk2
            go_wp2_with fail
            refine C.out.mono ?_
            rintro e w4 ⟨rfl, g4, t4, z4⟩
            have T4 := Lib.hid (Turn.own HG.out TA.out t4)
            have G4 := Lib.hid g4
            clear g4 t4 z4 C TA GA
            go_wp2_with fail
            go_roundw
            case rel => exact ⟨k + 1, n1, n1, tk, y, by go_num, rfl, rfl, by first | rfl | rw [← et] | (rw [← et]; rfl) | rw [et] | (rw [et]; rfl), hlt, HN1.out, HTK.out, HY.out, HYR.out, HYB.out, HP3.out, G4.out, T4.out⟩
            case measure => simp [intOf]; omega
          | false =>
            have HP3 : Hid (Pay y (0) n1 n1) := Lib.hid (by have := HP2.out; simpa using this)
            have HM := HP3.out.most
            have HA := HP3.out.ahead
            rw [HYR.out, HYB.out] at HM
            obtain ⟨tk, htk2⟩ : ∃ tk, 0 = tk := ⟨_, rfl⟩
            rw [htk2] at HM HP3
            have t2 : tk ≤ k + 1 := by omega
            obtain ⟨u, hu⟩ : ∃ u, n1 - n1 = u := ⟨_, rfl⟩
            rw [hu] at HM
            have et : (tk : Int) = 0 := by omega
            obtain ⟨m, h, s, eu, em, eh, eh2, es, wt, wB, wR, wu, wm, wh, ws, hcmp, m2, h2, s2, u2⟩ := never_sums R B u tk k n1 n1 r2 b2 (by omega) t2 hu HA HN1.out HM
            have HTK := Lib.hid t2
            clear hdk dd2 hdd hn1 HX HXR HXB HP HP2 hu HM HA htk2
            go_wp2_with fail
            refine C.out.mono ?_
            rintro e w4 ⟨rfl, g4, t4, z4⟩
            have T4 := Lib.hid (Turn.own HG.out TA.out t4)
            have G4 := Lib.hid g4
            clear g4 t4 z4 C TA GA
            go_wp2_with fail
            go_roundw
            case rel => exact ⟨k + 1, n1, n1, tk, y, by go_num, rfl, rfl, by first | rfl | rw [← et] | (rw [← et]; rfl) | rw [et] | (rw [et]; rfl), hlt, HN1.out, HTK.out, HY.out, HYR.out, HYB.out, HP3.out, G4.out, T4.out⟩
            case measure => simp [intOf]; omega
        · have hq : ((k : Int) == (f : Int)) = false := beq_eq_false_iff_ne.2 (by omega)
          clear hs
          have HP2 := Lib.hid (HP.out.step dd)
          rw [hn1] at HP2
          generalize x.take n1 = y at *
          generalize x.has n1 = q at *
          cases q with
          | true =>
            have HP3 : Hid (Pay y (taken + 1) began n1) := Lib.hid (by have := HP2.out; simpa using this)
            have HM := HP3.out.most
            have HA := HP3.out.ahead
            rw [HYR.out, HYB.out] at HM
            obtain ⟨tk, htk2⟩ : ∃ tk, taken + 1 = tk := ⟨_, rfl⟩
            rw [htk2] at HM HP3
            have t2 : tk ≤ k + 1 := by omega
            obtain ⟨u, hu⟩ : ∃ u, n1 - began = u := ⟨_, rfl⟩
            rw [hu] at HM
            have et : (taken : Int) + 1 = (tk : Int) := by omega
            obtain ⟨m, h, s, eu, em, eh, eh2, es, wt, wB, wR, wu, wm, wh, ws, hcmp, m2, h2, s2, u2⟩ := never_sums R B u tk k n1 began r2 b2 (by omega) t2 hu HA HN1.out HM
            have HTK := Lib.hid t2
            clear hdk dd2 hdd hn1 HX HXR HXB HP HP2 hu HM HA htk2
            go_wp2_with fail
            refine C.out.mono ?_
            rintro e w4 ⟨rfl, g4, t4, z4⟩
            have T4 := Lib.hid (Turn.own HG.out TA.out t4)
            have G4 := Lib.hid g4
            clear g4 t4 z4 C TA GA
            go_wp2_with fail
            go_roundw
            case rel => exact ⟨k + 1, n1, began, tk, y, by go_num, rfl, rfl, by first | rfl | rw [← et] | (rw [← et]; rfl) | rw [et] | (rw [et]; rfl), hlt, HN1.out, HTK.out, HY.out, HYR.out, HYB.out, HP3.out, G4.out, T4.out⟩
            case measure => simp [intOf]; omega
          | false =>
            have HP3 : Hid (Pay y (taken) began n1) := Lib.hid (by have := HP2.out; simpa using this)
            have HM := HP3.out.most
            have HA := HP3.out.ahead
            rw [HYR.out, HYB.out] at HM
            obtain ⟨tk, htk2⟩ : ∃ tk, taken = tk := ⟨_, rfl⟩
            rw [htk2] at HM HP3
            have t2 : tk ≤ k + 1 := by omega
            obtain ⟨u, hu⟩ : ∃ u, n1 - began = u := ⟨_, rfl⟩
            rw [hu] at HM
            have et : (taken : Int) = (tk : Int) := by omega
            obtain ⟨m, h, s, eu, em, eh, eh2, es, wt, wB, wR, wu, wm, wh, ws, hcmp, m2, h2, s2, u2⟩ := never_sums R B u tk k n1 began r2 b2 (by omega) t2 hu HA HN1.out HM
            have HTK := Lib.hid t2
            clear hdk dd2 hdd hn1 HX HXR HXB HP HP2 hu HM HA htk2
            go_wp2_with fail
            refine C.out.mono ?_
            rintro e w4 ⟨rfl, g4, t4, z4⟩
            have T4 := Lib.hid (Turn.own HG.out TA.out t4)
            have G4 := Lib.hid g4
            clear g4 t4 z4 C TA GA
            go_wp2_with fail
            go_roundw
            case rel => exact ⟨k + 1, n1, began, tk, y, by go_num, rfl, rfl, by first | rfl | rw [← et] | (rw [← et]; rfl) | rw [et] | (rw [et]; rfl), hlt, HN1.out, HTK.out, HY.out, HYR.out, HYB.out, HP3.out, G4.out, T4.out⟩
            case measure => simp [intOf]; omega
      · obtain rfl : k = n := by omega
        go_wp2_with fail
        go_ret
        exact ⟨rfl, TA.out⟩
end Go.Proofs.Ytfkpihilcngbnaa.Buc
