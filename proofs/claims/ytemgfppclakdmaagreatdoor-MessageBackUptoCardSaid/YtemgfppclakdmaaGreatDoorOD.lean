/-
  The law MessageBack: walk.
  Conditions: the landed code's contracts; what the arguments read; Go's table of powers of ten.
-/
import Derived.Test.YtemgfppclakdmaaGreatDoorOC
import Derived.Deep.CutRange
namespace Go.Proofs.YtemgfppclakdmaaGreatDoor
open Go.RowKit

set_option maxHeartbeats 40000000 in
set_option maxRecDepth 100000 in
theorem back9_law (HC : MsgC) (w : World) (qm qt rr mt : ByteArray) (qn rn st : Int) (Aq Dq Ar Dr At : Option Addr) (ql rl : List Fld) (qx rx ts : List UInt8) (nq cq lq dq nr cr lr dr nt ct k : Nat)
    (hnq : ql.length = nq) (hlq : qx.length = lq) (hnr : rl.length = nr) (hlr : rx.length = lr) (hnt : ts.length = nt) (hqm : qm.size ≤ 140737488351232) (hqt : qt.size ≤ 140737488351232) (hrr : rr.size ≤ 140737488351232) (hmt : mt.size ≤ 140737488351232) (hqn : Sta.I64 qn) (hrn : Sta.I64 rn) (hst : Sta.I64 st)
    (hbq : bulkF ql ≤ 1000000000) (hbr : bulkF rl ≤ 1000000000) (hlq2 : lq ≤ 140737488351232) (hlr2 : lr ≤ 140737488351232) (hnt2 : nt ≤ 100000000) (hk : k < 65536)
    (hq : SrcF w (fun _ => True) Aq ql) (hqx : Src w (fun _ => True) Dq qx) (hr : SrcF w (fun _ => True) Ar rl) (hrx : Src w (fun _ => True) Dr rx) (ht : Src w (fun _ => True) At ts) (hp : Sta.PowT w) :
    Calls Tryz.prog 5 #[.agg #[.string qm, .string qt, .int .i64 qn, .slice Aq nq cq, .slice Dq lq dq, .int .i64 st, .string rr, .int .i64 rn, .slice Ar nr cr, .slice Dr lr dr, .string mt], .slice At nt ct, .int .u16 (k : Int)] w fun e w' => e = .returned (.bool true) ∧ Below w.heap.size w w' := by
  obtain ⟨qb, qe, hpq⟩ : ∃ qb qe, putReqM (bl qm) (bl qt) qn ql qx = (qb, qe) := ⟨_, _, rfl⟩
  obtain ⟨rb, re, hpr⟩ : ∃ rb re, putResM rn st (bl rr) rl rx (bl mt) = (rb, re) := ⟨_, _, rfl⟩
  have CW := Lib.hid (fun (X : World) (hX : Below w.heap.size w X) => awake9_any HC X (hp.below hX))
  have CPQ := Lib.hid (fun (X : World) (hX : Below w.heap.size w X) => HC.putRequest X qm qt qn Aq Dq ql qx nq cq lq dq hnq hlq hqm hqt hqn hbq hlq2 (hq.below hX) (hqx.kept (Turn.of_below (S := fun _ => False) hX) (fun _ _ h => h)) (hp.below hX))
  have CPR := Lib.hid (fun (X : World) (hX : Below w.heap.size w X) => HC.putResponse X st rr mt rn Ar Dr rl rx nr cr lr dr hnr hlr hrr hmt hrn hst hbr hlr2 (hr.below hX) (hrx.kept (Turn.of_below (S := fun _ => False) hX) (fun _ _ h => h)) (hp.below hX))
  rw [hpq] at CPQ
  rw [hpr] at CPR
  unfold PutGot9 at CPQ CPR
  simp only at CPQ CPR
  have HP := Lib.hid hp
  have HQ := Lib.hid hq
  have HQX := Lib.hid hqx
  have HR := Lib.hid hr
  have HRX := Lib.hid hrx
  have HT := Lib.hid ht
  have HNT := Lib.hid hnt
  have HNQ := Lib.hid hnq
  have HLQ := Lib.hid hlq
  have HNR := Lib.hid hnr
  have HLR := Lib.hid hlr
  have HPQ := Lib.hid hpq
  have HPR := Lib.hid hpr
  have HMT := Lib.hid hmt
  have hfew : nq ≤ 1000000000 := by have := bulk_len ql; omega
  have hfewr : nr ≤ 1000000000 := by have := bulk_len rl; omega
  have I0 := Lib.hid (Is.made w 43 [.string qm, .string qt, .int .i64 qn, .slice Aq nq cq, .slice Dq lq dq, .int .i64 st, .string rr, .int .i64 rn, .slice Ar nr cr, .slice Dr lr dr, .string mt])
  have B0 := Lib.hid ((Below.refl w.heap.size w).alloc (Nat.le_refl _) (.cells #[.string qm, .string qt, .int .i64 qn, .slice Aq nq cq, .slice Dq lq dq, .int .i64 st, .string rr, .int .i64 rn, .slice Ar nr cr, .slice Dr lr dr, .string mt] 43))
  clear hpq hpr hp hq hqx hr hrx ht hnt hnq hlq hnr hlr hqm hqt hrr hmt hqn hrn hst hbq hbr
  go_enter Tryz.func5, Tryz.ntmps5
  go_upto_region 1 with fail
  generalize w.alloc _ = X0 at *
  have I_0 := I0
  go_wp2_with fail
  refine (CW.out X0 B0.out).mono ?_
  rintro e X1 ⟨rfl, b1⟩
  have B1 := Lib.hid (B0.out.trans (b1.mono B0.out.size))
  have I_1 := Lib.hid (I_0.out.kept (Turn.of_below (S := fun _ => False) b1) (fun h => h))
  clear b1 I0 I_0
  have a0 : X1.cell? ⟨w.heap.size, 0, none⟩ = some (.string qm) := I_1.out.cell 0
  have a1 : X1.cell? ⟨w.heap.size, 1, none⟩ = some (.string qt) := I_1.out.cell 1
  have a2 : X1.cell? ⟨w.heap.size, 2, none⟩ = some (.int .i64 qn) := I_1.out.cell 2
  have a3 : X1.cell? ⟨w.heap.size, 3, none⟩ = some (.slice Aq nq cq) := I_1.out.cell 3
  have a4 : X1.cell? ⟨w.heap.size, 4, none⟩ = some (.slice Dq lq dq) := I_1.out.cell 4
  have a5 : X1.cell? ⟨w.heap.size, 5, none⟩ = some (.int .i64 st) := I_1.out.cell 5
  have a6 : X1.cell? ⟨w.heap.size, 6, none⟩ = some (.string rr) := I_1.out.cell 6
  have a7 : X1.cell? ⟨w.heap.size, 7, none⟩ = some (.int .i64 rn) := I_1.out.cell 7
  have a8 : X1.cell? ⟨w.heap.size, 8, none⟩ = some (.slice Ar nr cr) := I_1.out.cell 8
  have a9 : X1.cell? ⟨w.heap.size, 9, none⟩ = some (.slice Dr lr dr) := I_1.out.cell 9
  have a10 : X1.cell? ⟨w.heap.size, 10, none⟩ = some (.string mt) := I_1.out.cell 10
  go_wp2_with fail
  refine (CPQ.out X1 B1.out).mono ?_
  rintro e X2 ⟨Ab, cb, rfl, hcb, sb, b2⟩
  have B2 := Lib.hid (B1.out.trans (b2.mono B1.out.size))
  have I_2 := Lib.hid (I_1.out.kept (Turn.of_below (S := fun _ => False) b2) (fun h => h))
  have Sb_2 := Lib.hid sb
  clear b2 sb I_1 CPQ a0 a1 a2 a3 a4 a5 a6 a7 a8 a9 a10
  by_cases hqe : qe = 0
  · subst hqe
    obtain ⟨hb1, hb2, hb3⟩ := putReq_back HPQ.out
    have hb4 := putReq_len HPQ.out
    obtain ⟨L, hL⟩ : ∃ L, qb.length = L := ⟨_, rfl⟩
    obtain ⟨all, hall⟩ : ∃ all, withCL ql qx.length (decide (qx ≠ [])) = all := ⟨_, rfl⟩
    rw [hL, hall] at hb1
    rw [hL] at hb3 hb4 hcb
    have HALL := Lib.hid hall
    clear hall
    have HB1 := Lib.hid hb1
    have HL := Lib.hid hL
    obtain ⟨v3, w3, M, cM, X3, r3, r4, hMc, sM, bw, b3, _⟩ := tail_any w X2 B2.out Ab At qb ts L cb nt ct hL HNT.out (by omega) hnt2 Sb_2.out HT.out
    have hst8 := request_stays qb ts (by rw [hb1]; simp)
    have C3 := Lib.hid ((HC.request X3 M (qb ++ ts) (L + nt) cM (by rw [List.length_append, hL, HNT.out]) hMc (by omega) sM (HP.out.below bw)).mono (fun _ _ h => h.told2))
    rw [hst8, hb1] at C3
    unfold RqTold2 at C3
    simp only [Option.getD_some, hb2] at C3
    have HB2 := Lib.hid hb2
    clear hb2
    have R3 := Lib.hid r3
    have R4 := Lib.hid r4
    have B3 := Lib.hid (B2.out.trans (b3.mono B2.out.size))
    have I_3 := Lib.hid (I_2.out.kept (Turn.of_below (S := fun _ => False) b3) (fun h => h))
    have Sb_3 := Lib.hid (Sb_2.out.kept (Turn.of_below (S := fun _ => False) b3) (fun _ _ h => h))
    rw [hL]
    clear r3 r4 hMc sM bw b3 I_2 Sb_2 hb1 hst8 hL
    go_wp2_with (first
      | (at_builtin; refine append_by rfl (.tmp 34) (.tmp 35) 22 rfl _ _ v3 w3 rfl rfl R3.out ?_)
      | (at_builtin; refine append_by rfl (.tmp 36) (.tmp 37) 22 rfl _ _ _ X3 rfl rfl R4.out ?_))
    refine C3.out.mono ?_
    rintro e y5 ⟨Af5, cf5, Ab5, cb5, rfl, hcf, sf, sb, b5⟩
    have b5' := b5.alloc b5.size (.cells #[.string ⟨(bl qm).toArray⟩, .string ⟨(bl qt).toArray⟩, .int .i64 qn, .slice Af5 all.length cf5, .slice Ab5 qx.length cb5] 25)
    have z5 : Below y5.heap.size y5 (y5.alloc (.cells #[.string ⟨(bl qm).toArray⟩, .string ⟨(bl qt).toArray⟩, .int .i64 qn, .slice Af5 all.length cf5, .slice Ab5 qx.length cb5] 25)) := (Below.refl _ _).alloc (Nat.le_refl _) _
    have Ir_5 := Lib.hid (Is.made y5 25 [.string ⟨(bl qm).toArray⟩, .string ⟨(bl qt).toArray⟩, .int .i64 qn, .slice Af5 all.length cf5, .slice Ab5 qx.length cb5])
    have Fr_5 := Lib.hid ((srcf_lt sf).below z5)
    have Sr_5 := Lib.hid ((src_lt sb).kept (Turn.of_below (S := fun _ => False) z5) (fun _ _ h => h))
    have Sb_3' := src_lt Sb_3.out
    have Sb_5 := Lib.hid (Sb_3'.kept (Turn.of_below (S := fun _ => False) b5') (fun _ _ h => h))
    have B5 := Lib.hid (B3.out.trans (b5'.mono B3.out.size))
    have I_5 := Lib.hid (I_3.out.kept (Turn.of_below (S := fun _ => False) b5') (fun h => h))
    have HG5 := Lib.hid (show X3.heap.size ≤ y5.heap.size ∧ w.heap.size < y5.heap.size from ⟨b5.size, by have := I_3.out.lt; have := b5.size; omega⟩)
    clear b5 b5' z5 sf sb I_3 Sb_3 Sb_3' C3 R3 R4
    go_upto_region 6 with fail
    generalize y5.alloc _ = X5 at *
    generalize y5.heap.size = g5 at *
    generalize X3.heap.size = g3 at *
    have e2 : ((L : Int) != (L : Int)) = false := by simp
    by_cases hl0 : lq = 0
    · have hx0 : qx = [] := List.eq_nil_of_length_eq_zero (by rw [HLQ.out]; exact hl0)
      have hw : all = ql := by rw [← HALL.out]; unfold withCL; rw [hx0]; rfl
      rw [hw] at Ir_5 Fr_5
      have hnq := HNQ.out
      rw [hnq] at Ir_5
      have d0 : decide ((0 : Int) < (lq : Int)) = false := decide_eq_false (by omega)
      have d0n : decide (0 < lq) = false := decide_eq_false (by omega)
      have a4 : X5.cell? ⟨w.heap.size, 4, none⟩ = some (.slice Dq lq dq) := I_5.out.cell 4
      clear hx0 hw hl0 hnq
      go_upto_region 10 with fail
      clear a4
      have Fr_6 := Lib.hid (srcf_true Fr_5.out)
      have Sr_6 := Lib.hid (Sr_5.out.mono (P' := fun _ => True) (fun _ _ _ => trivial))
      have Sb_6 := Sb_5
      have I_6 := I_5
      have Ir_6 := Ir_5
      have B6 := B5
      clear Fr_5 Sr_5 Sb_5 I_5 Ir_5 B5
      have c0 : X5.cell? ⟨g5, 0, none⟩ = some (.string ⟨(bl qm).toArray⟩) := Ir_6.out.cell 0
      have c1 : X5.cell? ⟨g5, 1, none⟩ = some (.string ⟨(bl qt).toArray⟩) := Ir_6.out.cell 1
      have c2 : X5.cell? ⟨g5, 2, none⟩ = some (.int .i64 qn) := Ir_6.out.cell 2
      have c3 : X5.cell? ⟨g5, 3, none⟩ = some (.slice Af5 nq cf5) := Ir_6.out.cell 3
      have c4 : X5.cell? ⟨g5, 4, none⟩ = some (.slice Ab5 qx.length cb5) := Ir_6.out.cell 4
      have d0 : X5.cell? ⟨w.heap.size, 0, none⟩ = some (.string qm) := I_6.out.cell 0
      have d1 : X5.cell? ⟨w.heap.size, 1, none⟩ = some (.string qt) := I_6.out.cell 1
      have d2 : X5.cell? ⟨w.heap.size, 2, none⟩ = some (.int .i64 qn) := I_6.out.cell 2
      have d3 : X5.cell? ⟨w.heap.size, 3, none⟩ = some (.slice Aq nq cq) := I_6.out.cell 3
      have d4 : X5.cell? ⟨w.heap.size, 4, none⟩ = some (.slice Dq lq dq) := I_6.out.cell 4
      have K := Lib.hid (HC.sameRequest X5 ⟨(bl qm).toArray⟩ qm ⟨(bl qt).toArray⟩ qt qn qn Af5 Aq Ab5 Dq ql ql qx qx nq nq cf5 cq qx.length lq cb5 dq HNQ.out HNQ.out (by omega) rfl HLQ.out Fr_6.out (HQ.out.below B6.out) Sr_6.out (HQX.out.kept (Turn.of_below (S := fun _ => False) B6.out) (fun _ _ h => h)))
      rw [show decide (bl ⟨(bl qm).toArray⟩ = bl qm ∧ bl ⟨(bl qt).toArray⟩ = bl qt ∧ qn = qn ∧ ql = ql ∧ qx = qx) = true by simp [bl_mk]] at K
      go_wp2_with fail
      refine K.out.mono ?_
      rintro e X7 ⟨rfl, b7⟩
      have B7 := Lib.hid (B6.out.trans (b7.mono B6.out.size))
      have I_7 := Lib.hid (I_6.out.kept (Turn.of_below (S := fun _ => False) b7) (fun h => h))
      have Sb_7 := Lib.hid (Sb_6.out.kept (Turn.of_below (S := fun _ => False) b7) (fun _ _ h => h))
      clear b7 K Ir_6 Fr_6 Sr_6 I_6 Sb_6 c0 d0 c1 d1 c2 d2 c3 d3 c4 d4
      obtain ⟨j, hj⟩ : ∃ j, k % L = j := ⟨_, rfl⟩
      have hjL : j < L := by rw [← hj]; exact Nat.mod_lt _ hb3
      have hrem : ((k : Int)).tmod (L : Int) = (j : Int) := by rw [← hj, Int.tmod_eq_emod_of_nonneg (by omega)]; rfl
      have wk : IntKind.i64.wrap (k : Int) = (k : Int) := by rw [IntKind.wrap_i64]; omega
      have i1 : ¬ (L : Int) = 0 := by omega
      obtain ⟨A8, hs8, hsrc8⟩ := run_front8 Ab L cb j (by omega)
      have C8 := Lib.hid ((HC.request X7 A8 (qb.take j) j cb (by rw [List.length_take, HL.out]; omega) (by omega) (by omega) ((hsrc8 X7 _ qb HL.out (by omega) Sb_7.out).mono (fun _ _ _ => trivial)) (HP.out.below B7.out)).mono (fun _ _ h => h.told2))
      rw [req_short qb j L (by rw [HB1.out]) hjL] at C8
      unfold RqTold2 rqZ at C8
      simp only [Option.getD_none, List.length_nil] at C8
      clear hj hsrc8 Sb_7
      go_wp2_with fail
      refine C8.out.mono ?_
      rintro e y9 ⟨Af9, cf9, Ab9, cb9, rfl, _, _, _, b9⟩
      have b9' := b9.alloc b9.size (.cells #[.string ⟨#[]⟩, .string ⟨#[]⟩, .int .i64 0, .slice Af9 0 cf9, .slice Ab9 0 cb9] 25)
      have B9 := Lib.hid (B7.out.trans (b9'.mono B7.out.size))
      have I_9 := Lib.hid (I_7.out.kept (Turn.of_below (S := fun _ => False) b9') (fun h => h))
      clear b9 b9' C8 I_7
      go_upto_region 13 with fail
      generalize y9.alloc _ = X9 at *
      go_upto_region 15 with fail
      have p5 : X9.cell? ⟨w.heap.size, 5, none⟩ = some (.int .i64 st) := I_9.out.cell 5
      have p6 : X9.cell? ⟨w.heap.size, 6, none⟩ = some (.string rr) := I_9.out.cell 6
      have p7 : X9.cell? ⟨w.heap.size, 7, none⟩ = some (.int .i64 rn) := I_9.out.cell 7
      have p8 : X9.cell? ⟨w.heap.size, 8, none⟩ = some (.slice Ar nr cr) := I_9.out.cell 8
      have p9 : X9.cell? ⟨w.heap.size, 9, none⟩ = some (.slice Dr lr dr) := I_9.out.cell 9
      have p10 : X9.cell? ⟨w.heap.size, 10, none⟩ = some (.string mt) := I_9.out.cell 10
      go_wp2_with fail
      refine (CPR.out X9 B9.out).mono ?_
      rintro e Y1 ⟨Rb, rcb, rfl, hrcb, srb, bb1⟩
      have B21 := Lib.hid (B9.out.trans (bb1.mono B9.out.size))
      have I_21 := Lib.hid (I_9.out.kept (Turn.of_below (S := fun _ => False) bb1) (fun h => h))
      have Sb_21 := Lib.hid srb
      clear srb bb1 CPR B9 I_9 p5 p6 p7 p8 p9 p10
      by_cases hre : re = 0
      · subst hre
        obtain ⟨hc1, hc2, hc3, hc4⟩ := putRes_back HPR.out
        have hc5 := putRes_len HPR.out
        obtain ⟨LL, hLL⟩ : ∃ LL, rb.length = LL := ⟨_, rfl⟩
        obtain ⟨bare, hbare⟩ : ∃ bare, bareM st (bl mt) = bare := ⟨_, rfl⟩
        rw [hbare] at hc1
        obtain ⟨all2, hall2⟩ : ∃ all2, withCL rl rx.length (!bare) = all2 := ⟨_, rfl⟩
        rw [hLL, hall2] at hc1
        rw [hLL] at hc4 hc5 hrcb
        have HALL2 := Lib.hid hall2
        have HBARE := Lib.hid hbare
        clear hall2 hbare
        have HC1 := Lib.hid hc1
        have HLL := Lib.hid hLL
        rw [hLL]
        have hst8 := fun en => response_stays rb ts (bl mt) en (by rw [hc1]; simp)
        obtain ⟨r2, hr2⟩ : ∃ r2, k % 2 = r2 := ⟨_, rfl⟩
        obtain ⟨en, hen⟩ : ∃ en, ((r2 : Int) == 0) = en := ⟨_, rfl⟩
        have hrem2 : ((k : Int)).tmod 2 = (r2 : Int) := by rw [← hr2, Int.tmod_eq_emod_of_nonneg (by omega)]; rfl
        have wr2 : IntKind.u16.wrap (r2 : Int) = (r2 : Int) := by rw [IntKind.wrap_u16]; omega
        have CR := Lib.hid (fun (X : World) (hX : Below Y1.heap.size Y1 X) (M : Option Addr) (cM : Nat) (hMc : LL + nt ≤ cM) (hS : Src X (fun _ => True) M (rb ++ ts)) => (HC.response X M (rb ++ ts) (LL + nt) cM mt en (by rw [List.length_append, hLL, HNT.out]) hMc (by omega) HMT.out hS (HP.out.below (B21.out.trans (hX.mono B21.out.size)))).mono (fun _ _ h => h.told3))
        rw [hst8, hc1] at CR
        unfold RsTold3 at CR
        simp only [Option.getD_some, hc2, hc3] at CR
        obtain ⟨na, hna⟩ : ∃ na, all2.length = na := ⟨_, rfl⟩
        rw [mk_bl, hna, HLR.out] at CR
        have BD : Below Y1.heap.size Y1 Y1.drew := below_drewN (Below.refl Y1.heap.size Y1) 1
        have HTY := HT.out.kept (Turn.of_below (S := fun _ => False) B21.out) (fun _ _ h => h)
        have hl12 : (rb ++ ts).length = LL + nt := by rw [List.length_append, hLL, HNT.out]
        have bE0 : Below Y1.heap.size Y1 (Y1.alloc (.cells #[] 5)) := (Below.refl Y1.heap.size Y1).alloc (Nat.le_refl _) _
        have bZ0 : Below Y1.heap.size Y1 (Y1.alloc (.cells #[.int .i64 0, .string ⟨#[]⟩, .int .i64 0, .slice none 0 0, .slice none 0 0] 32)) := (Below.refl Y1.heap.size Y1).alloc (Nat.le_refl _) _
        have bAd : Below Y1.heap.size Y1 (Y1.alloc (.cells #[] 5)).drew := below_drewN bE0 1
        have bCd : Below Y1.heap.size Y1 (Y1.alloc (.cells #[.int .i64 0, .string ⟨#[]⟩, .int .i64 0, .slice none 0 0, .slice none 0 0] 32)).drew := below_drewN bZ0 1
        have bBd : Below Y1.heap.size Y1 ((Y1.alloc (.cells #[] 5)).alloc (.cells #[.int .i64 0, .string ⟨#[]⟩, .int .i64 0, .slice none 0 0, .slice none 0 0] 32)).drew := below_drewN (bE0.alloc bE0.size _) 1
        have bC2d : Below Y1.heap.size Y1 ((Y1.alloc (.cells #[.int .i64 0, .string ⟨#[]⟩, .int .i64 0, .slice none 0 0, .slice none 0 0] 32)).alloc (.cells #[] 5)).drew := below_drewN (bZ0.alloc bZ0.size _) 1
        have ownA2 : Own (Y1.alloc (.cells #[] 5)).drew (.slice (some ⟨Y1.heap.size, 0, none⟩) 0 0) (some Y1.heap.size) [] := Own.built Y1
        obtain ⟨uA3, UA3, qA3, rA3, ownA3, foA3, neA3, tA3, bUA3⟩ := app_one Y1 ((Y1.alloc (.cells #[] 5)).drew) bAd _ _ [] ownA2 (fun b hb => by injection hb with hb; omega) Rb rb LL rcb hLL Sb_21.out (by simp; omega)
        rw [List.nil_append] at ownA3
        obtain ⟨uA4, UA4, qA4, rA4, ownA4, foA4, neA4, tA4, bUA4⟩ := app_one Y1 UA3 bUA3 uA3 qA3 rb ownA3 foA3 At ts nt ct HNT.out HTY (by rw [hLL]; omega)
        obtain ⟨MA, cMA, hMA, hMcA, sMA, _⟩ := ownA4.block
        rw [hl12] at hMA hMcA
        subst hMA
        have bA5 : Below Y1.heap.size Y1 (UA4.alloc (.cells #[.int .i64 0, .string ⟨#[]⟩, .int .i64 0, .slice none 0 0, .slice none 0 0] 32)) := bUA4.alloc bUA4.size _
        have iA5 := Is.made UA4 32 [.int .i64 0, .string ⟨#[]⟩, .int .i64 0, .slice none 0 0, .slice none 0 0]
        have sMA5 := sMA.kept (Turn.of_below (S := fun _ => False) ((Below.refl UA4.heap.size UA4).alloc (Nat.le_refl _) (.cells #[.int .i64 0, .string ⟨#[]⟩, .int .i64 0, .slice none 0 0, .slice none 0 0] 32))) (fun _ _ h => h)
        have lA5 : UA4.heap.size < (UA4.alloc (.cells #[.int .i64 0, .string ⟨#[]⟩, .int .i64 0, .slice none 0 0, .slice none 0 0] 32)).heap.size := by simp
        have bV3 : Below Y1.heap.size Y1 (UA3.alloc (.cells #[.int .i64 0, .string ⟨#[]⟩, .int .i64 0, .slice none 0 0, .slice none 0 0] 32)) := bUA3.alloc bUA3.size _
        have iV3 := Is.made UA3 32 [.int .i64 0, .string ⟨#[]⟩, .int .i64 0, .slice none 0 0, .slice none 0 0]
        have ownV3 := ownA3.kept (Turn.of_below (S := fun _ => False) ((Below.refl UA3.heap.size UA3).alloc (Nat.le_refl _) (.cells #[.int .i64 0, .string ⟨#[]⟩, .int .i64 0, .slice none 0 0, .slice none 0 0] 32))) (fun _ _ h => h)
        obtain ⟨uV4, UV4, qV4, rV4, ownV4, foV4, neV4, tV4, bUV4⟩ := app_one Y1 (UA3.alloc (.cells #[.int .i64 0, .string ⟨#[]⟩, .int .i64 0, .slice none 0 0, .slice none 0 0] 32)) bV3 uA3 qA3 rb ownV3 foA3 At ts nt ct HNT.out HTY (by rw [hLL]; omega)
        obtain ⟨MV, cMV, hMV, hMcV, sMV, _⟩ := ownV4.block
        rw [hl12] at hMV hMcV
        subst hMV
        have iV4 := iV3.kept tV4 (fun h => by have := ownA3.lt _ h; omega)
        have iB2 : Is ((Y1.alloc (.cells #[] 5)).alloc (.cells #[.int .i64 0, .string ⟨#[]⟩, .int .i64 0, .slice none 0 0, .slice none 0 0] 32)).drew (Y1.heap.size + 1) 32 [.int .i64 0, .string ⟨#[]⟩, .int .i64 0, .slice none 0 0, .slice none 0 0] := by
          have := Is.made (Y1.alloc (.cells #[] 5)) 32 [.int .i64 0, .string ⟨#[]⟩, .int .i64 0, .slice none 0 0, .slice none 0 0]
          rw [show (Y1.alloc (.cells #[] 5)).heap.size = Y1.heap.size + 1 from by simp] at this
          exact this.drew
        have ownB2 : Own ((Y1.alloc (.cells #[] 5)).alloc (.cells #[.int .i64 0, .string ⟨#[]⟩, .int .i64 0, .slice none 0 0, .slice none 0 0] 32)).drew (.slice (some ⟨Y1.heap.size, 0, none⟩) 0 0) (some Y1.heap.size) [] := (Own.built Y1).kept (w' := (Y1.alloc (.cells #[] 5)).alloc (.cells #[.int .i64 0, .string ⟨#[]⟩, .int .i64 0, .slice none 0 0, .slice none 0 0] 32)) (Turn.of_below (S := fun _ => False) ((Below.refl (Y1.alloc (.cells #[] 5)).heap.size (Y1.alloc (.cells #[] 5))).alloc (Nat.le_refl _) (.cells #[.int .i64 0, .string ⟨#[]⟩, .int .i64 0, .slice none 0 0, .slice none 0 0] 32))) (fun _ _ h => h)
        obtain ⟨uB3, UB3, qB3, rB3, ownB3, foB3, neB3, tB3, bUB3⟩ := app_one Y1 (((Y1.alloc (.cells #[] 5)).alloc (.cells #[.int .i64 0, .string ⟨#[]⟩, .int .i64 0, .slice none 0 0, .slice none 0 0] 32)).drew) bBd _ _ [] ownB2 (fun b hb => by injection hb with hb; omega) Rb rb LL rcb hLL Sb_21.out (by simp; omega)
        rw [List.nil_append] at ownB3
        have neB : some Y1.heap.size ≠ some (Y1.heap.size + 1) := fun h => by injection h with h; omega
        have iB3 := iB2.kept tB3 (fun h => neB h)
        obtain ⟨uB4, UB4, qB4, rB4, ownB4, foB4, neB4, tB4, bUB4⟩ := app_one Y1 UB3 bUB3 uB3 qB3 rb ownB3 foB3 At ts nt ct HNT.out HTY (by rw [hLL]; omega)
        obtain ⟨MB, cMB, hMB, hMcB, sMB, _⟩ := ownB4.block
        rw [hl12] at hMB hMcB
        subst hMB
        have iB4 := iB3.kept tB4 (fun h => neB3 _ iB2.lt neB h)
        have iC2 : Is ((Y1.alloc (.cells #[.int .i64 0, .string ⟨#[]⟩, .int .i64 0, .slice none 0 0, .slice none 0 0] 32)).alloc (.cells #[] 5)).drew Y1.heap.size 32 [.int .i64 0, .string ⟨#[]⟩, .int .i64 0, .slice none 0 0, .slice none 0 0] := ((Is.made Y1 32 [.int .i64 0, .string ⟨#[]⟩, .int .i64 0, .slice none 0 0, .slice none 0 0]).alloc (.cells #[] 5)).drew
        have ownC2 : Own ((Y1.alloc (.cells #[.int .i64 0, .string ⟨#[]⟩, .int .i64 0, .slice none 0 0, .slice none 0 0] 32)).alloc (.cells #[] 5)).drew (.slice (some ⟨Y1.heap.size + 1, 0, none⟩) 0 0) (some (Y1.heap.size + 1)) [] := by
          have := Own.built (Y1.alloc (.cells #[.int .i64 0, .string ⟨#[]⟩, .int .i64 0, .slice none 0 0, .slice none 0 0] 32))
          rw [show (Y1.alloc (.cells #[.int .i64 0, .string ⟨#[]⟩, .int .i64 0, .slice none 0 0, .slice none 0 0] 32)).heap.size = Y1.heap.size + 1 from by simp] at this
          exact this
        obtain ⟨uC3, UC3, qC3, rC3, ownC3, foC3, neC3, tC3, bUC3⟩ := app_one Y1 (((Y1.alloc (.cells #[.int .i64 0, .string ⟨#[]⟩, .int .i64 0, .slice none 0 0, .slice none 0 0] 32)).alloc (.cells #[] 5)).drew) bC2d _ _ [] ownC2 (fun b hb => by injection hb with hb; omega) Rb rb LL rcb hLL Sb_21.out (by simp; omega)
        rw [List.nil_append] at ownC3
        have neC : some (Y1.heap.size + 1) ≠ some Y1.heap.size := fun h => by injection h with h; omega
        have iC3 := iC2.kept tC3 (fun h => neC h)
        obtain ⟨uC4, UC4, qC4, rC4, ownC4, foC4, neC4, tC4, bUC4⟩ := app_one Y1 UC3 bUC3 uC3 qC3 rb ownC3 foC3 At ts nt ct HNT.out HTY (by rw [hLL]; omega)
        obtain ⟨MC, cMC, hMC, hMcC, sMC, _⟩ := ownC4.block
        rw [hl12] at hMC hMcC
        subst hMC
        have iC4 := iC3.kept tC4 (fun h => neC3 _ iC2.lt neC h)
        have KB : ∀ X : World, Below Y1.heap.size Y1 X → X.cell? ⟨w.heap.size, 10, none⟩ = some (.string mt) := fun X hX => (I_21.out.kept (Turn.of_below (S := fun _ => False) hX) (fun h => h)).cell 10
        have RA3 := Lib.hid rA3
        have RA4 := Lib.hid rA4
        have RV4 := Lib.hid rV4
        have RB3 := Lib.hid rB3
        have RB4 := Lib.hid rB4
        have RC3 := Lib.hid rC3
        have RC4 := Lib.hid rC4
        clear rA3 rA4 rV4 rB3 rB4 rC3 rC4 hst8 hr2 hc1 hc2 hc3 hLL
        clear ownA2
        clear ownA3
        clear ownA4
        clear ownV3
        clear ownV4
        clear ownB2
        clear ownB3
        clear ownB4
        clear ownC2
        clear ownC3
        clear ownC4
        clear foA3
        clear foA4
        clear foV4
        clear foB3
        clear foB4
        clear foC3
        clear foC4
        clear neA3
        clear neA4
        clear neV4
        clear neB3
        clear neB4
        clear neC3
        clear neC4
        clear neB
        clear neC
        clear tA3
        clear tA4
        clear tV4
        clear tB3
        clear tB4
        clear tC3
        clear tC4
        clear bE0
        clear bZ0
        clear iV3
        clear iB2
        clear iB3
        clear iC2
        clear iC3
        clear hl12
        clear HTY
        have HiA5 := Lib.hid iA5
        clear iA5
        have HiV4 := Lib.hid iV4
        clear iV4
        have HiB4 := Lib.hid iB4
        clear iB4
        have HiC4 := Lib.hid iC4
        clear iC4
        have HsMA := Lib.hid sMA
        clear sMA
        have HsMA5 := Lib.hid sMA5
        clear sMA5
        have HsMV := Lib.hid sMV
        clear sMV
        have HsMB := Lib.hid sMB
        clear sMB
        have HsMC := Lib.hid sMC
        clear sMC
        have HhMcA := Lib.hid hMcA
        clear hMcA
        have HhMcV := Lib.hid hMcV
        clear hMcV
        have HhMcB := Lib.hid hMcB
        clear hMcB
        have HhMcC := Lib.hid hMcC
        clear hMcC
        have HlA5 := Lib.hid lA5
        clear lA5
        go_upto_region 17 with fail
        go_cut [17, 18, 19] from 93 to 107 (fun s17 s18 s19 wx => ∃ (g7 : Nat) (Rf : Option Addr) (rcf : Nat) (Rx : Option Addr) (rcx : Nat), s17 = .pointer (some ⟨g7, 0, none⟩) ∧ s18 = .int .i64 (LL : Int) ∧ s19 = .int .i64 0 ∧ na ≤ rcf ∧ Hid (Y1.heap.size ≤ g7) ∧ Hid (Below Y1.heap.size Y1 wx) ∧ Hid (Is wx g7 32 [.int .i64 st, .string rr, .int .i64 rn, .slice Rf na rcf, .slice Rx lr rcx]) ∧ Hid (SrcF wx (fun b => b ≠ g7) Rf all2) ∧ Hid (Src wx (fun b => b ≠ g7) Rx rx))
        case first =>
          have LEO4 : Y1.heap.size ≤ UA4.heap.size := bUA4.size
          have LEO3 : Y1.heap.size ≤ UA3.heap.size := bUA3.size
          have LEO2 : Y1.heap.size ≤ Y1.heap.size + 1 := by omega
          have LEO1 : Y1.heap.size ≤ Y1.heap.size := Nat.le_refl _
          go_region_held3 (fun w' => w'.cell? ⟨w.heap.size, 10, none⟩ = some (.string mt)) (first | (with_reducible exact KB _ (Below.refl Y1.heap.size Y1)) | (with_reducible exact KB _ BD) | (with_reducible exact KB _ bAd) | (with_reducible exact KB _ bCd) | (with_reducible exact KB _ bBd) | (with_reducible exact KB _ bC2d) | (with_reducible exact KB _ bUA3) | (with_reducible exact KB _ bV3) | (with_reducible exact KB _ bUA4) | (with_reducible exact KB _ bA5) | (with_reducible exact KB _ bUV4) | (with_reducible exact KB _ bUB3) | (with_reducible exact KB _ bUB4) | (with_reducible exact KB _ bUC3) | (with_reducible exact KB _ bUC4) | (with_reducible exact kO5) | (with_reducible exact kO4) | (with_reducible exact kO3) | (with_reducible exact kO2) | (with_reducible exact kO1) | (with_reducible exact kLO5 _) | (with_reducible exact kSO4 _ _ _ _ _) | (with_reducible exact kSO3 _ _ _ _ _) | (with_reducible exact kSO2 _ _ _ _ _) | (with_reducible exact kSO1 _ _ _ _ _) | go_keep)
            (first
              | ((with_reducible (show if _ = true then Oper.wp _ _ _ ((Y1.alloc (.cells #[] 5)).drew) _ _ else _)); refine step_append_by rfl (.tmp 94) (.tmp 95) 22 rfl _ _ uA3 UA3 rfl rfl RA3.out ?_)
              | ((with_reducible (show if _ = true then Oper.wp _ _ _ (((Y1.alloc (.cells #[] 5)).alloc (.cells #[.int .i64 0, .string ⟨#[]⟩, .int .i64 0, .slice none 0 0, .slice none 0 0] 32)).drew) _ _ else _)); refine step_append_by rfl (.tmp 94) (.tmp 95) 22 rfl _ _ uB3 UB3 rfl rfl RB3.out ?_)
              | ((with_reducible (show if _ = true then Oper.wp _ _ _ (((Y1.alloc (.cells #[.int .i64 0, .string ⟨#[]⟩, .int .i64 0, .slice none 0 0, .slice none 0 0] 32)).alloc (.cells #[] 5)).drew) _ _ else _)); refine step_append_by rfl (.tmp 94) (.tmp 95) 22 rfl _ _ uC3 UC3 rfl rfl RC3.out ?_)
              | ((with_reducible (show if _ = true then Oper.wp _ _ _ (UA3) _ _ else _)); refine step_append_by rfl (.tmp 96) (.tmp 97) 22 rfl _ _ _ UA4 rfl rfl RA4.out ?_)
              | ((with_reducible (show if _ = true then Oper.wp _ _ _ (UA3.alloc (.cells #[.int .i64 0, .string ⟨#[]⟩, .int .i64 0, .slice none 0 0, .slice none 0 0] 32)) _ _ else _)); refine step_append_by rfl (.tmp 96) (.tmp 97) 22 rfl _ _ _ UV4 rfl rfl RV4.out ?_)
              | ((with_reducible (show if _ = true then Oper.wp _ _ _ (UB3) _ _ else _)); refine step_append_by rfl (.tmp 96) (.tmp 97) 22 rfl _ _ _ UB4 rfl rfl RB4.out ?_)
              | ((with_reducible (show if _ = true then Oper.wp _ _ _ (UC3) _ _ else _)); refine step_append_by rfl (.tmp 96) (.tmp 97) 22 rfl _ _ _ UC4 rfl rfl RC4.out ?_)
              | (go_at_call 11
                 (with_reducible refine (CR.out UA4 bUA4 MA cMA HhMcA.out HsMA.out).mono ?_)
                 rintro e yO5 ⟨RfO5, rcfO5, RxO5, rcxO5, rfl, hrcfO5, srfO5, srxO5, bbO5⟩
                 have bYO5 : Below Y1.heap.size Y1 yO5 := bUA4.trans (bbO5.mono bUA4.size)
                 have kO5 := KB _ bYO5
                 have kLO5 : ∀ b, (yO5.alloc b).cell? ⟨w.heap.size, 10, none⟩ = some (.string mt) := fun b => KB _ (bYO5.alloc bYO5.size b))
              | (go_at_call 11
                 (with_reducible refine (CR.out UV4 bUV4 MV cMV HhMcV.out HsMV.out).mono ?_)
                 rintro e yO3 ⟨RfO3, rcfO3, RxO3, rcxO3, rfl, hrcfO3, srfO3, srxO3, bbO3⟩
                 have bYO3 : Below Y1.heap.size Y1 yO3 := bUV4.trans (bbO3.mono bUV4.size)
                 have kO3 := KB _ bYO3
                 have iYO3 := HiV4.out.kept (Turn.of_below (S := fun _ => False) bbO3) (fun h => h)
                 have z0O3 : yO3.cell? ⟨UA3.heap.size, 0, none⟩ = some _ := iYO3.cell 0
                 have zf0O3 : yO3.frozen? ⟨UA3.heap.size, 0, none⟩ = false := iYO3.free 0
                 have z1O3 : yO3.cell? ⟨UA3.heap.size, 1, none⟩ = some _ := iYO3.cell 1
                 have zf1O3 : yO3.frozen? ⟨UA3.heap.size, 1, none⟩ = false := iYO3.free 1
                 have z2O3 : yO3.cell? ⟨UA3.heap.size, 2, none⟩ = some _ := iYO3.cell 2
                 have zf2O3 : yO3.frozen? ⟨UA3.heap.size, 2, none⟩ = false := iYO3.free 2
                 have z3O3 : yO3.cell? ⟨UA3.heap.size, 3, none⟩ = some _ := iYO3.cell 3
                 have zf3O3 : yO3.frozen? ⟨UA3.heap.size, 3, none⟩ = false := iYO3.free 3
                 have z4O3 : yO3.cell? ⟨UA3.heap.size, 4, none⟩ = some _ := iYO3.cell 4
                 have zf4O3 : yO3.frozen? ⟨UA3.heap.size, 4, none⟩ = false := iYO3.free 4
                 have kSO3 : ∀ v0 v1 v2 v3 v4, (put5 yO3 UA3.heap.size v0 v1 v2 v3 v4).cell? ⟨w.heap.size, 10, none⟩ = some (.string mt) := fun v0 v1 v2 v3 v4 => KB _ (put5_belowY bYO3 LEO3 v0 v1 v2 v3 v4)
                 unfold put5 at kSO3)
              | (go_at_call 11
                 (with_reducible refine (CR.out UB4 bUB4 MB cMB HhMcB.out HsMB.out).mono ?_)
                 rintro e yO2 ⟨RfO2, rcfO2, RxO2, rcxO2, rfl, hrcfO2, srfO2, srxO2, bbO2⟩
                 have bYO2 : Below Y1.heap.size Y1 yO2 := bUB4.trans (bbO2.mono bUB4.size)
                 have kO2 := KB _ bYO2
                 have iYO2 := HiB4.out.kept (Turn.of_below (S := fun _ => False) bbO2) (fun h => h)
                 have z0O2 : yO2.cell? ⟨(Y1.heap.size + 1), 0, none⟩ = some _ := iYO2.cell 0
                 have zf0O2 : yO2.frozen? ⟨(Y1.heap.size + 1), 0, none⟩ = false := iYO2.free 0
                 have z1O2 : yO2.cell? ⟨(Y1.heap.size + 1), 1, none⟩ = some _ := iYO2.cell 1
                 have zf1O2 : yO2.frozen? ⟨(Y1.heap.size + 1), 1, none⟩ = false := iYO2.free 1
                 have z2O2 : yO2.cell? ⟨(Y1.heap.size + 1), 2, none⟩ = some _ := iYO2.cell 2
                 have zf2O2 : yO2.frozen? ⟨(Y1.heap.size + 1), 2, none⟩ = false := iYO2.free 2
                 have z3O2 : yO2.cell? ⟨(Y1.heap.size + 1), 3, none⟩ = some _ := iYO2.cell 3
                 have zf3O2 : yO2.frozen? ⟨(Y1.heap.size + 1), 3, none⟩ = false := iYO2.free 3
                 have z4O2 : yO2.cell? ⟨(Y1.heap.size + 1), 4, none⟩ = some _ := iYO2.cell 4
                 have zf4O2 : yO2.frozen? ⟨(Y1.heap.size + 1), 4, none⟩ = false := iYO2.free 4
                 have kSO2 : ∀ v0 v1 v2 v3 v4, (put5 yO2 (Y1.heap.size + 1) v0 v1 v2 v3 v4).cell? ⟨w.heap.size, 10, none⟩ = some (.string mt) := fun v0 v1 v2 v3 v4 => KB _ (put5_belowY bYO2 LEO2 v0 v1 v2 v3 v4)
                 unfold put5 at kSO2)
              | (go_at_call 11
                 (with_reducible refine (CR.out UC4 bUC4 MC cMC HhMcC.out HsMC.out).mono ?_)
                 rintro e yO1 ⟨RfO1, rcfO1, RxO1, rcxO1, rfl, hrcfO1, srfO1, srxO1, bbO1⟩
                 have bYO1 : Below Y1.heap.size Y1 yO1 := bUC4.trans (bbO1.mono bUC4.size)
                 have kO1 := KB _ bYO1
                 have iYO1 := HiC4.out.kept (Turn.of_below (S := fun _ => False) bbO1) (fun h => h)
                 have z0O1 : yO1.cell? ⟨Y1.heap.size, 0, none⟩ = some _ := iYO1.cell 0
                 have zf0O1 : yO1.frozen? ⟨Y1.heap.size, 0, none⟩ = false := iYO1.free 0
                 have z1O1 : yO1.cell? ⟨Y1.heap.size, 1, none⟩ = some _ := iYO1.cell 1
                 have zf1O1 : yO1.frozen? ⟨Y1.heap.size, 1, none⟩ = false := iYO1.free 1
                 have z2O1 : yO1.cell? ⟨Y1.heap.size, 2, none⟩ = some _ := iYO1.cell 2
                 have zf2O1 : yO1.frozen? ⟨Y1.heap.size, 2, none⟩ = false := iYO1.free 2
                 have z3O1 : yO1.cell? ⟨Y1.heap.size, 3, none⟩ = some _ := iYO1.cell 3
                 have zf3O1 : yO1.frozen? ⟨Y1.heap.size, 3, none⟩ = false := iYO1.free 3
                 have z4O1 : yO1.cell? ⟨Y1.heap.size, 4, none⟩ = some _ := iYO1.cell 4
                 have zf4O1 : yO1.frozen? ⟨Y1.heap.size, 4, none⟩ = false := iYO1.free 4
                 have kSO1 : ∀ v0 v1 v2 v3 v4, (put5 yO1 Y1.heap.size v0 v1 v2 v3 v4).cell? ⟨w.heap.size, 10, none⟩ = some (.string mt) := fun v0 v1 v2 v3 v4 => KB _ (put5_belowY bYO1 LEO1 v0 v1 v2 v3 v4)
                 unfold put5 at kSO1)
              | (go_at_call 11
                 (with_reducible refine (CR.out (UA4.alloc (.cells #[.int .i64 0, .string ⟨#[]⟩, .int .i64 0, .slice none 0 0, .slice none 0 0] 32)) bA5 MA cMA HhMcA.out HsMA5.out).mono ?_)
                 rintro e yO4 ⟨RfO4, rcfO4, RxO4, rcxO4, rfl, hrcfO4, srfO4, srxO4, bbO4⟩
                 have bYO4 : Below Y1.heap.size Y1 yO4 := bA5.trans (bbO4.mono bA5.size)
                 have kO4 := KB _ bYO4
                 have iYO4 := HiA5.out.kept (Turn.of_below (S := fun _ => False) bbO4) (fun h => h)
                 have z0O4 : yO4.cell? ⟨UA4.heap.size, 0, none⟩ = some _ := iYO4.cell 0
                 have zf0O4 : yO4.frozen? ⟨UA4.heap.size, 0, none⟩ = false := iYO4.free 0
                 have z1O4 : yO4.cell? ⟨UA4.heap.size, 1, none⟩ = some _ := iYO4.cell 1
                 have zf1O4 : yO4.frozen? ⟨UA4.heap.size, 1, none⟩ = false := iYO4.free 1
                 have z2O4 : yO4.cell? ⟨UA4.heap.size, 2, none⟩ = some _ := iYO4.cell 2
                 have zf2O4 : yO4.frozen? ⟨UA4.heap.size, 2, none⟩ = false := iYO4.free 2
                 have z3O4 : yO4.cell? ⟨UA4.heap.size, 3, none⟩ = some _ := iYO4.cell 3
                 have zf3O4 : yO4.frozen? ⟨UA4.heap.size, 3, none⟩ = false := iYO4.free 3
                 have z4O4 : yO4.cell? ⟨UA4.heap.size, 4, none⟩ = some _ := iYO4.cell 4
                 have zf4O4 : yO4.frozen? ⟨UA4.heap.size, 4, none⟩ = false := iYO4.free 4
                 have kSO4 : ∀ v0 v1 v2 v3 v4, (put5 yO4 UA4.heap.size v0 v1 v2 v3 v4).cell? ⟨w.heap.size, 10, none⟩ = some (.string mt) := fun v0 v1 v2 v3 v4 => KB _ (put5_belowY bYO4 LEO4 v0 v1 v2 v3 v4)
                 unfold put5 at kSO4))
          all_goals
            go_wp2_with fail
            go_meet
            first
              | (exact ⟨yO5.heap.size, RfO5, rcfO5, RxO5, rcxO5, rfl, rfl, rfl, hrcfO5, Lib.hid bYO5.size, Lib.hid (bYO5.alloc bYO5.size _), Lib.hid (Is.made yO5 32 [.int .i64 st, .string rr, .int .i64 rn, .slice RfO5 na rcfO5, .slice RxO5 lr rcxO5]), Lib.hid ((srcf_imp srfO5 (fun k hk _ e => by omega)).below ((Below.refl yO5.heap.size yO5).alloc (Nat.le_refl _) (.cells #[.int .i64 st, .string rr, .int .i64 rn, .slice RfO5 na rcfO5, .slice RxO5 lr rcxO5] 32))), Lib.hid ((srxO5.mono (fun k hk _ e => by omega)).kept (Turn.of_below (S := fun _ => False) ((Below.refl yO5.heap.size yO5).alloc (Nat.le_refl _) (.cells #[.int .i64 st, .string rr, .int .i64 rn, .slice RfO5 na rcfO5, .slice RxO5 lr rcxO5] 32))) (fun _ _ h => h))⟩)
              | (exact ⟨UA4.heap.size, RfO4, rcfO4, RxO4, rcxO4, rfl, rfl, rfl, hrcfO4, Lib.hid LEO4, Lib.hid (put5_belowY bYO4 LEO4 (.int .i64 st) (.string rr) (.int .i64 rn) (.slice RfO4 na rcfO4) (.slice RxO4 lr rcxO4)), Lib.hid (put5_is iYO4 (.int .i64 st) (.string rr) (.int .i64 rn) (.slice RfO4 na rcfO4) (.slice RxO4 lr rcxO4)), Lib.hid (srcf_imp (srcf_turn srfO4 (put5_turn yO4 UA4.heap.size (.int .i64 st) (.string rr) (.int .i64 rn) (.slice RfO4 na rcfO4) (.slice RxO4 lr rcxO4)) (fun k hk e => by have h1 : UA4.heap.size < (UA4.alloc (.cells #[.int .i64 0, .string ⟨#[]⟩, .int .i64 0, .slice none 0 0, .slice none 0 0] 32)).heap.size := HiA5.out.lt; omega)) (fun k _ hk e => by have h1 : UA4.heap.size < (UA4.alloc (.cells #[.int .i64 0, .string ⟨#[]⟩, .int .i64 0, .slice none 0 0, .slice none 0 0] 32)).heap.size := HiA5.out.lt; omega)), Lib.hid ((srxO4.kept (put5_turn yO4 UA4.heap.size (.int .i64 st) (.string rr) (.int .i64 rn) (.slice RfO4 na rcfO4) (.slice RxO4 lr rcxO4)) (fun k hk e => by have h1 : UA4.heap.size < (UA4.alloc (.cells #[.int .i64 0, .string ⟨#[]⟩, .int .i64 0, .slice none 0 0, .slice none 0 0] 32)).heap.size := HiA5.out.lt; omega)).mono (fun k _ hk e => by have h1 : UA4.heap.size < (UA4.alloc (.cells #[.int .i64 0, .string ⟨#[]⟩, .int .i64 0, .slice none 0 0, .slice none 0 0] 32)).heap.size := HiA5.out.lt; omega))⟩)
              | (exact ⟨UA3.heap.size, RfO3, rcfO3, RxO3, rcxO3, rfl, rfl, rfl, hrcfO3, Lib.hid LEO3, Lib.hid (put5_belowY bYO3 LEO3 (.int .i64 st) (.string rr) (.int .i64 rn) (.slice RfO3 na rcfO3) (.slice RxO3 lr rcxO3)), Lib.hid (put5_is iYO3 (.int .i64 st) (.string rr) (.int .i64 rn) (.slice RfO3 na rcfO3) (.slice RxO3 lr rcxO3)), Lib.hid (srcf_imp (srcf_turn srfO3 (put5_turn yO3 UA3.heap.size (.int .i64 st) (.string rr) (.int .i64 rn) (.slice RfO3 na rcfO3) (.slice RxO3 lr rcxO3)) (fun k hk e => by have h1 : UA3.heap.size < UV4.heap.size := HiV4.out.lt; omega)) (fun k _ hk e => by have h1 : UA3.heap.size < UV4.heap.size := HiV4.out.lt; omega)), Lib.hid ((srxO3.kept (put5_turn yO3 UA3.heap.size (.int .i64 st) (.string rr) (.int .i64 rn) (.slice RfO3 na rcfO3) (.slice RxO3 lr rcxO3)) (fun k hk e => by have h1 : UA3.heap.size < UV4.heap.size := HiV4.out.lt; omega)).mono (fun k _ hk e => by have h1 : UA3.heap.size < UV4.heap.size := HiV4.out.lt; omega))⟩)
              | (exact ⟨(Y1.heap.size + 1), RfO2, rcfO2, RxO2, rcxO2, rfl, rfl, rfl, hrcfO2, Lib.hid LEO2, Lib.hid (put5_belowY bYO2 LEO2 (.int .i64 st) (.string rr) (.int .i64 rn) (.slice RfO2 na rcfO2) (.slice RxO2 lr rcxO2)), Lib.hid (put5_is iYO2 (.int .i64 st) (.string rr) (.int .i64 rn) (.slice RfO2 na rcfO2) (.slice RxO2 lr rcxO2)), Lib.hid (srcf_imp (srcf_turn srfO2 (put5_turn yO2 (Y1.heap.size + 1) (.int .i64 st) (.string rr) (.int .i64 rn) (.slice RfO2 na rcfO2) (.slice RxO2 lr rcxO2)) (fun k hk e => by have h1 : (Y1.heap.size + 1) < UB4.heap.size := HiB4.out.lt; omega)) (fun k _ hk e => by have h1 : (Y1.heap.size + 1) < UB4.heap.size := HiB4.out.lt; omega)), Lib.hid ((srxO2.kept (put5_turn yO2 (Y1.heap.size + 1) (.int .i64 st) (.string rr) (.int .i64 rn) (.slice RfO2 na rcfO2) (.slice RxO2 lr rcxO2)) (fun k hk e => by have h1 : (Y1.heap.size + 1) < UB4.heap.size := HiB4.out.lt; omega)).mono (fun k _ hk e => by have h1 : (Y1.heap.size + 1) < UB4.heap.size := HiB4.out.lt; omega))⟩)
              | (exact ⟨Y1.heap.size, RfO1, rcfO1, RxO1, rcxO1, rfl, rfl, rfl, hrcfO1, Lib.hid LEO1, Lib.hid (put5_belowY bYO1 LEO1 (.int .i64 st) (.string rr) (.int .i64 rn) (.slice RfO1 na rcfO1) (.slice RxO1 lr rcxO1)), Lib.hid (put5_is iYO1 (.int .i64 st) (.string rr) (.int .i64 rn) (.slice RfO1 na rcfO1) (.slice RxO1 lr rcxO1)), Lib.hid (srcf_imp (srcf_turn srfO1 (put5_turn yO1 Y1.heap.size (.int .i64 st) (.string rr) (.int .i64 rn) (.slice RfO1 na rcfO1) (.slice RxO1 lr rcxO1)) (fun k hk e => by have h1 : Y1.heap.size < UC4.heap.size := HiC4.out.lt; omega)) (fun k _ hk e => by have h1 : Y1.heap.size < UC4.heap.size := HiC4.out.lt; omega)), Lib.hid ((srxO1.kept (put5_turn yO1 Y1.heap.size (.int .i64 st) (.string rr) (.int .i64 rn) (.slice RfO1 na rcfO1) (.slice RxO1 lr rcxO1)) (fun k hk e => by have h1 : Y1.heap.size < UC4.heap.size := HiC4.out.lt; omega)).mono (fun k _ hk e => by have h1 : Y1.heap.size < UC4.heap.size := HiC4.out.lt; omega))⟩)
        case rest =>
          obtain ⟨g7, Rf, rcf, Rx, rcx, rfl, rfl, rfl, hrcf, HG7, BY, IR, SF, SX⟩ := hcut
          have Bw := Lib.hid (B21.out.trans (BY.out.mono B21.out.size))
          have Iw := Lib.hid (I_21.out.kept (Turn.of_below (S := fun _ => False) BY.out) (fun h => h))
          have Sbw := Lib.hid ((src_lt Sb_21.out).kept (Turn.of_below (S := fun _ => False) BY.out) (fun _ _ h => h))
          have HGW := Lib.hid (show w.heap.size < g7 ∧ Y1.heap.size ≤ g7 from ⟨by have := I_21.out.lt; have := HG7.out; omega, HG7.out⟩)
          have e2 : ((LL : Int) != (LL : Int)) = false := by simp
          have CBa := Lib.hid (fun X : World => rbare_any X st mt)
          rw [HBARE.out] at CBa
          clear I_21 Sb_21 B21 BY KB CR bAd bCd bBd bC2d RA3 RA4 RV4 RB3 RB4 RC3 RC4 bUA3 bV3 bUA4 bA5 bUV4 bUB3 bUB4 bUC3 bUC4 BD HiA5 HiV4 HiB4 HiC4 HsMA HsMA5 HsMV HsMB HsMC HhMcA HhMcV HhMcB HhMcC HlA5
          have a5 : wc.cell? ⟨w.heap.size, 5, none⟩ = some (.int .i64 st) := Iw.out.cell 5
          have a10 : wc.cell? ⟨w.heap.size, 10, none⟩ = some (.string mt) := Iw.out.cell 10
          go_wp2_with fail
          refine (CBa.out wc).mono ?_
          rintro e w' ⟨rfl, rfl⟩
          clear a5 a10 CBa
          cases bare with
          | true =>
            have hw : all2 = rl := by rw [← HALL2.out]; rfl
            have hnr : na = nr := by rw [← hna, hw, HNR.out]
            rw [hw] at SF
            rw [hnr] at IR
            have SF2 := Lib.hid (srcf_true SF.out)
            have SX2 := Lib.hid (SX.out.mono (P' := fun _ => True) (fun _ _ _ => trivial))
            clear hw hnr hna SF SX hrcf
            have c0 : wc.cell? ⟨g7, 0, none⟩ = some (.int .i64 st) := IR.out.cell 0
            have c1 : wc.cell? ⟨g7, 1, none⟩ = some (.string rr) := IR.out.cell 1
            have c2 : wc.cell? ⟨g7, 2, none⟩ = some (.int .i64 rn) := IR.out.cell 2
            have c3 : wc.cell? ⟨g7, 3, none⟩ = some (.slice Rf nr rcf) := IR.out.cell 3
            have c4 : wc.cell? ⟨g7, 4, none⟩ = some (.slice Rx lr rcx) := IR.out.cell 4
            have d5 : wc.cell? ⟨w.heap.size, 5, none⟩ = some (.int .i64 st) := Iw.out.cell 5
            have d6 : wc.cell? ⟨w.heap.size, 6, none⟩ = some (.string rr) := Iw.out.cell 6
            have d7 : wc.cell? ⟨w.heap.size, 7, none⟩ = some (.int .i64 rn) := Iw.out.cell 7
            have d8 : wc.cell? ⟨w.heap.size, 8, none⟩ = some (.slice Ar nr cr) := Iw.out.cell 8
            have d9 : wc.cell? ⟨w.heap.size, 9, none⟩ = some (.slice Dr lr dr) := Iw.out.cell 9
            have K := Lib.hid (HC.sameResponse wc st st rr rr rn rn Rf Ar Rx Dr rl rl rx rx nr nr rcf cr lr lr rcx dr HNR.out HNR.out (by omega) HLR.out HLR.out SF2.out (HR.out.below Bw.out) SX2.out (HRX.out.kept (Turn.of_below (S := fun _ => False) Bw.out) (fun _ _ h => h)))
            rw [show decide (st = st ∧ bl rr = bl rr ∧ rn = rn ∧ rl = rl ∧ rx = rx) = true by simp] at K
            go_wp2_with fail
            refine K.out.mono ?_
            rintro e X7 ⟨rfl, b7⟩
            have B7 := Lib.hid (Bw.out.trans (b7.mono Bw.out.size))
            have I7 := Lib.hid (Iw.out.kept (Turn.of_below (S := fun _ => False) b7) (fun h => h))
            have Sb7 := Lib.hid (Sbw.out.kept (Turn.of_below (S := fun _ => False) b7) (fun _ _ h => h))
            clear b7 K IR SF2 SX2 Iw Sbw c0 c1 c2 c3 c4 d5 d6 d7 d8 d9
            obtain ⟨j, hj⟩ : ∃ j, k % LL = j := ⟨_, rfl⟩
            have hjL : j < LL := by rw [← hj]; exact Nat.mod_lt _ hc4
            have hrem : ((k : Int)).tmod (LL : Int) = (j : Int) := by rw [← hj, Int.tmod_eq_emod_of_nonneg (by omega)]; rfl
            have wk : IntKind.i64.wrap (k : Int) = (k : Int) := by rw [IntKind.wrap_i64]; omega
            have wj : IntKind.i64.wrap (j : Int) = (j : Int) := by rw [IntKind.wrap_i64]; omega
            have i1 : ¬ (LL : Int) = 0 := by omega
            have i1n : ¬ LL = 0 := by omega
            have i1b : ((LL : Int) == 0) = false := by simp; omega
            have i1d : decide ((LL : Int) = 0) = false := decide_eq_false (by omega)
            obtain ⟨A8, hs8, hsrc8⟩ := run_front8 Rb LL rcb j (by omega)
            have C8 := Lib.hid (fun (X : World) (hX : Below X7.heap.size X7 X) => (HC.response X A8 (rb.take j) j rcb mt false (by rw [List.length_take, HLL.out]; omega) (by omega) (by omega) HMT.out (((hsrc8 X7 _ rb HLL.out (by omega) Sb7.out).mono (fun _ _ _ => trivial)).kept (Turn.of_below (S := fun _ => False) hX) (fun _ _ h => h)) (HP.out.below (B7.out.trans (hX.mono B7.out.size)))).mono (fun _ _ h => h.told2))
            rw [res_short rb (bl mt) j LL (by rw [HC1.out]) hjL] at C8
            unfold RsTold2 rsZ at C8
            simp only [Option.getD_none, List.length_nil] at C8
            clear hj hsrc8 Sb7
            have K7 : ∀ X : World, Below X7.heap.size X7 X → X.cell? ⟨w.heap.size, 10, none⟩ = some (.string mt) := fun X hX => (I7.out.kept (Turn.of_below (S := fun _ => False) hX) (fun h => h)).cell 10
            have D7 : Below X7.heap.size X7 X7.drew := below_drewN (Below.refl X7.heap.size X7) 1
            have DZ : Below X7.heap.size X7 (X7.alloc (.cells #[.int .i64 0, .string ⟨#[]⟩, .int .i64 0, .slice none 0 0, .slice none 0 0] 32)).drew := below_drewN ((Below.refl X7.heap.size X7).alloc (Nat.le_refl _) _) 1
            have iZ : Is (X7.alloc (.cells #[.int .i64 0, .string ⟨#[]⟩, .int .i64 0, .slice none 0 0, .slice none 0 0] 32)).drew X7.heap.size 32 [.int .i64 0, .string ⟨#[]⟩, .int .i64 0, .slice none 0 0, .slice none 0 0] := (Is.made X7 32 [.int .i64 0, .string ⟨#[]⟩, .int .i64 0, .slice none 0 0, .slice none 0 0]).drew
            go_wp2_with fail
            go_region_held3 (fun w' => w'.cell? ⟨w.heap.size, 10, none⟩ = some (.string mt)) (first | (with_reducible exact K7 _ (Below.refl X7.heap.size X7)) | (with_reducible exact K7 _ D7) | (with_reducible exact K7 _ DZ) | (with_reducible exact k8) | (with_reducible exact k8L _) | (with_reducible exact k9) | (with_reducible exact k9S _ _ _ _ _) | go_keep)
              (first
                | (go_at_call 11
                   (with_reducible refine (C8.out X7.drew D7).mono ?_)
                   rintro e y8 ⟨A9, c9, B9, d9, rfl, _, _, _, b8⟩
                   have bY8 : Below X7.heap.size X7 y8 := D7.trans (b8.mono D7.size)
                   have k8 := K7 _ bY8
                   have k8L : ∀ b, (y8.alloc b).cell? ⟨w.heap.size, 10, none⟩ = some (.string mt) := fun b => K7 _ (bY8.alloc bY8.size b))
                | (go_at_call 11
                   (with_reducible refine (C8.out (X7.alloc (.cells #[.int .i64 0, .string ⟨#[]⟩, .int .i64 0, .slice none 0 0, .slice none 0 0] 32)).drew DZ).mono ?_)
                   rintro e y9 ⟨A9, c9, B9, d9, rfl, _, _, _, b9⟩
                   have bY9 : Below X7.heap.size X7 y9 := DZ.trans (b9.mono DZ.size)
                   have k9 := K7 _ bY9
                   have iY9 := iZ.kept (Turn.of_below (S := fun _ => False) b9) (fun h => h)
                   have z09 : y9.cell? ⟨X7.heap.size, 0, none⟩ = some _ := iY9.cell 0
                   have zf09 : y9.frozen? ⟨X7.heap.size, 0, none⟩ = false := iY9.free 0
                   have z19 : y9.cell? ⟨X7.heap.size, 1, none⟩ = some _ := iY9.cell 1
                   have zf19 : y9.frozen? ⟨X7.heap.size, 1, none⟩ = false := iY9.free 1
                   have z29 : y9.cell? ⟨X7.heap.size, 2, none⟩ = some _ := iY9.cell 2
                   have zf29 : y9.frozen? ⟨X7.heap.size, 2, none⟩ = false := iY9.free 2
                   have z39 : y9.cell? ⟨X7.heap.size, 3, none⟩ = some _ := iY9.cell 3
                   have zf39 : y9.frozen? ⟨X7.heap.size, 3, none⟩ = false := iY9.free 3
                   have z49 : y9.cell? ⟨X7.heap.size, 4, none⟩ = some _ := iY9.cell 4
                   have zf49 : y9.frozen? ⟨X7.heap.size, 4, none⟩ = false := iY9.free 4
                   have k9S : ∀ v0 v1 v2 v3 v4, (put5 y9 X7.heap.size v0 v1 v2 v3 v4).cell? ⟨w.heap.size, 10, none⟩ = some (.string mt) := fun v0 v1 v2 v3 v4 => K7 _ (put5_belowY bY9 (Nat.le_refl _) v0 v1 v2 v3 v4)
                   unfold put5 at k9S))
            all_goals
              go_wp2_with fail
              go_ret
              first
                | exact ⟨rfl, B7.out.trans ((bY8.alloc bY8.size _).mono B7.out.size)⟩
                | exact ⟨rfl, B7.out.trans ((put5_belowY bY9 (Nat.le_refl _) _ _ _ _ _).mono B7.out.size)⟩
          | false =>
            have hnr : na = nr + 1 := by rw [← hna, ← HALL2.out, withCL_length, HNR.out]; rfl
            have hw : all2.take nr = rl := by rw [← HALL2.out]; unfold withCL; rw [if_pos (by rfl), ← HNR.out]; exact List.take_left' rfl
            obtain ⟨A6, hs6, hsrc6⟩ := run_front_fld9 Rf (nr + 1) rcf nr (by omega)
            have sf6 := hsrc6 wc _ _ (hna.trans hnr) (by omega) SF.out
            rw [hw] at sf6
            rw [hnr] at IR
            have wr6 : IntKind.i64.wrap ((nr : Int) + 1 - 1) = (nr : Int) := by rw [IntKind.wrap_i64]; omega
            have m3 : wc.cell? ⟨g7, 3, none⟩ = some (.slice Rf (nr + 1) rcf) := IR.out.cell 3
            have m3f : wc.frozen? ⟨g7, 3, none⟩ = false := IR.out.free 3
            have T6 : Turn (· = g7) wc (wc.setCell ⟨g7, 3, none⟩ (.slice A6 nr rcf)) := (Turn.refl (· = g7) wc).setCell (p := ⟨g7, 3, none⟩) (fun _ => rfl) _
            have Ir6 := Lib.hid (IR.out.set 3 (.slice A6 nr rcf))
            have Iw6 := Lib.hid (Iw.out.kept T6 (fun hh => by have := HGW.out.1; omega))
            have Bw6 := Lib.hid (Bw.out.setCell (p := ⟨g7, 3, none⟩) (Nat.le_of_lt HGW.out.1) (.slice A6 nr rcf))
            have SF6 := Lib.hid (srcf_true (srcf_turn sf6 T6 (fun q hq hh => hq hh)))
            have SX6 := Lib.hid ((SX.out.kept T6 (fun q hq hh => hq hh)).mono (P' := fun _ => True) (fun _ _ _ => trivial))
            have Sb6 := Lib.hid (Sbw.out.kept T6 (fun q hq hh => by have := HGW.out.2; omega))
            clear T6 sf6 hsrc6 hw hnr hna IR Iw Bw SF SX Sbw
            go_upto_region 22 with fail
            clear m3 m3f
            generalize wc.setCell ⟨g7, 3, none⟩ _ = X6 at *
            simp only [List.set_cons_zero, List.set_cons_succ] at Ir6
            have c0 : X6.cell? ⟨g7, 0, none⟩ = some (.int .i64 st) := Ir6.out.cell 0
            have c1 : X6.cell? ⟨g7, 1, none⟩ = some (.string rr) := Ir6.out.cell 1
            have c2 : X6.cell? ⟨g7, 2, none⟩ = some (.int .i64 rn) := Ir6.out.cell 2
            have c3 : X6.cell? ⟨g7, 3, none⟩ = some (.slice A6 nr rcf) := Ir6.out.cell 3
            have c4 : X6.cell? ⟨g7, 4, none⟩ = some (.slice Rx lr rcx) := Ir6.out.cell 4
            have d5 : X6.cell? ⟨w.heap.size, 5, none⟩ = some (.int .i64 st) := Iw6.out.cell 5
            have d6 : X6.cell? ⟨w.heap.size, 6, none⟩ = some (.string rr) := Iw6.out.cell 6
            have d7 : X6.cell? ⟨w.heap.size, 7, none⟩ = some (.int .i64 rn) := Iw6.out.cell 7
            have d8 : X6.cell? ⟨w.heap.size, 8, none⟩ = some (.slice Ar nr cr) := Iw6.out.cell 8
            have d9 : X6.cell? ⟨w.heap.size, 9, none⟩ = some (.slice Dr lr dr) := Iw6.out.cell 9
            have K := Lib.hid (HC.sameResponse X6 st st rr rr rn rn A6 Ar Rx Dr rl rl rx rx nr nr rcf cr lr lr rcx dr HNR.out HNR.out (by omega) HLR.out HLR.out SF6.out (HR.out.below Bw6.out) SX6.out (HRX.out.kept (Turn.of_below (S := fun _ => False) Bw6.out) (fun _ _ h => h)))
            rw [show decide (st = st ∧ bl rr = bl rr ∧ rn = rn ∧ rl = rl ∧ rx = rx) = true by simp] at K
            go_wp2_with fail
            refine K.out.mono ?_
            rintro e X7 ⟨rfl, b7⟩
            have B7 := Lib.hid (Bw6.out.trans (b7.mono Bw6.out.size))
            have I7 := Lib.hid (Iw6.out.kept (Turn.of_below (S := fun _ => False) b7) (fun h => h))
            have Sb7 := Lib.hid (Sb6.out.kept (Turn.of_below (S := fun _ => False) b7) (fun _ _ h => h))
            clear b7 K Ir6 SF6 SX6 Iw6 Sb6 c0 c1 c2 c3 c4 d5 d6 d7 d8 d9
            obtain ⟨j, hj⟩ : ∃ j, k % LL = j := ⟨_, rfl⟩
            have hjL : j < LL := by rw [← hj]; exact Nat.mod_lt _ hc4
            have hrem : ((k : Int)).tmod (LL : Int) = (j : Int) := by rw [← hj, Int.tmod_eq_emod_of_nonneg (by omega)]; rfl
            have wk : IntKind.i64.wrap (k : Int) = (k : Int) := by rw [IntKind.wrap_i64]; omega
            have wj : IntKind.i64.wrap (j : Int) = (j : Int) := by rw [IntKind.wrap_i64]; omega
            have i1 : ¬ (LL : Int) = 0 := by omega
            have i1n : ¬ LL = 0 := by omega
            have i1b : ((LL : Int) == 0) = false := by simp; omega
            have i1d : decide ((LL : Int) = 0) = false := decide_eq_false (by omega)
            obtain ⟨A8, hs8, hsrc8⟩ := run_front8 Rb LL rcb j (by omega)
            have C8 := Lib.hid (fun (X : World) (hX : Below X7.heap.size X7 X) => (HC.response X A8 (rb.take j) j rcb mt false (by rw [List.length_take, HLL.out]; omega) (by omega) (by omega) HMT.out (((hsrc8 X7 _ rb HLL.out (by omega) Sb7.out).mono (fun _ _ _ => trivial)).kept (Turn.of_below (S := fun _ => False) hX) (fun _ _ h => h)) (HP.out.below (B7.out.trans (hX.mono B7.out.size)))).mono (fun _ _ h => h.told2))
            rw [res_short rb (bl mt) j LL (by rw [HC1.out]) hjL] at C8
            unfold RsTold2 rsZ at C8
            simp only [Option.getD_none, List.length_nil] at C8
            clear hj hsrc8 Sb7
            have K7 : ∀ X : World, Below X7.heap.size X7 X → X.cell? ⟨w.heap.size, 10, none⟩ = some (.string mt) := fun X hX => (I7.out.kept (Turn.of_below (S := fun _ => False) hX) (fun h => h)).cell 10
            have D7 : Below X7.heap.size X7 X7.drew := below_drewN (Below.refl X7.heap.size X7) 1
            have DZ : Below X7.heap.size X7 (X7.alloc (.cells #[.int .i64 0, .string ⟨#[]⟩, .int .i64 0, .slice none 0 0, .slice none 0 0] 32)).drew := below_drewN ((Below.refl X7.heap.size X7).alloc (Nat.le_refl _) _) 1
            have iZ : Is (X7.alloc (.cells #[.int .i64 0, .string ⟨#[]⟩, .int .i64 0, .slice none 0 0, .slice none 0 0] 32)).drew X7.heap.size 32 [.int .i64 0, .string ⟨#[]⟩, .int .i64 0, .slice none 0 0, .slice none 0 0] := (Is.made X7 32 [.int .i64 0, .string ⟨#[]⟩, .int .i64 0, .slice none 0 0, .slice none 0 0]).drew
            go_wp2_with fail
            go_region_held3 (fun w' => w'.cell? ⟨w.heap.size, 10, none⟩ = some (.string mt)) (first | (with_reducible exact K7 _ (Below.refl X7.heap.size X7)) | (with_reducible exact K7 _ D7) | (with_reducible exact K7 _ DZ) | (with_reducible exact k8) | (with_reducible exact k8L _) | (with_reducible exact k9) | (with_reducible exact k9S _ _ _ _ _) | go_keep)
              (first
                | (go_at_call 11
                   (with_reducible refine (C8.out X7.drew D7).mono ?_)
                   rintro e y8 ⟨A9, c9, B9, d9, rfl, _, _, _, b8⟩
                   have bY8 : Below X7.heap.size X7 y8 := D7.trans (b8.mono D7.size)
                   have k8 := K7 _ bY8
                   have k8L : ∀ b, (y8.alloc b).cell? ⟨w.heap.size, 10, none⟩ = some (.string mt) := fun b => K7 _ (bY8.alloc bY8.size b))
                | (go_at_call 11
                   (with_reducible refine (C8.out (X7.alloc (.cells #[.int .i64 0, .string ⟨#[]⟩, .int .i64 0, .slice none 0 0, .slice none 0 0] 32)).drew DZ).mono ?_)
                   rintro e y9 ⟨A9, c9, B9, d9, rfl, _, _, _, b9⟩
                   have bY9 : Below X7.heap.size X7 y9 := DZ.trans (b9.mono DZ.size)
                   have k9 := K7 _ bY9
                   have iY9 := iZ.kept (Turn.of_below (S := fun _ => False) b9) (fun h => h)
                   have z09 : y9.cell? ⟨X7.heap.size, 0, none⟩ = some _ := iY9.cell 0
                   have zf09 : y9.frozen? ⟨X7.heap.size, 0, none⟩ = false := iY9.free 0
                   have z19 : y9.cell? ⟨X7.heap.size, 1, none⟩ = some _ := iY9.cell 1
                   have zf19 : y9.frozen? ⟨X7.heap.size, 1, none⟩ = false := iY9.free 1
                   have z29 : y9.cell? ⟨X7.heap.size, 2, none⟩ = some _ := iY9.cell 2
                   have zf29 : y9.frozen? ⟨X7.heap.size, 2, none⟩ = false := iY9.free 2
                   have z39 : y9.cell? ⟨X7.heap.size, 3, none⟩ = some _ := iY9.cell 3
                   have zf39 : y9.frozen? ⟨X7.heap.size, 3, none⟩ = false := iY9.free 3
                   have z49 : y9.cell? ⟨X7.heap.size, 4, none⟩ = some _ := iY9.cell 4
                   have zf49 : y9.frozen? ⟨X7.heap.size, 4, none⟩ = false := iY9.free 4
                   have k9S : ∀ v0 v1 v2 v3 v4, (put5 y9 X7.heap.size v0 v1 v2 v3 v4).cell? ⟨w.heap.size, 10, none⟩ = some (.string mt) := fun v0 v1 v2 v3 v4 => K7 _ (put5_belowY bY9 (Nat.le_refl _) v0 v1 v2 v3 v4)
                   unfold put5 at k9S))
            all_goals
              go_wp2_with fail
              go_ret
              first
                | exact ⟨rfl, B7.out.trans ((bY8.alloc bY8.size _).mono B7.out.size)⟩
                | exact ⟨rfl, B7.out.trans ((put5_belowY bY9 (Nat.le_refl _) _ _ _ _ _).mono B7.out.size)⟩
      · have eB : ((re : Int) == 0) = false := by simp; omega
        go_wp2_with fail
        go_ret
        exact ⟨rfl, B21.out⟩
    · have hx0 : qx ≠ [] := fun hh => hl0 (by rw [← HLQ.out, hh]; rfl)
      have hl1 : all.length = nq + 1 := by rw [← HALL.out, withCL_length, HNQ.out]; simp [hx0]
      have hl2 : all.take nq = ql := by rw [← HALL.out]; unfold withCL; rw [if_pos (by simpa using hx0), ← HNQ.out]; exact List.take_left' rfl
      obtain ⟨A6, hs6, hsrc6⟩ := run_front_fld9 Af5 (nq + 1) cf5 nq (by omega)
      have sf6 := hsrc6 X5 _ _ hl1 (by omega) Fr_5.out
      rw [hl2] at sf6
      rw [hl1] at Ir_5
      have d0 : decide ((0 : Int) < (lq : Int)) = true := decide_eq_true (by omega)
      have d0n : decide (0 < lq) = true := decide_eq_true (by omega)
      have wr6 : IntKind.i64.wrap ((nq : Int) + 1 - 1) = (nq : Int) := by rw [IntKind.wrap_i64]; omega
      have a4 : X5.cell? ⟨w.heap.size, 4, none⟩ = some (.slice Dq lq dq) := I_5.out.cell 4
      have m3 : X5.cell? ⟨g5, 3, none⟩ = some (.slice Af5 (nq + 1) cf5) := Ir_5.out.cell 3
      have m3f : X5.frozen? ⟨g5, 3, none⟩ = false := Ir_5.out.free 3
      have T6 : Turn (· = g5) X5 (X5.setCell ⟨g5, 3, none⟩ (.slice A6 nq cf5)) := (Turn.refl (· = g5) X5).setCell (p := ⟨g5, 3, none⟩) (fun _ => rfl) _
      have Ir_6 := Lib.hid (Ir_5.out.set 3 (.slice A6 nq cf5))
      have I_6 := Lib.hid (I_5.out.kept T6 (fun hh => by have := HG5.out.2; omega))
      have B6 := Lib.hid (B5.out.setCell (p := ⟨g5, 3, none⟩) (Nat.le_of_lt HG5.out.2) (.slice A6 nq cf5))
      have Fr_6 := Lib.hid (srcf_true (srcf_turn sf6 T6 (fun q hq hh => by omega)))
      have Sr_6 := Lib.hid ((Sr_5.out.kept T6 (fun q hq hh => by omega)).mono (P' := fun _ => True) (fun _ _ _ => trivial))
      have Sb_6 := Lib.hid (Sb_5.out.kept T6 (fun q hq hh => by have := HG5.out.1; omega))
      clear T6 sf6 hsrc6 hx0 hl0 hl1 hl2 Ir_5 I_5 B5 Fr_5 Sr_5 Sb_5
      go_upto_region 10 with fail
      clear a4 m3 m3f
      generalize X5.setCell ⟨g5, 3, none⟩ _ = X6 at *
      simp only [List.set_cons_zero, List.set_cons_succ] at Ir_6
      have c0 : X6.cell? ⟨g5, 0, none⟩ = some (.string ⟨(bl qm).toArray⟩) := Ir_6.out.cell 0
      have c1 : X6.cell? ⟨g5, 1, none⟩ = some (.string ⟨(bl qt).toArray⟩) := Ir_6.out.cell 1
      have c2 : X6.cell? ⟨g5, 2, none⟩ = some (.int .i64 qn) := Ir_6.out.cell 2
      have c3 : X6.cell? ⟨g5, 3, none⟩ = some (.slice A6 nq cf5) := Ir_6.out.cell 3
      have c4 : X6.cell? ⟨g5, 4, none⟩ = some (.slice Ab5 qx.length cb5) := Ir_6.out.cell 4
      have d0 : X6.cell? ⟨w.heap.size, 0, none⟩ = some (.string qm) := I_6.out.cell 0
      have d1 : X6.cell? ⟨w.heap.size, 1, none⟩ = some (.string qt) := I_6.out.cell 1
      have d2 : X6.cell? ⟨w.heap.size, 2, none⟩ = some (.int .i64 qn) := I_6.out.cell 2
      have d3 : X6.cell? ⟨w.heap.size, 3, none⟩ = some (.slice Aq nq cq) := I_6.out.cell 3
      have d4 : X6.cell? ⟨w.heap.size, 4, none⟩ = some (.slice Dq lq dq) := I_6.out.cell 4
      have K := Lib.hid (HC.sameRequest X6 ⟨(bl qm).toArray⟩ qm ⟨(bl qt).toArray⟩ qt qn qn A6 Aq Ab5 Dq ql ql qx qx nq nq cf5 cq qx.length lq cb5 dq HNQ.out HNQ.out (by omega) rfl HLQ.out Fr_6.out (HQ.out.below B6.out) Sr_6.out (HQX.out.kept (Turn.of_below (S := fun _ => False) B6.out) (fun _ _ h => h)))
      rw [show decide (bl ⟨(bl qm).toArray⟩ = bl qm ∧ bl ⟨(bl qt).toArray⟩ = bl qt ∧ qn = qn ∧ ql = ql ∧ qx = qx) = true by simp [bl_mk]] at K
      go_wp2_with fail
      refine K.out.mono ?_
      rintro e X7 ⟨rfl, b7⟩
      have B7 := Lib.hid (B6.out.trans (b7.mono B6.out.size))
      have I_7 := Lib.hid (I_6.out.kept (Turn.of_below (S := fun _ => False) b7) (fun h => h))
      have Sb_7 := Lib.hid (Sb_6.out.kept (Turn.of_below (S := fun _ => False) b7) (fun _ _ h => h))
      clear b7 K Ir_6 Fr_6 Sr_6 I_6 Sb_6 c0 d0 c1 d1 c2 d2 c3 d3 c4 d4
      obtain ⟨j, hj⟩ : ∃ j, k % L = j := ⟨_, rfl⟩
      have hjL : j < L := by rw [← hj]; exact Nat.mod_lt _ hb3
      have hrem : ((k : Int)).tmod (L : Int) = (j : Int) := by rw [← hj, Int.tmod_eq_emod_of_nonneg (by omega)]; rfl
      have wk : IntKind.i64.wrap (k : Int) = (k : Int) := by rw [IntKind.wrap_i64]; omega
      have i1 : ¬ (L : Int) = 0 := by omega
      obtain ⟨A8, hs8, hsrc8⟩ := run_front8 Ab L cb j (by omega)
      have C8 := Lib.hid ((HC.request X7 A8 (qb.take j) j cb (by rw [List.length_take, HL.out]; omega) (by omega) (by omega) ((hsrc8 X7 _ qb HL.out (by omega) Sb_7.out).mono (fun _ _ _ => trivial)) (HP.out.below B7.out)).mono (fun _ _ h => h.told2))
      rw [req_short qb j L (by rw [HB1.out]) hjL] at C8
      unfold RqTold2 rqZ at C8
      simp only [Option.getD_none, List.length_nil] at C8
      clear hj hsrc8 Sb_7
      go_wp2_with fail
      refine C8.out.mono ?_
      rintro e y9 ⟨Af9, cf9, Ab9, cb9, rfl, _, _, _, b9⟩
      have b9' := b9.alloc b9.size (.cells #[.string ⟨#[]⟩, .string ⟨#[]⟩, .int .i64 0, .slice Af9 0 cf9, .slice Ab9 0 cb9] 25)
      have B9 := Lib.hid (B7.out.trans (b9'.mono B7.out.size))
      have I_9 := Lib.hid (I_7.out.kept (Turn.of_below (S := fun _ => False) b9') (fun h => h))
      clear b9 b9' C8 I_7
      go_upto_region 13 with fail
      generalize y9.alloc _ = X9 at *
      go_upto_region 15 with fail
      have p5 : X9.cell? ⟨w.heap.size, 5, none⟩ = some (.int .i64 st) := I_9.out.cell 5
      have p6 : X9.cell? ⟨w.heap.size, 6, none⟩ = some (.string rr) := I_9.out.cell 6
      have p7 : X9.cell? ⟨w.heap.size, 7, none⟩ = some (.int .i64 rn) := I_9.out.cell 7
      have p8 : X9.cell? ⟨w.heap.size, 8, none⟩ = some (.slice Ar nr cr) := I_9.out.cell 8
      have p9 : X9.cell? ⟨w.heap.size, 9, none⟩ = some (.slice Dr lr dr) := I_9.out.cell 9
      have p10 : X9.cell? ⟨w.heap.size, 10, none⟩ = some (.string mt) := I_9.out.cell 10
      go_wp2_with fail
      refine (CPR.out X9 B9.out).mono ?_
      rintro e Y1 ⟨Rb, rcb, rfl, hrcb, srb, bb1⟩
      have B21 := Lib.hid (B9.out.trans (bb1.mono B9.out.size))
      have I_21 := Lib.hid (I_9.out.kept (Turn.of_below (S := fun _ => False) bb1) (fun h => h))
      have Sb_21 := Lib.hid srb
      clear srb bb1 CPR B9 I_9 p5 p6 p7 p8 p9 p10
      by_cases hre : re = 0
      · subst hre
        obtain ⟨hc1, hc2, hc3, hc4⟩ := putRes_back HPR.out
        have hc5 := putRes_len HPR.out
        obtain ⟨LL, hLL⟩ : ∃ LL, rb.length = LL := ⟨_, rfl⟩
        obtain ⟨bare, hbare⟩ : ∃ bare, bareM st (bl mt) = bare := ⟨_, rfl⟩
        rw [hbare] at hc1
        obtain ⟨all2, hall2⟩ : ∃ all2, withCL rl rx.length (!bare) = all2 := ⟨_, rfl⟩
        rw [hLL, hall2] at hc1
        rw [hLL] at hc4 hc5 hrcb
        have HALL2 := Lib.hid hall2
        have HBARE := Lib.hid hbare
        clear hall2 hbare
        have HC1 := Lib.hid hc1
        have HLL := Lib.hid hLL
        rw [hLL]
        have hst8 := fun en => response_stays rb ts (bl mt) en (by rw [hc1]; simp)
        obtain ⟨r2, hr2⟩ : ∃ r2, k % 2 = r2 := ⟨_, rfl⟩
        obtain ⟨en, hen⟩ : ∃ en, ((r2 : Int) == 0) = en := ⟨_, rfl⟩
        have hrem2 : ((k : Int)).tmod 2 = (r2 : Int) := by rw [← hr2, Int.tmod_eq_emod_of_nonneg (by omega)]; rfl
        have wr2 : IntKind.u16.wrap (r2 : Int) = (r2 : Int) := by rw [IntKind.wrap_u16]; omega
        have CR := Lib.hid (fun (X : World) (hX : Below Y1.heap.size Y1 X) (M : Option Addr) (cM : Nat) (hMc : LL + nt ≤ cM) (hS : Src X (fun _ => True) M (rb ++ ts)) => (HC.response X M (rb ++ ts) (LL + nt) cM mt en (by rw [List.length_append, hLL, HNT.out]) hMc (by omega) HMT.out hS (HP.out.below (B21.out.trans (hX.mono B21.out.size)))).mono (fun _ _ h => h.told3))
        rw [hst8, hc1] at CR
        unfold RsTold3 at CR
        simp only [Option.getD_some, hc2, hc3] at CR
        obtain ⟨na, hna⟩ : ∃ na, all2.length = na := ⟨_, rfl⟩
        rw [mk_bl, hna, HLR.out] at CR
        have BD : Below Y1.heap.size Y1 Y1.drew := below_drewN (Below.refl Y1.heap.size Y1) 1
        have HTY := HT.out.kept (Turn.of_below (S := fun _ => False) B21.out) (fun _ _ h => h)
        have hl12 : (rb ++ ts).length = LL + nt := by rw [List.length_append, hLL, HNT.out]
        have bE0 : Below Y1.heap.size Y1 (Y1.alloc (.cells #[] 5)) := (Below.refl Y1.heap.size Y1).alloc (Nat.le_refl _) _
        have bZ0 : Below Y1.heap.size Y1 (Y1.alloc (.cells #[.int .i64 0, .string ⟨#[]⟩, .int .i64 0, .slice none 0 0, .slice none 0 0] 32)) := (Below.refl Y1.heap.size Y1).alloc (Nat.le_refl _) _
        have bAd : Below Y1.heap.size Y1 (Y1.alloc (.cells #[] 5)).drew := below_drewN bE0 1
        have bCd : Below Y1.heap.size Y1 (Y1.alloc (.cells #[.int .i64 0, .string ⟨#[]⟩, .int .i64 0, .slice none 0 0, .slice none 0 0] 32)).drew := below_drewN bZ0 1
        have bBd : Below Y1.heap.size Y1 ((Y1.alloc (.cells #[] 5)).alloc (.cells #[.int .i64 0, .string ⟨#[]⟩, .int .i64 0, .slice none 0 0, .slice none 0 0] 32)).drew := below_drewN (bE0.alloc bE0.size _) 1
        have bC2d : Below Y1.heap.size Y1 ((Y1.alloc (.cells #[.int .i64 0, .string ⟨#[]⟩, .int .i64 0, .slice none 0 0, .slice none 0 0] 32)).alloc (.cells #[] 5)).drew := below_drewN (bZ0.alloc bZ0.size _) 1
        have ownA2 : Own (Y1.alloc (.cells #[] 5)).drew (.slice (some ⟨Y1.heap.size, 0, none⟩) 0 0) (some Y1.heap.size) [] := Own.built Y1
        obtain ⟨uA3, UA3, qA3, rA3, ownA3, foA3, neA3, tA3, bUA3⟩ := app_one Y1 ((Y1.alloc (.cells #[] 5)).drew) bAd _ _ [] ownA2 (fun b hb => by injection hb with hb; omega) Rb rb LL rcb hLL Sb_21.out (by simp; omega)
        rw [List.nil_append] at ownA3
        obtain ⟨uA4, UA4, qA4, rA4, ownA4, foA4, neA4, tA4, bUA4⟩ := app_one Y1 UA3 bUA3 uA3 qA3 rb ownA3 foA3 At ts nt ct HNT.out HTY (by rw [hLL]; omega)
        obtain ⟨MA, cMA, hMA, hMcA, sMA, _⟩ := ownA4.block
        rw [hl12] at hMA hMcA
        subst hMA
        have bA5 : Below Y1.heap.size Y1 (UA4.alloc (.cells #[.int .i64 0, .string ⟨#[]⟩, .int .i64 0, .slice none 0 0, .slice none 0 0] 32)) := bUA4.alloc bUA4.size _
        have iA5 := Is.made UA4 32 [.int .i64 0, .string ⟨#[]⟩, .int .i64 0, .slice none 0 0, .slice none 0 0]
        have sMA5 := sMA.kept (Turn.of_below (S := fun _ => False) ((Below.refl UA4.heap.size UA4).alloc (Nat.le_refl _) (.cells #[.int .i64 0, .string ⟨#[]⟩, .int .i64 0, .slice none 0 0, .slice none 0 0] 32))) (fun _ _ h => h)
        have lA5 : UA4.heap.size < (UA4.alloc (.cells #[.int .i64 0, .string ⟨#[]⟩, .int .i64 0, .slice none 0 0, .slice none 0 0] 32)).heap.size := by simp
        have bV3 : Below Y1.heap.size Y1 (UA3.alloc (.cells #[.int .i64 0, .string ⟨#[]⟩, .int .i64 0, .slice none 0 0, .slice none 0 0] 32)) := bUA3.alloc bUA3.size _
        have iV3 := Is.made UA3 32 [.int .i64 0, .string ⟨#[]⟩, .int .i64 0, .slice none 0 0, .slice none 0 0]
        have ownV3 := ownA3.kept (Turn.of_below (S := fun _ => False) ((Below.refl UA3.heap.size UA3).alloc (Nat.le_refl _) (.cells #[.int .i64 0, .string ⟨#[]⟩, .int .i64 0, .slice none 0 0, .slice none 0 0] 32))) (fun _ _ h => h)
        obtain ⟨uV4, UV4, qV4, rV4, ownV4, foV4, neV4, tV4, bUV4⟩ := app_one Y1 (UA3.alloc (.cells #[.int .i64 0, .string ⟨#[]⟩, .int .i64 0, .slice none 0 0, .slice none 0 0] 32)) bV3 uA3 qA3 rb ownV3 foA3 At ts nt ct HNT.out HTY (by rw [hLL]; omega)
        obtain ⟨MV, cMV, hMV, hMcV, sMV, _⟩ := ownV4.block
        rw [hl12] at hMV hMcV
        subst hMV
        have iV4 := iV3.kept tV4 (fun h => by have := ownA3.lt _ h; omega)
        have iB2 : Is ((Y1.alloc (.cells #[] 5)).alloc (.cells #[.int .i64 0, .string ⟨#[]⟩, .int .i64 0, .slice none 0 0, .slice none 0 0] 32)).drew (Y1.heap.size + 1) 32 [.int .i64 0, .string ⟨#[]⟩, .int .i64 0, .slice none 0 0, .slice none 0 0] := by
          have := Is.made (Y1.alloc (.cells #[] 5)) 32 [.int .i64 0, .string ⟨#[]⟩, .int .i64 0, .slice none 0 0, .slice none 0 0]
          rw [show (Y1.alloc (.cells #[] 5)).heap.size = Y1.heap.size + 1 from by simp] at this
          exact this.drew
        have ownB2 : Own ((Y1.alloc (.cells #[] 5)).alloc (.cells #[.int .i64 0, .string ⟨#[]⟩, .int .i64 0, .slice none 0 0, .slice none 0 0] 32)).drew (.slice (some ⟨Y1.heap.size, 0, none⟩) 0 0) (some Y1.heap.size) [] := (Own.built Y1).kept (w' := (Y1.alloc (.cells #[] 5)).alloc (.cells #[.int .i64 0, .string ⟨#[]⟩, .int .i64 0, .slice none 0 0, .slice none 0 0] 32)) (Turn.of_below (S := fun _ => False) ((Below.refl (Y1.alloc (.cells #[] 5)).heap.size (Y1.alloc (.cells #[] 5))).alloc (Nat.le_refl _) (.cells #[.int .i64 0, .string ⟨#[]⟩, .int .i64 0, .slice none 0 0, .slice none 0 0] 32))) (fun _ _ h => h)
        obtain ⟨uB3, UB3, qB3, rB3, ownB3, foB3, neB3, tB3, bUB3⟩ := app_one Y1 (((Y1.alloc (.cells #[] 5)).alloc (.cells #[.int .i64 0, .string ⟨#[]⟩, .int .i64 0, .slice none 0 0, .slice none 0 0] 32)).drew) bBd _ _ [] ownB2 (fun b hb => by injection hb with hb; omega) Rb rb LL rcb hLL Sb_21.out (by simp; omega)
        rw [List.nil_append] at ownB3
        have neB : some Y1.heap.size ≠ some (Y1.heap.size + 1) := fun h => by injection h with h; omega
        have iB3 := iB2.kept tB3 (fun h => neB h)
        obtain ⟨uB4, UB4, qB4, rB4, ownB4, foB4, neB4, tB4, bUB4⟩ := app_one Y1 UB3 bUB3 uB3 qB3 rb ownB3 foB3 At ts nt ct HNT.out HTY (by rw [hLL]; omega)
        obtain ⟨MB, cMB, hMB, hMcB, sMB, _⟩ := ownB4.block
        rw [hl12] at hMB hMcB
        subst hMB
        have iB4 := iB3.kept tB4 (fun h => neB3 _ iB2.lt neB h)
        have iC2 : Is ((Y1.alloc (.cells #[.int .i64 0, .string ⟨#[]⟩, .int .i64 0, .slice none 0 0, .slice none 0 0] 32)).alloc (.cells #[] 5)).drew Y1.heap.size 32 [.int .i64 0, .string ⟨#[]⟩, .int .i64 0, .slice none 0 0, .slice none 0 0] := ((Is.made Y1 32 [.int .i64 0, .string ⟨#[]⟩, .int .i64 0, .slice none 0 0, .slice none 0 0]).alloc (.cells #[] 5)).drew
        have ownC2 : Own ((Y1.alloc (.cells #[.int .i64 0, .string ⟨#[]⟩, .int .i64 0, .slice none 0 0, .slice none 0 0] 32)).alloc (.cells #[] 5)).drew (.slice (some ⟨Y1.heap.size + 1, 0, none⟩) 0 0) (some (Y1.heap.size + 1)) [] := by
          have := Own.built (Y1.alloc (.cells #[.int .i64 0, .string ⟨#[]⟩, .int .i64 0, .slice none 0 0, .slice none 0 0] 32))
          rw [show (Y1.alloc (.cells #[.int .i64 0, .string ⟨#[]⟩, .int .i64 0, .slice none 0 0, .slice none 0 0] 32)).heap.size = Y1.heap.size + 1 from by simp] at this
          exact this
        obtain ⟨uC3, UC3, qC3, rC3, ownC3, foC3, neC3, tC3, bUC3⟩ := app_one Y1 (((Y1.alloc (.cells #[.int .i64 0, .string ⟨#[]⟩, .int .i64 0, .slice none 0 0, .slice none 0 0] 32)).alloc (.cells #[] 5)).drew) bC2d _ _ [] ownC2 (fun b hb => by injection hb with hb; omega) Rb rb LL rcb hLL Sb_21.out (by simp; omega)
        rw [List.nil_append] at ownC3
        have neC : some (Y1.heap.size + 1) ≠ some Y1.heap.size := fun h => by injection h with h; omega
        have iC3 := iC2.kept tC3 (fun h => neC h)
        obtain ⟨uC4, UC4, qC4, rC4, ownC4, foC4, neC4, tC4, bUC4⟩ := app_one Y1 UC3 bUC3 uC3 qC3 rb ownC3 foC3 At ts nt ct HNT.out HTY (by rw [hLL]; omega)
        obtain ⟨MC, cMC, hMC, hMcC, sMC, _⟩ := ownC4.block
        rw [hl12] at hMC hMcC
        subst hMC
        have iC4 := iC3.kept tC4 (fun h => neC3 _ iC2.lt neC h)
        have KB : ∀ X : World, Below Y1.heap.size Y1 X → X.cell? ⟨w.heap.size, 10, none⟩ = some (.string mt) := fun X hX => (I_21.out.kept (Turn.of_below (S := fun _ => False) hX) (fun h => h)).cell 10
        have RA3 := Lib.hid rA3
        have RA4 := Lib.hid rA4
        have RV4 := Lib.hid rV4
        have RB3 := Lib.hid rB3
        have RB4 := Lib.hid rB4
        have RC3 := Lib.hid rC3
        have RC4 := Lib.hid rC4
        clear rA3 rA4 rV4 rB3 rB4 rC3 rC4 hst8 hr2 hc1 hc2 hc3 hLL
        clear ownA2
        clear ownA3
        clear ownA4
        clear ownV3
        clear ownV4
        clear ownB2
        clear ownB3
        clear ownB4
        clear ownC2
        clear ownC3
        clear ownC4
        clear foA3
        clear foA4
        clear foV4
        clear foB3
        clear foB4
        clear foC3
        clear foC4
        clear neA3
        clear neA4
        clear neV4
        clear neB3
        clear neB4
        clear neC3
        clear neC4
        clear neB
        clear neC
        clear tA3
        clear tA4
        clear tV4
        clear tB3
        clear tB4
        clear tC3
        clear tC4
        clear bE0
        clear bZ0
        clear iV3
        clear iB2
        clear iB3
        clear iC2
        clear iC3
        clear hl12
        clear HTY
        have HiA5 := Lib.hid iA5
        clear iA5
        have HiV4 := Lib.hid iV4
        clear iV4
        have HiB4 := Lib.hid iB4
        clear iB4
        have HiC4 := Lib.hid iC4
        clear iC4
        have HsMA := Lib.hid sMA
        clear sMA
        have HsMA5 := Lib.hid sMA5
        clear sMA5
        have HsMV := Lib.hid sMV
        clear sMV
        have HsMB := Lib.hid sMB
        clear sMB
        have HsMC := Lib.hid sMC
        clear sMC
        have HhMcA := Lib.hid hMcA
        clear hMcA
        have HhMcV := Lib.hid hMcV
        clear hMcV
        have HhMcB := Lib.hid hMcB
        clear hMcB
        have HhMcC := Lib.hid hMcC
        clear hMcC
        have HlA5 := Lib.hid lA5
        clear lA5
        go_upto_region 17 with fail
        go_cut [17, 18, 19] from 93 to 107 (fun s17 s18 s19 wx => ∃ (g7 : Nat) (Rf : Option Addr) (rcf : Nat) (Rx : Option Addr) (rcx : Nat), s17 = .pointer (some ⟨g7, 0, none⟩) ∧ s18 = .int .i64 (LL : Int) ∧ s19 = .int .i64 0 ∧ na ≤ rcf ∧ Hid (Y1.heap.size ≤ g7) ∧ Hid (Below Y1.heap.size Y1 wx) ∧ Hid (Is wx g7 32 [.int .i64 st, .string rr, .int .i64 rn, .slice Rf na rcf, .slice Rx lr rcx]) ∧ Hid (SrcF wx (fun b => b ≠ g7) Rf all2) ∧ Hid (Src wx (fun b => b ≠ g7) Rx rx))
        case first =>
          have LEO4 : Y1.heap.size ≤ UA4.heap.size := bUA4.size
          have LEO3 : Y1.heap.size ≤ UA3.heap.size := bUA3.size
          have LEO2 : Y1.heap.size ≤ Y1.heap.size + 1 := by omega
          have LEO1 : Y1.heap.size ≤ Y1.heap.size := Nat.le_refl _
          go_region_held3 (fun w' => w'.cell? ⟨w.heap.size, 10, none⟩ = some (.string mt)) (first | (with_reducible exact KB _ (Below.refl Y1.heap.size Y1)) | (with_reducible exact KB _ BD) | (with_reducible exact KB _ bAd) | (with_reducible exact KB _ bCd) | (with_reducible exact KB _ bBd) | (with_reducible exact KB _ bC2d) | (with_reducible exact KB _ bUA3) | (with_reducible exact KB _ bV3) | (with_reducible exact KB _ bUA4) | (with_reducible exact KB _ bA5) | (with_reducible exact KB _ bUV4) | (with_reducible exact KB _ bUB3) | (with_reducible exact KB _ bUB4) | (with_reducible exact KB _ bUC3) | (with_reducible exact KB _ bUC4) | (with_reducible exact kO5) | (with_reducible exact kO4) | (with_reducible exact kO3) | (with_reducible exact kO2) | (with_reducible exact kO1) | (with_reducible exact kLO5 _) | (with_reducible exact kSO4 _ _ _ _ _) | (with_reducible exact kSO3 _ _ _ _ _) | (with_reducible exact kSO2 _ _ _ _ _) | (with_reducible exact kSO1 _ _ _ _ _) | go_keep)
            (first
              | ((with_reducible (show if _ = true then Oper.wp _ _ _ ((Y1.alloc (.cells #[] 5)).drew) _ _ else _)); refine step_append_by rfl (.tmp 94) (.tmp 95) 22 rfl _ _ uA3 UA3 rfl rfl RA3.out ?_)
              | ((with_reducible (show if _ = true then Oper.wp _ _ _ (((Y1.alloc (.cells #[] 5)).alloc (.cells #[.int .i64 0, .string ⟨#[]⟩, .int .i64 0, .slice none 0 0, .slice none 0 0] 32)).drew) _ _ else _)); refine step_append_by rfl (.tmp 94) (.tmp 95) 22 rfl _ _ uB3 UB3 rfl rfl RB3.out ?_)
              | ((with_reducible (show if _ = true then Oper.wp _ _ _ (((Y1.alloc (.cells #[.int .i64 0, .string ⟨#[]⟩, .int .i64 0, .slice none 0 0, .slice none 0 0] 32)).alloc (.cells #[] 5)).drew) _ _ else _)); refine step_append_by rfl (.tmp 94) (.tmp 95) 22 rfl _ _ uC3 UC3 rfl rfl RC3.out ?_)
              | ((with_reducible (show if _ = true then Oper.wp _ _ _ (UA3) _ _ else _)); refine step_append_by rfl (.tmp 96) (.tmp 97) 22 rfl _ _ _ UA4 rfl rfl RA4.out ?_)
              | ((with_reducible (show if _ = true then Oper.wp _ _ _ (UA3.alloc (.cells #[.int .i64 0, .string ⟨#[]⟩, .int .i64 0, .slice none 0 0, .slice none 0 0] 32)) _ _ else _)); refine step_append_by rfl (.tmp 96) (.tmp 97) 22 rfl _ _ _ UV4 rfl rfl RV4.out ?_)
              | ((with_reducible (show if _ = true then Oper.wp _ _ _ (UB3) _ _ else _)); refine step_append_by rfl (.tmp 96) (.tmp 97) 22 rfl _ _ _ UB4 rfl rfl RB4.out ?_)
              | ((with_reducible (show if _ = true then Oper.wp _ _ _ (UC3) _ _ else _)); refine step_append_by rfl (.tmp 96) (.tmp 97) 22 rfl _ _ _ UC4 rfl rfl RC4.out ?_)
              | (go_at_call 11
                 (with_reducible refine (CR.out UA4 bUA4 MA cMA HhMcA.out HsMA.out).mono ?_)
                 rintro e yO5 ⟨RfO5, rcfO5, RxO5, rcxO5, rfl, hrcfO5, srfO5, srxO5, bbO5⟩
                 have bYO5 : Below Y1.heap.size Y1 yO5 := bUA4.trans (bbO5.mono bUA4.size)
                 have kO5 := KB _ bYO5
                 have kLO5 : ∀ b, (yO5.alloc b).cell? ⟨w.heap.size, 10, none⟩ = some (.string mt) := fun b => KB _ (bYO5.alloc bYO5.size b))
              | (go_at_call 11
                 (with_reducible refine (CR.out UV4 bUV4 MV cMV HhMcV.out HsMV.out).mono ?_)
                 rintro e yO3 ⟨RfO3, rcfO3, RxO3, rcxO3, rfl, hrcfO3, srfO3, srxO3, bbO3⟩
                 have bYO3 : Below Y1.heap.size Y1 yO3 := bUV4.trans (bbO3.mono bUV4.size)
                 have kO3 := KB _ bYO3
                 have iYO3 := HiV4.out.kept (Turn.of_below (S := fun _ => False) bbO3) (fun h => h)
                 have z0O3 : yO3.cell? ⟨UA3.heap.size, 0, none⟩ = some _ := iYO3.cell 0
                 have zf0O3 : yO3.frozen? ⟨UA3.heap.size, 0, none⟩ = false := iYO3.free 0
                 have z1O3 : yO3.cell? ⟨UA3.heap.size, 1, none⟩ = some _ := iYO3.cell 1
                 have zf1O3 : yO3.frozen? ⟨UA3.heap.size, 1, none⟩ = false := iYO3.free 1
                 have z2O3 : yO3.cell? ⟨UA3.heap.size, 2, none⟩ = some _ := iYO3.cell 2
                 have zf2O3 : yO3.frozen? ⟨UA3.heap.size, 2, none⟩ = false := iYO3.free 2
                 have z3O3 : yO3.cell? ⟨UA3.heap.size, 3, none⟩ = some _ := iYO3.cell 3
                 have zf3O3 : yO3.frozen? ⟨UA3.heap.size, 3, none⟩ = false := iYO3.free 3
                 have z4O3 : yO3.cell? ⟨UA3.heap.size, 4, none⟩ = some _ := iYO3.cell 4
                 have zf4O3 : yO3.frozen? ⟨UA3.heap.size, 4, none⟩ = false := iYO3.free 4
                 have kSO3 : ∀ v0 v1 v2 v3 v4, (put5 yO3 UA3.heap.size v0 v1 v2 v3 v4).cell? ⟨w.heap.size, 10, none⟩ = some (.string mt) := fun v0 v1 v2 v3 v4 => KB _ (put5_belowY bYO3 LEO3 v0 v1 v2 v3 v4)
                 unfold put5 at kSO3)
              | (go_at_call 11
                 (with_reducible refine (CR.out UB4 bUB4 MB cMB HhMcB.out HsMB.out).mono ?_)
                 rintro e yO2 ⟨RfO2, rcfO2, RxO2, rcxO2, rfl, hrcfO2, srfO2, srxO2, bbO2⟩
                 have bYO2 : Below Y1.heap.size Y1 yO2 := bUB4.trans (bbO2.mono bUB4.size)
                 have kO2 := KB _ bYO2
                 have iYO2 := HiB4.out.kept (Turn.of_below (S := fun _ => False) bbO2) (fun h => h)
                 have z0O2 : yO2.cell? ⟨(Y1.heap.size + 1), 0, none⟩ = some _ := iYO2.cell 0
                 have zf0O2 : yO2.frozen? ⟨(Y1.heap.size + 1), 0, none⟩ = false := iYO2.free 0
                 have z1O2 : yO2.cell? ⟨(Y1.heap.size + 1), 1, none⟩ = some _ := iYO2.cell 1
                 have zf1O2 : yO2.frozen? ⟨(Y1.heap.size + 1), 1, none⟩ = false := iYO2.free 1
                 have z2O2 : yO2.cell? ⟨(Y1.heap.size + 1), 2, none⟩ = some _ := iYO2.cell 2
                 have zf2O2 : yO2.frozen? ⟨(Y1.heap.size + 1), 2, none⟩ = false := iYO2.free 2
                 have z3O2 : yO2.cell? ⟨(Y1.heap.size + 1), 3, none⟩ = some _ := iYO2.cell 3
                 have zf3O2 : yO2.frozen? ⟨(Y1.heap.size + 1), 3, none⟩ = false := iYO2.free 3
                 have z4O2 : yO2.cell? ⟨(Y1.heap.size + 1), 4, none⟩ = some _ := iYO2.cell 4
                 have zf4O2 : yO2.frozen? ⟨(Y1.heap.size + 1), 4, none⟩ = false := iYO2.free 4
                 have kSO2 : ∀ v0 v1 v2 v3 v4, (put5 yO2 (Y1.heap.size + 1) v0 v1 v2 v3 v4).cell? ⟨w.heap.size, 10, none⟩ = some (.string mt) := fun v0 v1 v2 v3 v4 => KB _ (put5_belowY bYO2 LEO2 v0 v1 v2 v3 v4)
                 unfold put5 at kSO2)
              | (go_at_call 11
                 (with_reducible refine (CR.out UC4 bUC4 MC cMC HhMcC.out HsMC.out).mono ?_)
                 rintro e yO1 ⟨RfO1, rcfO1, RxO1, rcxO1, rfl, hrcfO1, srfO1, srxO1, bbO1⟩
                 have bYO1 : Below Y1.heap.size Y1 yO1 := bUC4.trans (bbO1.mono bUC4.size)
                 have kO1 := KB _ bYO1
                 have iYO1 := HiC4.out.kept (Turn.of_below (S := fun _ => False) bbO1) (fun h => h)
                 have z0O1 : yO1.cell? ⟨Y1.heap.size, 0, none⟩ = some _ := iYO1.cell 0
                 have zf0O1 : yO1.frozen? ⟨Y1.heap.size, 0, none⟩ = false := iYO1.free 0
                 have z1O1 : yO1.cell? ⟨Y1.heap.size, 1, none⟩ = some _ := iYO1.cell 1
                 have zf1O1 : yO1.frozen? ⟨Y1.heap.size, 1, none⟩ = false := iYO1.free 1
                 have z2O1 : yO1.cell? ⟨Y1.heap.size, 2, none⟩ = some _ := iYO1.cell 2
                 have zf2O1 : yO1.frozen? ⟨Y1.heap.size, 2, none⟩ = false := iYO1.free 2
                 have z3O1 : yO1.cell? ⟨Y1.heap.size, 3, none⟩ = some _ := iYO1.cell 3
                 have zf3O1 : yO1.frozen? ⟨Y1.heap.size, 3, none⟩ = false := iYO1.free 3
                 have z4O1 : yO1.cell? ⟨Y1.heap.size, 4, none⟩ = some _ := iYO1.cell 4
                 have zf4O1 : yO1.frozen? ⟨Y1.heap.size, 4, none⟩ = false := iYO1.free 4
                 have kSO1 : ∀ v0 v1 v2 v3 v4, (put5 yO1 Y1.heap.size v0 v1 v2 v3 v4).cell? ⟨w.heap.size, 10, none⟩ = some (.string mt) := fun v0 v1 v2 v3 v4 => KB _ (put5_belowY bYO1 LEO1 v0 v1 v2 v3 v4)
                 unfold put5 at kSO1)
              | (go_at_call 11
                 (with_reducible refine (CR.out (UA4.alloc (.cells #[.int .i64 0, .string ⟨#[]⟩, .int .i64 0, .slice none 0 0, .slice none 0 0] 32)) bA5 MA cMA HhMcA.out HsMA5.out).mono ?_)
                 rintro e yO4 ⟨RfO4, rcfO4, RxO4, rcxO4, rfl, hrcfO4, srfO4, srxO4, bbO4⟩
                 have bYO4 : Below Y1.heap.size Y1 yO4 := bA5.trans (bbO4.mono bA5.size)
                 have kO4 := KB _ bYO4
                 have iYO4 := HiA5.out.kept (Turn.of_below (S := fun _ => False) bbO4) (fun h => h)
                 have z0O4 : yO4.cell? ⟨UA4.heap.size, 0, none⟩ = some _ := iYO4.cell 0
                 have zf0O4 : yO4.frozen? ⟨UA4.heap.size, 0, none⟩ = false := iYO4.free 0
                 have z1O4 : yO4.cell? ⟨UA4.heap.size, 1, none⟩ = some _ := iYO4.cell 1
                 have zf1O4 : yO4.frozen? ⟨UA4.heap.size, 1, none⟩ = false := iYO4.free 1
                 have z2O4 : yO4.cell? ⟨UA4.heap.size, 2, none⟩ = some _ := iYO4.cell 2
                 have zf2O4 : yO4.frozen? ⟨UA4.heap.size, 2, none⟩ = false := iYO4.free 2
                 have z3O4 : yO4.cell? ⟨UA4.heap.size, 3, none⟩ = some _ := iYO4.cell 3
                 have zf3O4 : yO4.frozen? ⟨UA4.heap.size, 3, none⟩ = false := iYO4.free 3
                 have z4O4 : yO4.cell? ⟨UA4.heap.size, 4, none⟩ = some _ := iYO4.cell 4
                 have zf4O4 : yO4.frozen? ⟨UA4.heap.size, 4, none⟩ = false := iYO4.free 4
                 have kSO4 : ∀ v0 v1 v2 v3 v4, (put5 yO4 UA4.heap.size v0 v1 v2 v3 v4).cell? ⟨w.heap.size, 10, none⟩ = some (.string mt) := fun v0 v1 v2 v3 v4 => KB _ (put5_belowY bYO4 LEO4 v0 v1 v2 v3 v4)
                 unfold put5 at kSO4))
          all_goals
            go_wp2_with fail
            go_meet
            first
              | (exact ⟨yO5.heap.size, RfO5, rcfO5, RxO5, rcxO5, rfl, rfl, rfl, hrcfO5, Lib.hid bYO5.size, Lib.hid (bYO5.alloc bYO5.size _), Lib.hid (Is.made yO5 32 [.int .i64 st, .string rr, .int .i64 rn, .slice RfO5 na rcfO5, .slice RxO5 lr rcxO5]), Lib.hid ((srcf_imp srfO5 (fun k hk _ e => by omega)).below ((Below.refl yO5.heap.size yO5).alloc (Nat.le_refl _) (.cells #[.int .i64 st, .string rr, .int .i64 rn, .slice RfO5 na rcfO5, .slice RxO5 lr rcxO5] 32))), Lib.hid ((srxO5.mono (fun k hk _ e => by omega)).kept (Turn.of_below (S := fun _ => False) ((Below.refl yO5.heap.size yO5).alloc (Nat.le_refl _) (.cells #[.int .i64 st, .string rr, .int .i64 rn, .slice RfO5 na rcfO5, .slice RxO5 lr rcxO5] 32))) (fun _ _ h => h))⟩)
              | (exact ⟨UA4.heap.size, RfO4, rcfO4, RxO4, rcxO4, rfl, rfl, rfl, hrcfO4, Lib.hid LEO4, Lib.hid (put5_belowY bYO4 LEO4 (.int .i64 st) (.string rr) (.int .i64 rn) (.slice RfO4 na rcfO4) (.slice RxO4 lr rcxO4)), Lib.hid (put5_is iYO4 (.int .i64 st) (.string rr) (.int .i64 rn) (.slice RfO4 na rcfO4) (.slice RxO4 lr rcxO4)), Lib.hid (srcf_imp (srcf_turn srfO4 (put5_turn yO4 UA4.heap.size (.int .i64 st) (.string rr) (.int .i64 rn) (.slice RfO4 na rcfO4) (.slice RxO4 lr rcxO4)) (fun k hk e => by have h1 : UA4.heap.size < (UA4.alloc (.cells #[.int .i64 0, .string ⟨#[]⟩, .int .i64 0, .slice none 0 0, .slice none 0 0] 32)).heap.size := HiA5.out.lt; omega)) (fun k _ hk e => by have h1 : UA4.heap.size < (UA4.alloc (.cells #[.int .i64 0, .string ⟨#[]⟩, .int .i64 0, .slice none 0 0, .slice none 0 0] 32)).heap.size := HiA5.out.lt; omega)), Lib.hid ((srxO4.kept (put5_turn yO4 UA4.heap.size (.int .i64 st) (.string rr) (.int .i64 rn) (.slice RfO4 na rcfO4) (.slice RxO4 lr rcxO4)) (fun k hk e => by have h1 : UA4.heap.size < (UA4.alloc (.cells #[.int .i64 0, .string ⟨#[]⟩, .int .i64 0, .slice none 0 0, .slice none 0 0] 32)).heap.size := HiA5.out.lt; omega)).mono (fun k _ hk e => by have h1 : UA4.heap.size < (UA4.alloc (.cells #[.int .i64 0, .string ⟨#[]⟩, .int .i64 0, .slice none 0 0, .slice none 0 0] 32)).heap.size := HiA5.out.lt; omega))⟩)
              | (exact ⟨UA3.heap.size, RfO3, rcfO3, RxO3, rcxO3, rfl, rfl, rfl, hrcfO3, Lib.hid LEO3, Lib.hid (put5_belowY bYO3 LEO3 (.int .i64 st) (.string rr) (.int .i64 rn) (.slice RfO3 na rcfO3) (.slice RxO3 lr rcxO3)), Lib.hid (put5_is iYO3 (.int .i64 st) (.string rr) (.int .i64 rn) (.slice RfO3 na rcfO3) (.slice RxO3 lr rcxO3)), Lib.hid (srcf_imp (srcf_turn srfO3 (put5_turn yO3 UA3.heap.size (.int .i64 st) (.string rr) (.int .i64 rn) (.slice RfO3 na rcfO3) (.slice RxO3 lr rcxO3)) (fun k hk e => by have h1 : UA3.heap.size < UV4.heap.size := HiV4.out.lt; omega)) (fun k _ hk e => by have h1 : UA3.heap.size < UV4.heap.size := HiV4.out.lt; omega)), Lib.hid ((srxO3.kept (put5_turn yO3 UA3.heap.size (.int .i64 st) (.string rr) (.int .i64 rn) (.slice RfO3 na rcfO3) (.slice RxO3 lr rcxO3)) (fun k hk e => by have h1 : UA3.heap.size < UV4.heap.size := HiV4.out.lt; omega)).mono (fun k _ hk e => by have h1 : UA3.heap.size < UV4.heap.size := HiV4.out.lt; omega))⟩)
              | (exact ⟨(Y1.heap.size + 1), RfO2, rcfO2, RxO2, rcxO2, rfl, rfl, rfl, hrcfO2, Lib.hid LEO2, Lib.hid (put5_belowY bYO2 LEO2 (.int .i64 st) (.string rr) (.int .i64 rn) (.slice RfO2 na rcfO2) (.slice RxO2 lr rcxO2)), Lib.hid (put5_is iYO2 (.int .i64 st) (.string rr) (.int .i64 rn) (.slice RfO2 na rcfO2) (.slice RxO2 lr rcxO2)), Lib.hid (srcf_imp (srcf_turn srfO2 (put5_turn yO2 (Y1.heap.size + 1) (.int .i64 st) (.string rr) (.int .i64 rn) (.slice RfO2 na rcfO2) (.slice RxO2 lr rcxO2)) (fun k hk e => by have h1 : (Y1.heap.size + 1) < UB4.heap.size := HiB4.out.lt; omega)) (fun k _ hk e => by have h1 : (Y1.heap.size + 1) < UB4.heap.size := HiB4.out.lt; omega)), Lib.hid ((srxO2.kept (put5_turn yO2 (Y1.heap.size + 1) (.int .i64 st) (.string rr) (.int .i64 rn) (.slice RfO2 na rcfO2) (.slice RxO2 lr rcxO2)) (fun k hk e => by have h1 : (Y1.heap.size + 1) < UB4.heap.size := HiB4.out.lt; omega)).mono (fun k _ hk e => by have h1 : (Y1.heap.size + 1) < UB4.heap.size := HiB4.out.lt; omega))⟩)
              | (exact ⟨Y1.heap.size, RfO1, rcfO1, RxO1, rcxO1, rfl, rfl, rfl, hrcfO1, Lib.hid LEO1, Lib.hid (put5_belowY bYO1 LEO1 (.int .i64 st) (.string rr) (.int .i64 rn) (.slice RfO1 na rcfO1) (.slice RxO1 lr rcxO1)), Lib.hid (put5_is iYO1 (.int .i64 st) (.string rr) (.int .i64 rn) (.slice RfO1 na rcfO1) (.slice RxO1 lr rcxO1)), Lib.hid (srcf_imp (srcf_turn srfO1 (put5_turn yO1 Y1.heap.size (.int .i64 st) (.string rr) (.int .i64 rn) (.slice RfO1 na rcfO1) (.slice RxO1 lr rcxO1)) (fun k hk e => by have h1 : Y1.heap.size < UC4.heap.size := HiC4.out.lt; omega)) (fun k _ hk e => by have h1 : Y1.heap.size < UC4.heap.size := HiC4.out.lt; omega)), Lib.hid ((srxO1.kept (put5_turn yO1 Y1.heap.size (.int .i64 st) (.string rr) (.int .i64 rn) (.slice RfO1 na rcfO1) (.slice RxO1 lr rcxO1)) (fun k hk e => by have h1 : Y1.heap.size < UC4.heap.size := HiC4.out.lt; omega)).mono (fun k _ hk e => by have h1 : Y1.heap.size < UC4.heap.size := HiC4.out.lt; omega))⟩)
        case rest =>
          obtain ⟨g7, Rf, rcf, Rx, rcx, rfl, rfl, rfl, hrcf, HG7, BY, IR, SF, SX⟩ := hcut
          have Bw := Lib.hid (B21.out.trans (BY.out.mono B21.out.size))
          have Iw := Lib.hid (I_21.out.kept (Turn.of_below (S := fun _ => False) BY.out) (fun h => h))
          have Sbw := Lib.hid ((src_lt Sb_21.out).kept (Turn.of_below (S := fun _ => False) BY.out) (fun _ _ h => h))
          have HGW := Lib.hid (show w.heap.size < g7 ∧ Y1.heap.size ≤ g7 from ⟨by have := I_21.out.lt; have := HG7.out; omega, HG7.out⟩)
          have e2 : ((LL : Int) != (LL : Int)) = false := by simp
          have CBa := Lib.hid (fun X : World => rbare_any X st mt)
          rw [HBARE.out] at CBa
          clear I_21 Sb_21 B21 BY KB CR bAd bCd bBd bC2d RA3 RA4 RV4 RB3 RB4 RC3 RC4 bUA3 bV3 bUA4 bA5 bUV4 bUB3 bUB4 bUC3 bUC4 BD HiA5 HiV4 HiB4 HiC4 HsMA HsMA5 HsMV HsMB HsMC HhMcA HhMcV HhMcB HhMcC HlA5
          have a5 : wc.cell? ⟨w.heap.size, 5, none⟩ = some (.int .i64 st) := Iw.out.cell 5
          have a10 : wc.cell? ⟨w.heap.size, 10, none⟩ = some (.string mt) := Iw.out.cell 10
          go_wp2_with fail
          refine (CBa.out wc).mono ?_
          rintro e w' ⟨rfl, rfl⟩
          clear a5 a10 CBa
          cases bare with
          | true =>
            have hw : all2 = rl := by rw [← HALL2.out]; rfl
            have hnr : na = nr := by rw [← hna, hw, HNR.out]
            rw [hw] at SF
            rw [hnr] at IR
            have SF2 := Lib.hid (srcf_true SF.out)
            have SX2 := Lib.hid (SX.out.mono (P' := fun _ => True) (fun _ _ _ => trivial))
            clear hw hnr hna SF SX hrcf
            have c0 : wc.cell? ⟨g7, 0, none⟩ = some (.int .i64 st) := IR.out.cell 0
            have c1 : wc.cell? ⟨g7, 1, none⟩ = some (.string rr) := IR.out.cell 1
            have c2 : wc.cell? ⟨g7, 2, none⟩ = some (.int .i64 rn) := IR.out.cell 2
            have c3 : wc.cell? ⟨g7, 3, none⟩ = some (.slice Rf nr rcf) := IR.out.cell 3
            have c4 : wc.cell? ⟨g7, 4, none⟩ = some (.slice Rx lr rcx) := IR.out.cell 4
            have d5 : wc.cell? ⟨w.heap.size, 5, none⟩ = some (.int .i64 st) := Iw.out.cell 5
            have d6 : wc.cell? ⟨w.heap.size, 6, none⟩ = some (.string rr) := Iw.out.cell 6
            have d7 : wc.cell? ⟨w.heap.size, 7, none⟩ = some (.int .i64 rn) := Iw.out.cell 7
            have d8 : wc.cell? ⟨w.heap.size, 8, none⟩ = some (.slice Ar nr cr) := Iw.out.cell 8
            have d9 : wc.cell? ⟨w.heap.size, 9, none⟩ = some (.slice Dr lr dr) := Iw.out.cell 9
            have K := Lib.hid (HC.sameResponse wc st st rr rr rn rn Rf Ar Rx Dr rl rl rx rx nr nr rcf cr lr lr rcx dr HNR.out HNR.out (by omega) HLR.out HLR.out SF2.out (HR.out.below Bw.out) SX2.out (HRX.out.kept (Turn.of_below (S := fun _ => False) Bw.out) (fun _ _ h => h)))
            rw [show decide (st = st ∧ bl rr = bl rr ∧ rn = rn ∧ rl = rl ∧ rx = rx) = true by simp] at K
            go_wp2_with fail
            refine K.out.mono ?_
            rintro e X7 ⟨rfl, b7⟩
            have B7 := Lib.hid (Bw.out.trans (b7.mono Bw.out.size))
            have I7 := Lib.hid (Iw.out.kept (Turn.of_below (S := fun _ => False) b7) (fun h => h))
            have Sb7 := Lib.hid (Sbw.out.kept (Turn.of_below (S := fun _ => False) b7) (fun _ _ h => h))
            clear b7 K IR SF2 SX2 Iw Sbw c0 c1 c2 c3 c4 d5 d6 d7 d8 d9
            obtain ⟨j, hj⟩ : ∃ j, k % LL = j := ⟨_, rfl⟩
            have hjL : j < LL := by rw [← hj]; exact Nat.mod_lt _ hc4
            have hrem : ((k : Int)).tmod (LL : Int) = (j : Int) := by rw [← hj, Int.tmod_eq_emod_of_nonneg (by omega)]; rfl
            have wk : IntKind.i64.wrap (k : Int) = (k : Int) := by rw [IntKind.wrap_i64]; omega
            have wj : IntKind.i64.wrap (j : Int) = (j : Int) := by rw [IntKind.wrap_i64]; omega
            have i1 : ¬ (LL : Int) = 0 := by omega
            have i1n : ¬ LL = 0 := by omega
            have i1b : ((LL : Int) == 0) = false := by simp; omega
            have i1d : decide ((LL : Int) = 0) = false := decide_eq_false (by omega)
            obtain ⟨A8, hs8, hsrc8⟩ := run_front8 Rb LL rcb j (by omega)
            have C8 := Lib.hid (fun (X : World) (hX : Below X7.heap.size X7 X) => (HC.response X A8 (rb.take j) j rcb mt false (by rw [List.length_take, HLL.out]; omega) (by omega) (by omega) HMT.out (((hsrc8 X7 _ rb HLL.out (by omega) Sb7.out).mono (fun _ _ _ => trivial)).kept (Turn.of_below (S := fun _ => False) hX) (fun _ _ h => h)) (HP.out.below (B7.out.trans (hX.mono B7.out.size)))).mono (fun _ _ h => h.told2))
            rw [res_short rb (bl mt) j LL (by rw [HC1.out]) hjL] at C8
            unfold RsTold2 rsZ at C8
            simp only [Option.getD_none, List.length_nil] at C8
            clear hj hsrc8 Sb7
            have K7 : ∀ X : World, Below X7.heap.size X7 X → X.cell? ⟨w.heap.size, 10, none⟩ = some (.string mt) := fun X hX => (I7.out.kept (Turn.of_below (S := fun _ => False) hX) (fun h => h)).cell 10
            have D7 : Below X7.heap.size X7 X7.drew := below_drewN (Below.refl X7.heap.size X7) 1
            have DZ : Below X7.heap.size X7 (X7.alloc (.cells #[.int .i64 0, .string ⟨#[]⟩, .int .i64 0, .slice none 0 0, .slice none 0 0] 32)).drew := below_drewN ((Below.refl X7.heap.size X7).alloc (Nat.le_refl _) _) 1
            have iZ : Is (X7.alloc (.cells #[.int .i64 0, .string ⟨#[]⟩, .int .i64 0, .slice none 0 0, .slice none 0 0] 32)).drew X7.heap.size 32 [.int .i64 0, .string ⟨#[]⟩, .int .i64 0, .slice none 0 0, .slice none 0 0] := (Is.made X7 32 [.int .i64 0, .string ⟨#[]⟩, .int .i64 0, .slice none 0 0, .slice none 0 0]).drew
            go_wp2_with fail
            go_region_held3 (fun w' => w'.cell? ⟨w.heap.size, 10, none⟩ = some (.string mt)) (first | (with_reducible exact K7 _ (Below.refl X7.heap.size X7)) | (with_reducible exact K7 _ D7) | (with_reducible exact K7 _ DZ) | (with_reducible exact k8) | (with_reducible exact k8L _) | (with_reducible exact k9) | (with_reducible exact k9S _ _ _ _ _) | go_keep)
              (first
                | (go_at_call 11
                   (with_reducible refine (C8.out X7.drew D7).mono ?_)
                   rintro e y8 ⟨A9, c9, B9, d9, rfl, _, _, _, b8⟩
                   have bY8 : Below X7.heap.size X7 y8 := D7.trans (b8.mono D7.size)
                   have k8 := K7 _ bY8
                   have k8L : ∀ b, (y8.alloc b).cell? ⟨w.heap.size, 10, none⟩ = some (.string mt) := fun b => K7 _ (bY8.alloc bY8.size b))
                | (go_at_call 11
                   (with_reducible refine (C8.out (X7.alloc (.cells #[.int .i64 0, .string ⟨#[]⟩, .int .i64 0, .slice none 0 0, .slice none 0 0] 32)).drew DZ).mono ?_)
                   rintro e y9 ⟨A9, c9, B9, d9, rfl, _, _, _, b9⟩
                   have bY9 : Below X7.heap.size X7 y9 := DZ.trans (b9.mono DZ.size)
                   have k9 := K7 _ bY9
                   have iY9 := iZ.kept (Turn.of_below (S := fun _ => False) b9) (fun h => h)
                   have z09 : y9.cell? ⟨X7.heap.size, 0, none⟩ = some _ := iY9.cell 0
                   have zf09 : y9.frozen? ⟨X7.heap.size, 0, none⟩ = false := iY9.free 0
                   have z19 : y9.cell? ⟨X7.heap.size, 1, none⟩ = some _ := iY9.cell 1
                   have zf19 : y9.frozen? ⟨X7.heap.size, 1, none⟩ = false := iY9.free 1
                   have z29 : y9.cell? ⟨X7.heap.size, 2, none⟩ = some _ := iY9.cell 2
                   have zf29 : y9.frozen? ⟨X7.heap.size, 2, none⟩ = false := iY9.free 2
                   have z39 : y9.cell? ⟨X7.heap.size, 3, none⟩ = some _ := iY9.cell 3
                   have zf39 : y9.frozen? ⟨X7.heap.size, 3, none⟩ = false := iY9.free 3
                   have z49 : y9.cell? ⟨X7.heap.size, 4, none⟩ = some _ := iY9.cell 4
                   have zf49 : y9.frozen? ⟨X7.heap.size, 4, none⟩ = false := iY9.free 4
                   have k9S : ∀ v0 v1 v2 v3 v4, (put5 y9 X7.heap.size v0 v1 v2 v3 v4).cell? ⟨w.heap.size, 10, none⟩ = some (.string mt) := fun v0 v1 v2 v3 v4 => K7 _ (put5_belowY bY9 (Nat.le_refl _) v0 v1 v2 v3 v4)
                   unfold put5 at k9S))
            all_goals
              go_wp2_with fail
              go_ret
              first
                | exact ⟨rfl, B7.out.trans ((bY8.alloc bY8.size _).mono B7.out.size)⟩
                | exact ⟨rfl, B7.out.trans ((put5_belowY bY9 (Nat.le_refl _) _ _ _ _ _).mono B7.out.size)⟩
          | false =>
            have hnr : na = nr + 1 := by rw [← hna, ← HALL2.out, withCL_length, HNR.out]; rfl
            have hw : all2.take nr = rl := by rw [← HALL2.out]; unfold withCL; rw [if_pos (by rfl), ← HNR.out]; exact List.take_left' rfl
            obtain ⟨A6, hs6, hsrc6⟩ := run_front_fld9 Rf (nr + 1) rcf nr (by omega)
            have sf6 := hsrc6 wc _ _ (hna.trans hnr) (by omega) SF.out
            rw [hw] at sf6
            rw [hnr] at IR
            have wr6 : IntKind.i64.wrap ((nr : Int) + 1 - 1) = (nr : Int) := by rw [IntKind.wrap_i64]; omega
            have m3 : wc.cell? ⟨g7, 3, none⟩ = some (.slice Rf (nr + 1) rcf) := IR.out.cell 3
            have m3f : wc.frozen? ⟨g7, 3, none⟩ = false := IR.out.free 3
            have T6 : Turn (· = g7) wc (wc.setCell ⟨g7, 3, none⟩ (.slice A6 nr rcf)) := (Turn.refl (· = g7) wc).setCell (p := ⟨g7, 3, none⟩) (fun _ => rfl) _
            have Ir6 := Lib.hid (IR.out.set 3 (.slice A6 nr rcf))
            have Iw6 := Lib.hid (Iw.out.kept T6 (fun hh => by have := HGW.out.1; omega))
            have Bw6 := Lib.hid (Bw.out.setCell (p := ⟨g7, 3, none⟩) (Nat.le_of_lt HGW.out.1) (.slice A6 nr rcf))
            have SF6 := Lib.hid (srcf_true (srcf_turn sf6 T6 (fun q hq hh => hq hh)))
            have SX6 := Lib.hid ((SX.out.kept T6 (fun q hq hh => hq hh)).mono (P' := fun _ => True) (fun _ _ _ => trivial))
            have Sb6 := Lib.hid (Sbw.out.kept T6 (fun q hq hh => by have := HGW.out.2; omega))
            clear T6 sf6 hsrc6 hw hnr hna IR Iw Bw SF SX Sbw
            go_upto_region 22 with fail
            clear m3 m3f
            generalize wc.setCell ⟨g7, 3, none⟩ _ = X6 at *
            simp only [List.set_cons_zero, List.set_cons_succ] at Ir6
            have c0 : X6.cell? ⟨g7, 0, none⟩ = some (.int .i64 st) := Ir6.out.cell 0
            have c1 : X6.cell? ⟨g7, 1, none⟩ = some (.string rr) := Ir6.out.cell 1
            have c2 : X6.cell? ⟨g7, 2, none⟩ = some (.int .i64 rn) := Ir6.out.cell 2
            have c3 : X6.cell? ⟨g7, 3, none⟩ = some (.slice A6 nr rcf) := Ir6.out.cell 3
            have c4 : X6.cell? ⟨g7, 4, none⟩ = some (.slice Rx lr rcx) := Ir6.out.cell 4
            have d5 : X6.cell? ⟨w.heap.size, 5, none⟩ = some (.int .i64 st) := Iw6.out.cell 5
            have d6 : X6.cell? ⟨w.heap.size, 6, none⟩ = some (.string rr) := Iw6.out.cell 6
            have d7 : X6.cell? ⟨w.heap.size, 7, none⟩ = some (.int .i64 rn) := Iw6.out.cell 7
            have d8 : X6.cell? ⟨w.heap.size, 8, none⟩ = some (.slice Ar nr cr) := Iw6.out.cell 8
            have d9 : X6.cell? ⟨w.heap.size, 9, none⟩ = some (.slice Dr lr dr) := Iw6.out.cell 9
            have K := Lib.hid (HC.sameResponse X6 st st rr rr rn rn A6 Ar Rx Dr rl rl rx rx nr nr rcf cr lr lr rcx dr HNR.out HNR.out (by omega) HLR.out HLR.out SF6.out (HR.out.below Bw6.out) SX6.out (HRX.out.kept (Turn.of_below (S := fun _ => False) Bw6.out) (fun _ _ h => h)))
            rw [show decide (st = st ∧ bl rr = bl rr ∧ rn = rn ∧ rl = rl ∧ rx = rx) = true by simp] at K
            go_wp2_with fail
            refine K.out.mono ?_
            rintro e X7 ⟨rfl, b7⟩
            have B7 := Lib.hid (Bw6.out.trans (b7.mono Bw6.out.size))
            have I7 := Lib.hid (Iw6.out.kept (Turn.of_below (S := fun _ => False) b7) (fun h => h))
            have Sb7 := Lib.hid (Sb6.out.kept (Turn.of_below (S := fun _ => False) b7) (fun _ _ h => h))
            clear b7 K Ir6 SF6 SX6 Iw6 Sb6 c0 c1 c2 c3 c4 d5 d6 d7 d8 d9
            obtain ⟨j, hj⟩ : ∃ j, k % LL = j := ⟨_, rfl⟩
            have hjL : j < LL := by rw [← hj]; exact Nat.mod_lt _ hc4
            have hrem : ((k : Int)).tmod (LL : Int) = (j : Int) := by rw [← hj, Int.tmod_eq_emod_of_nonneg (by omega)]; rfl
            have wk : IntKind.i64.wrap (k : Int) = (k : Int) := by rw [IntKind.wrap_i64]; omega
            have wj : IntKind.i64.wrap (j : Int) = (j : Int) := by rw [IntKind.wrap_i64]; omega
            have i1 : ¬ (LL : Int) = 0 := by omega
            have i1n : ¬ LL = 0 := by omega
            have i1b : ((LL : Int) == 0) = false := by simp; omega
            have i1d : decide ((LL : Int) = 0) = false := decide_eq_false (by omega)
            obtain ⟨A8, hs8, hsrc8⟩ := run_front8 Rb LL rcb j (by omega)
            have C8 := Lib.hid (fun (X : World) (hX : Below X7.heap.size X7 X) => (HC.response X A8 (rb.take j) j rcb mt false (by rw [List.length_take, HLL.out]; omega) (by omega) (by omega) HMT.out (((hsrc8 X7 _ rb HLL.out (by omega) Sb7.out).mono (fun _ _ _ => trivial)).kept (Turn.of_below (S := fun _ => False) hX) (fun _ _ h => h)) (HP.out.below (B7.out.trans (hX.mono B7.out.size)))).mono (fun _ _ h => h.told2))
            rw [res_short rb (bl mt) j LL (by rw [HC1.out]) hjL] at C8
            unfold RsTold2 rsZ at C8
            simp only [Option.getD_none, List.length_nil] at C8
            clear hj hsrc8 Sb7
            have K7 : ∀ X : World, Below X7.heap.size X7 X → X.cell? ⟨w.heap.size, 10, none⟩ = some (.string mt) := fun X hX => (I7.out.kept (Turn.of_below (S := fun _ => False) hX) (fun h => h)).cell 10
            have D7 : Below X7.heap.size X7 X7.drew := below_drewN (Below.refl X7.heap.size X7) 1
            have DZ : Below X7.heap.size X7 (X7.alloc (.cells #[.int .i64 0, .string ⟨#[]⟩, .int .i64 0, .slice none 0 0, .slice none 0 0] 32)).drew := below_drewN ((Below.refl X7.heap.size X7).alloc (Nat.le_refl _) _) 1
            have iZ : Is (X7.alloc (.cells #[.int .i64 0, .string ⟨#[]⟩, .int .i64 0, .slice none 0 0, .slice none 0 0] 32)).drew X7.heap.size 32 [.int .i64 0, .string ⟨#[]⟩, .int .i64 0, .slice none 0 0, .slice none 0 0] := (Is.made X7 32 [.int .i64 0, .string ⟨#[]⟩, .int .i64 0, .slice none 0 0, .slice none 0 0]).drew
            go_wp2_with fail
            go_region_held3 (fun w' => w'.cell? ⟨w.heap.size, 10, none⟩ = some (.string mt)) (first | (with_reducible exact K7 _ (Below.refl X7.heap.size X7)) | (with_reducible exact K7 _ D7) | (with_reducible exact K7 _ DZ) | (with_reducible exact k8) | (with_reducible exact k8L _) | (with_reducible exact k9) | (with_reducible exact k9S _ _ _ _ _) | go_keep)
              (first
                | (go_at_call 11
                   (with_reducible refine (C8.out X7.drew D7).mono ?_)
                   rintro e y8 ⟨A9, c9, B9, d9, rfl, _, _, _, b8⟩
                   have bY8 : Below X7.heap.size X7 y8 := D7.trans (b8.mono D7.size)
                   have k8 := K7 _ bY8
                   have k8L : ∀ b, (y8.alloc b).cell? ⟨w.heap.size, 10, none⟩ = some (.string mt) := fun b => K7 _ (bY8.alloc bY8.size b))
                | (go_at_call 11
                   (with_reducible refine (C8.out (X7.alloc (.cells #[.int .i64 0, .string ⟨#[]⟩, .int .i64 0, .slice none 0 0, .slice none 0 0] 32)).drew DZ).mono ?_)
                   rintro e y9 ⟨A9, c9, B9, d9, rfl, _, _, _, b9⟩
                   have bY9 : Below X7.heap.size X7 y9 := DZ.trans (b9.mono DZ.size)
                   have k9 := K7 _ bY9
                   have iY9 := iZ.kept (Turn.of_below (S := fun _ => False) b9) (fun h => h)
                   have z09 : y9.cell? ⟨X7.heap.size, 0, none⟩ = some _ := iY9.cell 0
                   have zf09 : y9.frozen? ⟨X7.heap.size, 0, none⟩ = false := iY9.free 0
                   have z19 : y9.cell? ⟨X7.heap.size, 1, none⟩ = some _ := iY9.cell 1
                   have zf19 : y9.frozen? ⟨X7.heap.size, 1, none⟩ = false := iY9.free 1
                   have z29 : y9.cell? ⟨X7.heap.size, 2, none⟩ = some _ := iY9.cell 2
                   have zf29 : y9.frozen? ⟨X7.heap.size, 2, none⟩ = false := iY9.free 2
                   have z39 : y9.cell? ⟨X7.heap.size, 3, none⟩ = some _ := iY9.cell 3
                   have zf39 : y9.frozen? ⟨X7.heap.size, 3, none⟩ = false := iY9.free 3
                   have z49 : y9.cell? ⟨X7.heap.size, 4, none⟩ = some _ := iY9.cell 4
                   have zf49 : y9.frozen? ⟨X7.heap.size, 4, none⟩ = false := iY9.free 4
                   have k9S : ∀ v0 v1 v2 v3 v4, (put5 y9 X7.heap.size v0 v1 v2 v3 v4).cell? ⟨w.heap.size, 10, none⟩ = some (.string mt) := fun v0 v1 v2 v3 v4 => K7 _ (put5_belowY bY9 (Nat.le_refl _) v0 v1 v2 v3 v4)
                   unfold put5 at k9S))
            all_goals
              go_wp2_with fail
              go_ret
              first
                | exact ⟨rfl, B7.out.trans ((bY8.alloc bY8.size _).mono B7.out.size)⟩
                | exact ⟨rfl, B7.out.trans ((put5_belowY bY9 (Nat.le_refl _) _ _ _ _ _).mono B7.out.size)⟩
      · have eB : ((re : Int) == 0) = false := by simp; omega
        go_wp2_with fail
        go_ret
        exact ⟨rfl, B21.out⟩
  · have eA : ((qe : Int) == 0) = false := by simp; omega
    go_upto_region 15 with fail
    have p5 : X2.cell? ⟨w.heap.size, 5, none⟩ = some (.int .i64 st) := I_2.out.cell 5
    have p6 : X2.cell? ⟨w.heap.size, 6, none⟩ = some (.string rr) := I_2.out.cell 6
    have p7 : X2.cell? ⟨w.heap.size, 7, none⟩ = some (.int .i64 rn) := I_2.out.cell 7
    have p8 : X2.cell? ⟨w.heap.size, 8, none⟩ = some (.slice Ar nr cr) := I_2.out.cell 8
    have p9 : X2.cell? ⟨w.heap.size, 9, none⟩ = some (.slice Dr lr dr) := I_2.out.cell 9
    have p10 : X2.cell? ⟨w.heap.size, 10, none⟩ = some (.string mt) := I_2.out.cell 10
    go_wp2_with fail
    refine (CPR.out X2 B2.out).mono ?_
    rintro e Y1 ⟨Rb, rcb, rfl, hrcb, srb, bb1⟩
    have B21 := Lib.hid (B2.out.trans (bb1.mono B2.out.size))
    have I_21 := Lib.hid (I_2.out.kept (Turn.of_below (S := fun _ => False) bb1) (fun h => h))
    have Sb_21 := Lib.hid srb
    clear srb bb1 CPR B2 I_2 p5 p6 p7 p8 p9 p10
    by_cases hre : re = 0
    · subst hre
      obtain ⟨hc1, hc2, hc3, hc4⟩ := putRes_back HPR.out
      have hc5 := putRes_len HPR.out
      obtain ⟨LL, hLL⟩ : ∃ LL, rb.length = LL := ⟨_, rfl⟩
      obtain ⟨bare, hbare⟩ : ∃ bare, bareM st (bl mt) = bare := ⟨_, rfl⟩
      rw [hbare] at hc1
      obtain ⟨all2, hall2⟩ : ∃ all2, withCL rl rx.length (!bare) = all2 := ⟨_, rfl⟩
      rw [hLL, hall2] at hc1
      rw [hLL] at hc4 hc5 hrcb
      have HALL2 := Lib.hid hall2
      have HBARE := Lib.hid hbare
      clear hall2 hbare
      have HC1 := Lib.hid hc1
      have HLL := Lib.hid hLL
      rw [hLL]
      have hst8 := fun en => response_stays rb ts (bl mt) en (by rw [hc1]; simp)
      obtain ⟨r2, hr2⟩ : ∃ r2, k % 2 = r2 := ⟨_, rfl⟩
      obtain ⟨en, hen⟩ : ∃ en, ((r2 : Int) == 0) = en := ⟨_, rfl⟩
      have hrem2 : ((k : Int)).tmod 2 = (r2 : Int) := by rw [← hr2, Int.tmod_eq_emod_of_nonneg (by omega)]; rfl
      have wr2 : IntKind.u16.wrap (r2 : Int) = (r2 : Int) := by rw [IntKind.wrap_u16]; omega
      have CR := Lib.hid (fun (X : World) (hX : Below Y1.heap.size Y1 X) (M : Option Addr) (cM : Nat) (hMc : LL + nt ≤ cM) (hS : Src X (fun _ => True) M (rb ++ ts)) => (HC.response X M (rb ++ ts) (LL + nt) cM mt en (by rw [List.length_append, hLL, HNT.out]) hMc (by omega) HMT.out hS (HP.out.below (B21.out.trans (hX.mono B21.out.size)))).mono (fun _ _ h => h.told3))
      rw [hst8, hc1] at CR
      unfold RsTold3 at CR
      simp only [Option.getD_some, hc2, hc3] at CR
      obtain ⟨na, hna⟩ : ∃ na, all2.length = na := ⟨_, rfl⟩
      rw [mk_bl, hna, HLR.out] at CR
      have BD : Below Y1.heap.size Y1 Y1.drew := below_drewN (Below.refl Y1.heap.size Y1) 1
      have HTY := HT.out.kept (Turn.of_below (S := fun _ => False) B21.out) (fun _ _ h => h)
      have hl12 : (rb ++ ts).length = LL + nt := by rw [List.length_append, hLL, HNT.out]
      have bE0 : Below Y1.heap.size Y1 (Y1.alloc (.cells #[] 5)) := (Below.refl Y1.heap.size Y1).alloc (Nat.le_refl _) _
      have bZ0 : Below Y1.heap.size Y1 (Y1.alloc (.cells #[.int .i64 0, .string ⟨#[]⟩, .int .i64 0, .slice none 0 0, .slice none 0 0] 32)) := (Below.refl Y1.heap.size Y1).alloc (Nat.le_refl _) _
      have bAd : Below Y1.heap.size Y1 (Y1.alloc (.cells #[] 5)).drew := below_drewN bE0 1
      have bCd : Below Y1.heap.size Y1 (Y1.alloc (.cells #[.int .i64 0, .string ⟨#[]⟩, .int .i64 0, .slice none 0 0, .slice none 0 0] 32)).drew := below_drewN bZ0 1
      have bBd : Below Y1.heap.size Y1 ((Y1.alloc (.cells #[] 5)).alloc (.cells #[.int .i64 0, .string ⟨#[]⟩, .int .i64 0, .slice none 0 0, .slice none 0 0] 32)).drew := below_drewN (bE0.alloc bE0.size _) 1
      have bC2d : Below Y1.heap.size Y1 ((Y1.alloc (.cells #[.int .i64 0, .string ⟨#[]⟩, .int .i64 0, .slice none 0 0, .slice none 0 0] 32)).alloc (.cells #[] 5)).drew := below_drewN (bZ0.alloc bZ0.size _) 1
      have ownA2 : Own (Y1.alloc (.cells #[] 5)).drew (.slice (some ⟨Y1.heap.size, 0, none⟩) 0 0) (some Y1.heap.size) [] := Own.built Y1
      obtain ⟨uA3, UA3, qA3, rA3, ownA3, foA3, neA3, tA3, bUA3⟩ := app_one Y1 ((Y1.alloc (.cells #[] 5)).drew) bAd _ _ [] ownA2 (fun b hb => by injection hb with hb; omega) Rb rb LL rcb hLL Sb_21.out (by simp; omega)
      rw [List.nil_append] at ownA3
      obtain ⟨uA4, UA4, qA4, rA4, ownA4, foA4, neA4, tA4, bUA4⟩ := app_one Y1 UA3 bUA3 uA3 qA3 rb ownA3 foA3 At ts nt ct HNT.out HTY (by rw [hLL]; omega)
      obtain ⟨MA, cMA, hMA, hMcA, sMA, _⟩ := ownA4.block
      rw [hl12] at hMA hMcA
      subst hMA
      have bA5 : Below Y1.heap.size Y1 (UA4.alloc (.cells #[.int .i64 0, .string ⟨#[]⟩, .int .i64 0, .slice none 0 0, .slice none 0 0] 32)) := bUA4.alloc bUA4.size _
      have iA5 := Is.made UA4 32 [.int .i64 0, .string ⟨#[]⟩, .int .i64 0, .slice none 0 0, .slice none 0 0]
      have sMA5 := sMA.kept (Turn.of_below (S := fun _ => False) ((Below.refl UA4.heap.size UA4).alloc (Nat.le_refl _) (.cells #[.int .i64 0, .string ⟨#[]⟩, .int .i64 0, .slice none 0 0, .slice none 0 0] 32))) (fun _ _ h => h)
      have lA5 : UA4.heap.size < (UA4.alloc (.cells #[.int .i64 0, .string ⟨#[]⟩, .int .i64 0, .slice none 0 0, .slice none 0 0] 32)).heap.size := by simp
      have bV3 : Below Y1.heap.size Y1 (UA3.alloc (.cells #[.int .i64 0, .string ⟨#[]⟩, .int .i64 0, .slice none 0 0, .slice none 0 0] 32)) := bUA3.alloc bUA3.size _
      have iV3 := Is.made UA3 32 [.int .i64 0, .string ⟨#[]⟩, .int .i64 0, .slice none 0 0, .slice none 0 0]
      have ownV3 := ownA3.kept (Turn.of_below (S := fun _ => False) ((Below.refl UA3.heap.size UA3).alloc (Nat.le_refl _) (.cells #[.int .i64 0, .string ⟨#[]⟩, .int .i64 0, .slice none 0 0, .slice none 0 0] 32))) (fun _ _ h => h)
      obtain ⟨uV4, UV4, qV4, rV4, ownV4, foV4, neV4, tV4, bUV4⟩ := app_one Y1 (UA3.alloc (.cells #[.int .i64 0, .string ⟨#[]⟩, .int .i64 0, .slice none 0 0, .slice none 0 0] 32)) bV3 uA3 qA3 rb ownV3 foA3 At ts nt ct HNT.out HTY (by rw [hLL]; omega)
      obtain ⟨MV, cMV, hMV, hMcV, sMV, _⟩ := ownV4.block
      rw [hl12] at hMV hMcV
      subst hMV
      have iV4 := iV3.kept tV4 (fun h => by have := ownA3.lt _ h; omega)
      have iB2 : Is ((Y1.alloc (.cells #[] 5)).alloc (.cells #[.int .i64 0, .string ⟨#[]⟩, .int .i64 0, .slice none 0 0, .slice none 0 0] 32)).drew (Y1.heap.size + 1) 32 [.int .i64 0, .string ⟨#[]⟩, .int .i64 0, .slice none 0 0, .slice none 0 0] := by
        have := Is.made (Y1.alloc (.cells #[] 5)) 32 [.int .i64 0, .string ⟨#[]⟩, .int .i64 0, .slice none 0 0, .slice none 0 0]
        rw [show (Y1.alloc (.cells #[] 5)).heap.size = Y1.heap.size + 1 from by simp] at this
        exact this.drew
      have ownB2 : Own ((Y1.alloc (.cells #[] 5)).alloc (.cells #[.int .i64 0, .string ⟨#[]⟩, .int .i64 0, .slice none 0 0, .slice none 0 0] 32)).drew (.slice (some ⟨Y1.heap.size, 0, none⟩) 0 0) (some Y1.heap.size) [] := (Own.built Y1).kept (w' := (Y1.alloc (.cells #[] 5)).alloc (.cells #[.int .i64 0, .string ⟨#[]⟩, .int .i64 0, .slice none 0 0, .slice none 0 0] 32)) (Turn.of_below (S := fun _ => False) ((Below.refl (Y1.alloc (.cells #[] 5)).heap.size (Y1.alloc (.cells #[] 5))).alloc (Nat.le_refl _) (.cells #[.int .i64 0, .string ⟨#[]⟩, .int .i64 0, .slice none 0 0, .slice none 0 0] 32))) (fun _ _ h => h)
      obtain ⟨uB3, UB3, qB3, rB3, ownB3, foB3, neB3, tB3, bUB3⟩ := app_one Y1 (((Y1.alloc (.cells #[] 5)).alloc (.cells #[.int .i64 0, .string ⟨#[]⟩, .int .i64 0, .slice none 0 0, .slice none 0 0] 32)).drew) bBd _ _ [] ownB2 (fun b hb => by injection hb with hb; omega) Rb rb LL rcb hLL Sb_21.out (by simp; omega)
      rw [List.nil_append] at ownB3
      have neB : some Y1.heap.size ≠ some (Y1.heap.size + 1) := fun h => by injection h with h; omega
      have iB3 := iB2.kept tB3 (fun h => neB h)
      obtain ⟨uB4, UB4, qB4, rB4, ownB4, foB4, neB4, tB4, bUB4⟩ := app_one Y1 UB3 bUB3 uB3 qB3 rb ownB3 foB3 At ts nt ct HNT.out HTY (by rw [hLL]; omega)
      obtain ⟨MB, cMB, hMB, hMcB, sMB, _⟩ := ownB4.block
      rw [hl12] at hMB hMcB
      subst hMB
      have iB4 := iB3.kept tB4 (fun h => neB3 _ iB2.lt neB h)
      have iC2 : Is ((Y1.alloc (.cells #[.int .i64 0, .string ⟨#[]⟩, .int .i64 0, .slice none 0 0, .slice none 0 0] 32)).alloc (.cells #[] 5)).drew Y1.heap.size 32 [.int .i64 0, .string ⟨#[]⟩, .int .i64 0, .slice none 0 0, .slice none 0 0] := ((Is.made Y1 32 [.int .i64 0, .string ⟨#[]⟩, .int .i64 0, .slice none 0 0, .slice none 0 0]).alloc (.cells #[] 5)).drew
      have ownC2 : Own ((Y1.alloc (.cells #[.int .i64 0, .string ⟨#[]⟩, .int .i64 0, .slice none 0 0, .slice none 0 0] 32)).alloc (.cells #[] 5)).drew (.slice (some ⟨Y1.heap.size + 1, 0, none⟩) 0 0) (some (Y1.heap.size + 1)) [] := by
        have := Own.built (Y1.alloc (.cells #[.int .i64 0, .string ⟨#[]⟩, .int .i64 0, .slice none 0 0, .slice none 0 0] 32))
        rw [show (Y1.alloc (.cells #[.int .i64 0, .string ⟨#[]⟩, .int .i64 0, .slice none 0 0, .slice none 0 0] 32)).heap.size = Y1.heap.size + 1 from by simp] at this
        exact this
      obtain ⟨uC3, UC3, qC3, rC3, ownC3, foC3, neC3, tC3, bUC3⟩ := app_one Y1 (((Y1.alloc (.cells #[.int .i64 0, .string ⟨#[]⟩, .int .i64 0, .slice none 0 0, .slice none 0 0] 32)).alloc (.cells #[] 5)).drew) bC2d _ _ [] ownC2 (fun b hb => by injection hb with hb; omega) Rb rb LL rcb hLL Sb_21.out (by simp; omega)
      rw [List.nil_append] at ownC3
      have neC : some (Y1.heap.size + 1) ≠ some Y1.heap.size := fun h => by injection h with h; omega
      have iC3 := iC2.kept tC3 (fun h => neC h)
      obtain ⟨uC4, UC4, qC4, rC4, ownC4, foC4, neC4, tC4, bUC4⟩ := app_one Y1 UC3 bUC3 uC3 qC3 rb ownC3 foC3 At ts nt ct HNT.out HTY (by rw [hLL]; omega)
      obtain ⟨MC, cMC, hMC, hMcC, sMC, _⟩ := ownC4.block
      rw [hl12] at hMC hMcC
      subst hMC
      have iC4 := iC3.kept tC4 (fun h => neC3 _ iC2.lt neC h)
      have KB : ∀ X : World, Below Y1.heap.size Y1 X → X.cell? ⟨w.heap.size, 10, none⟩ = some (.string mt) := fun X hX => (I_21.out.kept (Turn.of_below (S := fun _ => False) hX) (fun h => h)).cell 10
      have RA3 := Lib.hid rA3
      have RA4 := Lib.hid rA4
      have RV4 := Lib.hid rV4
      have RB3 := Lib.hid rB3
      have RB4 := Lib.hid rB4
      have RC3 := Lib.hid rC3
      have RC4 := Lib.hid rC4
      clear rA3 rA4 rV4 rB3 rB4 rC3 rC4 hst8 hr2 hc1 hc2 hc3 hLL
      clear ownA2
      clear ownA3
      clear ownA4
      clear ownV3
      clear ownV4
      clear ownB2
      clear ownB3
      clear ownB4
      clear ownC2
      clear ownC3
      clear ownC4
      clear foA3
      clear foA4
      clear foV4
      clear foB3
      clear foB4
      clear foC3
      clear foC4
      clear neA3
      clear neA4
      clear neV4
      clear neB3
      clear neB4
      clear neC3
      clear neC4
      clear neB
      clear neC
      clear tA3
      clear tA4
      clear tV4
      clear tB3
      clear tB4
      clear tC3
      clear tC4
      clear bE0
      clear bZ0
      clear iV3
      clear iB2
      clear iB3
      clear iC2
      clear iC3
      clear hl12
      clear HTY
      have HiA5 := Lib.hid iA5
      clear iA5
      have HiV4 := Lib.hid iV4
      clear iV4
      have HiB4 := Lib.hid iB4
      clear iB4
      have HiC4 := Lib.hid iC4
      clear iC4
      have HsMA := Lib.hid sMA
      clear sMA
      have HsMA5 := Lib.hid sMA5
      clear sMA5
      have HsMV := Lib.hid sMV
      clear sMV
      have HsMB := Lib.hid sMB
      clear sMB
      have HsMC := Lib.hid sMC
      clear sMC
      have HhMcA := Lib.hid hMcA
      clear hMcA
      have HhMcV := Lib.hid hMcV
      clear hMcV
      have HhMcB := Lib.hid hMcB
      clear hMcB
      have HhMcC := Lib.hid hMcC
      clear hMcC
      have HlA5 := Lib.hid lA5
      clear lA5
      go_upto_region 17 with fail
      go_cut [17, 18, 19] from 93 to 107 (fun s17 s18 s19 wx => ∃ (g7 : Nat) (Rf : Option Addr) (rcf : Nat) (Rx : Option Addr) (rcx : Nat), s17 = .pointer (some ⟨g7, 0, none⟩) ∧ s18 = .int .i64 (LL : Int) ∧ s19 = .int .i64 0 ∧ na ≤ rcf ∧ Hid (Y1.heap.size ≤ g7) ∧ Hid (Below Y1.heap.size Y1 wx) ∧ Hid (Is wx g7 32 [.int .i64 st, .string rr, .int .i64 rn, .slice Rf na rcf, .slice Rx lr rcx]) ∧ Hid (SrcF wx (fun b => b ≠ g7) Rf all2) ∧ Hid (Src wx (fun b => b ≠ g7) Rx rx))
      case first =>
        have LEO4 : Y1.heap.size ≤ UA4.heap.size := bUA4.size
        have LEO3 : Y1.heap.size ≤ UA3.heap.size := bUA3.size
        have LEO2 : Y1.heap.size ≤ Y1.heap.size + 1 := by omega
        have LEO1 : Y1.heap.size ≤ Y1.heap.size := Nat.le_refl _
        go_region_held3 (fun w' => w'.cell? ⟨w.heap.size, 10, none⟩ = some (.string mt)) (first | (with_reducible exact KB _ (Below.refl Y1.heap.size Y1)) | (with_reducible exact KB _ BD) | (with_reducible exact KB _ bAd) | (with_reducible exact KB _ bCd) | (with_reducible exact KB _ bBd) | (with_reducible exact KB _ bC2d) | (with_reducible exact KB _ bUA3) | (with_reducible exact KB _ bV3) | (with_reducible exact KB _ bUA4) | (with_reducible exact KB _ bA5) | (with_reducible exact KB _ bUV4) | (with_reducible exact KB _ bUB3) | (with_reducible exact KB _ bUB4) | (with_reducible exact KB _ bUC3) | (with_reducible exact KB _ bUC4) | (with_reducible exact kO5) | (with_reducible exact kO4) | (with_reducible exact kO3) | (with_reducible exact kO2) | (with_reducible exact kO1) | (with_reducible exact kLO5 _) | (with_reducible exact kSO4 _ _ _ _ _) | (with_reducible exact kSO3 _ _ _ _ _) | (with_reducible exact kSO2 _ _ _ _ _) | (with_reducible exact kSO1 _ _ _ _ _) | go_keep)
          (first
            | ((with_reducible (show if _ = true then Oper.wp _ _ _ ((Y1.alloc (.cells #[] 5)).drew) _ _ else _)); refine step_append_by rfl (.tmp 94) (.tmp 95) 22 rfl _ _ uA3 UA3 rfl rfl RA3.out ?_)
            | ((with_reducible (show if _ = true then Oper.wp _ _ _ (((Y1.alloc (.cells #[] 5)).alloc (.cells #[.int .i64 0, .string ⟨#[]⟩, .int .i64 0, .slice none 0 0, .slice none 0 0] 32)).drew) _ _ else _)); refine step_append_by rfl (.tmp 94) (.tmp 95) 22 rfl _ _ uB3 UB3 rfl rfl RB3.out ?_)
            | ((with_reducible (show if _ = true then Oper.wp _ _ _ (((Y1.alloc (.cells #[.int .i64 0, .string ⟨#[]⟩, .int .i64 0, .slice none 0 0, .slice none 0 0] 32)).alloc (.cells #[] 5)).drew) _ _ else _)); refine step_append_by rfl (.tmp 94) (.tmp 95) 22 rfl _ _ uC3 UC3 rfl rfl RC3.out ?_)
            | ((with_reducible (show if _ = true then Oper.wp _ _ _ (UA3) _ _ else _)); refine step_append_by rfl (.tmp 96) (.tmp 97) 22 rfl _ _ _ UA4 rfl rfl RA4.out ?_)
            | ((with_reducible (show if _ = true then Oper.wp _ _ _ (UA3.alloc (.cells #[.int .i64 0, .string ⟨#[]⟩, .int .i64 0, .slice none 0 0, .slice none 0 0] 32)) _ _ else _)); refine step_append_by rfl (.tmp 96) (.tmp 97) 22 rfl _ _ _ UV4 rfl rfl RV4.out ?_)
            | ((with_reducible (show if _ = true then Oper.wp _ _ _ (UB3) _ _ else _)); refine step_append_by rfl (.tmp 96) (.tmp 97) 22 rfl _ _ _ UB4 rfl rfl RB4.out ?_)
            | ((with_reducible (show if _ = true then Oper.wp _ _ _ (UC3) _ _ else _)); refine step_append_by rfl (.tmp 96) (.tmp 97) 22 rfl _ _ _ UC4 rfl rfl RC4.out ?_)
            | (go_at_call 11
               (with_reducible refine (CR.out UA4 bUA4 MA cMA HhMcA.out HsMA.out).mono ?_)
               rintro e yO5 ⟨RfO5, rcfO5, RxO5, rcxO5, rfl, hrcfO5, srfO5, srxO5, bbO5⟩
               have bYO5 : Below Y1.heap.size Y1 yO5 := bUA4.trans (bbO5.mono bUA4.size)
               have kO5 := KB _ bYO5
               have kLO5 : ∀ b, (yO5.alloc b).cell? ⟨w.heap.size, 10, none⟩ = some (.string mt) := fun b => KB _ (bYO5.alloc bYO5.size b))
            | (go_at_call 11
               (with_reducible refine (CR.out UV4 bUV4 MV cMV HhMcV.out HsMV.out).mono ?_)
               rintro e yO3 ⟨RfO3, rcfO3, RxO3, rcxO3, rfl, hrcfO3, srfO3, srxO3, bbO3⟩
               have bYO3 : Below Y1.heap.size Y1 yO3 := bUV4.trans (bbO3.mono bUV4.size)
               have kO3 := KB _ bYO3
               have iYO3 := HiV4.out.kept (Turn.of_below (S := fun _ => False) bbO3) (fun h => h)
               have z0O3 : yO3.cell? ⟨UA3.heap.size, 0, none⟩ = some _ := iYO3.cell 0
               have zf0O3 : yO3.frozen? ⟨UA3.heap.size, 0, none⟩ = false := iYO3.free 0
               have z1O3 : yO3.cell? ⟨UA3.heap.size, 1, none⟩ = some _ := iYO3.cell 1
               have zf1O3 : yO3.frozen? ⟨UA3.heap.size, 1, none⟩ = false := iYO3.free 1
               have z2O3 : yO3.cell? ⟨UA3.heap.size, 2, none⟩ = some _ := iYO3.cell 2
               have zf2O3 : yO3.frozen? ⟨UA3.heap.size, 2, none⟩ = false := iYO3.free 2
               have z3O3 : yO3.cell? ⟨UA3.heap.size, 3, none⟩ = some _ := iYO3.cell 3
               have zf3O3 : yO3.frozen? ⟨UA3.heap.size, 3, none⟩ = false := iYO3.free 3
               have z4O3 : yO3.cell? ⟨UA3.heap.size, 4, none⟩ = some _ := iYO3.cell 4
               have zf4O3 : yO3.frozen? ⟨UA3.heap.size, 4, none⟩ = false := iYO3.free 4
               have kSO3 : ∀ v0 v1 v2 v3 v4, (put5 yO3 UA3.heap.size v0 v1 v2 v3 v4).cell? ⟨w.heap.size, 10, none⟩ = some (.string mt) := fun v0 v1 v2 v3 v4 => KB _ (put5_belowY bYO3 LEO3 v0 v1 v2 v3 v4)
               unfold put5 at kSO3)
            | (go_at_call 11
               (with_reducible refine (CR.out UB4 bUB4 MB cMB HhMcB.out HsMB.out).mono ?_)
               rintro e yO2 ⟨RfO2, rcfO2, RxO2, rcxO2, rfl, hrcfO2, srfO2, srxO2, bbO2⟩
               have bYO2 : Below Y1.heap.size Y1 yO2 := bUB4.trans (bbO2.mono bUB4.size)
               have kO2 := KB _ bYO2
               have iYO2 := HiB4.out.kept (Turn.of_below (S := fun _ => False) bbO2) (fun h => h)
               have z0O2 : yO2.cell? ⟨(Y1.heap.size + 1), 0, none⟩ = some _ := iYO2.cell 0
               have zf0O2 : yO2.frozen? ⟨(Y1.heap.size + 1), 0, none⟩ = false := iYO2.free 0
               have z1O2 : yO2.cell? ⟨(Y1.heap.size + 1), 1, none⟩ = some _ := iYO2.cell 1
               have zf1O2 : yO2.frozen? ⟨(Y1.heap.size + 1), 1, none⟩ = false := iYO2.free 1
               have z2O2 : yO2.cell? ⟨(Y1.heap.size + 1), 2, none⟩ = some _ := iYO2.cell 2
               have zf2O2 : yO2.frozen? ⟨(Y1.heap.size + 1), 2, none⟩ = false := iYO2.free 2
               have z3O2 : yO2.cell? ⟨(Y1.heap.size + 1), 3, none⟩ = some _ := iYO2.cell 3
               have zf3O2 : yO2.frozen? ⟨(Y1.heap.size + 1), 3, none⟩ = false := iYO2.free 3
               have z4O2 : yO2.cell? ⟨(Y1.heap.size + 1), 4, none⟩ = some _ := iYO2.cell 4
               have zf4O2 : yO2.frozen? ⟨(Y1.heap.size + 1), 4, none⟩ = false := iYO2.free 4
               have kSO2 : ∀ v0 v1 v2 v3 v4, (put5 yO2 (Y1.heap.size + 1) v0 v1 v2 v3 v4).cell? ⟨w.heap.size, 10, none⟩ = some (.string mt) := fun v0 v1 v2 v3 v4 => KB _ (put5_belowY bYO2 LEO2 v0 v1 v2 v3 v4)
               unfold put5 at kSO2)
            | (go_at_call 11
               (with_reducible refine (CR.out UC4 bUC4 MC cMC HhMcC.out HsMC.out).mono ?_)
               rintro e yO1 ⟨RfO1, rcfO1, RxO1, rcxO1, rfl, hrcfO1, srfO1, srxO1, bbO1⟩
               have bYO1 : Below Y1.heap.size Y1 yO1 := bUC4.trans (bbO1.mono bUC4.size)
               have kO1 := KB _ bYO1
               have iYO1 := HiC4.out.kept (Turn.of_below (S := fun _ => False) bbO1) (fun h => h)
               have z0O1 : yO1.cell? ⟨Y1.heap.size, 0, none⟩ = some _ := iYO1.cell 0
               have zf0O1 : yO1.frozen? ⟨Y1.heap.size, 0, none⟩ = false := iYO1.free 0
               have z1O1 : yO1.cell? ⟨Y1.heap.size, 1, none⟩ = some _ := iYO1.cell 1
               have zf1O1 : yO1.frozen? ⟨Y1.heap.size, 1, none⟩ = false := iYO1.free 1
               have z2O1 : yO1.cell? ⟨Y1.heap.size, 2, none⟩ = some _ := iYO1.cell 2
               have zf2O1 : yO1.frozen? ⟨Y1.heap.size, 2, none⟩ = false := iYO1.free 2
               have z3O1 : yO1.cell? ⟨Y1.heap.size, 3, none⟩ = some _ := iYO1.cell 3
               have zf3O1 : yO1.frozen? ⟨Y1.heap.size, 3, none⟩ = false := iYO1.free 3
               have z4O1 : yO1.cell? ⟨Y1.heap.size, 4, none⟩ = some _ := iYO1.cell 4
               have zf4O1 : yO1.frozen? ⟨Y1.heap.size, 4, none⟩ = false := iYO1.free 4
               have kSO1 : ∀ v0 v1 v2 v3 v4, (put5 yO1 Y1.heap.size v0 v1 v2 v3 v4).cell? ⟨w.heap.size, 10, none⟩ = some (.string mt) := fun v0 v1 v2 v3 v4 => KB _ (put5_belowY bYO1 LEO1 v0 v1 v2 v3 v4)
               unfold put5 at kSO1)
            | (go_at_call 11
               (with_reducible refine (CR.out (UA4.alloc (.cells #[.int .i64 0, .string ⟨#[]⟩, .int .i64 0, .slice none 0 0, .slice none 0 0] 32)) bA5 MA cMA HhMcA.out HsMA5.out).mono ?_)
               rintro e yO4 ⟨RfO4, rcfO4, RxO4, rcxO4, rfl, hrcfO4, srfO4, srxO4, bbO4⟩
               have bYO4 : Below Y1.heap.size Y1 yO4 := bA5.trans (bbO4.mono bA5.size)
               have kO4 := KB _ bYO4
               have iYO4 := HiA5.out.kept (Turn.of_below (S := fun _ => False) bbO4) (fun h => h)
               have z0O4 : yO4.cell? ⟨UA4.heap.size, 0, none⟩ = some _ := iYO4.cell 0
               have zf0O4 : yO4.frozen? ⟨UA4.heap.size, 0, none⟩ = false := iYO4.free 0
               have z1O4 : yO4.cell? ⟨UA4.heap.size, 1, none⟩ = some _ := iYO4.cell 1
               have zf1O4 : yO4.frozen? ⟨UA4.heap.size, 1, none⟩ = false := iYO4.free 1
               have z2O4 : yO4.cell? ⟨UA4.heap.size, 2, none⟩ = some _ := iYO4.cell 2
               have zf2O4 : yO4.frozen? ⟨UA4.heap.size, 2, none⟩ = false := iYO4.free 2
               have z3O4 : yO4.cell? ⟨UA4.heap.size, 3, none⟩ = some _ := iYO4.cell 3
               have zf3O4 : yO4.frozen? ⟨UA4.heap.size, 3, none⟩ = false := iYO4.free 3
               have z4O4 : yO4.cell? ⟨UA4.heap.size, 4, none⟩ = some _ := iYO4.cell 4
               have zf4O4 : yO4.frozen? ⟨UA4.heap.size, 4, none⟩ = false := iYO4.free 4
               have kSO4 : ∀ v0 v1 v2 v3 v4, (put5 yO4 UA4.heap.size v0 v1 v2 v3 v4).cell? ⟨w.heap.size, 10, none⟩ = some (.string mt) := fun v0 v1 v2 v3 v4 => KB _ (put5_belowY bYO4 LEO4 v0 v1 v2 v3 v4)
               unfold put5 at kSO4))
        all_goals
          go_wp2_with fail
          go_meet
          first
            | (exact ⟨yO5.heap.size, RfO5, rcfO5, RxO5, rcxO5, rfl, rfl, rfl, hrcfO5, Lib.hid bYO5.size, Lib.hid (bYO5.alloc bYO5.size _), Lib.hid (Is.made yO5 32 [.int .i64 st, .string rr, .int .i64 rn, .slice RfO5 na rcfO5, .slice RxO5 lr rcxO5]), Lib.hid ((srcf_imp srfO5 (fun k hk _ e => by omega)).below ((Below.refl yO5.heap.size yO5).alloc (Nat.le_refl _) (.cells #[.int .i64 st, .string rr, .int .i64 rn, .slice RfO5 na rcfO5, .slice RxO5 lr rcxO5] 32))), Lib.hid ((srxO5.mono (fun k hk _ e => by omega)).kept (Turn.of_below (S := fun _ => False) ((Below.refl yO5.heap.size yO5).alloc (Nat.le_refl _) (.cells #[.int .i64 st, .string rr, .int .i64 rn, .slice RfO5 na rcfO5, .slice RxO5 lr rcxO5] 32))) (fun _ _ h => h))⟩)
            | (exact ⟨UA4.heap.size, RfO4, rcfO4, RxO4, rcxO4, rfl, rfl, rfl, hrcfO4, Lib.hid LEO4, Lib.hid (put5_belowY bYO4 LEO4 (.int .i64 st) (.string rr) (.int .i64 rn) (.slice RfO4 na rcfO4) (.slice RxO4 lr rcxO4)), Lib.hid (put5_is iYO4 (.int .i64 st) (.string rr) (.int .i64 rn) (.slice RfO4 na rcfO4) (.slice RxO4 lr rcxO4)), Lib.hid (srcf_imp (srcf_turn srfO4 (put5_turn yO4 UA4.heap.size (.int .i64 st) (.string rr) (.int .i64 rn) (.slice RfO4 na rcfO4) (.slice RxO4 lr rcxO4)) (fun k hk e => by have h1 : UA4.heap.size < (UA4.alloc (.cells #[.int .i64 0, .string ⟨#[]⟩, .int .i64 0, .slice none 0 0, .slice none 0 0] 32)).heap.size := HiA5.out.lt; omega)) (fun k _ hk e => by have h1 : UA4.heap.size < (UA4.alloc (.cells #[.int .i64 0, .string ⟨#[]⟩, .int .i64 0, .slice none 0 0, .slice none 0 0] 32)).heap.size := HiA5.out.lt; omega)), Lib.hid ((srxO4.kept (put5_turn yO4 UA4.heap.size (.int .i64 st) (.string rr) (.int .i64 rn) (.slice RfO4 na rcfO4) (.slice RxO4 lr rcxO4)) (fun k hk e => by have h1 : UA4.heap.size < (UA4.alloc (.cells #[.int .i64 0, .string ⟨#[]⟩, .int .i64 0, .slice none 0 0, .slice none 0 0] 32)).heap.size := HiA5.out.lt; omega)).mono (fun k _ hk e => by have h1 : UA4.heap.size < (UA4.alloc (.cells #[.int .i64 0, .string ⟨#[]⟩, .int .i64 0, .slice none 0 0, .slice none 0 0] 32)).heap.size := HiA5.out.lt; omega))⟩)
            | (exact ⟨UA3.heap.size, RfO3, rcfO3, RxO3, rcxO3, rfl, rfl, rfl, hrcfO3, Lib.hid LEO3, Lib.hid (put5_belowY bYO3 LEO3 (.int .i64 st) (.string rr) (.int .i64 rn) (.slice RfO3 na rcfO3) (.slice RxO3 lr rcxO3)), Lib.hid (put5_is iYO3 (.int .i64 st) (.string rr) (.int .i64 rn) (.slice RfO3 na rcfO3) (.slice RxO3 lr rcxO3)), Lib.hid (srcf_imp (srcf_turn srfO3 (put5_turn yO3 UA3.heap.size (.int .i64 st) (.string rr) (.int .i64 rn) (.slice RfO3 na rcfO3) (.slice RxO3 lr rcxO3)) (fun k hk e => by have h1 : UA3.heap.size < UV4.heap.size := HiV4.out.lt; omega)) (fun k _ hk e => by have h1 : UA3.heap.size < UV4.heap.size := HiV4.out.lt; omega)), Lib.hid ((srxO3.kept (put5_turn yO3 UA3.heap.size (.int .i64 st) (.string rr) (.int .i64 rn) (.slice RfO3 na rcfO3) (.slice RxO3 lr rcxO3)) (fun k hk e => by have h1 : UA3.heap.size < UV4.heap.size := HiV4.out.lt; omega)).mono (fun k _ hk e => by have h1 : UA3.heap.size < UV4.heap.size := HiV4.out.lt; omega))⟩)
            | (exact ⟨(Y1.heap.size + 1), RfO2, rcfO2, RxO2, rcxO2, rfl, rfl, rfl, hrcfO2, Lib.hid LEO2, Lib.hid (put5_belowY bYO2 LEO2 (.int .i64 st) (.string rr) (.int .i64 rn) (.slice RfO2 na rcfO2) (.slice RxO2 lr rcxO2)), Lib.hid (put5_is iYO2 (.int .i64 st) (.string rr) (.int .i64 rn) (.slice RfO2 na rcfO2) (.slice RxO2 lr rcxO2)), Lib.hid (srcf_imp (srcf_turn srfO2 (put5_turn yO2 (Y1.heap.size + 1) (.int .i64 st) (.string rr) (.int .i64 rn) (.slice RfO2 na rcfO2) (.slice RxO2 lr rcxO2)) (fun k hk e => by have h1 : (Y1.heap.size + 1) < UB4.heap.size := HiB4.out.lt; omega)) (fun k _ hk e => by have h1 : (Y1.heap.size + 1) < UB4.heap.size := HiB4.out.lt; omega)), Lib.hid ((srxO2.kept (put5_turn yO2 (Y1.heap.size + 1) (.int .i64 st) (.string rr) (.int .i64 rn) (.slice RfO2 na rcfO2) (.slice RxO2 lr rcxO2)) (fun k hk e => by have h1 : (Y1.heap.size + 1) < UB4.heap.size := HiB4.out.lt; omega)).mono (fun k _ hk e => by have h1 : (Y1.heap.size + 1) < UB4.heap.size := HiB4.out.lt; omega))⟩)
            | (exact ⟨Y1.heap.size, RfO1, rcfO1, RxO1, rcxO1, rfl, rfl, rfl, hrcfO1, Lib.hid LEO1, Lib.hid (put5_belowY bYO1 LEO1 (.int .i64 st) (.string rr) (.int .i64 rn) (.slice RfO1 na rcfO1) (.slice RxO1 lr rcxO1)), Lib.hid (put5_is iYO1 (.int .i64 st) (.string rr) (.int .i64 rn) (.slice RfO1 na rcfO1) (.slice RxO1 lr rcxO1)), Lib.hid (srcf_imp (srcf_turn srfO1 (put5_turn yO1 Y1.heap.size (.int .i64 st) (.string rr) (.int .i64 rn) (.slice RfO1 na rcfO1) (.slice RxO1 lr rcxO1)) (fun k hk e => by have h1 : Y1.heap.size < UC4.heap.size := HiC4.out.lt; omega)) (fun k _ hk e => by have h1 : Y1.heap.size < UC4.heap.size := HiC4.out.lt; omega)), Lib.hid ((srxO1.kept (put5_turn yO1 Y1.heap.size (.int .i64 st) (.string rr) (.int .i64 rn) (.slice RfO1 na rcfO1) (.slice RxO1 lr rcxO1)) (fun k hk e => by have h1 : Y1.heap.size < UC4.heap.size := HiC4.out.lt; omega)).mono (fun k _ hk e => by have h1 : Y1.heap.size < UC4.heap.size := HiC4.out.lt; omega))⟩)
      case rest =>
        obtain ⟨g7, Rf, rcf, Rx, rcx, rfl, rfl, rfl, hrcf, HG7, BY, IR, SF, SX⟩ := hcut
        have Bw := Lib.hid (B21.out.trans (BY.out.mono B21.out.size))
        have Iw := Lib.hid (I_21.out.kept (Turn.of_below (S := fun _ => False) BY.out) (fun h => h))
        have Sbw := Lib.hid ((src_lt Sb_21.out).kept (Turn.of_below (S := fun _ => False) BY.out) (fun _ _ h => h))
        have HGW := Lib.hid (show w.heap.size < g7 ∧ Y1.heap.size ≤ g7 from ⟨by have := I_21.out.lt; have := HG7.out; omega, HG7.out⟩)
        have e2 : ((LL : Int) != (LL : Int)) = false := by simp
        have CBa := Lib.hid (fun X : World => rbare_any X st mt)
        rw [HBARE.out] at CBa
        clear I_21 Sb_21 B21 BY KB CR bAd bCd bBd bC2d RA3 RA4 RV4 RB3 RB4 RC3 RC4 bUA3 bV3 bUA4 bA5 bUV4 bUB3 bUB4 bUC3 bUC4 BD HiA5 HiV4 HiB4 HiC4 HsMA HsMA5 HsMV HsMB HsMC HhMcA HhMcV HhMcB HhMcC HlA5
        have a5 : wc.cell? ⟨w.heap.size, 5, none⟩ = some (.int .i64 st) := Iw.out.cell 5
        have a10 : wc.cell? ⟨w.heap.size, 10, none⟩ = some (.string mt) := Iw.out.cell 10
        go_wp2_with fail
        refine (CBa.out wc).mono ?_
        rintro e w' ⟨rfl, rfl⟩
        clear a5 a10 CBa
        cases bare with
        | true =>
          have hw : all2 = rl := by rw [← HALL2.out]; rfl
          have hnr : na = nr := by rw [← hna, hw, HNR.out]
          rw [hw] at SF
          rw [hnr] at IR
          have SF2 := Lib.hid (srcf_true SF.out)
          have SX2 := Lib.hid (SX.out.mono (P' := fun _ => True) (fun _ _ _ => trivial))
          clear hw hnr hna SF SX hrcf
          have c0 : wc.cell? ⟨g7, 0, none⟩ = some (.int .i64 st) := IR.out.cell 0
          have c1 : wc.cell? ⟨g7, 1, none⟩ = some (.string rr) := IR.out.cell 1
          have c2 : wc.cell? ⟨g7, 2, none⟩ = some (.int .i64 rn) := IR.out.cell 2
          have c3 : wc.cell? ⟨g7, 3, none⟩ = some (.slice Rf nr rcf) := IR.out.cell 3
          have c4 : wc.cell? ⟨g7, 4, none⟩ = some (.slice Rx lr rcx) := IR.out.cell 4
          have d5 : wc.cell? ⟨w.heap.size, 5, none⟩ = some (.int .i64 st) := Iw.out.cell 5
          have d6 : wc.cell? ⟨w.heap.size, 6, none⟩ = some (.string rr) := Iw.out.cell 6
          have d7 : wc.cell? ⟨w.heap.size, 7, none⟩ = some (.int .i64 rn) := Iw.out.cell 7
          have d8 : wc.cell? ⟨w.heap.size, 8, none⟩ = some (.slice Ar nr cr) := Iw.out.cell 8
          have d9 : wc.cell? ⟨w.heap.size, 9, none⟩ = some (.slice Dr lr dr) := Iw.out.cell 9
          have K := Lib.hid (HC.sameResponse wc st st rr rr rn rn Rf Ar Rx Dr rl rl rx rx nr nr rcf cr lr lr rcx dr HNR.out HNR.out (by omega) HLR.out HLR.out SF2.out (HR.out.below Bw.out) SX2.out (HRX.out.kept (Turn.of_below (S := fun _ => False) Bw.out) (fun _ _ h => h)))
          rw [show decide (st = st ∧ bl rr = bl rr ∧ rn = rn ∧ rl = rl ∧ rx = rx) = true by simp] at K
          go_wp2_with fail
          refine K.out.mono ?_
          rintro e X7 ⟨rfl, b7⟩
          have B7 := Lib.hid (Bw.out.trans (b7.mono Bw.out.size))
          have I7 := Lib.hid (Iw.out.kept (Turn.of_below (S := fun _ => False) b7) (fun h => h))
          have Sb7 := Lib.hid (Sbw.out.kept (Turn.of_below (S := fun _ => False) b7) (fun _ _ h => h))
          clear b7 K IR SF2 SX2 Iw Sbw c0 c1 c2 c3 c4 d5 d6 d7 d8 d9
          obtain ⟨j, hj⟩ : ∃ j, k % LL = j := ⟨_, rfl⟩
          have hjL : j < LL := by rw [← hj]; exact Nat.mod_lt _ hc4
          have hrem : ((k : Int)).tmod (LL : Int) = (j : Int) := by rw [← hj, Int.tmod_eq_emod_of_nonneg (by omega)]; rfl
          have wk : IntKind.i64.wrap (k : Int) = (k : Int) := by rw [IntKind.wrap_i64]; omega
          have wj : IntKind.i64.wrap (j : Int) = (j : Int) := by rw [IntKind.wrap_i64]; omega
          have i1 : ¬ (LL : Int) = 0 := by omega
          have i1n : ¬ LL = 0 := by omega
          have i1b : ((LL : Int) == 0) = false := by simp; omega
          have i1d : decide ((LL : Int) = 0) = false := decide_eq_false (by omega)
          obtain ⟨A8, hs8, hsrc8⟩ := run_front8 Rb LL rcb j (by omega)
          have C8 := Lib.hid (fun (X : World) (hX : Below X7.heap.size X7 X) => (HC.response X A8 (rb.take j) j rcb mt false (by rw [List.length_take, HLL.out]; omega) (by omega) (by omega) HMT.out (((hsrc8 X7 _ rb HLL.out (by omega) Sb7.out).mono (fun _ _ _ => trivial)).kept (Turn.of_below (S := fun _ => False) hX) (fun _ _ h => h)) (HP.out.below (B7.out.trans (hX.mono B7.out.size)))).mono (fun _ _ h => h.told2))
          rw [res_short rb (bl mt) j LL (by rw [HC1.out]) hjL] at C8
          unfold RsTold2 rsZ at C8
          simp only [Option.getD_none, List.length_nil] at C8
          clear hj hsrc8 Sb7
          have K7 : ∀ X : World, Below X7.heap.size X7 X → X.cell? ⟨w.heap.size, 10, none⟩ = some (.string mt) := fun X hX => (I7.out.kept (Turn.of_below (S := fun _ => False) hX) (fun h => h)).cell 10
          have D7 : Below X7.heap.size X7 X7.drew := below_drewN (Below.refl X7.heap.size X7) 1
          have DZ : Below X7.heap.size X7 (X7.alloc (.cells #[.int .i64 0, .string ⟨#[]⟩, .int .i64 0, .slice none 0 0, .slice none 0 0] 32)).drew := below_drewN ((Below.refl X7.heap.size X7).alloc (Nat.le_refl _) _) 1
          have iZ : Is (X7.alloc (.cells #[.int .i64 0, .string ⟨#[]⟩, .int .i64 0, .slice none 0 0, .slice none 0 0] 32)).drew X7.heap.size 32 [.int .i64 0, .string ⟨#[]⟩, .int .i64 0, .slice none 0 0, .slice none 0 0] := (Is.made X7 32 [.int .i64 0, .string ⟨#[]⟩, .int .i64 0, .slice none 0 0, .slice none 0 0]).drew
          go_wp2_with fail
          go_region_held3 (fun w' => w'.cell? ⟨w.heap.size, 10, none⟩ = some (.string mt)) (first | (with_reducible exact K7 _ (Below.refl X7.heap.size X7)) | (with_reducible exact K7 _ D7) | (with_reducible exact K7 _ DZ) | (with_reducible exact k8) | (with_reducible exact k8L _) | (with_reducible exact k9) | (with_reducible exact k9S _ _ _ _ _) | go_keep)
            (first
              | (go_at_call 11
                 (with_reducible refine (C8.out X7.drew D7).mono ?_)
                 rintro e y8 ⟨A9, c9, B9, d9, rfl, _, _, _, b8⟩
                 have bY8 : Below X7.heap.size X7 y8 := D7.trans (b8.mono D7.size)
                 have k8 := K7 _ bY8
                 have k8L : ∀ b, (y8.alloc b).cell? ⟨w.heap.size, 10, none⟩ = some (.string mt) := fun b => K7 _ (bY8.alloc bY8.size b))
              | (go_at_call 11
                 (with_reducible refine (C8.out (X7.alloc (.cells #[.int .i64 0, .string ⟨#[]⟩, .int .i64 0, .slice none 0 0, .slice none 0 0] 32)).drew DZ).mono ?_)
                 rintro e y9 ⟨A9, c9, B9, d9, rfl, _, _, _, b9⟩
                 have bY9 : Below X7.heap.size X7 y9 := DZ.trans (b9.mono DZ.size)
                 have k9 := K7 _ bY9
                 have iY9 := iZ.kept (Turn.of_below (S := fun _ => False) b9) (fun h => h)
                 have z09 : y9.cell? ⟨X7.heap.size, 0, none⟩ = some _ := iY9.cell 0
                 have zf09 : y9.frozen? ⟨X7.heap.size, 0, none⟩ = false := iY9.free 0
                 have z19 : y9.cell? ⟨X7.heap.size, 1, none⟩ = some _ := iY9.cell 1
                 have zf19 : y9.frozen? ⟨X7.heap.size, 1, none⟩ = false := iY9.free 1
                 have z29 : y9.cell? ⟨X7.heap.size, 2, none⟩ = some _ := iY9.cell 2
                 have zf29 : y9.frozen? ⟨X7.heap.size, 2, none⟩ = false := iY9.free 2
                 have z39 : y9.cell? ⟨X7.heap.size, 3, none⟩ = some _ := iY9.cell 3
                 have zf39 : y9.frozen? ⟨X7.heap.size, 3, none⟩ = false := iY9.free 3
                 have z49 : y9.cell? ⟨X7.heap.size, 4, none⟩ = some _ := iY9.cell 4
                 have zf49 : y9.frozen? ⟨X7.heap.size, 4, none⟩ = false := iY9.free 4
                 have k9S : ∀ v0 v1 v2 v3 v4, (put5 y9 X7.heap.size v0 v1 v2 v3 v4).cell? ⟨w.heap.size, 10, none⟩ = some (.string mt) := fun v0 v1 v2 v3 v4 => K7 _ (put5_belowY bY9 (Nat.le_refl _) v0 v1 v2 v3 v4)
                 unfold put5 at k9S))
          all_goals
            go_wp2_with fail
            go_ret
            first
              | exact ⟨rfl, B7.out.trans ((bY8.alloc bY8.size _).mono B7.out.size)⟩
              | exact ⟨rfl, B7.out.trans ((put5_belowY bY9 (Nat.le_refl _) _ _ _ _ _).mono B7.out.size)⟩
        | false =>
          have hnr : na = nr + 1 := by rw [← hna, ← HALL2.out, withCL_length, HNR.out]; rfl
          have hw : all2.take nr = rl := by rw [← HALL2.out]; unfold withCL; rw [if_pos (by rfl), ← HNR.out]; exact List.take_left' rfl
          obtain ⟨A6, hs6, hsrc6⟩ := run_front_fld9 Rf (nr + 1) rcf nr (by omega)
          have sf6 := hsrc6 wc _ _ (hna.trans hnr) (by omega) SF.out
          rw [hw] at sf6
          rw [hnr] at IR
          have wr6 : IntKind.i64.wrap ((nr : Int) + 1 - 1) = (nr : Int) := by rw [IntKind.wrap_i64]; omega
          have m3 : wc.cell? ⟨g7, 3, none⟩ = some (.slice Rf (nr + 1) rcf) := IR.out.cell 3
          have m3f : wc.frozen? ⟨g7, 3, none⟩ = false := IR.out.free 3
          have T6 : Turn (· = g7) wc (wc.setCell ⟨g7, 3, none⟩ (.slice A6 nr rcf)) := (Turn.refl (· = g7) wc).setCell (p := ⟨g7, 3, none⟩) (fun _ => rfl) _
          have Ir6 := Lib.hid (IR.out.set 3 (.slice A6 nr rcf))
          have Iw6 := Lib.hid (Iw.out.kept T6 (fun hh => by have := HGW.out.1; omega))
          have Bw6 := Lib.hid (Bw.out.setCell (p := ⟨g7, 3, none⟩) (Nat.le_of_lt HGW.out.1) (.slice A6 nr rcf))
          have SF6 := Lib.hid (srcf_true (srcf_turn sf6 T6 (fun q hq hh => hq hh)))
          have SX6 := Lib.hid ((SX.out.kept T6 (fun q hq hh => hq hh)).mono (P' := fun _ => True) (fun _ _ _ => trivial))
          have Sb6 := Lib.hid (Sbw.out.kept T6 (fun q hq hh => by have := HGW.out.2; omega))
          clear T6 sf6 hsrc6 hw hnr hna IR Iw Bw SF SX Sbw
          go_upto_region 22 with fail
          clear m3 m3f
          generalize wc.setCell ⟨g7, 3, none⟩ _ = X6 at *
          simp only [List.set_cons_zero, List.set_cons_succ] at Ir6
          have c0 : X6.cell? ⟨g7, 0, none⟩ = some (.int .i64 st) := Ir6.out.cell 0
          have c1 : X6.cell? ⟨g7, 1, none⟩ = some (.string rr) := Ir6.out.cell 1
          have c2 : X6.cell? ⟨g7, 2, none⟩ = some (.int .i64 rn) := Ir6.out.cell 2
          have c3 : X6.cell? ⟨g7, 3, none⟩ = some (.slice A6 nr rcf) := Ir6.out.cell 3
          have c4 : X6.cell? ⟨g7, 4, none⟩ = some (.slice Rx lr rcx) := Ir6.out.cell 4
          have d5 : X6.cell? ⟨w.heap.size, 5, none⟩ = some (.int .i64 st) := Iw6.out.cell 5
          have d6 : X6.cell? ⟨w.heap.size, 6, none⟩ = some (.string rr) := Iw6.out.cell 6
          have d7 : X6.cell? ⟨w.heap.size, 7, none⟩ = some (.int .i64 rn) := Iw6.out.cell 7
          have d8 : X6.cell? ⟨w.heap.size, 8, none⟩ = some (.slice Ar nr cr) := Iw6.out.cell 8
          have d9 : X6.cell? ⟨w.heap.size, 9, none⟩ = some (.slice Dr lr dr) := Iw6.out.cell 9
          have K := Lib.hid (HC.sameResponse X6 st st rr rr rn rn A6 Ar Rx Dr rl rl rx rx nr nr rcf cr lr lr rcx dr HNR.out HNR.out (by omega) HLR.out HLR.out SF6.out (HR.out.below Bw6.out) SX6.out (HRX.out.kept (Turn.of_below (S := fun _ => False) Bw6.out) (fun _ _ h => h)))
          rw [show decide (st = st ∧ bl rr = bl rr ∧ rn = rn ∧ rl = rl ∧ rx = rx) = true by simp] at K
          go_wp2_with fail
          refine K.out.mono ?_
          rintro e X7 ⟨rfl, b7⟩
          have B7 := Lib.hid (Bw6.out.trans (b7.mono Bw6.out.size))
          have I7 := Lib.hid (Iw6.out.kept (Turn.of_below (S := fun _ => False) b7) (fun h => h))
          have Sb7 := Lib.hid (Sb6.out.kept (Turn.of_below (S := fun _ => False) b7) (fun _ _ h => h))
          clear b7 K Ir6 SF6 SX6 Iw6 Sb6 c0 c1 c2 c3 c4 d5 d6 d7 d8 d9
          obtain ⟨j, hj⟩ : ∃ j, k % LL = j := ⟨_, rfl⟩
          have hjL : j < LL := by rw [← hj]; exact Nat.mod_lt _ hc4
          have hrem : ((k : Int)).tmod (LL : Int) = (j : Int) := by rw [← hj, Int.tmod_eq_emod_of_nonneg (by omega)]; rfl
          have wk : IntKind.i64.wrap (k : Int) = (k : Int) := by rw [IntKind.wrap_i64]; omega
          have wj : IntKind.i64.wrap (j : Int) = (j : Int) := by rw [IntKind.wrap_i64]; omega
          have i1 : ¬ (LL : Int) = 0 := by omega
          have i1n : ¬ LL = 0 := by omega
          have i1b : ((LL : Int) == 0) = false := by simp; omega
          have i1d : decide ((LL : Int) = 0) = false := decide_eq_false (by omega)
          obtain ⟨A8, hs8, hsrc8⟩ := run_front8 Rb LL rcb j (by omega)
          have C8 := Lib.hid (fun (X : World) (hX : Below X7.heap.size X7 X) => (HC.response X A8 (rb.take j) j rcb mt false (by rw [List.length_take, HLL.out]; omega) (by omega) (by omega) HMT.out (((hsrc8 X7 _ rb HLL.out (by omega) Sb7.out).mono (fun _ _ _ => trivial)).kept (Turn.of_below (S := fun _ => False) hX) (fun _ _ h => h)) (HP.out.below (B7.out.trans (hX.mono B7.out.size)))).mono (fun _ _ h => h.told2))
          rw [res_short rb (bl mt) j LL (by rw [HC1.out]) hjL] at C8
          unfold RsTold2 rsZ at C8
          simp only [Option.getD_none, List.length_nil] at C8
          clear hj hsrc8 Sb7
          have K7 : ∀ X : World, Below X7.heap.size X7 X → X.cell? ⟨w.heap.size, 10, none⟩ = some (.string mt) := fun X hX => (I7.out.kept (Turn.of_below (S := fun _ => False) hX) (fun h => h)).cell 10
          have D7 : Below X7.heap.size X7 X7.drew := below_drewN (Below.refl X7.heap.size X7) 1
          have DZ : Below X7.heap.size X7 (X7.alloc (.cells #[.int .i64 0, .string ⟨#[]⟩, .int .i64 0, .slice none 0 0, .slice none 0 0] 32)).drew := below_drewN ((Below.refl X7.heap.size X7).alloc (Nat.le_refl _) _) 1
          have iZ : Is (X7.alloc (.cells #[.int .i64 0, .string ⟨#[]⟩, .int .i64 0, .slice none 0 0, .slice none 0 0] 32)).drew X7.heap.size 32 [.int .i64 0, .string ⟨#[]⟩, .int .i64 0, .slice none 0 0, .slice none 0 0] := (Is.made X7 32 [.int .i64 0, .string ⟨#[]⟩, .int .i64 0, .slice none 0 0, .slice none 0 0]).drew
          go_wp2_with fail
          go_region_held3 (fun w' => w'.cell? ⟨w.heap.size, 10, none⟩ = some (.string mt)) (first | (with_reducible exact K7 _ (Below.refl X7.heap.size X7)) | (with_reducible exact K7 _ D7) | (with_reducible exact K7 _ DZ) | (with_reducible exact k8) | (with_reducible exact k8L _) | (with_reducible exact k9) | (with_reducible exact k9S _ _ _ _ _) | go_keep)
            (first
              | (go_at_call 11
                 (with_reducible refine (C8.out X7.drew D7).mono ?_)
                 rintro e y8 ⟨A9, c9, B9, d9, rfl, _, _, _, b8⟩
                 have bY8 : Below X7.heap.size X7 y8 := D7.trans (b8.mono D7.size)
                 have k8 := K7 _ bY8
                 have k8L : ∀ b, (y8.alloc b).cell? ⟨w.heap.size, 10, none⟩ = some (.string mt) := fun b => K7 _ (bY8.alloc bY8.size b))
              | (go_at_call 11
                 (with_reducible refine (C8.out (X7.alloc (.cells #[.int .i64 0, .string ⟨#[]⟩, .int .i64 0, .slice none 0 0, .slice none 0 0] 32)).drew DZ).mono ?_)
                 rintro e y9 ⟨A9, c9, B9, d9, rfl, _, _, _, b9⟩
                 have bY9 : Below X7.heap.size X7 y9 := DZ.trans (b9.mono DZ.size)
                 have k9 := K7 _ bY9
                 have iY9 := iZ.kept (Turn.of_below (S := fun _ => False) b9) (fun h => h)
                 have z09 : y9.cell? ⟨X7.heap.size, 0, none⟩ = some _ := iY9.cell 0
                 have zf09 : y9.frozen? ⟨X7.heap.size, 0, none⟩ = false := iY9.free 0
                 have z19 : y9.cell? ⟨X7.heap.size, 1, none⟩ = some _ := iY9.cell 1
                 have zf19 : y9.frozen? ⟨X7.heap.size, 1, none⟩ = false := iY9.free 1
                 have z29 : y9.cell? ⟨X7.heap.size, 2, none⟩ = some _ := iY9.cell 2
                 have zf29 : y9.frozen? ⟨X7.heap.size, 2, none⟩ = false := iY9.free 2
                 have z39 : y9.cell? ⟨X7.heap.size, 3, none⟩ = some _ := iY9.cell 3
                 have zf39 : y9.frozen? ⟨X7.heap.size, 3, none⟩ = false := iY9.free 3
                 have z49 : y9.cell? ⟨X7.heap.size, 4, none⟩ = some _ := iY9.cell 4
                 have zf49 : y9.frozen? ⟨X7.heap.size, 4, none⟩ = false := iY9.free 4
                 have k9S : ∀ v0 v1 v2 v3 v4, (put5 y9 X7.heap.size v0 v1 v2 v3 v4).cell? ⟨w.heap.size, 10, none⟩ = some (.string mt) := fun v0 v1 v2 v3 v4 => K7 _ (put5_belowY bY9 (Nat.le_refl _) v0 v1 v2 v3 v4)
                 unfold put5 at k9S))
          all_goals
            go_wp2_with fail
            go_ret
            first
              | exact ⟨rfl, B7.out.trans ((bY8.alloc bY8.size _).mono B7.out.size)⟩
              | exact ⟨rfl, B7.out.trans ((put5_belowY bY9 (Nat.le_refl _) _ _ _ _ _).mono B7.out.size)⟩
    · have eB : ((re : Int) == 0) = false := by simp; omega
      go_wp2_with fail
      go_ret
      exact ⟨rfl, B21.out⟩
end Go.Proofs.YtemgfppclakdmaaGreatDoor
