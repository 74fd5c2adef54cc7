/-
  The law ControlMore: walk.
  Conditions: the lists hold at most 100000000 bytes each.
-/
import Derived.Test.YtkccmjeabkfmdaaDoorEM
import Derived.Deep.CutRange
import Derived.Deep.DeepCutAuto
namespace Go.Proofs.YtkccmjeabkfmdaaDoor.Con
open Go.RowKit Hop

set_option maxHeartbeats 32000000 in
set_option maxRecDepth 100000 in
theorem more_law {P P' : Nat → Prop} (w : World) (A A' : Option Addr) (ls more : List Fld) (n n' c c' : Nat) (hn : ls.length = n) (hn' : more.length = n') (hb : bulkF ls ≤ 100000000) (hb' : bulkF more ≤ 100000000) (h : SrcF w P A ls) (h' : SrcF w P' A' more) :
    Calls Tryd.prog 4 #[.slice A n c, .slice A' n' c'] w fun e w' => e = .returned (.bool true) ∧ Below w.heap.size w w' := by
  have hlen := bulk_len ls
  have hlen' := bulk_len more
  have hb2 : bulkF ls ≤ 1000000000 := by omega
  obtain ⟨v1, w1, o1, hrun1, own1, t1, ho1⟩ := run_append_srcF w (.slice none 0 0) none [] ls (OwnF.nil w) A n c hn h (by simp; omega)
  rw [List.nil_append] at own1
  have T1 := own_turn (o := none) (o' := o1) (Below.refl w.heap.size w) (fun _ h => by cases h) t1 (fun b hb => by
    rcases ho1 with h | h
    · rw [h] at hb; cases hb
    · rw [h] at hb; injection hb with hb; right; omega)
  obtain ⟨v2, w2, o2, hrun2, own2, t2, ho2⟩ := run_append_srcF w1 v1 o1 ls more own1 A' n' c' hn' (h'.below T1.1) (by omega)
  have T2 := own_turn T1.1 T1.2 t2 (fun b hb => by
    rcases ho2 with h | h
    · left; rw [← h]; exact hb
    · rw [h] at hb; injection hb with hb; right; omega)
  have HR1 := Lib.hid hrun1
  have HR2 := Lib.hid hrun2
  obtain ⟨A2, c2, hv2, src2⟩ := own2.src (fun _ => True) (fun _ _ => trivial)
  obtain ⟨m, hm⟩ : ∃ m, (ls ++ more).length = m := ⟨_, rfl⟩
  rw [hm] at hv2
  subst hv2
  have HN := Lib.hid hn
  have HM := Lib.hid hm
  have HB := Lib.hid hb2
  have HB2 := Lib.hid (show bulkF (ls ++ more) ≤ 1000000000 by rw [bulk_app]; omega)
  have HNL : n ≤ 1000000000 := by omega
  have HML : m ≤ 1000000000 := by rw [← hm, List.length_append]; omega
  have HEL := Lib.hid (show (elemF ls prN).length ≤ 1000000000 by have := elem_bulk prN ls; omega)
  have HMQ := Lib.hid (more_req ls more)
  have HMS := Lib.hid (more_res ls more)
  obtain ⟨ca, hca⟩ : ∃ x, requestF ls = x := ⟨_, rfl⟩
  obtain ⟨cb, hcb⟩ : ∃ x, requestF (ls ++ more) = x := ⟨_, rfl⟩
  obtain ⟨cc, hcc⟩ : ∃ x, responseF ls = x := ⟨_, rfl⟩
  obtain ⟨cd, hcd⟩ : ∃ x, responseF (ls ++ more) = x := ⟨_, rfl⟩
  rw [hca, hcb] at HMQ
  rw [hcc, hcd] at HMS
  have HCA := Lib.hid hca
  have HCB := Lib.hid hcb
  have HCC := Lib.hid hcc
  have HCD := Lib.hid hcd
  clear hca hcb hcc hcd
  obtain ⟨ans, anc, apv, apb, amu, aon, ama, ash, amf, ams⟩ := ca
  obtain ⟨bns, bnc, bpv, bpb, bmu, bon, bma, bsh, bmf, bms⟩ := cb
  obtain ⟨cns, cnc, cpv, cpb, cmu, con, cma, csh, cmf, cms⟩ := cc
  obtain ⟨dns, dnc, dpv, dpb, dmu, don, dma, dsh, dmf, dms⟩ := cd
  obtain rfl : ash = -1 := HMQ.out.sh
  obtain rfl : apv = false := HMQ.out.pv
  obtain rfl : apb = false := HMQ.out.pb
  obtain rfl : amu = false := HMQ.out.mu
  obtain rfl : cmf = -1 := HMS.out.mf
  obtain rfl : cms = -1 := HMS.out.ms
  obtain rfl : con = false := HMS.out.on
  have QNS := Lib.hid (show ans = true → bns = true from HMQ.out.ns)
  have QON := Lib.hid (show aon = true → bon = true from HMQ.out.on)
  have QNC := Lib.hid (show anc = true → bnc = true ∨ (elemF ls prN).length ≠ 0 from HMQ.out.nc)
  have QMA := Lib.hid (show lessB bma ama = true from HMQ.out.ma)
  have QMS := Lib.hid (show lessB bms ams = true from HMQ.out.ms)
  have QMF := Lib.hid (show amf ≤ bmf from HMQ.out.mf)
  have SNS := Lib.hid (show cns = true → dns = true from HMS.out.ns)
  have SNC := Lib.hid (show cnc = true → dnc = true from HMS.out.nc)
  have SPV := Lib.hid (show cpv = true → dpv = true from HMS.out.pv)
  have SPB := Lib.hid (show cpb = true → dpb = true from HMS.out.pb)
  have SMU := Lib.hid (show cmu = true → dmu = true from HMS.out.mu)
  have SMA := Lib.hid (show lessB dma cma = true from HMS.out.ma)
  have SSH := Lib.hid (show lessB dsh csh = true from HMS.out.sh)
  clear HMQ HMS
  have L := Lib.hid (h.below T2.1)
  have M := Lib.hid src2
  have X := Lib.hid T2.1
  clear hlen hlen' hb2 hb hb' hrun1 own1 t1 ho1 T1 hrun2 own2 t2 ho2 T2 src2 hn hn' h h' hm
  go_enter Tryd.func4, Tryd.ntmps4
  go_wp2_with (at_builtin; first | refine append_by rfl _ (.tmp 10) 22 rfl _ _ v1 w1 rfl rfl HR1.out ?_ | refine append_by rfl (.tmp 11) (.tmp 12) 22 rfl _ _ (.slice A2 m c2) w2 rfl rfl HR2.out ?_)
  have C := request_any w2 A ls n c HN.out HB.out L.out
  rw [HCA.out] at C
  simp only [Ctl.v, Ctl.cells] at C
  refine (C).mono ?_
  rintro e w3 ⟨rfl, b⟩
  clear C
  have B3 := Lib.hid (X.out.trans (b.mono X.out.size))
  have L_3 := Lib.hid (L.out.below b)
  have M_3 := Lib.hid (M.out.below b)
  clear X L M
  clear b
  go_wp2_with fail
  have C := request_any w3 A2 (ls ++ more) m c2 HM.out HB2.out M_3.out
  rw [HCB.out] at C
  simp only [Ctl.v, Ctl.cells] at C
  refine (C).mono ?_
  rintro e w4 ⟨rfl, b⟩
  clear C
  have B4 := Lib.hid (B3.out.trans (b.mono B3.out.size))
  have L_4 := Lib.hid (L_3.out.below b)
  have M_4 := Lib.hid (M_3.out.below b)
  clear B3 L_3 M_3
  clear b
  have ba := ((Below.refl w4.heap.size w4).alloc (Nat.le_refl _) (.cells #[.bool ans, .bool anc, .bool false, .bool false, .bool false, .bool aon, .int .i64 ama, .int .i64 (-1), .int .i64 amf, .int .i64 ams] 24)).alloc (by simp) (.cells #[.bool bns, .bool bnc, .bool bpv, .bool bpb, .bool bmu, .bool bon, .int .i64 bma, .int .i64 bsh, .int .i64 bmf, .int .i64 bms] 24)
  have NIA := Lib.hid ((Is.made w4 24 [.bool ans, .bool anc, .bool false, .bool false, .bool false, .bool aon, .int .i64 ama, .int .i64 (-1), .int .i64 amf, .int .i64 ams]).alloc (.cells #[.bool bns, .bool bnc, .bool bpv, .bool bpb, .bool bmu, .bool bon, .int .i64 bma, .int .i64 bsh, .int .i64 bmf, .int .i64 bms] 24))
  have i0 := Is.made (w4.alloc (.cells #[.bool ans, .bool anc, .bool false, .bool false, .bool false, .bool aon, .int .i64 ama, .int .i64 (-1), .int .i64 amf, .int .i64 ams] 24)) 24 [.bool bns, .bool bnc, .bool bpv, .bool bpb, .bool bmu, .bool bon, .int .i64 bma, .int .i64 bsh, .int .i64 bmf, .int .i64 bms]
  rw [show (w4.alloc (.cells #[.bool ans, .bool anc, .bool false, .bool false, .bool false, .bool aon, .int .i64 ama, .int .i64 (-1), .int .i64 amf, .int .i64 ams] 24)).heap.size = w4.heap.size + 1 by simp] at i0
  have NIB := Lib.hid i0
  clear i0
  go_upto_region 3 with fail
  obtain ⟨w5, hw⟩ : ∃ x, ((w4.alloc (.cells #[.bool ans, .bool anc, .bool false, .bool false, .bool false, .bool aon, .int .i64 ama, .int .i64 (-1), .int .i64 amf, .int .i64 ams] 24)).alloc (.cells #[.bool bns, .bool bnc, .bool bpv, .bool bpb, .bool bmu, .bool bon, .int .i64 bma, .int .i64 bsh, .int .i64 bmf, .int .i64 bms] 24)) = x := ⟨_, rfl⟩
  rw [hw] at ba NIA NIB ⊢
  clear hw
  have B5 := Lib.hid (B4.out.trans (ba.mono B4.out.size))
  have L_5 := Lib.hid (L_4.out.below ba)
  have M_5 := Lib.hid (M_4.out.below ba)
  clear B4 L_4 M_4
  clear ba
  go_cut [56] from 18 to 56 (fun s56 wx => s56 = .bool false ∧ wx = w5)
  case first =>
    have yIA0 : w5.cell? ⟨w4.heap.size, 0, none⟩ = some (.bool ans) := NIA.out.cell 0
    have yIA5 : w5.cell? ⟨w4.heap.size, 5, none⟩ = some (.bool aon) := NIA.out.cell 5
    have yIA6 : w5.cell? ⟨w4.heap.size, 6, none⟩ = some (.int .i64 ama) := NIA.out.cell 6
    have yIA9 : w5.cell? ⟨w4.heap.size, 9, none⟩ = some (.int .i64 ams) := NIA.out.cell 9
    have yIA8 : w5.cell? ⟨w4.heap.size, 8, none⟩ = some (.int .i64 amf) := NIA.out.cell 8
    have yIB0 : w5.cell? ⟨w4.heap.size + 1, 0, none⟩ = some (.bool bns) := NIB.out.cell 0
    have yIB5 : w5.cell? ⟨w4.heap.size + 1, 5, none⟩ = some (.bool bon) := NIB.out.cell 5
    have yIB6 : w5.cell? ⟨w4.heap.size + 1, 6, none⟩ = some (.int .i64 bma) := NIB.out.cell 6
    have yIB9 : w5.cell? ⟨w4.heap.size + 1, 9, none⟩ = some (.int .i64 bms) := NIB.out.cell 9
    have yIB8 : w5.cell? ⟨w4.heap.size + 1, 8, none⟩ = some (.int .i64 bmf) := NIB.out.cell 8
    have CL1 := less_any bma ama w5 QMA.out
    have CL2 := less_any bms ams w5 QMS.out
    have hmf : ¬ bmf < amf := by have := QMF.out; omega
    cases ans with
    | false =>
      cases aon with
      | false =>
        go_wp2_with fail
        refine CL1.mono ?_
        rintro e wq ⟨rfl, hh⟩
        subst hh
        go_wp2_with fail
        refine CL2.mono ?_
        rintro e wq2 ⟨rfl, hh⟩
        subst hh
        go_wp2_with fail
        go_meet
        exact ⟨by rw [decide_eq_false (Int.not_lt.2 hmf)], rfl⟩
      | true =>
        obtain rfl := QON.out rfl
        go_wp2_with fail
        refine CL1.mono ?_
        rintro e wq ⟨rfl, hh⟩
        subst hh
        go_wp2_with fail
        refine CL2.mono ?_
        rintro e wq2 ⟨rfl, hh⟩
        subst hh
        go_wp2_with fail
        go_meet
        exact ⟨by rw [decide_eq_false (Int.not_lt.2 hmf)], rfl⟩
    | true =>
      obtain rfl := QNS.out rfl
      cases aon with
      | false =>
        go_wp2_with fail
        refine CL1.mono ?_
        rintro e wq ⟨rfl, hh⟩
        subst hh
        go_wp2_with fail
        refine CL2.mono ?_
        rintro e wq2 ⟨rfl, hh⟩
        subst hh
        go_wp2_with fail
        go_meet
        exact ⟨by rw [decide_eq_false (Int.not_lt.2 hmf)], rfl⟩
      | true =>
        obtain rfl := QON.out rfl
        go_wp2_with fail
        refine CL1.mono ?_
        rintro e wq ⟨rfl, hh⟩
        subst hh
        go_wp2_with fail
        refine CL2.mono ?_
        rintro e wq2 ⟨rfl, hh⟩
        subst hh
        go_wp2_with fail
        go_meet
        exact ⟨by rw [decide_eq_false (Int.not_lt.2 hmf)], rfl⟩
  case rest =>
  obtain ⟨rfl, hwc⟩ := hcut
  replace hwc := hwc.symm
  subst hwc
  go_upto_region 5 with fail
  go_cut [69] from 57 to 69 (fun s69 wx => s69 = .bool false ∧ Hid (Below w5.heap.size w5 wx))
  case first =>
    have yIA1 : w5.cell? ⟨w4.heap.size, 1, none⟩ = some (.bool anc) := NIA.out.cell 1
    have yIB1 : w5.cell? ⟨w4.heap.size + 1, 1, none⟩ = some (.bool bnc) := NIB.out.cell 1
    cases anc with
    | false =>
      go_wp2_with fail
      go_meet
      exact ⟨rfl, Lib.hid (Below.refl _ _)⟩
    | true =>
      cases bnc with
      | true =>
        go_wp2_with fail
        go_meet
        exact ⟨rfl, Lib.hid (Below.refl _ _)⟩
      | false =>
        have CE := elem_any w5 A ls n c HN.out HB.out L_5.out ⟨#[112, 114, 97, 103, 109, 97]⟩
        rw [show bl ⟨#[112, 114, 97, 103, 109, 97]⟩ = prN from rfl] at CE
        have HQ := Lib.hid (show (elemF ls prN).length ≠ 0 from by
          rcases QNC.out rfl with h | h
          · cases h
          · exact h)
        generalize elemF ls prN = es at *
        go_wp2_with fail
        refine CE.mono ?_
        rintro e wq ⟨vq, oq, rfl, ownq, _, bq⟩
        obtain ⟨Aq, cq, hvq, _⟩ := ownq.src (fun _ => True) (fun _ _ => trivial)
        subst hvq
        obtain ⟨q, hq⟩ : ∃ q, es.length = q := ⟨_, rfl⟩
        have e1 : ((q : Int) == 0) = false := by
          have := HQ.out
          rw [hq] at this
          exact beq_eq_false_iff_ne.2 (by omega)
        rw [hq]
        have BQ := Lib.hid bq
        clear hq ownq bq CE
        go_wp2_with fail
        go_meet
        exact ⟨rfl, BQ⟩
  case rest =>
  obtain ⟨rfl, hbc⟩ := hcut
  have bb := hbc.out
  clear NIB
  have B6 := Lib.hid (B5.out.trans (bb.mono B5.out.size))
  have L_6 := Lib.hid (L_5.out.below bb)
  have M_6 := Lib.hid (M_5.out.below bb)
  have IA_6 := Lib.hid (NIA.out.kept (Turn.of_below (S := fun _ => False) bb) (fun h => h))
  clear B5 L_5 M_5 NIA
  clear bb hbc
  go_wp2_with fail
  have C := response_any wc A ls n c HN.out HB.out L_6.out
  rw [HCC.out] at C
  simp only [Ctl.v, Ctl.cells] at C
  refine (C).mono ?_
  rintro e w7 ⟨rfl, b⟩
  clear C
  have B7 := Lib.hid (B6.out.trans (b.mono B6.out.size))
  have L_7 := Lib.hid (L_6.out.below b)
  have M_7 := Lib.hid (M_6.out.below b)
  have IA_7 := Lib.hid (IA_6.out.kept (Turn.of_below (S := fun _ => False) b) (fun h => h))
  clear B6 L_6 M_6 IA_6
  clear b
  go_wp2_with fail
  have C := response_any w7 A2 (ls ++ more) m c2 HM.out HB2.out M_7.out
  rw [HCD.out] at C
  simp only [Ctl.v, Ctl.cells] at C
  refine (C).mono ?_
  rintro e w8 ⟨rfl, b⟩
  clear C
  have B8 := Lib.hid (B7.out.trans (b.mono B7.out.size))
  have L_8 := Lib.hid (L_7.out.below b)
  have M_8 := Lib.hid (M_7.out.below b)
  have IA_8 := Lib.hid (IA_7.out.kept (Turn.of_below (S := fun _ => False) b) (fun h => h))
  clear B7 L_7 M_7 IA_7
  clear b
  clear L_8
  clear M_8
  have ba := ((Below.refl w8.heap.size w8).alloc (Nat.le_refl _) (.cells #[.bool cns, .bool cnc, .bool cpv, .bool cpb, .bool cmu, .bool false, .int .i64 cma, .int .i64 csh, .int .i64 (-1), .int .i64 (-1)] 24)).alloc (by simp) (.cells #[.bool dns, .bool dnc, .bool dpv, .bool dpb, .bool dmu, .bool don, .int .i64 dma, .int .i64 dsh, .int .i64 dmf, .int .i64 dms] 24)
  have NIC := Lib.hid ((Is.made w8 24 [.bool cns, .bool cnc, .bool cpv, .bool cpb, .bool cmu, .bool false, .int .i64 cma, .int .i64 csh, .int .i64 (-1), .int .i64 (-1)]).alloc (.cells #[.bool dns, .bool dnc, .bool dpv, .bool dpb, .bool dmu, .bool don, .int .i64 dma, .int .i64 dsh, .int .i64 dmf, .int .i64 dms] 24))
  have i0 := Is.made (w8.alloc (.cells #[.bool cns, .bool cnc, .bool cpv, .bool cpb, .bool cmu, .bool false, .int .i64 cma, .int .i64 csh, .int .i64 (-1), .int .i64 (-1)] 24)) 24 [.bool dns, .bool dnc, .bool dpv, .bool dpb, .bool dmu, .bool don, .int .i64 dma, .int .i64 dsh, .int .i64 dmf, .int .i64 dms]
  rw [show (w8.alloc (.cells #[.bool cns, .bool cnc, .bool cpv, .bool cpb, .bool cmu, .bool false, .int .i64 cma, .int .i64 csh, .int .i64 (-1), .int .i64 (-1)] 24)).heap.size = w8.heap.size + 1 by simp] at i0
  have NID := Lib.hid i0
  clear i0
  go_upto_region 8 with fail
  obtain ⟨w9, hw⟩ : ∃ x, ((w8.alloc (.cells #[.bool cns, .bool cnc, .bool cpv, .bool cpb, .bool cmu, .bool false, .int .i64 cma, .int .i64 csh, .int .i64 (-1), .int .i64 (-1)] 24)).alloc (.cells #[.bool dns, .bool dnc, .bool dpv, .bool dpb, .bool dmu, .bool don, .int .i64 dma, .int .i64 dsh, .int .i64 dmf, .int .i64 dms] 24)) = x := ⟨_, rfl⟩
  rw [hw] at ba NIC NID ⊢
  clear hw
  have B9 := Lib.hid (B8.out.trans (ba.mono B8.out.size))
  have IA_9 := Lib.hid (IA_8.out.kept (Turn.of_below (S := fun _ => False) ba) (fun h => h))
  clear B8 IA_8
  clear ba
  go_cut [116] from 74 to 116 (fun s116 wx => s116 = .bool false ∧ wx = w9)
  case first =>
    have yIC0 : w9.cell? ⟨w8.heap.size, 0, none⟩ = some (.bool cns) := NIC.out.cell 0
    have yIC1 : w9.cell? ⟨w8.heap.size, 1, none⟩ = some (.bool cnc) := NIC.out.cell 1
    have yIC2 : w9.cell? ⟨w8.heap.size, 2, none⟩ = some (.bool cpv) := NIC.out.cell 2
    have yIC3 : w9.cell? ⟨w8.heap.size, 3, none⟩ = some (.bool cpb) := NIC.out.cell 3
    have yIC4 : w9.cell? ⟨w8.heap.size, 4, none⟩ = some (.bool cmu) := NIC.out.cell 4
    have yID0 : w9.cell? ⟨w8.heap.size + 1, 0, none⟩ = some (.bool dns) := NID.out.cell 0
    have yID1 : w9.cell? ⟨w8.heap.size + 1, 1, none⟩ = some (.bool dnc) := NID.out.cell 1
    have yID2 : w9.cell? ⟨w8.heap.size + 1, 2, none⟩ = some (.bool dpv) := NID.out.cell 2
    have yID3 : w9.cell? ⟨w8.heap.size + 1, 3, none⟩ = some (.bool dpb) := NID.out.cell 3
    have yID4 : w9.cell? ⟨w8.heap.size + 1, 4, none⟩ = some (.bool dmu) := NID.out.cell 4
    cases cns with
    | false =>
      cases cnc with
      | false =>
        cases cpv with
        | false =>
          cases cpb with
          | false =>
            cases cmu with
            | false =>
              go_wp2_with fail
              go_meet
              exact ⟨rfl, rfl⟩
            | true =>
              obtain rfl := SMU.out rfl
              go_wp2_with fail
              go_meet
              exact ⟨rfl, rfl⟩
          | true =>
            obtain rfl := SPB.out rfl
            cases cmu with
            | false =>
              go_wp2_with fail
              go_meet
              exact ⟨rfl, rfl⟩
            | true =>
              obtain rfl := SMU.out rfl
              go_wp2_with fail
              go_meet
              exact ⟨rfl, rfl⟩
        | true =>
          obtain rfl := SPV.out rfl
          cases cpb with
          | false =>
            cases cmu with
            | false =>
              go_wp2_with fail
              go_meet
              exact ⟨rfl, rfl⟩
            | true =>
              obtain rfl := SMU.out rfl
              go_wp2_with fail
              go_meet
              exact ⟨rfl, rfl⟩
          | true =>
            obtain rfl := SPB.out rfl
            cases cmu with
            | false =>
              go_wp2_with fail
              go_meet
              exact ⟨rfl, rfl⟩
            | true =>
              obtain rfl := SMU.out rfl
              go_wp2_with fail
              go_meet
              exact ⟨rfl, rfl⟩
      | true =>
        obtain rfl := SNC.out rfl
        cases cpv with
        | false =>
          cases cpb with
          | false =>
            cases cmu with
            | false =>
              go_wp2_with fail
              go_meet
              exact ⟨rfl, rfl⟩
            | true =>
              obtain rfl := SMU.out rfl
              go_wp2_with fail
              go_meet
              exact ⟨rfl, rfl⟩
          | true =>
            obtain rfl := SPB.out rfl
            cases cmu with
            | false =>
              go_wp2_with fail
              go_meet
              exact ⟨rfl, rfl⟩
            | true =>
              obtain rfl := SMU.out rfl
              go_wp2_with fail
              go_meet
              exact ⟨rfl, rfl⟩
        | true =>
          obtain rfl := SPV.out rfl
          cases cpb with
          | false =>
            cases cmu with
            | false =>
              go_wp2_with fail
              go_meet
              exact ⟨rfl, rfl⟩
            | true =>
              obtain rfl := SMU.out rfl
              go_wp2_with fail
              go_meet
              exact ⟨rfl, rfl⟩
          | true =>
            obtain rfl := SPB.out rfl
            cases cmu with
            | false =>
              go_wp2_with fail
              go_meet
              exact ⟨rfl, rfl⟩
            | true =>
              obtain rfl := SMU.out rfl
              go_wp2_with fail
              go_meet
              exact ⟨rfl, rfl⟩
    | true =>
      obtain rfl := SNS.out rfl
      cases cnc with
      | false =>
        cases cpv with
        | false =>
          cases cpb with
          | false =>
            cases cmu with
            | false =>
              go_wp2_with fail
              go_meet
              exact ⟨rfl, rfl⟩
            | true =>
              obtain rfl := SMU.out rfl
              go_wp2_with fail
              go_meet
              exact ⟨rfl, rfl⟩
          | true =>
            obtain rfl := SPB.out rfl
            cases cmu with
            | false =>
              go_wp2_with fail
              go_meet
              exact ⟨rfl, rfl⟩
            | true =>
              obtain rfl := SMU.out rfl
              go_wp2_with fail
              go_meet
              exact ⟨rfl, rfl⟩
        | true =>
          obtain rfl := SPV.out rfl
          cases cpb with
          | false =>
            cases cmu with
            | false =>
              go_wp2_with fail
              go_meet
              exact ⟨rfl, rfl⟩
            | true =>
              obtain rfl := SMU.out rfl
              go_wp2_with fail
              go_meet
              exact ⟨rfl, rfl⟩
          | true =>
            obtain rfl := SPB.out rfl
            cases cmu with
            | false =>
              go_wp2_with fail
              go_meet
              exact ⟨rfl, rfl⟩
            | true =>
              obtain rfl := SMU.out rfl
              go_wp2_with fail
              go_meet
              exact ⟨rfl, rfl⟩
      | true =>
        obtain rfl := SNC.out rfl
        cases cpv with
        | false =>
          cases cpb with
          | false =>
            cases cmu with
            | false =>
              go_wp2_with fail
              go_meet
              exact ⟨rfl, rfl⟩
            | true =>
              obtain rfl := SMU.out rfl
              go_wp2_with fail
              go_meet
              exact ⟨rfl, rfl⟩
          | true =>
            obtain rfl := SPB.out rfl
            cases cmu with
            | false =>
              go_wp2_with fail
              go_meet
              exact ⟨rfl, rfl⟩
            | true =>
              obtain rfl := SMU.out rfl
              go_wp2_with fail
              go_meet
              exact ⟨rfl, rfl⟩
        | true =>
          obtain rfl := SPV.out rfl
          cases cpb with
          | false =>
            cases cmu with
            | false =>
              go_wp2_with fail
              go_meet
              exact ⟨rfl, rfl⟩
            | true =>
              obtain rfl := SMU.out rfl
              go_wp2_with fail
              go_meet
              exact ⟨rfl, rfl⟩
          | true =>
            obtain rfl := SPB.out rfl
            cases cmu with
            | false =>
              go_wp2_with fail
              go_meet
              exact ⟨rfl, rfl⟩
            | true =>
              obtain rfl := SMU.out rfl
              go_wp2_with fail
              go_meet
              exact ⟨rfl, rfl⟩
  case rest =>
  obtain ⟨rfl, hwc⟩ := hcut
  replace hwc := hwc.symm
  subst hwc
  go_upto_region 10 with fail
  have yIA2 : w9.cell? ⟨w4.heap.size, 2, none⟩ = some (.bool false) := IA_9.out.cell 2
  have yIA3 : w9.cell? ⟨w4.heap.size, 3, none⟩ = some (.bool false) := IA_9.out.cell 3
  have yIA4 : w9.cell? ⟨w4.heap.size, 4, none⟩ = some (.bool false) := IA_9.out.cell 4
  have yIA7 : w9.cell? ⟨w4.heap.size, 7, none⟩ = some (.int .i64 (-1)) := IA_9.out.cell 7
  have yIC5 : w9.cell? ⟨w8.heap.size, 5, none⟩ = some (.bool false) := NIC.out.cell 5
  have yIC6 : w9.cell? ⟨w8.heap.size, 6, none⟩ = some (.int .i64 cma) := NIC.out.cell 6
  have yIC7 : w9.cell? ⟨w8.heap.size, 7, none⟩ = some (.int .i64 csh) := NIC.out.cell 7
  have yIC8 : w9.cell? ⟨w8.heap.size, 8, none⟩ = some (.int .i64 (-1)) := NIC.out.cell 8
  have yIC9 : w9.cell? ⟨w8.heap.size, 9, none⟩ = some (.int .i64 (-1)) := NIC.out.cell 9
  have yID6 : w9.cell? ⟨w8.heap.size + 1, 6, none⟩ = some (.int .i64 dma) := NID.out.cell 6
  have yID7 : w9.cell? ⟨w8.heap.size + 1, 7, none⟩ = some (.int .i64 dsh) := NID.out.cell 7
  have CL1 := less_any dma cma w9 SMA.out
  have CL2 := less_any dsh csh w9 SSH.out
  have CW := wakes_any w9
  go_wp2_with fail
  refine CL1.mono ?_
  rintro e wq ⟨rfl, hh⟩
  subst hh
  go_wp2_with fail
  refine CL2.mono ?_
  rintro e wq2 ⟨rfl, hh⟩
  subst hh
  go_wp2_with fail
  refine CW.mono ?_
  rintro e wq3 ⟨rfl, b9⟩
  go_wp2_with fail
  go_ret
  exact ⟨rfl, B9.out.trans (b9.mono B9.out.size)⟩
end Go.Proofs.YtkccmjeabkfmdaaDoor.Con
