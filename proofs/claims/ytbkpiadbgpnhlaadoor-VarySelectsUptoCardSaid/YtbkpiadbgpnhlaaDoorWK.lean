/-
  The laws VaryNames and VarySelects: walks.
  Conditions: what the arguments read as; the lists hold at most 100000000 bytes.
-/
import Derived.Test.YtbkpiadbgpnhlaaDoorWJ
namespace Go.Proofs.YtbkpiadbgpnhlaaDoor.Var
open Go.RowKit Hop

set_option maxHeartbeats 16000000 in
set_option maxRecDepth 100000 in
theorem names_law {P : Nat → Prop} (w0 : World) (A : Option Addr) (ls : List Fld) (n c : Nat) (hn : ls.length = n) (hb : bulkF ls ≤ 100000000) (h : SrcF w0 P A ls) :
    Calls Tryd.prog 3 #[.slice A n c] w0 fun e w' => e = .returned (.bool true) ∧ Below w0.heap.size w0 w' := by
  have hlen := bulk_len ls
  obtain ⟨A1, c1, w1, o1, hrun, own1, _, b1⟩ := nil_app w0 A ls n c hn (by omega) h
  obtain ⟨ns, hns⟩ : ∃ ns, namesF ls = ns := ⟨_, rfl⟩
  obtain ⟨st, hst⟩ : ∃ st, starF ls = st := ⟨_, rfl⟩
  obtain ⟨m, hm⟩ : ∃ m, ns.length = m := ⟨_, rfl⟩
  have HNL : m ≤ 100000000 := by have := names_len ls; rw [hns, hm] at this; omega
  have HNN : n ≤ 100000000 := by omega
  have HNS := Lib.hid hns
  have HST := Lib.hid hst
  have HM := Lib.hid hm
  have HN := Lib.hid hn
  have HB := Lib.hid (show bulkF ls ≤ 1000000000 by omega)
  have HR := Lib.hid hrun
  have L := Lib.hid (h.below b1)
  have M := Lib.hid (OwnF.reads own1)
  have X := Lib.hid b1
  have ee : (st == st) = true := by simp
  clear hlen hb hrun own1 h hn hns hst hm b1
  go_enter Tryd.func3, Tryd.ntmps3
  go_wp2_with (at_builtin; refine append_by rfl _ (.tmp 8) 22 rfl _ _ (.slice A1 n c1) w1 rfl rfl HR.out ?_)
  have C := names_any w1 A1 ls n c1 HN.out HB.out M.out
  unfold Named at C
  rw [HNS.out, HST.out] at C
  refine C.mono ?_
  rintro e w2 ⟨v, o, rfl, own, _, b⟩
  obtain ⟨AS, cS, hv, src⟩ := own.src (fun _ => True) (fun _ _ => trivial)
  rw [HM.out] at hv
  subst hv
  have S := Lib.hid src
  clear own src C
  have B2 := Lib.hid (X.out.trans (b.mono X.out.size))
  have L_2 := Lib.hid (L.out.below b)
  have M_2 := Lib.hid (M.out.below b)
  clear X L M
  clear b
  go_wp2_with fail
  have C := rnames_any w2 A ls n c HN.out HB.out L_2.out
  unfold Named at C
  rw [HNS.out, HST.out] at C
  refine C.mono ?_
  rintro e w3 ⟨v, o, rfl, own, _, b⟩
  obtain ⟨AR, cR, hv, src⟩ := own.src (fun _ => True) (fun _ _ => trivial)
  rw [HM.out] at hv
  subst hv
  have R := Lib.hid src
  clear own src C
  have B3 := Lib.hid (B2.out.trans (b.mono B2.out.size))
  have L_3 := Lib.hid (L_2.out.below b)
  have M_3 := Lib.hid (M_2.out.below b)
  have S_3 := Lib.hid (S.out.below b)
  clear B2 L_2 M_2 S
  clear b
  go_wp2_with fail
  have C := equal_lists w3 AS AR ns ns m m cS cR HM.out HM.out (by omega) S_3.out R.out
  rw [show (ns == ns) = true by simp] at C
  clear S_3
  clear R
  refine (C).mono ?_
  rintro e w4 ⟨rfl, q⟩
  have b := quiet_below q
  clear q C
  have B4 := Lib.hid (B3.out.trans (b.mono B3.out.size))
  have L_4 := Lib.hid (L_3.out.below b)
  have M_4 := Lib.hid (M_3.out.below b)
  clear B3 L_3 M_3
  clear b
  go_wp2_with fail
  have C := rsame16_any w4 A1 A ls ls n n c1 c HN.out HN.out (by omega) M_4.out L_4.out
  rw [show (ls == ls) = true by simp] at C
  clear L_4
  clear M_4
  refine (C).mono ?_
  rintro e w5 ⟨rfl, b⟩
  clear C
  have B5 := Lib.hid (B4.out.trans (b.mono B4.out.size))
  clear B4
  clear b
  go_wp2_with fail
  refine ((wakes_any w5)).mono ?_
  rintro e w6 ⟨rfl, b⟩
  have B6 := Lib.hid (B5.out.trans (b.mono B5.out.size))
  clear B5
  clear b
  go_wp2_with fail
  go_ret
  exact ⟨rfl, B6.out⟩
set_option maxHeartbeats 16000000 in
set_option maxRecDepth 100000 in
theorem selects_law {P P' P2 : Nat → Prop} (w0 : World) (A0 : Option Addr) (ns : List (List UInt8)) (k c0 : Nat) (hk : ns.length = k) (hk9 : k ≤ 100000000) (hnl : ∀ x ∈ ns, x.length ≤ 140737488351232) (hs : SrcS w0 P' A0 ns)
    (A : Option Addr) (ls : List Fld) (n c : Nat) (hn : ls.length = n) (hb : bulkF ls ≤ 100000000) (h : SrcF w0 P A ls)
    (A2 : Option Addr) (ms : List Fld) (n2 c2 : Nat) (hn2 : ms.length = n2) (hb2 : bulkF ms ≤ 100000000) (h2 : SrcF w0 P2 A2 ms) :
    Calls Tryd.prog 4 #[.slice A0 k c0, .slice A n c, .slice A2 n2 c2] w0 fun e w' => e = .returned (.bool true) ∧ Below w0.heap.size w0 w' := by
  have hlen := bulk_len ls
  have hlen2 := bulk_len ms
  obtain ⟨A1, c1, w1, o1, hrun, own1, _, b1⟩ := nil_app w0 A ls n c hn (by omega) h
  obtain ⟨B1, d1, w2, hrun2, sB, b2⟩ := nil_apps w1 A0 ns k c0 hk (by omega) (hs.below b1)
  obtain ⟨sl, hsl⟩ : ∃ sl, selF ns ls = sl := ⟨_, rfl⟩
  obtain ⟨m, hm⟩ : ∃ m, sl.length = m := ⟨_, rfl⟩
  have HNL : m ≤ 100000000 := by have := sel_len ls ns; rw [hsl, hm] at this; omega
  have HNN : n ≤ 100000000 := by omega
  have HN2N : n2 ≤ 100000000 := by omega
  have HSL := Lib.hid hsl
  have HM := Lib.hid hm
  have HN := Lib.hid hn
  have HN2 := Lib.hid hn2
  have HK := Lib.hid hk
  have HNA := Lib.hid hnl
  have HB := Lib.hid (show bulkF ls ≤ 1000000000 by omega)
  have HR := Lib.hid hrun
  have HR2 := Lib.hid hrun2
  have b02 := b1.trans (b2.mono b1.size)
  have L := Lib.hid (h.below b02)
  have L00 := Lib.hid h
  have NN00 := Lib.hid hs
  have M00 := Lib.hid ((OwnF.reads own1).below b2)
  have OW00 := Lib.hid sB
  have L2 := Lib.hid (h2.below b02)
  have NN := Lib.hid (hs.below b02)
  have M := Lib.hid ((OwnF.reads own1).below b2)
  have OW := Lib.hid sB
  have X := Lib.hid b02
  obtain ⟨q, hq⟩ : ∃ q, (ls == ms) = q := ⟨_, rfl⟩
  have HQ := Lib.hid hq
  have ee : (q == q) = true := by simp
  clear hlen hlen2 hb hb2 hrun hrun2 own1 h h2 hs hn hn2 hk hnl hsl hm b1 b2 b02 sB hq
  go_enter Tryd.func4, Tryd.ntmps4
  go_wp2_with (at_builtin; first | (refine append_by rfl _ (.tmp 12) 22 rfl _ _ (.slice A1 n c1) w1 rfl rfl HR.out ?_) | (refine append_by rfl _ (.tmp 14) 23 rfl _ _ (.slice B1 k d1) w2 rfl rfl HR2.out ?_))
  have C := select_any w2 A1 B1 ns ls k n d1 c1 HK.out HN.out (by omega) HNA.out HB.out OW.out M.out
  rw [HSL.out] at C
  refine C.mono ?_
  rintro e w3 ⟨v, o, rfl, own, obs, b⟩
  obtain ⟨AX, cX, hv, src, row⟩ := rowW own
  rw [HM.out] at hv row
  subst hv
  have SX := Lib.hid src
  have RX := Lib.hid row
  have OBX := Lib.hid obs
  have OLX := Lib.hid (fun b hb => own.own_lt b hb)
  have HS2 := Lib.hid b.size
  clear own src row obs C
  have B3 := Lib.hid (X.out.trans (b.mono X.out.size))
  have L_3 := Lib.hid (L.out.below b)
  have M_3 := Lib.hid (M.out.below b)
  have L2_3 := Lib.hid (L2.out.below b)
  have NN_3 := Lib.hid (NN.out.below b)
  have OW_3 := Lib.hid (OW.out.below b)
  clear L M L2 NN OW
  have Y : Hid (Below w2.heap.size w2 w3) := Lib.hid b
  clear b
  go_wp2_with fail
  have C := rselect_any w3 A A0 ns ls k n c0 c HK.out HN.out (by omega) HNA.out HB.out NN_3.out L_3.out
  rw [HSL.out] at C
  refine C.mono ?_
  rintro e w4 ⟨v, o4, rfl, own, _, b⟩
  obtain ⟨AR, cR, hv, src⟩ := own.src (fun _ => True) (fun _ _ => trivial)
  rw [HM.out] at hv
  subst hv
  have R := Lib.hid src
  clear own src C
  have B4 := Lib.hid (B3.out.trans (b.mono B3.out.size))
  have L_4 := Lib.hid (L_3.out.below b)
  have M_4 := Lib.hid (M_3.out.below b)
  have L2_4 := Lib.hid (L2_3.out.below b)
  have NN_4 := Lib.hid (NN_3.out.below b)
  have OW_4 := Lib.hid (OW_3.out.below b)
  have SX_4 := Lib.hid (SX.out.below b)
  have RX_4 := Lib.hid (RX.out.kept (Turn.of_below (S := fun _ => False) b) (fun _ _ h => h))
  have Y_4 := Lib.hid (Y.out.trans (b.mono Y.out.size))
  clear B3 L_3 M_3 L2_3 NN_3 OW_3 SX RX Y
  clear b
  go_wp2_with fail
  have C := rsame16_any w4 AX AR sl sl m m cX cR HM.out HM.out (by omega) SX_4.out R.out
  rw [show (sl == sl) = true by simp] at C
  clear SX_4
  clear R
  refine (C).mono ?_
  rintro e w5 ⟨rfl, b⟩
  clear C
  have B5 := Lib.hid (B4.out.trans (b.mono B4.out.size))
  have L_5 := Lib.hid (L_4.out.below b)
  have M_5 := Lib.hid (M_4.out.below b)
  have L2_5 := Lib.hid (L2_4.out.below b)
  have NN_5 := Lib.hid (NN_4.out.below b)
  have OW_5 := Lib.hid (OW_4.out.below b)
  have RX_5 := Lib.hid (RX_4.out.kept (Turn.of_below (S := fun _ => False) b) (fun _ _ h => h))
  have Y_5 := Lib.hid (Y_4.out.trans (b.mono Y_4.out.size))
  clear B4 L_4 M_4 L2_4 NN_4 OW_4 RX_4 Y_4
  clear b
  go_wp2_with fail
  have C := vsame_any w5 A A2 ls ms n n2 c c2 HN.out HN2.out (by omega) L_5.out L2_5.out
  rw [HQ.out] at C
  refine (C).mono ?_
  rintro e w6 ⟨rfl, b⟩
  clear C
  have B6 := Lib.hid (B5.out.trans (b.mono B5.out.size))
  have L_6 := Lib.hid (L_5.out.below b)
  have M_6 := Lib.hid (M_5.out.below b)
  have L2_6 := Lib.hid (L2_5.out.below b)
  have NN_6 := Lib.hid (NN_5.out.below b)
  have OW_6 := Lib.hid (OW_5.out.below b)
  have RX_6 := Lib.hid (RX_5.out.kept (Turn.of_below (S := fun _ => False) b) (fun _ _ h => h))
  have Y_6 := Lib.hid (Y_5.out.trans (b.mono Y_5.out.size))
  clear B5 L_5 M_5 L2_5 NN_5 OW_5 RX_5 Y_5
  clear b
  go_wp2_with fail
  have C := rsame16_any w6 A A2 ls ms n n2 c c2 HN.out HN2.out (by omega) L_6.out L2_6.out
  rw [HQ.out] at C
  refine (C).mono ?_
  rintro e w7 ⟨rfl, b⟩
  clear C
  have B7 := Lib.hid (B6.out.trans (b.mono B6.out.size))
  have L_7 := Lib.hid (L_6.out.below b)
  have M_7 := Lib.hid (M_6.out.below b)
  have L2_7 := Lib.hid (L2_6.out.below b)
  have NN_7 := Lib.hid (NN_6.out.below b)
  have OW_7 := Lib.hid (OW_6.out.below b)
  have RX_7 := Lib.hid (RX_6.out.kept (Turn.of_below (S := fun _ => False) b) (fun _ _ h => h))
  have Y_7 := Lib.hid (Y_6.out.trans (b.mono Y_6.out.size))
  clear B6 L_6 M_6 L2_6 NN_6 OW_6 RX_6 Y_6
  clear b
  go_wp2_with fail
  clear L2_7
  go_loopw [11] (fun vi wr => ∃ k : Nat, vi = .int .i64 (k : Int) ∧ k ≤ m ∧ Hid (RowW wr AX o m) ∧ Hid (Below w0.heap.size w0 wr) ∧ Hid (Below w2.heap.size w2 wr)) (fun vi _ => m - (intOf vi).toNat)
  case atStart => exact ⟨0, rfl, Nat.zero_le _, RX_7, B7, Y_7⟩
  case round =>
    obtain ⟨j, rfl, hj, HD, HX, HY⟩ := hrel
    by_cases hlt : j < m
    · obtain ⟨g, u, hg, hat, yc, yf, hgl, hput⟩ := HD.out.at (c := cX) hlt
      have HPUT := Lib.hid hput
      have h9 := OBX.out g hg
      have hx1 := X.out.size
      have HX2 := Lib.hid (below_put HX.out (p := ⟨g, j * 2, none⟩) (by show w0.heap.size ≤ g; omega) (.string ⟨#[120]⟩))
      have HY2 := Lib.hid (below_put HY.out (p := ⟨g, j * 2, none⟩) (by show w2.heap.size ≤ g; omega) (.string ⟨#[120]⟩))
      clear hput h9 hx1 hgl
      go_wp2_with fail
      go_roundw
      case rel => exact ⟨j + 1, by go_num, hlt, Lib.hid (HPUT.out _), HX2, HY2⟩
      case measure => simp [intOf]; omega
    · have M9 := Lib.hid (M00.out.below HY.out)
      have OW9 := Lib.hid (OW00.out.below HY.out)
      have L9 := Lib.hid (L00.out.below HX.out)
      have NN9 := Lib.hid (NN00.out.below HX.out)
      go_wp2_with fail
      have C := rsame16_any wr A1 A ls ls n n c1 c HN.out HN.out (by omega) M9.out L9.out
      rw [show (ls == ls) = true by simp] at C
      clear M9
      clear L9
      refine (C).mono ?_
      rintro e w21 ⟨rfl, b⟩
      clear C
      have B21 := Lib.hid (HX.out.trans (b.mono HX.out.size))
      have OW_21 := Lib.hid (OW9.out.below b)
      have NN_21 := Lib.hid (NN9.out.below b)
      clear HX OW9 NN9
      clear b
      go_wp2_with fail
      have C := equal_lists w21 B1 A0 ns ns k k d1 c0 HK.out HK.out (by omega) OW_21.out NN_21.out
      rw [show (ns == ns) = true by simp] at C
      clear OW_21
      clear NN_21
      refine (C).mono ?_
      rintro e w22 ⟨rfl, q9⟩
      have b := quiet_below q9
      clear q9 C
      have B22 := Lib.hid (B21.out.trans (b.mono B21.out.size))
      clear B21
      clear b
      go_wp2_with fail
      refine ((wakes_any w22)).mono ?_
      rintro e w23 ⟨rfl, b⟩
      have B23 := Lib.hid (B22.out.trans (b.mono B22.out.size))
      clear B22
      clear b
      go_wp2_with fail
      go_ret
      exact ⟨rfl, B23.out⟩
end Go.Proofs.YtbkpiadbgpnhlaaDoor.Var
