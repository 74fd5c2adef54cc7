/-
  The law HopFields: words and walk.
  Conditions: what the arguments read as; the list holds at most 100000000 bytes.
-/
import Derived.Test.YtinibacmhmmcdaaDoorVW
namespace Go.Proofs.YtinibacmhmmcdaaDoor.Hop
open Go.RowKit

/-- A list of the call's own, of which the names may be written. -/
def RowW (w : World) (A : Option Addr) (o : Option Nat) (n : Nat) : Prop := 0 < n → ∃ g cur, A = some ⟨g, 0, none⟩ ∧ o = some g ∧ w.heap[g]? = some (.cells cur 32 (0, 0)) ∧ n * 2 ≤ cur.size
theorem RowW.kept {w w' : World} {A : Option Addr} {o : Option Nat} {n : Nat} {S : Nat → Prop} (h : RowW w A o n) (ht : Turn S w w') (hS : ∀ k, o = some k → ¬ S k) : RowW w' A o n := fun h0 => by
  obtain ⟨g, cur, h1, h2, h3, h4⟩ := h h0
  exact ⟨g, cur, h1, h2, (ht.block g (Array.getElem?_eq_some_iff.1 h3).1 (hS g h2)).trans h3, h4⟩
theorem RowW.at {w : World} {A : Option Addr} {o : Option Nat} {n k c : Nat} (h : RowW w A o n) (hk : k < n) : ∃ g u, o = some g ∧ (∀ Wx, (Instr.indexAt 22 (.slice A n c) (.int .i64 (k : Int))).run Tryd.prog Wx = .ok (.pointer (some ⟨g, k * 2, none⟩)) Wx) ∧
    w.cell? ⟨g, k * 2, none⟩ = some u ∧ w.frozen? ⟨g, k * 2, none⟩ = false ∧ g < w.heap.size ∧ ∀ u, RowW (w.setCell ⟨g, k * 2, none⟩ u) A o n := by
  obtain ⟨g, cur, h1, h2, h3, h4⟩ := h (by omega)
  have hc := cell_of_row w g (k * 2) cur 32 (0, 0) h3
  have hlt : k * 2 < cur.size := by omega
  refine ⟨g, _, h2, fun Wx => ?_, hc.trans (Array.getElem?_eq_getElem hlt), by simp [World.frozen?, h3], (Array.getElem?_eq_some_iff.1 h3).1, fun u _ => ⟨g, cur.setIfInBounds (k * 2) u, h1, h2, ?_, by simpa using h4⟩⟩
  · rw [h1]
    exact at_row 22 32 2 Tryd.underlying22 fldSize g n c k hk Wx
  · simp [World.setCell, Array.getElem?_modify, h3]
theorem rowW {w : World} {v : Value} {o : Option Nat} {ls : List Fld} (h : OwnF w v o ls) : ∃ A c, v = .slice A ls.length c ∧ SrcF w (fun _ => True) A ls ∧ RowW w A o ls.length := h.row
theorem below_put {w wr : World} (hB : Below w.heap.size w wr) {p : Addr} (hp : w.heap.size ≤ p.block) (u : Value) : Below w.heap.size w (wr.setCell p u) :=
  ((Turn.of_below (S := fun b => b = p.block) hB).setCell (fun _ => rfl) u).below (fun k hk e => by omega)
theorem quiet_below {w w' : World} (h : Quiet w w') : Below w.heap.size w w' := h.turn.below (fun _ _ h => h)
theorem via_len (ls : List Fld) : (viaF ls).length = ls.length + 1 := by simp [viaF]
theorem strip_len (ls : List Fld) : (stripF ls).length ≤ ls.length := List.length_filter_le _ _

set_option maxHeartbeats 16000000 in
set_option maxRecDepth 100000 in
theorem fields_law {P : Nat → Prop} (w : World) (A : Option Addr) (ls : List Fld) (n c : Nat) (hn : ls.length = n) (hb : bulkF ls ≤ 100000000) (h : SrcF w P A ls) (nm : ByteArray) (hnm : nm.size ≤ 140737488351232) (mi : Int) :
    Calls Tryd.prog 3 #[.slice A n c, .string nm, .int .i64 mi] w fun e w' => e = .returned (.bool true) ∧ Below w.heap.size w w' := by
  have hlen := bulk_len ls
  have hb2 : bulkF ls ≤ 1000000000 := by omega
  obtain ⟨v1, w1, o1, hrun, own1, t1, ho1⟩ := run_append_srcF w (.slice none 0 0) none [] ls (OwnF.nil w) A n c hn h (by simp; omega)
  rw [List.nil_append] at own1
  have T1 := own_turn (o := none) (o' := o1) (Below.refl w.heap.size w) (fun _ h => by cases h) t1 (fun b hb => by
    rcases ho1 with h | h
    · rw [h] at hb; cases hb
    · rw [h] at hb; injection hb with hb; right; omega)
  have HR := Lib.hid hrun
  obtain ⟨A1, c1, hv1, src1⟩ := own1.src (fun _ => True) (fun _ _ => trivial)
  rw [hn] at hv1
  subst hv1
  obtain ⟨es, hes⟩ : ∃ es, elemF ls (bl nm) = es := ⟨_, rfl⟩
  obtain ⟨sl, hsl⟩ : ∃ sl, stripF ls = sl := ⟨_, rfl⟩
  obtain ⟨vl, hvl⟩ : ∃ vl, viaF ls = vl := ⟨_, rfl⟩
  obtain ⟨q1, hq1⟩ : ∃ q, forF (bl nm) = q := ⟨_, rfl⟩
  obtain ⟨q2, hq2⟩ : ∃ q, loopsF ls = q := ⟨_, rfl⟩
  obtain ⟨q3, hq3⟩ : ∃ q, closesF mi ls = q := ⟨_, rfl⟩
  have hesn : es.length ≤ 1000000000 := by have := elem_bulk (bl nm) ls; rw [hes] at this; omega
  have hsn : sl.length ≤ 1000000000 := by have := strip_len ls; rw [hsl] at this; omega
  have hvn : vl.length ≤ 1000000001 := by have := via_len ls; rw [hvl] at this; omega
  have HES := Lib.hid hes
  have HSL := Lib.hid hsl
  have HVL := Lib.hid hvl
  have HQ1 := Lib.hid hq1
  have HQ2 := Lib.hid hq2
  have HQ3 := Lib.hid hq3
  have HN := Lib.hid hn
  have HB := Lib.hid hb2
  have HNM := Lib.hid hnm
  have LL := Lib.hid h
  have L := Lib.hid (h.below T1.1)
  have M := Lib.hid src1
  have X := Lib.hid T1.1
  have Y := Lib.hid (Below.refl w1.heap.size w1)
  have HNL : n ≤ 1000000000 := by omega
  clear hlen hb2 hb hrun own1 t1 ho1 T1 src1 hes hsl hvl hq1 hq2 hq3 hn h hnm
  go_enter Tryd.func3, Tryd.ntmps3
  go_wp2_with (at_builtin; refine append_by rfl _ (.tmp 13) 22 rfl _ _ (.slice A1 n c1) w1 rfl rfl HR.out ?_)
  have C := strip_any w1 A1 ls n c1 HN.out HB.out M.out
  rw [HSL.out] at C
  refine (C).mono ?_
  rintro e w2 ⟨v2, o2, rfl, own2, ob2, b⟩
  obtain ⟨A2, c2, hv2, src2, row2⟩ := rowW own2
  subst hv2
  have S := Lib.hid src2
  have R := Lib.hid row2
  have OBS := Lib.hid ob2
  have OLS := Lib.hid (fun b hb => own2.own_lt b hb)
  clear own2 src2 row2 ob2 C
  have B2 := Lib.hid (X.out.trans (b.mono X.out.size))
  have L_2 := Lib.hid (L.out.below b)
  have M_2 := Lib.hid (M.out.below b)
  have Y_2 := Lib.hid (Y.out.trans (b.mono Y.out.size))
  clear L Y
  clear b
  go_wp2_with fail
  have C := via_any w2 A1 ls n c1 HN.out HB.out M_2.out
  rw [HVL.out] at C
  have HS2 := Lib.hid Y_2.out.size
  refine (C).mono ?_
  rintro e w3 ⟨v3, o3, rfl, own3, ob3, b⟩
  obtain ⟨A3, c3, hv3, src3, row3⟩ := rowW own3
  subst hv3
  have V := Lib.hid src3
  have Q := Lib.hid row3
  have OBV := Lib.hid ob3
  clear own3 src3 row3 ob3 C
  have B3 := Lib.hid (B2.out.trans (b.mono B2.out.size))
  have L_3 := Lib.hid (L_2.out.below b)
  have M_3 := Lib.hid (M_2.out.below b)
  have Y_3 := Lib.hid (Y_2.out.trans (b.mono Y_2.out.size))
  have S_3 := Lib.hid (S.out.below b)
  have R_3 := Lib.hid (R.out.kept (Turn.of_below (S := fun _ => False) b) (fun _ _ h => h))
  clear B2 L_2 M_2 Y_2 S R
  clear b
  go_wp2_with fail
  have C := elem_any w3 A1 ls n c1 HN.out HB.out M_3.out nm
  rw [HES.out] at C
  refine (C).mono ?_
  rintro e w4 ⟨v4, o4, rfl, own4, _, b⟩
  obtain ⟨A4, c4, hv4, src4⟩ := own4.src (fun _ => True) (fun _ _ => trivial)
  subst hv4
  have E := Lib.hid src4
  clear own4 src4 C
  have B4 := Lib.hid (B3.out.trans (b.mono B3.out.size))
  have L_4 := Lib.hid (L_3.out.below b)
  have M_4 := Lib.hid (M_3.out.below b)
  have Y_4 := Lib.hid (Y_3.out.trans (b.mono Y_3.out.size))
  have S_4 := Lib.hid (S_3.out.below b)
  have R_4 := Lib.hid (R_3.out.kept (Turn.of_below (S := fun _ => False) b) (fun _ _ h => h))
  have V_4 := Lib.hid (V.out.below b)
  have Q_4 := Lib.hid (Q.out.kept (Turn.of_below (S := fun _ => False) b) (fun _ _ h => h))
  clear B3 L_3 M_3 Y_3 S_3 R_3 V Q
  clear b
  go_wp2_with fail
  have C := relem_any w4 A ls n c HN.out HB.out L_4.out nm HNM.out
  rw [HES.out] at C
  refine (C).mono ?_
  rintro e w5 ⟨v5, o5, rfl, own5, _, b⟩
  obtain ⟨A5, c5, hv5, src5⟩ := own5.src (fun _ => True) (fun _ _ => trivial)
  subst hv5
  have F := Lib.hid src5
  clear own5 src5 C
  have B5 := Lib.hid (B4.out.trans (b.mono B4.out.size))
  have L_5 := Lib.hid (L_4.out.below b)
  have M_5 := Lib.hid (M_4.out.below b)
  have Y_5 := Lib.hid (Y_4.out.trans (b.mono Y_4.out.size))
  have S_5 := Lib.hid (S_4.out.below b)
  have R_5 := Lib.hid (R_4.out.kept (Turn.of_below (S := fun _ => False) b) (fun _ _ h => h))
  have V_5 := Lib.hid (V_4.out.below b)
  have Q_5 := Lib.hid (Q_4.out.kept (Turn.of_below (S := fun _ => False) b) (fun _ _ h => h))
  have E_5 := Lib.hid (E.out.below b)
  clear B4 L_4 M_4 Y_4 S_4 R_4 V_4 Q_4 E
  clear b
  go_wp2_with fail
  have C := equal_lists w5 A4 A5 es es es.length es.length c4 c5 rfl rfl (by omega) E_5.out F.out
  rw [show (es == es) = true by simp] at C
  clear E_5
  clear F
  refine (C).mono ?_
  rintro e w6 ⟨rfl, q⟩
  have b := quiet_below q
  clear q C
  have B6 := Lib.hid (B5.out.trans (b.mono B5.out.size))
  have L_6 := Lib.hid (L_5.out.below b)
  have M_6 := Lib.hid (M_5.out.below b)
  have Y_6 := Lib.hid (Y_5.out.trans (b.mono Y_5.out.size))
  have S_6 := Lib.hid (S_5.out.below b)
  have R_6 := Lib.hid (R_5.out.kept (Turn.of_below (S := fun _ => False) b) (fun _ _ h => h))
  have V_6 := Lib.hid (V_5.out.below b)
  have Q_6 := Lib.hid (Q_5.out.kept (Turn.of_below (S := fun _ => False) b) (fun _ _ h => h))
  clear B5 L_5 M_5 Y_5 S_5 R_5 V_5 Q_5
  clear b
  go_wp2_with fail
  have C := rstrip_any w6 A ls n c HN.out HB.out L_6.out
  rw [HSL.out] at C
  refine (C).mono ?_
  rintro e w7 ⟨v7, o7, rfl, own, _, b⟩
  obtain ⟨A7, c7, hv, src⟩ := own.src (fun _ => True) (fun _ _ => trivial)
  subst hv
  have E := Lib.hid src
  clear own src C
  have B7 := Lib.hid (B6.out.trans (b.mono B6.out.size))
  have L_7 := Lib.hid (L_6.out.below b)
  have M_7 := Lib.hid (M_6.out.below b)
  have Y_7 := Lib.hid (Y_6.out.trans (b.mono Y_6.out.size))
  have S_7 := Lib.hid (S_6.out.below b)
  have R_7 := Lib.hid (R_6.out.kept (Turn.of_below (S := fun _ => False) b) (fun _ _ h => h))
  have V_7 := Lib.hid (V_6.out.below b)
  have Q_7 := Lib.hid (Q_6.out.kept (Turn.of_below (S := fun _ => False) b) (fun _ _ h => h))
  clear B6 L_6 M_6 Y_6 S_6 R_6 V_6 Q_6
  clear b
  go_wp2_with fail
  have C := rsame_any w7 A2 A7 sl sl sl.length sl.length c2 c7 rfl rfl (by omega) S_7.out E.out
  rw [show (sl == sl) = true by simp] at C
  clear E
  clear S_7
  refine (C).mono ?_
  rintro e w8 ⟨rfl, b⟩
  clear C
  have B8 := Lib.hid (B7.out.trans (b.mono B7.out.size))
  have L_8 := Lib.hid (L_7.out.below b)
  have M_8 := Lib.hid (M_7.out.below b)
  have Y_8 := Lib.hid (Y_7.out.trans (b.mono Y_7.out.size))
  have R_8 := Lib.hid (R_7.out.kept (Turn.of_below (S := fun _ => False) b) (fun _ _ h => h))
  have V_8 := Lib.hid (V_7.out.below b)
  have Q_8 := Lib.hid (Q_7.out.kept (Turn.of_below (S := fun _ => False) b) (fun _ _ h => h))
  clear B7 L_7 M_7 Y_7 R_7 V_7 Q_7
  clear b
  go_wp2_with fail
  have C := rvia_any w8 A ls n c HN.out HB.out L_8.out
  rw [HVL.out] at C
  refine (C).mono ?_
  rintro e w9 ⟨v9, o9, rfl, own, _, b⟩
  obtain ⟨A9, c9, hv, src⟩ := own.src (fun _ => True) (fun _ _ => trivial)
  subst hv
  have E := Lib.hid src
  clear own src C
  have B9 := Lib.hid (B8.out.trans (b.mono B8.out.size))
  have L_9 := Lib.hid (L_8.out.below b)
  have M_9 := Lib.hid (M_8.out.below b)
  have Y_9 := Lib.hid (Y_8.out.trans (b.mono Y_8.out.size))
  have R_9 := Lib.hid (R_8.out.kept (Turn.of_below (S := fun _ => False) b) (fun _ _ h => h))
  have V_9 := Lib.hid (V_8.out.below b)
  have Q_9 := Lib.hid (Q_8.out.kept (Turn.of_below (S := fun _ => False) b) (fun _ _ h => h))
  clear B8 L_8 M_8 Y_8 R_8 V_8 Q_8
  clear b
  go_wp2_with fail
  have C := rsame_any w9 A3 A9 vl vl vl.length vl.length c3 c9 rfl rfl (by omega) V_9.out E.out
  rw [show (vl == vl) = true by simp] at C
  clear E
  clear V_9
  refine (C).mono ?_
  rintro e w10 ⟨rfl, b⟩
  clear C
  have B10 := Lib.hid (B9.out.trans (b.mono B9.out.size))
  have L_10 := Lib.hid (L_9.out.below b)
  have M_10 := Lib.hid (M_9.out.below b)
  have Y_10 := Lib.hid (Y_9.out.trans (b.mono Y_9.out.size))
  have R_10 := Lib.hid (R_9.out.kept (Turn.of_below (S := fun _ => False) b) (fun _ _ h => h))
  have Q_10 := Lib.hid (Q_9.out.kept (Turn.of_below (S := fun _ => False) b) (fun _ _ h => h))
  clear B9 L_9 M_9 Y_9 R_9 Q_9
  clear b
  go_wp2_with fail
  have C := forall_any nm w10
  rw [HQ1.out] at C
  refine (C).mono ?_
  rintro e w11 ⟨rfl, b⟩
  clear C
  have B11 := Lib.hid (B10.out.trans (b.mono B10.out.size))
  have L_11 := Lib.hid (L_10.out.below b)
  have M_11 := Lib.hid (M_10.out.below b)
  have Y_11 := Lib.hid (Y_10.out.trans (b.mono Y_10.out.size))
  have R_11 := Lib.hid (R_10.out.kept (Turn.of_below (S := fun _ => False) b) (fun _ _ h => h))
  have Q_11 := Lib.hid (Q_10.out.kept (Turn.of_below (S := fun _ => False) b) (fun _ _ h => h))
  clear B10 L_10 M_10 Y_10 R_10 Q_10
  clear b
  go_wp2_with fail
  have C := rforall_any nm w11 HNM.out
  rw [HQ1.out] at C
  refine (C).mono ?_
  rintro e w12 ⟨rfl, b⟩
  clear C
  have B12 := Lib.hid (B11.out.trans (b.mono B11.out.size))
  have L_12 := Lib.hid (L_11.out.below b)
  have M_12 := Lib.hid (M_11.out.below b)
  have Y_12 := Lib.hid (Y_11.out.trans (b.mono Y_11.out.size))
  have R_12 := Lib.hid (R_11.out.kept (Turn.of_below (S := fun _ => False) b) (fun _ _ h => h))
  have Q_12 := Lib.hid (Q_11.out.kept (Turn.of_below (S := fun _ => False) b) (fun _ _ h => h))
  clear B11 L_11 M_11 Y_11 R_11 Q_11
  clear b
  have ee : ∀ b : Bool, (b == b) = true := fun b => by simp
  have e1 := ee q1
  have e2 := ee q2
  have e3 := ee q3
  go_wp2_with fail
  have C := loops_any w12 A1 ls n c1 HN.out HB.out M_12.out
  rw [HQ2.out] at C
  refine (C).mono ?_
  rintro e w13 ⟨rfl, b⟩
  clear C
  have B13 := Lib.hid (B12.out.trans (b.mono B12.out.size))
  have L_13 := Lib.hid (L_12.out.below b)
  have M_13 := Lib.hid (M_12.out.below b)
  have Y_13 := Lib.hid (Y_12.out.trans (b.mono Y_12.out.size))
  have R_13 := Lib.hid (R_12.out.kept (Turn.of_below (S := fun _ => False) b) (fun _ _ h => h))
  have Q_13 := Lib.hid (Q_12.out.kept (Turn.of_below (S := fun _ => False) b) (fun _ _ h => h))
  clear B12 L_12 M_12 Y_12 R_12 Q_12
  clear b
  go_wp2_with fail
  have C := rloops_any w13 A ls n c HN.out HB.out L_13.out
  rw [HQ2.out] at C
  refine (C).mono ?_
  rintro e w14 ⟨rfl, b⟩
  clear C
  have B14 := Lib.hid (B13.out.trans (b.mono B13.out.size))
  have L_14 := Lib.hid (L_13.out.below b)
  have M_14 := Lib.hid (M_13.out.below b)
  have Y_14 := Lib.hid (Y_13.out.trans (b.mono Y_13.out.size))
  have R_14 := Lib.hid (R_13.out.kept (Turn.of_below (S := fun _ => False) b) (fun _ _ h => h))
  have Q_14 := Lib.hid (Q_13.out.kept (Turn.of_below (S := fun _ => False) b) (fun _ _ h => h))
  clear B13 L_13 M_13 Y_13 R_13 Q_13
  clear b
  go_wp2_with fail
  have C := closes_any mi w14 A1 ls n c1 HN.out HB.out M_14.out
  rw [HQ3.out] at C
  refine (C).mono ?_
  rintro e w15 ⟨rfl, b⟩
  clear C
  have B15 := Lib.hid (B14.out.trans (b.mono B14.out.size))
  have L_15 := Lib.hid (L_14.out.below b)
  have M_15 := Lib.hid (M_14.out.below b)
  have Y_15 := Lib.hid (Y_14.out.trans (b.mono Y_14.out.size))
  have R_15 := Lib.hid (R_14.out.kept (Turn.of_below (S := fun _ => False) b) (fun _ _ h => h))
  have Q_15 := Lib.hid (Q_14.out.kept (Turn.of_below (S := fun _ => False) b) (fun _ _ h => h))
  clear B14 L_14 M_14 Y_14 R_14 Q_14
  clear b
  go_wp2_with fail
  have C := rcloses_any mi w15 A ls n c HN.out HB.out L_15.out
  rw [HQ3.out] at C
  refine (C).mono ?_
  rintro e w16 ⟨rfl, b⟩
  clear C
  have B16 := Lib.hid (B15.out.trans (b.mono B15.out.size))
  have L_16 := Lib.hid (L_15.out.below b)
  have M_16 := Lib.hid (M_15.out.below b)
  have Y_16 := Lib.hid (Y_15.out.trans (b.mono Y_15.out.size))
  have R_16 := Lib.hid (R_15.out.kept (Turn.of_below (S := fun _ => False) b) (fun _ _ h => h))
  have Q_16 := Lib.hid (Q_15.out.kept (Turn.of_below (S := fun _ => False) b) (fun _ _ h => h))
  clear B15 L_15 M_15 Y_15 R_15 Q_15
  clear b
  go_wp2_with fail
  go_loopw [11] (fun vi wr => ∃ k : Nat, vi = .int .i64 (k : Int) ∧ k ≤ sl.length ∧ Hid (RowW wr A2 o2 sl.length) ∧ Hid (RowW wr A3 o3 vl.length) ∧ Hid (Below w.heap.size w wr) ∧ Hid (Below w1.heap.size w1 wr)) (fun vi _ => sl.length - (intOf vi).toNat)
  case atStart => exact ⟨0, rfl, Nat.zero_le _, R_16, Q_16, B16, Y_16⟩
  case round =>
    obtain ⟨k, rfl, hk, HD, HW, HX, HY⟩ := hrel
    obtain ⟨wo, rfl⟩ : ∃ wo, wo = wr := ⟨_, rfl⟩
    by_cases hlt : k < sl.length
    · obtain ⟨g, u, hg, hat, yc, yf, hgl, hput⟩ := HD.out.at (c := c2) hlt
      have HPUT := Lib.hid hput
      have h9 := OBS.out g hg
      have hx1 := X.out.size
      have HX2 := Lib.hid (below_put HX.out (p := ⟨g, k * 2, none⟩) (by show w.heap.size ≤ g; omega) (.string ⟨#[120]⟩))
      have HY2 := Lib.hid (below_put HY.out (p := ⟨g, k * 2, none⟩) (by show w1.heap.size ≤ g; omega) (.string ⟨#[120]⟩))
      have HW2 := Lib.hid (HW.out.kept ((Turn.refl (fun b => b = g) wo).setCell (p := ⟨g, k * 2, none⟩) (fun _ => rfl) (.string ⟨#[120]⟩)) (fun b hb e => by
        have h1 := OBV.out b hb
        have h2 := OLS.out g hg
        omega))
      clear hput h9 hx1 hgl
      go_wp2_with fail
      go_roundw
      case rel => exact ⟨k + 1, by go_num, hlt, Lib.hid (HPUT.out _), HW2, HX2, HY2⟩
      case measure => simp [intOf]; omega
    · go_wp2_with fail
      go_loopw [12] (fun vi wr => ∃ k : Nat, vi = .int .i64 (k : Int) ∧ k ≤ vl.length ∧ Hid (RowW wr A3 o3 vl.length) ∧ Hid (Below w.heap.size w wr) ∧ Hid (Below w1.heap.size w1 wr)) (fun vi _ => vl.length - (intOf vi).toNat)
      case atStart => exact ⟨0, rfl, Nat.zero_le _, HW, HX, HY⟩
      case round =>
        obtain ⟨k2, rfl, hk2, HW2, HX2, HY2⟩ := hrel
        by_cases hlt2 : k2 < vl.length
        · obtain ⟨g, u, hg, hat, yc, yf, hgl, hput⟩ := HW2.out.at (c := c3) hlt2
          have HPUT := Lib.hid hput
          have h9 := OBV.out g hg
          have hx1 := X.out.size
          have hy9 := HS2.out
          have HX3 := Lib.hid (below_put HX2.out (p := ⟨g, k2 * 2, none⟩) (by show w.heap.size ≤ g; omega) (.string ⟨#[120]⟩))
          have HY3 := Lib.hid (below_put HY2.out (p := ⟨g, k2 * 2, none⟩) (by show w1.heap.size ≤ g; omega) (.string ⟨#[120]⟩))
          clear hput h9 hx1 hgl hy9
          go_wp2_with fail
          go_roundw
          case rel => exact ⟨k2 + 1, by go_num, hlt2, Lib.hid (HPUT.out _), HX3, HY3⟩
          case measure => simp [intOf]; omega
        · go_wp2_with fail
          have CS := rsame_any wr A1 A ls ls n n c1 c HN.out HN.out (by omega) (M.out.below HY2.out) (LL.out.below HX2.out)
          rw [show (ls == ls) = true by simp] at CS
          refine CS.mono ?_
          rintro e w15 ⟨rfl, b15⟩
          have X15 := Lib.hid (HX2.out.trans (b15.mono HX2.out.size))
          clear b15 CS
          go_wp2_with fail
          refine (wakes_any w15).mono ?_
          rintro e w16 ⟨rfl, b16⟩
          have X16 := Lib.hid (X15.out.trans (b16.mono X15.out.size))
          clear b16
          go_wp2_with fail
          go_ret
          exact ⟨rfl, X16.out⟩
end Go.Proofs.YtinibacmhmmcdaaDoor.Hop
