/-
  The law HeadFields: walk.
  Conditions: what the arguments read as.
-/
import Derived.Test.YtdggfonbjhejoaaDoorLA
namespace Go.Proofs.YtdggfonbjhejoaaDoor
open Go.RowKit

/-- A list of the call's own, of which the values may be written. -/
def RowN (w : World) (A : Option Addr) (o : Option Nat) (n : Nat) : Prop := 0 < n → ∃ g cur, A = some ⟨g, 0, none⟩ ∧ o = some g ∧ w.heap[g]? = some (.cells cur 45 (0, 0)) ∧ n * 2 ≤ cur.size
theorem RowN.kept {w w' : World} {A : Option Addr} {o : Option Nat} {n : Nat} {S : Nat → Prop} (h : RowN w A o n) (ht : Turn S w w') (hS : ∀ k, o = some k → ¬ S k) : RowN w' A o n := fun h0 => by
  obtain ⟨g, cur, h1, h2, h3, h4⟩ := h h0
  exact ⟨g, cur, h1, h2, (ht.block g (Array.getElem?_eq_some_iff.1 h3).1 (hS g h2)).trans h3, h4⟩
theorem RowN.at {w : World} {A : Option Addr} {o : Option Nat} {n k c : Nat} (h : RowN w A o n) (hk : k < n) : ∃ g, o = some g ∧ (∀ Wx, (Instr.indexAt 23 (.slice A n c) (.int .i64 (k : Int))).run Tryd.prog Wx = .ok (.pointer (some ⟨g, k * 2, none⟩)) Wx) ∧
    w.cell? ⟨g, k * 2 + 1, none⟩ = some (atCell w ⟨g, k * 2 + 1, none⟩) ∧ w.frozen? ⟨g, k * 2 + 1, none⟩ = false ∧ g < w.heap.size ∧ ∀ u, RowN (w.setCell ⟨g, k * 2 + 1, none⟩ u) A o n := by
  obtain ⟨g, cur, h1, h2, h3, h4⟩ := h (by omega)
  have hc := cell_of_row w g (k * 2 + 1) cur 45 (0, 0) h3
  have hlt : k * 2 + 1 < cur.size := by omega
  refine ⟨g, h2, fun Wx => ?_, at_cell (hc.trans (Array.getElem?_eq_getElem hlt)), by simp [World.frozen?, h3], (Array.getElem?_eq_some_iff.1 h3).1, fun u _ => ⟨g, cur.setIfInBounds (k * 2 + 1) u, h1, h2, ?_, by simpa using h4⟩⟩
  · rw [h1]
    have := run_at_size 23 45 2 Tryd.underlying23 fldSize ⟨g, 0, none⟩ n c k hk Wx
    rwa [add_at, Nat.zero_add] at this
  · simp [World.setCell, Array.getElem?_modify, h3]
theorem OwnF.rowN {w : World} {v : Value} {o : Option Nat} {ls : List Fld} (h : OwnF w v o ls) : ∃ A c, v = .slice A ls.length c ∧ SrcF w (fun _ => True) A ls ∧ RowN w A o ls.length := h.row
theorem below_put {w wr : World} (hB : Below w.heap.size w wr) {p : Addr} (hp : w.heap.size ≤ p.block) (u : Value) : Below w.heap.size w (wr.setCell p u) :=
  ((Turn.of_below (S := fun b => b = p.block) hB).setCell (fun _ => rfl) u).below (fun k hk e => by omega)
theorem Quiet.below {w w' : World} (h : Quiet w w') : Below w.heap.size w w' := h.turn.below (fun _ _ h => h)

set_option maxHeartbeats 16000000 in
set_option maxRecDepth 100000 in
theorem fields_law {P P' : Nat → Prop} (HC : HeadC) (w : World) (A : Option Addr) (ls : List Fld) (n c : Nat) (hn : ls.length = n) (hmax : n * 32 ≤ 140737488351232) (h : SrcF w P A ls) (hs : Slim ls) (nm v : List UInt8) (hnm : nm.length ≤ 140737488351232) (hv : v.length ≤ 140737488351232)
    (A' : Option Addr) (names : List (List UInt8)) (q c' : Nat) (hq : names.length = q) (hqm : q * 16 ≤ 140737488351232) (h' : SrcS w P' A' names) (hs' : SlimS names) :
    Calls Tryd.prog 4 #[.slice A n c, .string ⟨nm.toArray⟩, .string ⟨v.toArray⟩, .slice A' q c'] w fun e w' => e = .returned (.bool true) ∧ Below w.heap.size w w' := by
  obtain ⟨pl, hpl⟩ : ∃ pl, (putF ls).getD [] = pl := ⟨_, rfl⟩
  obtain ⟨z, hz⟩ : ∃ z : Int, (if (putF ls).isSome = true then (0 : Int) else 1) = z := ⟨_, rfl⟩
  obtain ⟨my, hmy⟩ : ∃ my, mayF ls = my := ⟨_, rfl⟩
  obtain ⟨gl, hgl⟩ : ∃ gl, getF ls nm = gl := ⟨_, rfl⟩
  obtain ⟨dl, hdl⟩ : ∃ dl, dropF ls names = dl := ⟨_, rfl⟩
  obtain ⟨wl, hwl⟩ : ∃ wl, withF ls nm v = wl := ⟨_, rfl⟩
  have hgn : gl.length ≤ n := by rw [← hgl, ← hn]; exact getF_length ls nm
  have hdn : dl.length ≤ n := by rw [← hdl, ← hn]; exact dropF_length ls names
  have hwn : wl.length ≤ n + 1 := by
    rw [← hwl, ← hn]
    unfold withF
    have := dropF_length ls [nm]
    simp
    omega
  have HPL := Lib.hid hpl
  have HZ := Lib.hid hz
  have HMY := Lib.hid hmy
  have HGL := Lib.hid hgl
  have HDL := Lib.hid hdl
  have HWL := Lib.hid hwl
  have HN := Lib.hid hn
  have HQ := Lib.hid hq
  have L := Lib.hid h
  have NS := Lib.hid h'
  have HS := Lib.hid hs
  have HS' := Lib.hid hs'
  have HNM := Lib.hid hnm
  have HV := Lib.hid hv
  have CO := Lib.hid (own5_any w A ls n c hn (by omega) h)
  clear hpl hz hmy hgl hdl hwl hn hq h h' hs hs' hnm hv
  go_enter Tryd.func4, Tryd.ntmps4
  go_wp2_with fail
  refine CO.out.mono ?_
  rintro e w1 ⟨v1, o1, rfl, own1, _, b1⟩
  obtain ⟨A1, c1, hv1, src1, _⟩ := own1.rowN
  rw [HN.out] at hv1
  subst hv1
  have M1 := Lib.hid src1
  have X1 := Lib.hid b1
  clear own1 src1 b1 CO
  go_wp2_with fail
  have CP := HC.put w1 A1 ls n c1 HN.out (by omega) M1.out HS.out
  unfold PutOf at CP
  rw [HPL.out, HZ.out] at CP
  refine CP.mono ?_
  rintro e w2 ⟨Ap, cp, rfl, _, sp, b2⟩
  have SP := Lib.hid sp
  have X2 := Lib.hid (X1.out.trans (b2.mono X1.out.size))
  have Y2 := Lib.hid b2
  clear sp b2 CP
  go_wp2_with fail
  have CQ := rput_of w2 A ls n c HN.out (by omega) (L.out.below X2.out) HS.out
  rw [HPL.out, HZ.out] at CQ
  refine CQ.mono ?_
  rintro e w3 ⟨Aq, cq, rfl, sq, b3⟩
  obtain ⟨Ps, hPs⟩ : ∃ Ps : ByteArray, Ps = ⟨pl.toArray⟩ := ⟨_, rfl⟩
  have hc1 := run_text w3 Ap pl pl.length cp rfl (SP.out.stay b3)
  have hc2 := run_text w3 Aq pl pl.length cq rfl sq
  rw [← hPs] at hc1 hc2
  have X3 := Lib.hid (X2.out.trans (b3.mono X2.out.size))
  have Y3 := Lib.hid (Y2.out.trans (b3.mono Y2.out.size))
  clear sq b3 CQ hPs X2 Y2 SP
  generalize pl.length = pn at *
  go_wp2_with fail
  have CM := HC.may w3 A1 ls n c1 HN.out (by omega) (M1.out.below Y3.out) HS.out
  rw [HMY.out] at CM
  refine CM.mono ?_
  rintro e w4 ⟨rfl, b4⟩
  have X4 := Lib.hid (X3.out.trans (b4.mono X3.out.size))
  have Y4 := Lib.hid (Y3.out.trans (b4.mono Y3.out.size))
  clear b4 CM hc1 hc2 X3 Y3
  go_wp2_with fail
  have CM := rmay_any w4 A ls n c HN.out (by omega) (L.out.below X4.out) HS.out
  rw [HMY.out] at CM
  refine CM.mono ?_
  rintro e w5 ⟨rfl, b5⟩
  have X5 := Lib.hid (X4.out.trans (b5.mono X4.out.size))
  have Y5 := Lib.hid (Y4.out.trans (b5.mono Y4.out.size))
  clear b5 CM X4 Y4
  go_wp2_with fail
  have CG := HC.get w5 A1 ls n c1 HN.out (by omega) (M1.out.below Y5.out) HS.out ⟨nm.toArray⟩ (by rw [← bl_length, bl_mk]; exact HNM.out)
  rw [bl_mk, HGL.out] at CG
  refine CG.mono ?_
  rintro e w6 ⟨v6, o6, rfl, own6, _, b6⟩
  obtain ⟨A6, c6, hv6, src6⟩ := own6.src (fun _ => True) (fun _ _ => trivial)
  subst hv6
  have G6 := Lib.hid src6
  have X6 := Lib.hid (X5.out.trans (b6.mono X5.out.size))
  have Y6 := Lib.hid (Y5.out.trans (b6.mono Y5.out.size))
  clear own6 src6 b6 CG X5 Y5
  go_wp2_with fail
  have CG := rget_any w6 A ls n c HN.out (by omega) (L.out.below X6.out) HS.out ⟨nm.toArray⟩ (by rw [← bl_length, bl_mk]; exact HNM.out)
  rw [bl_mk, HGL.out] at CG
  refine CG.mono ?_
  rintro e w7 ⟨v7, o7, rfl, own7, _, b7⟩
  obtain ⟨A7, c7, hv7, src7⟩ := own7.src (fun _ => True) (fun _ _ => trivial)
  subst hv7
  have CE := equal_lists w7 A6 A7 gl gl gl.length gl.length c6 c7 rfl rfl (by omega) (G6.out.below b7) src7
  rw [show (gl == gl) = true by simp] at CE
  have CE' := Lib.hid CE
  have X7 := Lib.hid (X6.out.trans (b7.mono X6.out.size))
  have Y7 := Lib.hid (Y6.out.trans (b7.mono Y6.out.size))
  clear own7 src7 b7 CG X6 Y6 CE G6
  go_wp2_with fail
  refine CE'.out.mono ?_
  rintro e w8 ⟨rfl, q8⟩
  have X8 := Lib.hid (X7.out.trans (q8.below.mono X7.out.size))
  have Y8 := Lib.hid (Y7.out.trans (q8.below.mono Y7.out.size))
  clear q8 CE' X7 Y7
  go_wp2_with fail
  have CD := HC.drop w8 A1 A' ls names n c1 q c' HN.out HQ.out (by omega) (by omega) (M1.out.below Y8.out) (NS.out.below X8.out) HS.out HS'.out
  rw [HDL.out] at CD
  refine CD.mono ?_
  rintro e w9 ⟨v9, o9, rfl, own9, ob9, b9⟩
  obtain ⟨A9, c9, hv9, src9, row9⟩ := own9.rowN
  subst hv9
  have D9 := Lib.hid src9
  have R9 := Lib.hid row9
  have OB9 := Lib.hid (fun b hb => Nat.le_trans Y8.out.size (ob9 b hb))
  have OL9 := Lib.hid (fun b hb => own9.own_lt b hb)
  have X9 := Lib.hid (X8.out.trans (b9.mono X8.out.size))
  have Y9 := Lib.hid (Y8.out.trans (b9.mono Y8.out.size))
  clear own9 src9 row9 ob9 b9 CD X8 Y8
  go_wp2_with fail
  have CW := HC.with_ w9 A1 ls n c1 HN.out (by omega) (M1.out.below Y9.out) HS.out nm v HNM.out HV.out
  rw [HWL.out] at CW
  refine CW.mono ?_
  rintro e w10 ⟨v10, o10, rfl, own10, ob10, b10⟩
  obtain ⟨A10, c10, hv10, src10, row10⟩ := own10.rowN
  subst hv10
  have W10 := Lib.hid src10
  have R10 := Lib.hid row10
  have OB10 := Lib.hid ob10
  have HS9 := Lib.hid (Y9.out.size)
  have X10 := Lib.hid (X9.out.trans (b10.mono X9.out.size))
  have Y10 := Lib.hid (Y9.out.trans (b10.mono Y9.out.size))
  have Z10 := Lib.hid b10
  clear own10 src10 row10 ob10 b10 CW X9 Y9
  go_wp2_with fail
  have CD := rdrop_any w10 A A' ls names n c q c' HN.out HQ.out (by omega) (by omega) (L.out.below X10.out) (NS.out.below X10.out) HS.out HS'.out
  rw [HDL.out] at CD
  refine CD.mono ?_
  rintro e w11 ⟨v11, o11, rfl, own11, _, b11⟩
  obtain ⟨A11, c11, hv11, src11⟩ := own11.src (fun _ => True) (fun _ _ => trivial)
  subst hv11
  have X11 := Lib.hid (X10.out.trans (b11.mono X10.out.size))
  have Y11 := Lib.hid (Y10.out.trans (b11.mono Y10.out.size))
  have Z11 := Lib.hid (Z10.out.trans (b11.mono Z10.out.size))
  have T11 := Lib.hid b11
  have CS := rsame_any w11 A9 A11 dl dl dl.length dl.length c9 c11 rfl rfl (by omega) (D9.out.below Z11.out) src11
  rw [show (dl == dl) = true by simp] at CS
  have CS' := Lib.hid CS
  clear own11 src11 b11 CD X10 Y10 Z10 CS D9
  go_wp2_with fail
  refine CS'.out.mono ?_
  rintro e w12 ⟨rfl, b12⟩
  have X12 := Lib.hid (X11.out.trans (b12.mono X11.out.size))
  have Y12 := Lib.hid (Y11.out.trans (b12.mono Y11.out.size))
  have Z12 := Lib.hid (Z11.out.trans (b12.mono Z11.out.size))
  have T12 := Lib.hid (T11.out.trans (b12.mono T11.out.size))
  clear b12 CS' X11 Y11 Z11 T11
  go_wp2_with fail
  have CW := rwith_any w12 A ls n c HN.out (by omega) (L.out.below X12.out) HS.out nm v HNM.out
  rw [HWL.out] at CW
  refine CW.mono ?_
  rintro e w13 ⟨v13, o13, rfl, own13, _, b13⟩
  obtain ⟨A13, c13, hv13, src13⟩ := own13.src (fun _ => True) (fun _ _ => trivial)
  subst hv13
  have X13 := Lib.hid (X12.out.trans (b13.mono X12.out.size))
  have Y13 := Lib.hid (Y12.out.trans (b13.mono Y12.out.size))
  have Z13 := Lib.hid (Z12.out.trans (b13.mono Z12.out.size))
  have T13 := Lib.hid (T12.out.trans (b13.mono T12.out.size))
  have CS := rsame_any w13 A10 A13 wl wl wl.length wl.length c10 c13 rfl rfl (by omega) (W10.out.below T13.out) src13
  rw [show (wl == wl) = true by simp] at CS
  have CS' := Lib.hid CS
  clear own13 src13 b13 CW X12 Y12 Z12 T12 CS W10
  go_wp2_with fail
  refine CS'.out.mono ?_
  rintro e w14 ⟨rfl, b14⟩
  have X14 := Lib.hid (X13.out.trans (b14.mono X13.out.size))
  have Y14 := Lib.hid (Y13.out.trans (b14.mono Y13.out.size))
  have Z14 := Lib.hid (Z13.out.trans (b14.mono Z13.out.size))
  have T14 := Lib.hid (T13.out.trans (b14.mono T13.out.size))
  clear b14 CS' X13 Y13 Z13 T13
  have RD := Lib.hid (R9.out.kept (Turn.of_below (S := fun _ => False) Z14.out) (fun _ _ h => h))
  have RW := Lib.hid (R10.out.kept (Turn.of_below (S := fun _ => False) T14.out) (fun _ _ h => h))
  clear R9 R10
  go_wp2_with fail
  go_loopw [17] (fun vi wr => ∃ k : Nat, vi = .int .i64 (k : Int) ∧ k ≤ dl.length ∧ Hid (RowN wr A9 o9 dl.length) ∧ Hid (RowN wr A10 o10 wl.length) ∧ Hid (Below w.heap.size w wr) ∧ Hid (Below w1.heap.size w1 wr)) (fun vi _ => dl.length - (intOf vi).toNat)
  case atStart => exact ⟨0, rfl, Nat.zero_le _, RD, RW, X14, Y14⟩
  case round =>
    obtain ⟨k, rfl, hk, HD, HW, HX, HY⟩ := hrel
    obtain ⟨wo, rfl⟩ : ∃ wo, wo = wr := ⟨_, rfl⟩
    by_cases hlt : k < dl.length
    · obtain ⟨g, hg, hat, yc, yf, hgl, hput⟩ := HD.out.at (c := c9) hlt
      have HPUT := Lib.hid hput
      have h9 := OB9.out g hg
      have hx1 := X1.out.size
      have HX2 := Lib.hid (below_put HX.out (p := ⟨g, k * 2 + 1, none⟩) (by show w.heap.size ≤ g; omega) (.string ⟨#[120]⟩))
      have HY2 := Lib.hid (below_put HY.out (p := ⟨g, k * 2 + 1, none⟩) (by show w1.heap.size ≤ g; omega) (.string ⟨#[120]⟩))
      have HW2 := Lib.hid (HW.out.kept ((Turn.refl (fun b => b = g) wo).setCell (p := ⟨g, k * 2 + 1, none⟩) (fun _ => rfl) (.string ⟨#[120]⟩)) (fun b hb e => by
        have h1 := OB10.out b hb
        have h2 := OL9.out g hg
        omega))
      clear hput h9 hx1 hgl
      go_wp2_with fail
      go_roundw
      case rel => exact ⟨k + 1, by go_num, hlt, Lib.hid (HPUT.out _), HW2, HX2, HY2⟩
      case measure => simp [intOf]; omega
    · go_wp2_with fail
      go_loopw [18] (fun vi wr => ∃ k : Nat, vi = .int .i64 (k : Int) ∧ k ≤ wl.length ∧ Hid (RowN wr A10 o10 wl.length) ∧ Hid (Below w.heap.size w wr) ∧ Hid (Below w1.heap.size w1 wr)) (fun vi _ => wl.length - (intOf vi).toNat)
      case atStart => exact ⟨0, rfl, Nat.zero_le _, HW, HX, HY⟩
      case round =>
        obtain ⟨k2, rfl, hk2, HW2, HX2, HY2⟩ := hrel
        by_cases hlt2 : k2 < wl.length
        · obtain ⟨g, hg, hat, yc, yf, hgl, hput⟩ := HW2.out.at (c := c10) hlt2
          have HPUT := Lib.hid hput
          have h9 := OB10.out g hg
          have hx1 := X1.out.size
          have hy9 := Y14.out.size
          have HX3 := Lib.hid (below_put HX2.out (p := ⟨g, k2 * 2 + 1, none⟩) (by show w.heap.size ≤ g; have := HS9.out; omega) (.string ⟨#[120]⟩))
          have HY3 := Lib.hid (below_put HY2.out (p := ⟨g, k2 * 2 + 1, none⟩) (by show w1.heap.size ≤ g; have := HS9.out; omega) (.string ⟨#[120]⟩))
          clear hput h9 hx1 hgl hy9
          go_wp2_with fail
          go_roundw
          case rel => exact ⟨k2 + 1, by go_num, hlt2, Lib.hid (HPUT.out _), HX3, HY3⟩
          case measure => simp [intOf]; omega
        · go_wp2_with fail
          have CS := rsame_any wr A1 A ls ls n n c1 c HN.out HN.out (by omega) (M1.out.below HY2.out) (L.out.below HX2.out)
          rw [show (ls == ls) = true by simp] at CS
          refine CS.mono ?_
          rintro e w15 ⟨rfl, b15⟩
          have X15 := Lib.hid (HX2.out.trans (b15.mono HX2.out.size))
          clear b15 CS
          go_wp2_with fail
          refine (wakes_head HC w15).mono ?_
          rintro e w16 ⟨rfl, b16⟩
          have X16 := Lib.hid (X15.out.trans (b16.mono X15.out.size))
          clear b16
          go_wp2_with fail
          go_ret
          exact ⟨rfl, X16.out⟩
end Go.Proofs.YtdggfonbjhejoaaDoor
