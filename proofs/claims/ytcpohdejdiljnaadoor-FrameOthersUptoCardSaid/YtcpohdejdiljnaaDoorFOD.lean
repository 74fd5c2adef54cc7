/-
  The law FrameOthers: walk.
  Conditions: what the arguments read as.
-/
import Derived.Test.YtcpohdejdiljnaaDoorFOC
namespace Go.Proofs.YtcpohdejdiljnaaDoor
open Go.RowKit

set_option maxHeartbeats 40000000 in
set_option maxRecDepth 100000 in
theorem others_law {P P' : Nat → Prop} (st : Int) (m : ByteArray) (mi : Int) (w : World) (A0 : Option Addr) (L0 : List Fld) (N0 C0 : Nat) (hn0 : L0.length = N0) (hc0 : N0 ≤ C0) (h0 : SrcF w P A0 L0) (hb0 : bulkF L0 ≤ 2000000)
    (A1 : Option Addr) (lo : List Fld) (no co : Nat) (hno : lo.length = no) (h1 : SrcF w P' A1 lo) (hb1 : bulkF lo ≤ 2000000) :
    Calls Tryd.prog 5 #[.agg #[.int .i64 st, .string m, .int .i64 mi, .slice A0 N0 C0], .slice A1 no co] w fun e w' => e = .returned (.bool true) ∧ Below w.heap.size w w' := by
  obtain ⟨q, hq, hq3, hqN⟩ : ∃ q : Nat, (min (N0 : Int) 300) = (q : Int) ∧ q ≤ 300 ∧ q ≤ N0 := ⟨min N0 300, by omega, by omega, by omega⟩
  obtain ⟨A, hcut, hsrc⟩ := run_front_fld A0 N0 C0 q (by omega)
  have hs := hsrc w P L0 hn0 hqN h0
  obtain ⟨ls, hls⟩ : ∃ ls, ls = L0.take q := ⟨_, rfl⟩
  rw [← hls] at hs
  have hn : ls.length = q := by rw [hls, List.length_take]; omega
  have hb : bulkF ls ≤ 2000000 := by rw [hls]; exact Nat.le_trans (bulkF_take _ _) hb0
  clear hsrc hls h0 hb0 hn0
  have HS := Lib.hid hs
  have HO := Lib.hid h1
  have HN := Lib.hid hn
  have HNO := Lib.hid hno
  have HB0 := Lib.hid hb
  have HB1 := Lib.hid hb1
  have RL := Lib.hid (show reqK mi (mixF ls lo q) = reqK mi ls by rw [← hn]; exact reqK_mix mi ls lo)
  have RB := Lib.hid (reqK_rev mi ls)
  have C1 := Lib.hid (fun (X : World) (hX : Below w.heap.size w X) => request_any mi X A ls q C0 hn (hs.below hX) (Meek.small (by omega)).fit)
  have C2 := Lib.hid (fun (X : World) (hX : Below w.heap.size w X) => response_any st m mi X A ls q C0 hn (hs.below hX) (Meek.small (by omega)).fit)
  have C3 := Lib.hid (fun (X : World) (A' : Option Addr) (l' : List Fld) (n' c' : Nat) (hn' : l'.length = n') (h' : SrcF X (fun _ => True) A' l') (hb' : bulkF l' ≤ 1000000000) => request_any mi X A' l' n' c' hn' h' (Meek.small hb').fit)
  have C4 := Lib.hid (fun (X : World) (A' : Option Addr) (l' : List Fld) (n' c' : Nat) (hn' : l'.length = n') (h' : SrcF X (fun _ => True) A' l') (hb' : bulkF l' ≤ 1000000000) => response_any st m mi X A' l' n' c' hn' h' (Meek.small hb').fit)
  have CW := Lib.hid (fun X : World => awake_any X)
  have I0 := Lib.hid (Is.made w 24 [.int .i64 st, .string m, .int .i64 mi, .slice A0 N0 C0])
  have D0 := Lib.hid ((Below.refl w.heap.size w).alloc (Nat.le_refl _) (.cells #[.int .i64 st, .string m, .int .i64 mi, .slice A0 N0 C0] 24))
  clear hs h1 hn hno hb hb1
  generalize hp : reqK mi ls = p at *
  generalize hQ : resK st (bl m) p = Q at *
  have HP := Lib.hid hp
  have HQ := Lib.hid hQ
  clear hp hQ
  unfold Tells kdV at C1 C2
  go_enter Tryd.func5, Tryd.ntmps5
  go_wp2_with fail
  refine (CW.out _).mono ?_
  rintro e wa ⟨rfl, ba⟩
  have Ia := Lib.hid (I0.out.kept (Turn.of_below (S := fun _ => False) ba) (fun h => h))
  have Da := Lib.hid (D0.out.trans (ba.mono D0.out.size))
  have k3 : wa.cell? ⟨w.heap.size, 3, none⟩ = some (.slice A0 N0 C0) := Ia.out.cell 3
  have kf : wa.frozen? ⟨w.heap.size, 3, none⟩ = false := Ia.out.free 3
  have Ib := Lib.hid (show Is (wa.setCell ⟨w.heap.size, 3, none⟩ (.slice A q C0)) w.heap.size 24 [.int .i64 st, .string m, .int .i64 mi, .slice A q C0] from Ia.out.set 3 _)
  have Db := Lib.hid (Da.out.setCell (Nat.le_refl _) (.slice A q C0) (p := ⟨w.heap.size, 3, none⟩))
  have j0 : (wa.setCell ⟨w.heap.size, 3, none⟩ (.slice A q C0)).cell? ⟨w.heap.size, 0, none⟩ = some (.int .i64 st) := Ib.out.cell 0
  have j1 : (wa.setCell ⟨w.heap.size, 3, none⟩ (.slice A q C0)).cell? ⟨w.heap.size, 1, none⟩ = some (.string m) := Ib.out.cell 1
  have j2 : (wa.setCell ⟨w.heap.size, 3, none⟩ (.slice A q C0)).cell? ⟨w.heap.size, 2, none⟩ = some (.int .i64 mi) := Ib.out.cell 2
  have j3 : (wa.setCell ⟨w.heap.size, 3, none⟩ (.slice A q C0)).cell? ⟨w.heap.size, 3, none⟩ = some (.slice A q C0) := Ib.out.cell 3
  clear ba
  go_wp2_with fail
  refine (C1.out _ Db.out).mono ?_
  rintro e wc ⟨rfl, bc⟩
  have Ic := Lib.hid (Ib.out.kept (Turn.of_below (S := fun _ => False) bc) (fun h => h))
  have Dc := Lib.hid (Db.out.trans (bc.mono Db.out.size))
  have j0 : wc.cell? ⟨w.heap.size, 0, none⟩ = some (.int .i64 st) := Ic.out.cell 0
  have j1 : wc.cell? ⟨w.heap.size, 1, none⟩ = some (.string m) := Ic.out.cell 1
  have j2 : wc.cell? ⟨w.heap.size, 2, none⟩ = some (.int .i64 mi) := Ic.out.cell 2
  have j3 : wc.cell? ⟨w.heap.size, 3, none⟩ = some (.slice A q C0) := Ic.out.cell 3
  clear bc
  go_wp2_with fail
  refine (C2.out _ Dc.out).mono ?_
  rintro e wd ⟨rfl, bd⟩
  have Id := Lib.hid (Ic.out.kept (Turn.of_below (S := fun _ => False) bd) (fun h => h))
  have Dd := Lib.hid (Dc.out.trans (bd.mono Dc.out.size))
  have j3 : wd.cell? ⟨w.heap.size, 3, none⟩ = some (.slice A q C0) := Id.out.cell 3
  clear bd
  go_wp2_with fail
  go_loopw [11, 12, 58, 13, 14] (fun v1 v2 vi v3 v4 wr => ∃ (k : Nat) (o : Option Nat) (A3 : Option Addr) (c3 : Nat), vi = .int .i64 (k : Int) ∧ k ≤ q ∧ v2 = .slice A3 k c3 ∧ Hid (Mid w wr v1 o (mixF ls lo k) A3 (ls.take k).reverse [.int .i64 st, .string m, .int .i64 mi, .slice A q C0] wr.heap.size)) (fun _ _ vi _ _ _ => q - (intOf vi).toNat)
  case atStart => exact ⟨0, none, none, 0, rfl, Nat.zero_le _, rfl, Lib.hid ⟨OwnF.nil _, (fun _ h => by cases h), (fun h => absurd h (by simp)), Id.out, Dd.out⟩⟩
  case round =>
    obtain ⟨k, o, A3, c3, rfl, hk, rfl, HM⟩ := hrel
    by_cases hlt : k < q
    · obtain ⟨p1, f, hf, hat1, y0, y1, _, hb1⟩ := HS.out.at (c := C0) HN.out hlt HM.out.low
      have HT := Lib.hid (show (ls.take (k + 1)).reverse = f :: (ls.take k).reverse by rw [take_snoc ls k f hf]; simp)
      have HML := Lib.hid (show (mixF ls lo k).length ≤ 1000 by have := mix_length ls lo k; omega)
      have HKL := Lib.hid (show (ls.take k).reverse.length = k by rw [List.length_reverse, List.length_take]; have := HN.out; omega)
      have hfs : f.1.length ≤ 2000000 := by have := bulkF_mem (List.mem_of_getElem? hf); have := HB0.out; omega
      have hw0 : w.heap.size < wr.heap.size := HM.out.box.lt
      have M1 := Lib.hid (HM.out.made (.cells #[.string ⟨f.1.toArray⟩, .string ⟨f.2.toArray⟩] 34))
      have I1 := Lib.hid (Is.made wr 34 [.string ⟨f.1.toArray⟩, .string ⟨f.2.toArray⟩])
      have z1 : wr.heap.size < (wr.alloc (.cells #[.string ⟨f.1.toArray⟩, .string ⟨f.2.toArray⟩] 34)).heap.size := by simp
      have Z1 := Lib.hid z1
      have HMX := Lib.hid (show ∀ gs : List Fld, freeG lo[k]? = gs → mixF ls lo (k + 1) = mixF ls lo k ++ gs ++ [upFld f] from fun gs h => by rw [mixF, hf, h, List.append_assoc]; rfl)
      have HW := Lib.hid hw0
      obtain ⟨N, hNm⟩ : ∃ Nm : ByteArray, Nm = ⟨f.1.toArray⟩ := ⟨_, rfl⟩
      obtain ⟨V, hVl⟩ : ∃ Vl : ByteArray, Vl = ⟨f.2.toArray⟩ := ⟨_, rfl⟩
      have HNm := Lib.hid hNm
      have HVl := Lib.hid hVl
      have hNs : N.size ≤ 1000000000 := by rw [hNm, ← bl_length, bl_mk]; omega
      have CU := Lib.hid (fun X : World => upper_any N X hNs)
      rw [← hNm] at y0 M1 I1 Z1
      rw [← hVl] at y1 M1 I1 Z1
      have hU : bl N = f.1 := by rw [hNm, bl_mk]
      rw [hU] at CU
      have Y0 := Lib.hid y0
      have Y1 := Lib.hid y1
      have HP1 := Lib.hid hb1
      have CE := Lib.hid (fun (a : Addr) (X : World) (h : Below w.heap.size w X) (hb : a.block < w.heap.size) => h.cell hb)
      clear hf hfs hw0 z1 hNm hVl hNs hU hb1
      cases hg : lo[k]? with
      | none =>
        have HG := Lib.hid ((HMX.out [] (by rw [hg]; rfl)).trans (by rw [List.append_nil]))
        have e0 : decide ((k : Int) < (no : Int)) = false := decide_eq_false (by have := List.getElem?_eq_none_iff.1 hg; have := HNO.out; omega)
        have e0n : decide (k < no) = false := decide_eq_false (by have := List.getElem?_eq_none_iff.1 hg; have := HNO.out; omega)
        clear hg
        have x0 : (wr.alloc (.cells #[.string N, .string V] 34)).cell? ⟨wr.heap.size, 0, none⟩ = some (.string N) := I1.out.cell 0
        go_wp2_with fail
        refine (CU.out _).mono ?_
        rintro e w5 ⟨rfl, b5⟩
        have M5 := Lib.hid (M1.out.below b5)
        have I5 := Lib.hid (I1.out.kept (Turn.of_below (S := fun _ => False) b5) (fun h => h))
        have Z5 := Lib.hid (Nat.lt_of_lt_of_le Z1.out b5.size)
        have M6 := Lib.hid (M5.out.set HW.out 0 (.string ⟨(upF f.1).toArray⟩))
        have I6 := Lib.hid (show Is (w5.setCell ⟨wr.heap.size, 0, none⟩ (.string ⟨(upF f.1).toArray⟩)) wr.heap.size 34 [.string ⟨(upF f.1).toArray⟩, .string V] from I5.out.set 0 _)
        have x1 : w5.cell? ⟨wr.heap.size, 0, none⟩ = some (.string N) := I5.out.cell 0
        have xf : w5.frozen? ⟨wr.heap.size, 0, none⟩ = false := I5.out.free 0
        have x2 : (w5.setCell ⟨wr.heap.size, 0, none⟩ (.string ⟨(upF f.1).toArray⟩)).cell? ⟨wr.heap.size, 0, none⟩ = some (.string ⟨(upF f.1).toArray⟩) := I6.out.cell 0
        have x3 : (w5.setCell ⟨wr.heap.size, 0, none⟩ (.string ⟨(upF f.1).toArray⟩)).cell? ⟨wr.heap.size, 1, none⟩ = some (.string V) := I6.out.cell 1
        have Z6 := Lib.hid (show wr.heap.size < (w5.setCell ⟨wr.heap.size, 0, none⟩ (.string ⟨(upF f.1).toArray⟩)).heap.size from I6.out.lt)
        obtain ⟨v7, w7, o7, hrun7, M7', _, _⟩ := M6.out.push Z6.out (upFld f) HML.out
        rw [show (upFld f).1.toArray = (upF f.1).toArray from rfl, show (upFld f).2.toArray = f.2.toArray from rfl, ← HVl.out] at hrun7
        rw [show (w5.setCell ⟨wr.heap.size, 0, none⟩ (.string ⟨(upF f.1).toArray⟩)).heap.size = w5.heap.size by simp] at hrun7
        have R7 := Lib.hid hrun7
        have y0 : w7.cell? p1 = some (.string N) := (M7'.low.cell HP1.out).trans ((HM.out.low.cell HP1.out).symm.trans Y0.out)
        have y1 : w7.cell? ⟨p1.block, p1.off + 1, none⟩ = some (.string V) := (CE.out ⟨p1.block, p1.off + 1, none⟩ w7 M7'.low HP1.out).trans ((CE.out ⟨p1.block, p1.off + 1, none⟩ wr HM.out.low HP1.out).symm.trans Y1.out)
        have k3 : w7.cell? ⟨w.heap.size, 3, none⟩ = some (.slice A q C0) := M7'.box.cell 3
        obtain ⟨A8, c8, w8, hrun8, M8'⟩ := M7'.back f k c3 HKL.out (by omega)
        rw [← HNm.out, ← HVl.out] at hrun8
        have R8 := Lib.hid hrun8
        have M8 := Lib.hid M8'
        rw [← HG.out, ← HT.out] at M8
        clear b5 hrun7 M7' hrun8 M8' x0
        go_wp2_with (first
          | (at_builtin; refine append_by rfl (.tmp 96) (.tmp 98) 22 rfl _ _ v7 w7 rfl rfl R7.out ?_)
          | (at_builtin; refine append_by rfl (.tmp 105) (.tmp 106) 22 rfl _ _ _ w8 rfl rfl R8.out ?_))
        go_roundw
        case rel => exact ⟨k + 1, o7, A8, c8, by go_num, hlt, rfl, M8⟩
        case measure => simp [intOf]; omega
      | some x =>
        have hkn : k < no := by have := (List.getElem?_eq_some_iff.1 hg).1; have := HNO.out; omega
        have e0 : decide ((k : Int) < (no : Int)) = true := decide_eq_true (by omega)
        have e0n : decide (k < no) = true := decide_eq_true (by omega)
        obtain ⟨p2, x', hx', hat2, u0, u1, _, _⟩ := HO.out.at (c := co) HNO.out hkn HM.out.low
        obtain rfl : x' = x := by rw [hg] at hx'; exact (Option.some.inj hx').symm
        have HG0 := Lib.hid (HMX.out _ rfl)
        rw [hg, show freeG (some x') = if freeF x' = true then [x'] else [] from rfl] at HG0
        have hxs : x'.1.length ≤ 2000000 := by have := bulkF_mem (List.mem_of_getElem? hg); have := HB1.out; omega
        have CS1 := Lib.hid (fun X : World => same_any ⟨x'.1.toArray⟩ ⟨#[99, 111, 110, 116, 101, 110, 116, 45, 108, 101, 110, 103, 116, 104]⟩ X (by rw [← bl_length, bl_mk]; omega) (by decide))
        have CS2 := Lib.hid (fun X : World => same_any ⟨x'.1.toArray⟩ ⟨#[116, 114, 97, 110, 115, 102, 101, 114, 45, 101, 110, 99, 111, 100, 105, 110, 103]⟩ X (by rw [← bl_length, bl_mk]; omega) (by decide))
        rw [bl_mk, bl_len] at CS1
        rw [bl_mk, bl_cod] at CS2
        have HFR := Lib.hid (show freeF x' = (!(lowF x'.1 == lowF lenN) && !(lowF x'.1 == lowF codN)) from rfl)
        have b1 : Below wr.heap.size wr (wr.alloc (.cells #[.string N, .string V] 34)) := (Below.refl _ _).alloc (Nat.le_refl _) _
        have u2 : (wr.alloc (.cells #[.string N, .string V] 34)).cell? p2 = some (.string ⟨x'.1.toArray⟩) := (b1.cell (Lib.lt_of_cell u0)).trans u0
        have BB := Lib.hid b1
        have U0 := Lib.hid u0
        have U1 := Lib.hid u1
        clear hg hx' hxs b1 hkn u0 u1
        generalize (lowF x'.1 == lowF lenN) = s1 at *
        generalize (lowF x'.1 == lowF codN) = s2 at *
        cases s1 with
        | true =>
          have HG := Lib.hid (HG0.out.trans (by rw [if_neg (by rw [HFR.out]; simp), List.append_nil]))
          go_wp2_with fail
          refine (CS1.out _).mono ?_
          rintro e w2 ⟨rfl, bw2⟩
          have M2 := Lib.hid (M1.out.below bw2)
          have I2 := Lib.hid (I1.out.kept (Turn.of_below (S := fun _ => False) bw2) (fun h => h))
          have Z2 := Lib.hid (Nat.lt_of_lt_of_le Z1.out bw2.size)
          clear bw2 u2
          have x0 : w2.cell? ⟨wr.heap.size, 0, none⟩ = some (.string N) := I2.out.cell 0
          go_wp2_with fail
          refine (CU.out _).mono ?_
          rintro e w5 ⟨rfl, b5⟩
          have M5 := Lib.hid (M2.out.below b5)
          have I5 := Lib.hid (I2.out.kept (Turn.of_below (S := fun _ => False) b5) (fun h => h))
          have Z5 := Lib.hid (Nat.lt_of_lt_of_le Z2.out b5.size)
          have M6 := Lib.hid (M5.out.set HW.out 0 (.string ⟨(upF f.1).toArray⟩))
          have I6 := Lib.hid (show Is (w5.setCell ⟨wr.heap.size, 0, none⟩ (.string ⟨(upF f.1).toArray⟩)) wr.heap.size 34 [.string ⟨(upF f.1).toArray⟩, .string V] from I5.out.set 0 _)
          have x1 : w5.cell? ⟨wr.heap.size, 0, none⟩ = some (.string N) := I5.out.cell 0
          have xf : w5.frozen? ⟨wr.heap.size, 0, none⟩ = false := I5.out.free 0
          have x2 : (w5.setCell ⟨wr.heap.size, 0, none⟩ (.string ⟨(upF f.1).toArray⟩)).cell? ⟨wr.heap.size, 0, none⟩ = some (.string ⟨(upF f.1).toArray⟩) := I6.out.cell 0
          have x3 : (w5.setCell ⟨wr.heap.size, 0, none⟩ (.string ⟨(upF f.1).toArray⟩)).cell? ⟨wr.heap.size, 1, none⟩ = some (.string V) := I6.out.cell 1
          have Z6 := Lib.hid (show wr.heap.size < (w5.setCell ⟨wr.heap.size, 0, none⟩ (.string ⟨(upF f.1).toArray⟩)).heap.size from I6.out.lt)
          obtain ⟨v7, w7, o7, hrun7, M7', _, _⟩ := M6.out.push Z6.out (upFld f) HML.out
          rw [show (upFld f).1.toArray = (upF f.1).toArray from rfl, show (upFld f).2.toArray = f.2.toArray from rfl, ← HVl.out] at hrun7
          rw [show (w5.setCell ⟨wr.heap.size, 0, none⟩ (.string ⟨(upF f.1).toArray⟩)).heap.size = w5.heap.size by simp] at hrun7
          have R7 := Lib.hid hrun7
          have y0 : w7.cell? p1 = some (.string N) := (M7'.low.cell HP1.out).trans ((HM.out.low.cell HP1.out).symm.trans Y0.out)
          have y1 : w7.cell? ⟨p1.block, p1.off + 1, none⟩ = some (.string V) := (CE.out ⟨p1.block, p1.off + 1, none⟩ w7 M7'.low HP1.out).trans ((CE.out ⟨p1.block, p1.off + 1, none⟩ wr HM.out.low HP1.out).symm.trans Y1.out)
          have k3 : w7.cell? ⟨w.heap.size, 3, none⟩ = some (.slice A q C0) := M7'.box.cell 3
          obtain ⟨A8, c8, w8, hrun8, M8'⟩ := M7'.back f k c3 HKL.out (by omega)
          rw [← HNm.out, ← HVl.out] at hrun8
          have R8 := Lib.hid hrun8
          have M8 := Lib.hid M8'
          rw [← HG.out, ← HT.out] at M8
          clear b5 hrun7 M7' hrun8 M8' x0
          go_wp2_with (first
            | (at_builtin; refine append_by rfl (.tmp 96) (.tmp 98) 22 rfl _ _ v7 w7 rfl rfl R7.out ?_)
            | (at_builtin; refine append_by rfl (.tmp 105) (.tmp 106) 22 rfl _ _ _ w8 rfl rfl R8.out ?_))
          go_roundw
          case rel => exact ⟨k + 1, o7, A8, c8, by go_num, hlt, rfl, M8⟩
          case measure => simp [intOf]; omega
        | false =>
          go_wp2_with fail
          refine (CS1.out _).mono ?_
          rintro e w2 ⟨rfl, bw2⟩
          have M2 := Lib.hid (M1.out.below bw2)
          have I2 := Lib.hid (I1.out.kept (Turn.of_below (S := fun _ => False) bw2) (fun h => h))
          have Z2 := Lib.hid (Nat.lt_of_lt_of_le Z1.out bw2.size)
          have BB2 := Lib.hid (BB.out.trans (bw2.mono BB.out.size))
          have u3 : w2.cell? p2 = some (.string ⟨x'.1.toArray⟩) := (BB2.out.cell (Lib.lt_of_cell U0.out)).trans U0.out
          clear bw2 u2
          cases s2 with
          | true =>
            have HG := Lib.hid (HG0.out.trans (by rw [if_neg (by rw [HFR.out]; simp), List.append_nil]))
            go_wp2_with fail
            refine (CS2.out _).mono ?_
            rintro e w3 ⟨rfl, bw3⟩
            have M3 := Lib.hid (M2.out.below bw3)
            have I3 := Lib.hid (I2.out.kept (Turn.of_below (S := fun _ => False) bw3) (fun h => h))
            have Z3 := Lib.hid (Nat.lt_of_lt_of_le Z2.out bw3.size)
            clear bw3 u3
            have x0 : w3.cell? ⟨wr.heap.size, 0, none⟩ = some (.string N) := I3.out.cell 0
            go_wp2_with fail
            refine (CU.out _).mono ?_
            rintro e w5 ⟨rfl, b5⟩
            have M5 := Lib.hid (M3.out.below b5)
            have I5 := Lib.hid (I3.out.kept (Turn.of_below (S := fun _ => False) b5) (fun h => h))
            have Z5 := Lib.hid (Nat.lt_of_lt_of_le Z3.out b5.size)
            have M6 := Lib.hid (M5.out.set HW.out 0 (.string ⟨(upF f.1).toArray⟩))
            have I6 := Lib.hid (show Is (w5.setCell ⟨wr.heap.size, 0, none⟩ (.string ⟨(upF f.1).toArray⟩)) wr.heap.size 34 [.string ⟨(upF f.1).toArray⟩, .string V] from I5.out.set 0 _)
            have x1 : w5.cell? ⟨wr.heap.size, 0, none⟩ = some (.string N) := I5.out.cell 0
            have xf : w5.frozen? ⟨wr.heap.size, 0, none⟩ = false := I5.out.free 0
            have x2 : (w5.setCell ⟨wr.heap.size, 0, none⟩ (.string ⟨(upF f.1).toArray⟩)).cell? ⟨wr.heap.size, 0, none⟩ = some (.string ⟨(upF f.1).toArray⟩) := I6.out.cell 0
            have x3 : (w5.setCell ⟨wr.heap.size, 0, none⟩ (.string ⟨(upF f.1).toArray⟩)).cell? ⟨wr.heap.size, 1, none⟩ = some (.string V) := I6.out.cell 1
            have Z6 := Lib.hid (show wr.heap.size < (w5.setCell ⟨wr.heap.size, 0, none⟩ (.string ⟨(upF f.1).toArray⟩)).heap.size from I6.out.lt)
            obtain ⟨v7, w7, o7, hrun7, M7', _, _⟩ := M6.out.push Z6.out (upFld f) HML.out
            rw [show (upFld f).1.toArray = (upF f.1).toArray from rfl, show (upFld f).2.toArray = f.2.toArray from rfl, ← HVl.out] at hrun7
            rw [show (w5.setCell ⟨wr.heap.size, 0, none⟩ (.string ⟨(upF f.1).toArray⟩)).heap.size = w5.heap.size by simp] at hrun7
            have R7 := Lib.hid hrun7
            have y0 : w7.cell? p1 = some (.string N) := (M7'.low.cell HP1.out).trans ((HM.out.low.cell HP1.out).symm.trans Y0.out)
            have y1 : w7.cell? ⟨p1.block, p1.off + 1, none⟩ = some (.string V) := (CE.out ⟨p1.block, p1.off + 1, none⟩ w7 M7'.low HP1.out).trans ((CE.out ⟨p1.block, p1.off + 1, none⟩ wr HM.out.low HP1.out).symm.trans Y1.out)
            have k3 : w7.cell? ⟨w.heap.size, 3, none⟩ = some (.slice A q C0) := M7'.box.cell 3
            obtain ⟨A8, c8, w8, hrun8, M8'⟩ := M7'.back f k c3 HKL.out (by omega)
            rw [← HNm.out, ← HVl.out] at hrun8
            have R8 := Lib.hid hrun8
            have M8 := Lib.hid M8'
            rw [← HG.out, ← HT.out] at M8
            clear b5 hrun7 M7' hrun8 M8' x0
            go_wp2_with (first
              | (at_builtin; refine append_by rfl (.tmp 96) (.tmp 98) 22 rfl _ _ v7 w7 rfl rfl R7.out ?_)
              | (at_builtin; refine append_by rfl (.tmp 105) (.tmp 106) 22 rfl _ _ _ w8 rfl rfl R8.out ?_))
            go_roundw
            case rel => exact ⟨k + 1, o7, A8, c8, by go_num, hlt, rfl, M8⟩
            case measure => simp [intOf]; omega
          | false =>
            have HG := Lib.hid (HG0.out.trans (by rw [if_pos (by rw [HFR.out]; rfl)]))
            go_wp2_with fail
            refine (CS2.out _).mono ?_
            rintro e w3 ⟨rfl, bw3⟩
            have M3 := Lib.hid (M2.out.below bw3)
            have I3 := Lib.hid (I2.out.kept (Turn.of_below (S := fun _ => False) bw3) (fun h => h))
            have Z3 := Lib.hid (Nat.lt_of_lt_of_le Z2.out bw3.size)
            have BB3 := Lib.hid (BB2.out.trans (bw3.mono BB2.out.size))
            have u4 : w3.cell? p2 = some (.string ⟨x'.1.toArray⟩) := (BB3.out.cell (Lib.lt_of_cell U0.out)).trans U0.out
            have u5 : w3.cell? ⟨p2.block, p2.off + 1, none⟩ = some (.string ⟨x'.2.toArray⟩) := (BB3.out.cell (Lib.lt_of_cell U1.out)).trans U1.out
            obtain ⟨v4, w4, o4, hrun4, M4', I4', Z4'⟩ := M3.out.push Z3.out x' HML.out
            have R4 := Lib.hid hrun4
            have M4 := Lib.hid M4'
            have I4 := Lib.hid (I4' _ I3.out)
            have Z4 := Lib.hid (Nat.lt_of_lt_of_le Z3.out Z4')
            have HML4 := Lib.hid (show (mixF ls lo k ++ [x']).length ≤ 1000 by have := mix_length ls lo k; rw [List.length_append]; simp; omega)
            have x0 : w4.cell? ⟨wr.heap.size, 0, none⟩ = some (.string N) := I4.out.cell 0
            clear bw3 u3 hrun4 M4' I4' Z4'
            go_wp2_with (at_builtin; refine append_by rfl (.tmp 85) (.tmp 90) 22 rfl _ _ v4 w4 rfl rfl R4.out ?_)
            refine (CU.out _).mono ?_
            rintro e w5 ⟨rfl, b5⟩
            have M5 := Lib.hid (M4.out.below b5)
            have I5 := Lib.hid (I4.out.kept (Turn.of_below (S := fun _ => False) b5) (fun h => h))
            have Z5 := Lib.hid (Nat.lt_of_lt_of_le Z4.out b5.size)
            have M6 := Lib.hid (M5.out.set HW.out 0 (.string ⟨(upF f.1).toArray⟩))
            have I6 := Lib.hid (show Is (w5.setCell ⟨wr.heap.size, 0, none⟩ (.string ⟨(upF f.1).toArray⟩)) wr.heap.size 34 [.string ⟨(upF f.1).toArray⟩, .string V] from I5.out.set 0 _)
            have x1 : w5.cell? ⟨wr.heap.size, 0, none⟩ = some (.string N) := I5.out.cell 0
            have xf : w5.frozen? ⟨wr.heap.size, 0, none⟩ = false := I5.out.free 0
            have x2 : (w5.setCell ⟨wr.heap.size, 0, none⟩ (.string ⟨(upF f.1).toArray⟩)).cell? ⟨wr.heap.size, 0, none⟩ = some (.string ⟨(upF f.1).toArray⟩) := I6.out.cell 0
            have x3 : (w5.setCell ⟨wr.heap.size, 0, none⟩ (.string ⟨(upF f.1).toArray⟩)).cell? ⟨wr.heap.size, 1, none⟩ = some (.string V) := I6.out.cell 1
            have Z6 := Lib.hid (show wr.heap.size < (w5.setCell ⟨wr.heap.size, 0, none⟩ (.string ⟨(upF f.1).toArray⟩)).heap.size from I6.out.lt)
            obtain ⟨v7, w7, o7, hrun7, M7', _, _⟩ := M6.out.push Z6.out (upFld f) HML4.out
            rw [show (upFld f).1.toArray = (upF f.1).toArray from rfl, show (upFld f).2.toArray = f.2.toArray from rfl, ← HVl.out] at hrun7
            rw [show (w5.setCell ⟨wr.heap.size, 0, none⟩ (.string ⟨(upF f.1).toArray⟩)).heap.size = w5.heap.size by simp] at hrun7
            have R7 := Lib.hid hrun7
            have y0 : w7.cell? p1 = some (.string N) := (M7'.low.cell HP1.out).trans ((HM.out.low.cell HP1.out).symm.trans Y0.out)
            have y1 : w7.cell? ⟨p1.block, p1.off + 1, none⟩ = some (.string V) := (CE.out ⟨p1.block, p1.off + 1, none⟩ w7 M7'.low HP1.out).trans ((CE.out ⟨p1.block, p1.off + 1, none⟩ wr HM.out.low HP1.out).symm.trans Y1.out)
            have k3 : w7.cell? ⟨w.heap.size, 3, none⟩ = some (.slice A q C0) := M7'.box.cell 3
            obtain ⟨A8, c8, w8, hrun8, M8'⟩ := M7'.back f k c3 HKL.out (by omega)
            rw [← HNm.out, ← HVl.out] at hrun8
            have R8 := Lib.hid hrun8
            have M8 := Lib.hid M8'
            rw [← HG.out, ← HT.out] at M8
            clear b5 hrun7 M7' hrun8 M8' x0
            go_wp2_with (first
              | (at_builtin; refine append_by rfl (.tmp 96) (.tmp 98) 22 rfl _ _ v7 w7 rfl rfl R7.out ?_)
              | (at_builtin; refine append_by rfl (.tmp 105) (.tmp 106) 22 rfl _ _ _ w8 rfl rfl R8.out ?_))
            go_roundw
            case rel => exact ⟨k + 1, o7, A8, c8, by go_num, hlt, rfl, M8⟩
            case measure => simp [intOf]; omega
    · obtain ⟨wo, rfl⟩ : ∃ wo, wo = wr := ⟨_, rfl⟩
      have HG := Lib.hid (show mixF ls lo k = mixF ls lo q by rw [show k = q by omega])
      have HL := Lib.hid (show (ls.take k).reverse = ls.reverse by rw [List.take_of_length_le (by have := HN.out; omega)])
      have hkq : k = q := by omega
      subst hkq
      obtain ⟨A2, c2, hv, hsm⟩ := HM.out.own.src (fun _ => True) (fun _ _ => trivial)
      subst hv
      have SM := Lib.hid hsm
      have SB := Lib.hid (HM.out.src.mono (P' := fun _ => True) (fun _ _ _ => trivial))
      rw [HL.out] at SB
      have BM := Lib.hid (show bulkF (mixF ls lo k) ≤ 1000000000 by have h1 := mix_bulk ls lo k; have h2 := bulkF_take ls k; have h3 := bulkF_take lo k; have := HB0.out; have := HB1.out; omega)
      have BR := Lib.hid (show bulkF ls.reverse ≤ 1000000000 by rw [bulkF_rev]; have := HB0.out; omega)
      have LR := Lib.hid (show ls.reverse.length = k by rw [List.length_reverse]; exact HN.out)
      have CA := Lib.hid (fun (X : World) (hX : Below wo.heap.size wo X) => C3.out X A2 (mixF ls lo k) _ c2 rfl (SM.out.below hX) BM.out)
      have CB := Lib.hid (fun (X : World) (hX : Below wo.heap.size wo X) => C4.out X A2 (mixF ls lo k) _ c2 rfl (SM.out.below hX) BM.out)
      have CC := Lib.hid (fun (X : World) (hX : Below wo.heap.size wo X) => C3.out X A3 ls.reverse k c3 LR.out (SB.out.below hX) BR.out)
      have CD := Lib.hid (fun (X : World) (hX : Below wo.heap.size wo X) => C4.out X A3 ls.reverse k c3 LR.out (SB.out.below hX) BR.out)
      rw [RL.out] at CA
      rw [RL.out, HQ.out] at CB
      rw [RB.out] at CC
      rw [RB.out, HQ.out] at CD
      unfold Tells kdV at CA CB CC CD
      generalize (mixF ls lo k).length = lm at *
      have IB := Lib.hid HM.out.box
      have DD := Lib.hid HM.out.low
      have ws : w.heap.size < wo.heap.size := HM.out.box.lt
      clear hsm
      go_wp2_with fail
      obtain ⟨wg, hwg⟩ : ∃ wg, wg = wo.alloc (.cells #[.slice A2 lm c2, .slice A3 k c3] 22) := ⟨_, rfl⟩
      have hbg : Below wo.heap.size wo wg := by rw [hwg]; exact (Below.refl _ _).alloc (Nat.le_refl _) _
      have BG := Lib.hid hbg
      have IG := Lib.hid (show Is wg wo.heap.size 22 [.slice A2 lm c2, .slice A3 k c3] by rw [hwg]; exact Is.made wo 22 [.slice A2 lm c2, .slice A3 k c3])
      rw [← hwg]
      clear hwg hbg HM
      go_loopw [113, 16, 117, 17, 18, 19, 125, 20, 21, 22] (fun vi v1 v2 v3 v4 v5 v6 v7 v8 v9 wx => ∃ j : Nat, vi = .int .i64 (j : Int) ∧ j ≤ 2 ∧ Hid (Below wg.heap.size wg wx)) (fun vi _ _ _ _ _ _ _ _ _ _ => 2 - (intOf vi).toNat)
      case atStart => exact ⟨0, rfl, Nat.zero_le _, Lib.hid (Below.refl _ _)⟩
      case round =>
        obtain ⟨j, rfl, hj, HBX⟩ := hrel
        have BX := Lib.hid (BG.out.trans (HBX.out.mono BG.out.size))
        by_cases hjl : j < 2
        · have hat := run_at 44 22 Tryd.underlying44 (by kernel_rfl) ⟨wo.heap.size, 0, none⟩ 2 2 j hjl
          rw [add_at, Nat.zero_add] at hat
          have hIX := IB.out.kept (Turn.of_below (S := fun _ => False) BX.out) (fun h => h)
          have j0 : wr.cell? ⟨w.heap.size, 0, none⟩ = some (.int .i64 st) := hIX.cell 0
          have j1 : wr.cell? ⟨w.heap.size, 1, none⟩ = some (.string m) := hIX.cell 1
          have j2 : wr.cell? ⟨w.heap.size, 2, none⟩ = some (.int .i64 mi) := hIX.cell 2
          obtain ⟨Aj, nj, cj, hcj, hC, hD⟩ : ∃ (Aj : Option Addr) (nj cj : Nat), wr.cell? ⟨wo.heap.size, j, none⟩ = some (.slice Aj nj cj) ∧
              (∀ X, Below wo.heap.size wo X → Calls Tryd.prog 8 #[.int .i64 mi, .slice Aj nj cj] X fun e w' => e = .returned (.tuple #[.int .i64 (p.1 : Int), .int .u64 (p.2.1 : Int), .int .i64 (p.2.2 : Int)]) ∧ Below X.heap.size X w') ∧
              (∀ X, Below wo.heap.size wo X → Calls Tryd.prog 10 #[.int .i64 st, .string m, .int .i64 mi, .slice Aj nj cj] X fun e w' => e = .returned (.tuple #[.int .i64 (Q.1 : Int), .int .u64 (Q.2.1 : Int), .int .i64 (Q.2.2 : Int)]) ∧ Below X.heap.size X w') := by
            have hi := IG.out.kept (Turn.of_below (S := fun _ => False) HBX.out) (fun h => h)
            obtain rfl | rfl : j = 0 ∨ j = 1 := by omega
            · exact ⟨A2, lm, c2, hi.cell 0, CA.out, CB.out⟩
            · exact ⟨A3, k, c3, hi.cell 1, CC.out, CD.out⟩
          have KC := Lib.hid hC
          have KD := Lib.hid hD
          have IX := Lib.hid hIX
          have e1 : ((p.1 : Int) != (p.1 : Int)) = false := by simp
          have e2 : ((p.2.1 : Int) != (p.2.1 : Int)) = false := by simp
          have e3 : ((p.2.2 : Int) != (p.2.2 : Int)) = false := by simp
          have e4 : ((Q.1 : Int) != (Q.1 : Int)) = false := by simp
          have e5 : ((Q.2.1 : Int) != (Q.2.1 : Int)) = false := by simp
          have e6 : ((Q.2.2 : Int) != (Q.2.2 : Int)) = false := by simp
          clear hC hD hIX
          go_wp2_with fail
          refine (KC.out _ BX.out).mono ?_
          rintro e w5 ⟨rfl, b5⟩
          have BY := Lib.hid (BX.out.trans (b5.mono BX.out.size))
          have HY := Lib.hid (HBX.out.trans (b5.mono HBX.out.size))
          have IY := Lib.hid (IX.out.kept (Turn.of_below (S := fun _ => False) b5) (fun h => h))
          have j0 : w5.cell? ⟨w.heap.size, 0, none⟩ = some (.int .i64 st) := IY.out.cell 0
          have j1 : w5.cell? ⟨w.heap.size, 1, none⟩ = some (.string m) := IY.out.cell 1
          have j2 : w5.cell? ⟨w.heap.size, 2, none⟩ = some (.int .i64 mi) := IY.out.cell 2
          clear b5
          go_wp2_with fail
          refine (KD.out _ BY.out).mono ?_
          rintro e w6 ⟨rfl, b6⟩
          have HZ := Lib.hid (HY.out.trans (b6.mono HY.out.size))
          clear b6
          go_wp2_with fail
          go_roundw
          case rel => exact ⟨j + 1, by go_num, by omega, HZ⟩
          case measure => simp [intOf]; omega
        · go_wp2_with fail
          go_ret
          exact ⟨rfl, DD.out.trans (BX.out.mono DD.out.size)⟩
end Go.Proofs.YtcpohdejdiljnaaDoor
