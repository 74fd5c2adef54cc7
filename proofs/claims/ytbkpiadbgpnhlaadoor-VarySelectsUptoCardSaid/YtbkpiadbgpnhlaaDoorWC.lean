/-
  Package vary's join.
  Conditions: the list holds at most 1000000000 bytes.
-/
import Derived.Test.YtbkpiadbgpnhlaaDoorWB
import Derived.Test.YtbkpiadbgpnhlaaDoorUD
import Derived.Test.YtbkpiadbgpnhlaaDoorTP
import Derived.Test.YtbkpiadbgpnhlaaDoorJ
namespace Go.Proofs.YtbkpiadbgpnhlaaDoor.Var
open Go.RowKit Go.Maps Hop

theorem is_below {w w' : World} {g : Nat} {t : TypeId} {l : List Value} (h : Is w g t l) (hb : Below w.heap.size w w') : Is w' g t l := h.kept (Turn.of_below (S := fun _ => False) hb) (fun h => h)
theorem own_ne {w : World} {v : Value} {o : Option Nat} {bs : List UInt8} {g : Nat} {t : TypeId} {l : List Value} (h : Own w v o bs) (hi : Is w g t l) (ht : t ≠ 5) : o ≠ some g := by
  rintro rfl
  obtain ⟨⟨_, h2⟩, h3⟩ := h
  rcases h2 with ⟨rfl, _⟩ | ⟨g', cap, cur, rfl, _, hh, _⟩
  · cases h3
  · obtain rfl : g' = g := Option.some.inj h3
    unfold Is at hi
    rw [hh] at hi
    injection hi with hi
    injection hi with _ e
    exact ht e.symm
set_option maxHeartbeats 8000000 in
set_option maxRecDepth 100000 in
theorem join_any {P : Nat → Prop} (w : World) (A : Option Addr) (ls : List Fld) (n c : Nat) (hn : ls.length = n) (hb : bulkF ls ≤ 1000000000) (h : SrcF w P A ls) :
    Calls Tryd.prog 23 #[.slice A n c] w fun e w' => ∃ bm q, e = .returned (.map (some bm)) ∧ JoinAt w' w.heap.size bm q ls ∧ w.heap.size ≤ bm ∧ Below w.heap.size w w' := by
  have hlen := bulk_len ls
  have m0 := JoinAt.made w w.heap.size
  have b0 : Below w.heap.size w (w.alloc (.map #[] 0)) := (Below.refl _ _).alloc (Nat.le_refl _) _
  obtain ⟨w0, hw0⟩ : ∃ w0, w.alloc (.map #[] 0) = w0 := ⟨_, rfl⟩
  have hmm : (Instr.makeMap 42 none).run Tryd.prog w = .ok (.map (some w.heap.size)) w0 := by rw [← hw0]; rfl
  rw [hw0] at m0 b0
  clear hw0
  obtain ⟨bm, hbm⟩ : ∃ b, w.heap.size = b := ⟨_, rfl⟩
  have HBM := Lib.hid hbm
  rw [hbm] at m0 hmm
  have M0 : Hid (JoinAt w0 bm bm 0 (ls.take 0)) := Lib.hid m0
  have B0 := Lib.hid b0
  have HN := Lib.hid hn
  have H := Lib.hid h
  have HBK := Lib.hid hb
  have HNN : n ≤ 1000000000 := by omega
  clear hn hb h m0 b0 hbm hlen
  go_enter Tryd.func23, Tryd.ntmps23
  go_wp2_with fail
  clear hmm
  go_loopw [12] (fun vi wr => ∃ k : Nat, vi = .int .i64 (k : Int) ∧ k ≤ n ∧ Hid (JoinAt wr bm bm k (ls.take k)) ∧ Hid (Below w.heap.size w wr)) (fun vi _ => n - (intOf vi).toNat)
  case atStart => exact ⟨0, rfl, Nat.zero_le _, M0, B0⟩
  case round =>
    obtain ⟨k, rfl, hk, HM, HB⟩ := hrel
    by_cases hlt : k < n
    · obtain ⟨p, f, hf, hat, y0, y1, _, _⟩ := H.out.at (c := c) HN.out hlt HB.out
      have hmem := List.mem_of_getElem? hf
      have hbf := bulk_mem hmem
      have HTK := Lib.hid (take_snoc ls k f hf)
      have HVB := Lib.hid (fun v (hv : valK (ls.take k) (lowF f.1) = some v) => show v.length ≤ 1000000000 by
        have h1 := val_bulk hv
        have h2 := bulk_sub (List.take_sublist k ls)
        have := HBK.out
        omega)
      have hbk := HBK.out
      obtain ⟨Nm, hNm⟩ : ∃ Nm : ByteArray, Nm = ⟨f.1.toArray⟩ := ⟨_, rfl⟩
      obtain ⟨Vl, hVl⟩ : ∃ Vl : ByteArray, Vl = ⟨f.2.toArray⟩ := ⟨_, rfl⟩
      have hbn : bl Nm = f.1 := by rw [hNm, bl_mk]
      have HVL := Lib.hid (show bl Vl = f.2 by rw [hVl, bl_mk])
      have HVS := Lib.hid (show Vl.size ≤ 1000000000 by rw [← bl_length, HVL.out]; omega)
      have CL := Lib.hid (fun W : World => ty_lower Nm W)
      unfold Text at CL
      rw [hbn] at CL
      obtain ⟨L, hL⟩ : ∃ L : ByteArray, L = ⟨(lowF f.1).toArray⟩ := ⟨_, rfl⟩
      have HLB := Lib.hid (show bl L = lowF f.1 by rw [hL, bl_mk])
      have HLS := Lib.hid (show L.size ≤ maxLen by rw [← bl_length, HLB.out, lowF_length]; unfold maxLen; omega)
      rw [← hL] at CL
      rw [← hNm] at y0
      rw [← hVl] at y1
      have hb0 : Below wr.heap.size wr (wr.alloc (.cells #[.string Nm, .string Vl] 32)) := (Below.refl _ _).alloc (Nat.le_refl _) _
      have I0 := Lib.hid (Is.made wr 32 [.string Nm, .string Vl])
      have HB0 := Lib.hid hb0
      have M1 := Lib.hid (HM.out.below hb0)
      clear hNm hVl hbn hL hmem hbf hbk hb0 hf HM
      obtain ⟨gf, hgf⟩ : ∃ g, wr.heap.size = g := ⟨_, rfl⟩
      have HGF := Lib.hid hgf
      rw [hgf] at I0
      go_wp2_with fail
      clear hgf
      refine (CL.out _).mono ?_
      rintro e w2 ⟨rfl, b2⟩
      have I2 := Lib.hid (is_below I0.out b2)
      have M2 := Lib.hid (M1.out.below b2)
      have B2 := Lib.hid (HB.out.trans ((HB0.out.trans (b2.mono HB0.out.size)).mono HB.out.size))
      have HW2 := Lib.hid (show gf < w2.heap.size from I2.out.lt)
      clear b2 I0 M1 y0 y1 hat
      obtain ⟨gj, hgj⟩ : ∃ g, w2.heap.size = g := ⟨_, rfl⟩
      have HGJ := Lib.hid hgj
      cases hv : valK (ls.take k) (lowF f.1) with
      | none =>
        obtain ⟨hlook, jx⟩ := M2.out.look_none L (lowF f.1) HLB.out HLS.out hv
        have HPV := Lib.hid (show putV (valK (ls.take k) (lowF f.1)) f.2 = some ([] ++ f.2) by rw [hv]; rfl)
        have b3 : Below w2.heap.size w2 (w2.alloc (.cells #[.slice none 0 0] 46)) := (Below.refl _ _).alloc (Nat.le_refl _) _
        have I3 := Lib.hid (is_below I2.out b3)
        have J3 := Lib.hid (jx.below b3)
        have K3 := Lib.hid (Is.made w2 46 [.slice none 0 0])
        have B3 := Lib.hid (B2.out.trans (b3.mono B2.out.size))
        have hs3 : (w2.alloc (.cells #[.slice none 0 0] 46)).heap.size = w2.heap.size + 1 := by simp
        have HS3 := Lib.hid hs3
        rw [hgj] at K3
        clear jx b3 hs3 hv M2
        go_upto_region 9 with fail
        clear hgj
        obtain ⟨w3, hw3⟩ : ∃ w3, w2.alloc (.cells #[.slice none 0 0] 46) = w3 := ⟨_, rfl⟩
        rw [hw3] at I3 J3 K3 B3 HS3 ⊢
        clear hw3 hlook I2 B2
        obtain ⟨v4, w4, o4, hrun, own4, t4, ho4⟩ := run_add2 w3 (.slice none 0 0) none [] Vl (Own.nil _) (by have := HVS.out; simp; omega)
        rw [HVL.out] at own4
        obtain ⟨A4, c4, hv4, _⟩ := own4.src (fun _ => True) (fun _ _ => trivial)
        obtain ⟨q4, hq4⟩ : ∃ q, ([] ++ f.2).length = q := ⟨_, rfl⟩
        rw [hq4] at hv4
        subst hv4
        clear hq4
        have J4 := J3.out.turn t4 ho4 (by have := HS3.out; have := M0.out.lt; have := B3.out.size; have := HBM.out; omega)
        obtain ⟨w5, hput, j5, t5⟩ := J4.put (by unfold maxLen; omega) L HLB.out HLS.out (.slice A4 q4 c4) ([] ++ f.2) own4 f rfl HPV.out
        have HRU := Lib.hid hrun
        have J5 := Lib.hid j5
        have B4 : Below w.heap.size w w4 := B3.out.trans (t4.below (fun _ _ h => by cases h) |>.mono B3.out.size)
        have B5 := Lib.hid (show Below w.heap.size w w5 from B4.trans ⟨t5.os, t5.tape, t5.output, t5.size, fun b hb => t5.block b (by have := B4.size; omega) (by have := HBM.out; omega)⟩)
        have z0 : w3.cell? ⟨gj, 0, none⟩ = some (.slice none 0 0) := K3.out.cell 0
        have z1 : w3.cell? ⟨gf, 1, none⟩ = some (.string Vl) := I3.out.cell 1
        clear hrun own4 t4 ho4 J4 j5 t5 B4
        go_wp2_with (at_builtin; refine append_tx_by rfl (.tmp 33) (.tmp 35) 44 9 rfl _ _ (.slice A4 q4 c4) w4 rfl rfl HRU.out ?_)
        go_roundw
        case rel => exact ⟨k + 1, by go_num, hlt, by rw [HTK.out]; exact J5, B5⟩
        case measure => simp [intOf]; omega
      | some val =>
        obtain ⟨x, o, hlook, own, jx⟩ := M2.out.look_some L (lowF f.1) HLB.out HLS.out val hv
        have HPV := Lib.hid (show putV (valK (ls.take k) (lowF f.1)) f.2 = some (val ++ [44, 32] ++ f.2) by rw [hv]; rfl)
        have HVN := Lib.hid (HVB.out val hv)
        obtain ⟨Ax, cx, hx, _⟩ := own.src (fun _ => True) (fun _ _ => trivial)
        obtain ⟨qx, hqx⟩ : ∃ q, val.length = q := ⟨_, rfl⟩
        have HQX := Lib.hid hqx
        rw [hqx] at hx
        subst hx
        clear hqx
        have b3 : Below w2.heap.size w2 (w2.alloc (.cells #[.slice Ax qx cx] 46)) := (Below.refl _ _).alloc (Nat.le_refl _) _
        have I3 := Lib.hid (is_below I2.out b3)
        have JX := Lib.hid jx
        have K3 := Lib.hid (Is.made w2 46 [.slice Ax qx cx])
        have O3 := Lib.hid (own.kept (Turn.of_below (S := fun _ => False) b3) (fun _ _ h => h))
        have OL3 := Lib.hid (fun b (hb : o = some b) => own.lt b hb)
        have D3 := Lib.hid (b3)
        have hs3 : (w2.alloc (.cells #[.slice Ax qx cx] 46)).heap.size = w2.heap.size + 1 := by simp
        have HS3 := Lib.hid hs3
        have HLT := Lib.hid jx.lt
        rw [hgj] at K3
        clear jx b3 hs3 hv M2 own
        go_upto_region 8 with fail
        clear hgj
        obtain ⟨w3, hw3⟩ : ∃ w3, w2.alloc (.cells #[.slice Ax qx cx] 46) = w3 := ⟨_, rfl⟩
        rw [hw3] at I3 K3 D3 HS3 O3 ⊢
        clear hw3 hlook I2
        obtain ⟨v4, w4, o4, hrun, own4, t4, ho4⟩ := run_add2 w3 _ o val ⟨#[44, 32]⟩ O3.out (by have := HVN.out; rw [show (⟨#[44, 32]⟩ : ByteArray).size = 2 from rfl]; omega)
        rw [show bl ⟨#[44, 32]⟩ = [44, 32] from rfl] at own4
        obtain ⟨A4, c4, hv4, _⟩ := own4.src (fun _ => True) (fun _ _ => trivial)
        obtain ⟨q4, hq4⟩ : ∃ q, (val ++ [44, 32]).length = q := ⟨_, rfl⟩
        have hq4b : (val ++ [44, 32]).length ≤ 1000000002 := by have := HVN.out; simp; omega
        rw [hq4] at hv4
        subst hv4
        have hgj3 : gj < w3.heap.size := K3.out.lt
        have hbj : gj = w2.heap.size := HGJ.out.symm
        have hs32 := HS3.out
        have ngj : ∀ b, o = some b → b ≠ gj := fun b hb => by have := OL3.out b hb; omega
        have ngf : o ≠ some gf := own_ne O3.out I3.out (by decide)
        have K4 : Is w4 gj 46 [.slice Ax qx cx] := K3.out.kept t4 (fun e => ngj gj e rfl)
        have I4 : Is w4 gf 32 [.string Nm, .string Vl] := I3.out.kept t4 ngf
        have n4j : ∀ k, o4 = some k → ¬ k = gj := fun k hk e => by
          rcases ho4 k hk with h | h
          · exact ngj k h e
          · omega
        have t5 : Turn (fun k => k = gj) w4 (w4.setCell ⟨gj, 0, none⟩ (.slice A4 q4 c4)) := (Turn.refl (fun k => k = gj) w4).setCell (p := ⟨gj, 0, none⟩) (fun _ => rfl) _
        have own5 := own4.kept t5 n4j
        have K5 := K4.set 0 (.slice A4 q4 c4)
        have hgfj : ¬ gf = gj := by have := HW2.out; omega
        have I5 := I4.kept t5 hgfj
        have t25 : Turn (fun k => o = some k) w2 (w4.setCell ⟨gj, 0, none⟩ (.slice A4 q4 c4)) := ((Turn.of_below (S := fun k => o = some k) D3.out).trans t4 (fun _ _ h => h)).setCell (p := ⟨gj, 0, none⟩) (fun h => absurd (show gj < w2.heap.size from h) (by omega)) _
        have hbase : bm ≤ w2.heap.size := by have := HLT.out; omega
        have J5 := JX.out.turn t25 (o' := o4) (fun b hb => by
          rcases ho4 b hb with h | h
          · exact .inl h
          · exact .inr (by omega)) hbase
        have x4 : w4.cell? ⟨gj, 0, none⟩ = some (.slice Ax qx cx) := K4.cell 0
        have x4f := K4.free 0
        have x3 : w3.cell? ⟨gj, 0, none⟩ = some (.slice Ax qx cx) := K3.out.cell 0
        have HRU := Lib.hid hrun
        obtain ⟨w5, hw5⟩ : ∃ w5, w4.setCell ⟨gj, 0, none⟩ (.slice A4 q4 c4) = w5 := ⟨_, rfl⟩
        rw [hw5] at own5 K5 I5 t25 J5 t5
        obtain ⟨v6, w6, o6, hrun6, own6, t6, ho6⟩ := run_add2 w5 _ o4 (val ++ [44, 32]) Vl own5 (by have := HVS.out; omega)
        rw [HVL.out] at own6
        obtain ⟨A6, c6, hv6, _⟩ := own6.src (fun _ => True) (fun _ _ => trivial)
        obtain ⟨q6, hq6⟩ : ∃ q, (val ++ [44, 32] ++ f.2).length = q := ⟨_, rfl⟩
        rw [hq6] at hv6
        subst hv6
        have J6 := J5.turn t6 ho6 (Nat.le_trans hbase t25.size)
        obtain ⟨w7, hput, j7, t7⟩ := J6.put (by unfold maxLen; omega) L HLB.out HLS.out (.slice A6 q6 c6) (val ++ [44, 32] ++ f.2) own6 f rfl HPV.out
        have J7 := Lib.hid j7
        have hj5 := J5.own
        have t26 : Turn (fun k => o = some k ∨ o4 = some k) w2 w6 := (t25.mono (S' := fun k => o = some k ∨ o4 = some k) (fun _ _ h => .inl h)).trans t6 (fun _ _ h => .inr h)
        have t27 : Turn (fun k => (o = some k ∨ o4 = some k) ∨ k = bm) w2 w7 := (t26.mono (S' := fun k => (o = some k ∨ o4 = some k) ∨ k = bm) (fun _ _ h => .inl h)).trans t7 (fun _ _ h => .inr h)
        have hj2 := JX.out.own
        have hwb := HBM.out
        have B7 := Lib.hid (show Below w.heap.size w w7 from ⟨t27.os.trans B2.out.os, t27.tape.trans B2.out.tape, t27.output.trans B2.out.output, Nat.le_trans B2.out.size t27.size, fun b hb => (t27.block b (Nat.lt_of_lt_of_le hb B2.out.size) (by
          rintro ((h | h) | h)
          · have := hj2 b h; omega
          · have := hj5 b h; omega
          · omega)).trans (B2.out.block b hb)⟩)
        have z5 : w5.cell? ⟨gj, 0, none⟩ = some (.slice A4 q4 c4) := K5.cell 0
        have z6 : w5.cell? ⟨gf, 1, none⟩ = some (.string Vl) := I5.cell 1
        have HRU6 := Lib.hid hrun6
        have HPU := Lib.hid hput
        have HW5 := Lib.hid hw5
        clear hrun hrun6 own4 own5 own6 t4 t5 t6 t7 ho4 ho6 J5 J6 j7 K4 K5 I4 I5 t25 t26 t27 hj5 hj2 hwb n4j ngj ngf hgfj hbase hput hq4 hq4b hq6 hw5 hs32 hbj hgj3
        go_upto_region 9 with (at_builtin; refine append_tx_by rfl (.tmp 27) _ 44 9 rfl _ _ (.slice A4 q4 c4) w4 rfl rfl HRU.out ?_)
        rw [HW5.out]
        have hput := HPU.out
        go_wp2_with (at_builtin; refine append_tx_by rfl (.tmp 33) (.tmp 35) 44 9 rfl _ _ (.slice A6 q6 c6) w6 rfl rfl HRU6.out ?_)
        go_roundw
        case rel => exact ⟨k + 1, by go_num, hlt, by rw [HTK.out]; exact J7, B7⟩
        case measure => simp [intOf]; omega
    · have HQ := Lib.hid (show JoinAt wr bm bm k ls by
        have := HM.out
        rwa [List.take_of_length_le (by rw [HN.out]; omega)] at this)
      go_wp2_with fail
      go_ret
      exact ⟨bm, k, rfl, by rw [HBM.out]; exact HQ.out, by rw [HBM.out]; exact Nat.le_refl _, HB.out⟩
end Go.Proofs.YtbkpiadbgpnhlaaDoor.Var
