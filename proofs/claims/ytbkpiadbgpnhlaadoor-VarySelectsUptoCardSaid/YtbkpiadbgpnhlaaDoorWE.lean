/-
  Package vary's Select and Same.
  Conditions: the list holds at most 1000000000 bytes; at most 1000000000 names, each of at most 140737488351232 bytes.
-/
import Derived.Test.YtbkpiadbgpnhlaaDoorWD
import Derived.Laws.Rows
import Derived.Deep.QuietTactic
import Derived.BigQuiet
namespace Go.Proofs.YtbkpiadbgpnhlaaDoor.Var
open Go.RowKit Go.Maps Hop

set_option maxHeartbeats 8000000 in
set_option maxRecDepth 100000 in
theorem select_any {P P' : Nat → Prop} (w : World) (A A' : Option Addr) (names : List (List UInt8)) (ls : List Fld) (m n c' c : Nat) (hm : names.length = m) (hn : ls.length = n) (hmm : m ≤ 1000000000) (hnl : ∀ x ∈ names, x.length ≤ 140737488351232) (hb : bulkF ls ≤ 1000000000) (hs : SrcS w P' A' names) (h : SrcF w P A ls) :
    Calls Tryd.prog 14 #[.slice A' m c', .slice A n c] w (GotF (selF names ls) w) := by
  have HM := Lib.hid hm
  have HS := Lib.hid hs
  have HNL := Lib.hid hnl
  have HBK := Lib.hid hb
  have b1 : Below w.heap.size w (w.alloc (.cells #[.slice none 0 0] 22)) := (Below.refl _ _).alloc (Nat.le_refl _) _
  have I1 := Lib.hid (Is.made w 22 [.slice none 0 0])
  have HZ1 := Lib.hid (show (w.alloc (.cells #[.slice none 0 0] 22)).heap.size = w.heap.size + 1 by simp)
  have CJ := join_any _ A ls n c hn hb (h.below b1)
  have B1 := Lib.hid b1
  clear hm hs hnl hb hn h b1
  obtain ⟨gw, hgw⟩ : ∃ g, w.heap.size = g := ⟨_, rfl⟩
  have HGW := Lib.hid hgw
  rw [hgw] at I1
  go_enter Tryd.func14, Tryd.ntmps14
  go_wp2_with fail
  clear hgw
  refine CJ.mono ?_
  rintro e w2 ⟨bm, q, rfl, j2, hbm, b2⟩
  have I2 := is_below I1.out b2
  have B2 := B1.out.trans (b2.mono B1.out.size)
  have b3 : Below w2.heap.size w2 (w2.alloc (.cells #[.map (some bm)] 42)) := (Below.refl _ _).alloc (Nat.le_refl _) _
  have J3 := Lib.hid (j2.below b3)
  have I3 := Lib.hid (is_below I2 b3)
  have K3 := Lib.hid (Is.made w2 42 [.map (some bm)])
  have B3 := Lib.hid (B2.trans (b3.mono B2.size))
  have HBM := Lib.hid hbm
  have HZ2 := Lib.hid b2.size
  obtain ⟨ga, hga⟩ : ∃ g, w2.heap.size = g := ⟨_, rfl⟩
  have HGA := Lib.hid hga
  rw [hga] at K3
  clear j2 hbm b2 I2 B2 b3 CJ
  go_upto_region 4 with fail
  clear hga
  obtain ⟨w3, hw3⟩ : ∃ w3, w2.alloc (.cells #[.map (some bm)] 42) = w3 := ⟨_, rfl⟩
  rw [hw3] at J3 I3 K3 B3 ⊢
  clear hw3
  have O3 : Hid (OwnF w3 (.slice none 0 0) none (selF (names.take 0) ls)) := Lib.hid (OwnF.nil _)
  go_wp2_with fail
  go_loopw [15] (fun vi wr => ∃ (k : Nat) (v : Value) (o : Option Nat), vi = .int .i64 (k : Int) ∧ k ≤ m ∧ Hid (Is wr gw 22 [v]) ∧ Hid (OwnF wr v o (selF (names.take k) ls)) ∧ Hid (∀ b, o = some b → w3.heap.size ≤ b) ∧ Hid (Turn (fun b => b = gw) w3 wr)) (fun vi _ => m - (intOf vi).toNat)
  case atStart => exact ⟨0, _, none, rfl, Nat.zero_le _, I3, O3, Lib.hid (fun _ h => by cases h), Lib.hid (Turn.refl _ _)⟩
  case round =>
    obtain ⟨k, v, o, rfl, hk, HI, HO, HOB, HT⟩ := hrel
    have hbw : Below w.heap.size w wr := ⟨HT.out.os.trans B3.out.os, HT.out.tape.trans B3.out.tape, HT.out.output.trans B3.out.output, Nat.le_trans B3.out.size HT.out.size, fun b hb => (HT.out.block b (Nat.lt_of_lt_of_le hb B3.out.size) (by have := HGW.out; omega)).trans (B3.out.block b hb)⟩
    by_cases hlt : k < m
    · obtain ⟨p, x, hx, hat, y, _, _⟩ := HS.out.at (c := c') HM.out hlt hbw
      have hxl := HNL.out x (List.mem_of_getElem? hx)
      have HTK := Lib.hid (sel_snoc names k x ls hx)
      obtain ⟨Xs, hXs⟩ : ∃ X : ByteArray, X = ⟨x.toArray⟩ := ⟨_, rfl⟩
      have hbx : bl Xs = x := by rw [hXs, bl_mk]
      rw [← hXs] at y
      have z1 := HZ1.out
      have z2 := HZ2.out
      have z3 := HGW.out
      have z4 := HGA.out
      have z5 := HBM.out
      have CG := gather_any Xs ga gw bm _ q v o (selF (names.take k) ls) ls wr (by rw [← bl_length, hbx]; exact hxl) HBK.out ((K3.out.kept HT.out (by omega)).cell 0) (J3.out.kept HT.out (fun b hb e => by omega) z5) HI.out HO.out (fun b hb => by have := HOB.out b hb; have := I3.out.lt; omega) (by
        have h1 := sel_len ls (names.take k)
        rw [List.length_take] at h1
        omega)
      rw [hbx] at CG
      clear hXs hbx hx hxl z1 z2 z3 z4 z5
      go_wp2_with fail
      refine CG.mono ?_
      rintro e w5 ⟨rfl, v5, o5, i5, own5, t5, ho5⟩
      have I5 := Lib.hid i5
      have O5 : Hid (OwnF w5 v5 o5 (selF (names.take (k + 1)) ls)) := Lib.hid (by rw [HTK.out]; exact own5)
      have T5 : Hid (Turn (fun b => b = gw) w3 w5) := Lib.hid ⟨t5.os.trans HT.out.os, t5.tape.trans HT.out.tape, t5.output.trans HT.out.output, Nat.le_trans HT.out.size t5.size, fun b hb hn => (t5.block b (Nat.lt_of_lt_of_le hb HT.out.size) (by
        rintro (h | h)
        · exact hn h
        · have := HOB.out b h; omega)).trans (HT.out.block b hb hn)⟩
      have OB5 : Hid (∀ b, o5 = some b → w3.heap.size ≤ b) := Lib.hid (fun b hb => by
        rcases ho5 b hb with h | h
        · exact HOB.out b h
        · exact Nat.le_trans HT.out.size h)
      clear i5 own5 t5 ho5 CG
      go_wp2_with fail
      go_roundw
      case rel => exact ⟨k + 1, v5, o5, by go_num, hlt, I5, O5, OB5, T5⟩
      case measure => simp [intOf]; omega
    · have HQ := Lib.hid (show names.take k = names from List.take_of_length_le (by rw [HM.out]; omega))
      have HBW := Lib.hid hbw
      have y0 := HI.out.cell 0
      have HO2 := HO.out
      rw [HQ.out] at HO2
      have HO3 := Lib.hid HO2
      clear HO2 hbw
      go_wp2_with fail
      go_ret
      exact ⟨v, o, rfl, HO3.out, fun b hb => Nat.le_trans B3.out.size (HOB.out b hb), HBW.out⟩
end Go.Proofs.YtbkpiadbgpnhlaaDoor.Var
