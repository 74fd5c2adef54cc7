/-
  The law HopStrips: walk.
  Conditions: what the arguments read as; the list and the field hold at most 100000000 bytes.
-/
import Derived.Test.YtinibacmhmmcdaaDoorVY
import Derived.Test.YtinibacmhmmcdaaDoorUC
namespace Go.Proofs.YtinibacmhmmcdaaDoor.Hop
open Go.RowKit

theorem kept_len (nl : List (List UInt8)) (ls : List Fld) (k : Nat) (f : Fld) (h : ls[k]? = some f) : ((ls.take (k + 1)).filter (fun f => !goneF nl f)).length = ((ls.take k).filter (fun f => !goneF nl f)).length + (if goneF nl f = true then 0 else 1) := by
  rw [take_snoc ls k f h, List.filter_append, List.length_append]
  congr 1
  cases hg : goneF nl f <;> simp [hg]
theorem srcf_turned {w w' : World} {P S : Nat → Prop} {A : Option Addr} {ls : List Fld} (h : SrcF w P A ls) (ht : Turn S w w') (hS : ∀ k, P k → ¬ S k) : SrcF w' P A ls := fun h0 => by
  obtain ⟨ad, h1, h2, h3, h4⟩ := h h0
  refine ⟨ad, h1, h2, Nat.lt_of_lt_of_le h3 ht.size, fun i f hf => ?_⟩
  obtain ⟨c1, c2⟩ := h4 i f hf
  have hb : ∀ j, (ad.add j).block = ad.block := fun j => by unfold Addr.add; split <;> rfl
  exact ⟨(ht.cell (p := ad.add (i * 2)) (by rw [hb]; exact h3) (by rw [hb]; exact hS _ h2)).trans c1, (ht.cell (p := ad.add (i * 2 + 1)) (by rw [hb]; exact h3) (by rw [hb]; exact hS _ h2)).trans c2⟩
/-- What is kept stands where it should. -/
theorem filter_at {α : Type} (p : α → Bool) (l : List α) (i : Nat) (x : α) (h : l[i]? = some x) (hp : p x = true) : (l.filter p)[((l.take i).filter p).length]? = some x := by
  have hl : l = l.take i ++ x :: l.drop (i + 1) := by
    have hi := (List.getElem?_eq_some_iff.1 h)
    obtain ⟨hi, e⟩ := hi
    rw [← e, ← List.drop_eq_getElem_cons hi, List.take_append_drop]
  conv => lhs; arg 1; rw [hl]
  rw [List.filter_append, List.getElem?_append_right (Nat.le_refl _), Nat.sub_self, List.filter_cons, if_pos hp]
  rfl

set_option maxHeartbeats 32000000 in
set_option maxRecDepth 100000 in
theorem strips_law {P : Nat → Prop} (w : World) (A : Option Addr) (ls : List Fld) (n c : Nat) (hn : ls.length = n) (hb : bulkF ls ≤ 100000000) (h : SrcF w P A ls) (f1 f2 : ByteArray) (hf1 : f1.size ≤ 100000000) (hf2 : f2.size ≤ 100000000) :
    Calls Tryd.prog 4 #[.slice A n c, .agg #[.string f1, .string f2]] w fun e w' => e = .returned (.bool true) ∧ Below w.heap.size w w' := by
  have hlen := bulk_len ls
  have hfb : bulkF [(bl f1, bl f2), ([99, 79, 78, 78, 69, 67, 84, 73, 79, 78], bl f1)] ≤ 400000100 := by
    rw [show bulkF [(bl f1, bl f2), ([99, 79, 78, 78, 69, 67, 84, 73, 79, 78], bl f1)] = (bl f1).length + (bl f2).length + 3 + (10 + (bl f1).length + 3 + 0) from rfl, bl_length, bl_length]
    omega
  have HBM := Lib.hid (show bulkF (ls ++ [(bl f1, bl f2), ([99, 79, 78, 78, 69, 67, 84, 73, 79, 78], bl f1)]) ≤ 1000000000 by rw [bulk_app]; omega)
  have HNM := Lib.hid (show (ls ++ [(bl f1, bl f2), ([99, 79, 78, 78, 69, 67, 84, 73, 79, 78], bl f1)]).length = n + 2 by simp [hn])
  have HB := Lib.hid (show bulkF ls ≤ 1000000000 by omega)
  have HN := Lib.hid hn
  have HNL : n ≤ 100000000 := by omega
  have HF1 := Lib.hid hf1
  have HSB := Lib.hid (show bulkF (stripF ls) ≤ 1000000000 by have := bulk_strip ls; omega)
  have hsn : (stripF ls).length ≤ 100000000 := by have := strip_len ls; omega
  have hqn : (namesF ls).length ≤ 100000009 := by have := names_len ls; omega
  have HNP := Lib.hid (show ∀ x ∈ namesF ls, x.length ≤ 1000000000 from fun x hx => by have := names_part ls x hx; omega)
  have HEL := Lib.hid (show (elemF ls conN).length ≤ 100000000 by have := elem_bulk conN ls; omega)
  have HEP := Lib.hid (show ∀ x ∈ elemF ls conN, x.length ≤ 1000000000 from fun x hx => Nat.le_trans (elem_part hx) (by omega))
  have HNF := Lib.hid (show namesF ls = hopN ++ (elemF ls conN).filter (fun x => !forF x) from rfl)
  have HGD := Lib.hid (show ∀ nm ∈ namesF ls, getF (stripF ls) nm = [] from fun nm hnm => get_drop ls (namesF ls) nm hnm)
  have HDR := Lib.hid (show stripF ls = ls.filter (fun f => !goneF (namesF ls) f) from rfl)
  have HST := Lib.hid (strip_twice ls)
  have HC0 := Lib.hid (show closesF 0 (stripF ls) = true by rw [strip_closes]; rfl)
  have HC1 := Lib.hid (show closesF 1 (stripF ls) = false by rw [strip_closes]; rfl)
  have HM1 := Lib.hid (strip_more_for ls (bl f1, bl f2) [99, 79, 78, 78, 69, 67, 84, 73, 79, 78] (by decide))
  have HM2 := Lib.hid (strip_more_not ls (bl f1, bl f2) [99, 79, 78, 78, 69, 67, 84, 73, 79, 78] (by decide))
  have CS := Lib.hid (fun (X : World) (hX : Below w.heap.size w X) => strip_any X A ls n c hn (by omega) (h.below hX))
  have CE := Lib.hid (fun (X : World) (hX : Below w.heap.size w X) => elem_any X A ls n c hn (by omega) (h.below hX) ⟨#[67, 111, 110, 110, 101, 99, 116, 105, 111, 110]⟩)
  rw [show bl ⟨#[67, 111, 110, 110, 101, 99, 116, 105, 111, 110]⟩ = [67, 111, 110, 110, 101, 99, 116, 105, 111, 110] from rfl, elem_low ls [67, 111, 110, 110, 101, 99, 116, 105, 111, 110] conN (by decide)] at CE
  have L0 := Lib.hid h
  simp only at HM1 HM2
  generalize stripF ls = sl at *
  generalize namesF ls = nl at *
  generalize elemF ls conN = es at *
  have hbw : Below w.heap.size w (w.alloc (.cells #[.string f1, .string f2] 32)) := (Below.refl _ _).alloc (Nat.le_refl _) _
  have X1 := Lib.hid hbw
  have F1 := Lib.hid (Is.made w 32 [.string f1, .string f2])
  obtain ⟨gf, hgf⟩ : ∃ gf, w.heap.size = gf := ⟨_, rfl⟩
  have HGF := Lib.hid hgf
  rw [hgf] at F1
  clear hlen hfb hn hb h hf1 hf2 hbw hgf
  go_enter Tryd.func4, Tryd.ntmps4
  have hgf := HGF.out
  go_wp2_with fail
  clear hgf
  obtain ⟨w1, hw1⟩ : ∃ w1, w.alloc (.cells #[.string f1, .string f2] 32) = w1 := ⟨_, rfl⟩
  rw [hw1] at X1 F1 ⊢
  clear hw1
  refine (CS.out w1 X1.out).mono ?_
  rintro e w2 ⟨v2, o2, rfl, own2, _, b⟩
  obtain ⟨A2, c2, hv2, src2⟩ := own2.src (fun _ => True) (fun _ _ => trivial)
  obtain ⟨sn, hsln⟩ : ∃ sn, sl.length = sn := ⟨_, rfl⟩
  rw [hsln] at hv2 hsn
  subst hv2
  have HSN := Lib.hid hsln
  have S2 := Lib.hid src2
  have X2 := Lib.hid (X1.out.trans (b.mono X1.out.size))
  have L2 := Lib.hid (L0.out.below X2.out)
  have F2 := Lib.hid (F1.out.kept (Turn.of_below (S := fun _ => False) b) (fun h => h))
  clear own2 src2 b X1 F1 hsln CS L0
  have b3 := (Below.refl w2.heap.size w2).alloc (Nat.le_refl _) (.cells #[.string ⟨#[99, 111, 110, 110, 101, 99, 116, 105, 111, 110]⟩, .string ⟨#[107, 101, 101, 112, 45, 97, 108, 105, 118, 101]⟩, .string ⟨#[112, 114, 111, 120, 121, 45, 99, 111, 110, 110, 101, 99, 116, 105, 111, 110]⟩, .string ⟨#[112, 114, 111, 120, 121, 45, 97, 117, 116, 104, 101, 110, 116, 105, 99, 97, 116, 101]⟩, .string ⟨#[112, 114, 111, 120, 121, 45, 97, 117, 116, 104, 111, 114, 105, 122, 97, 116, 105, 111, 110]⟩, .string ⟨#[116, 101]⟩, .string ⟨#[116, 114, 97, 105, 108, 101, 114]⟩, .string ⟨#[116, 114, 97, 110, 115, 102, 101, 114, 45, 101, 110, 99, 111, 100, 105, 110, 103]⟩, .string ⟨#[117, 112, 103, 114, 97, 100, 101]⟩] 9)
  have own3 := row_ownS (w := w2.alloc (.cells #[.string ⟨#[99, 111, 110, 110, 101, 99, 116, 105, 111, 110]⟩, .string ⟨#[107, 101, 101, 112, 45, 97, 108, 105, 118, 101]⟩, .string ⟨#[112, 114, 111, 120, 121, 45, 99, 111, 110, 110, 101, 99, 116, 105, 111, 110]⟩, .string ⟨#[112, 114, 111, 120, 121, 45, 97, 117, 116, 104, 101, 110, 116, 105, 99, 97, 116, 101]⟩, .string ⟨#[112, 114, 111, 120, 121, 45, 97, 117, 116, 104, 111, 114, 105, 122, 97, 116, 105, 111, 110]⟩, .string ⟨#[116, 101]⟩, .string ⟨#[116, 114, 97, 105, 108, 101, 114]⟩, .string ⟨#[116, 114, 97, 110, 115, 102, 101, 114, 45, 101, 110, 99, 111, 100, 105, 110, 103]⟩, .string ⟨#[117, 112, 103, 114, 97, 100, 101]⟩] 9)) (g := w2.heap.size) (c := 9) (cur := strs hopN) (ls := hopN) (Is.made w2 9 (strs hopN)) (by decide) (by decide) (by decide) rfl
  rw [show hopN.length = 9 from rfl] at own3
  have O3 := Lib.hid own3
  have B3 := Lib.hid b3
  have C := CE.out (w2.alloc (.cells #[.string ⟨#[99, 111, 110, 110, 101, 99, 116, 105, 111, 110]⟩, .string ⟨#[107, 101, 101, 112, 45, 97, 108, 105, 118, 101]⟩, .string ⟨#[112, 114, 111, 120, 121, 45, 99, 111, 110, 110, 101, 99, 116, 105, 111, 110]⟩, .string ⟨#[112, 114, 111, 120, 121, 45, 97, 117, 116, 104, 101, 110, 116, 105, 99, 97, 116, 101]⟩, .string ⟨#[112, 114, 111, 120, 121, 45, 97, 117, 116, 104, 111, 114, 105, 122, 97, 116, 105, 111, 110]⟩, .string ⟨#[116, 101]⟩, .string ⟨#[116, 114, 97, 105, 108, 101, 114]⟩, .string ⟨#[116, 114, 97, 110, 115, 102, 101, 114, 45, 101, 110, 99, 111, 100, 105, 110, 103]⟩, .string ⟨#[117, 112, 103, 114, 97, 100, 101]⟩] 9)) (X2.out.trans (b3.mono X2.out.size))
  have HZ3 := Lib.hid (show (w2.alloc (.cells #[.string ⟨#[99, 111, 110, 110, 101, 99, 116, 105, 111, 110]⟩, .string ⟨#[107, 101, 101, 112, 45, 97, 108, 105, 118, 101]⟩, .string ⟨#[112, 114, 111, 120, 121, 45, 99, 111, 110, 110, 101, 99, 116, 105, 111, 110]⟩, .string ⟨#[112, 114, 111, 120, 121, 45, 97, 117, 116, 104, 101, 110, 116, 105, 99, 97, 116, 101]⟩, .string ⟨#[112, 114, 111, 120, 121, 45, 97, 117, 116, 104, 111, 114, 105, 122, 97, 116, 105, 111, 110]⟩, .string ⟨#[116, 101]⟩, .string ⟨#[116, 114, 97, 105, 108, 101, 114]⟩, .string ⟨#[116, 114, 97, 110, 115, 102, 101, 114, 45, 101, 110, 99, 111, 100, 105, 110, 103]⟩, .string ⟨#[117, 112, 103, 114, 97, 100, 101]⟩] 9)).heap.size = w2.heap.size + 1 by simp)
  clear own3 b3 CE
  go_wp2_with fail
  refine C.mono ?_
  rintro e w4 ⟨v4, o4, rfl, own4, ob4, b⟩
  obtain ⟨gn, hgn⟩ : ∃ gn, w2.heap.size = gn := ⟨_, rfl⟩
  obtain ⟨A4, c4, hv4, src4⟩ := own4.src (fun b => ¬ b = gn) (fun k hk e => by
    have := ob4 k hk
    rw [HZ3.out] at this
    omega)
  obtain ⟨m, hm⟩ : ∃ m, es.length = m := ⟨_, rfl⟩
  rw [hm] at hv4
  subst hv4
  have E4 := Lib.hid src4
  have B4 := Lib.hid (B3.out.trans (b.mono B3.out.size))
  have O4 := Lib.hid (O3.out.kept (Turn.of_below (S := fun _ => False) b) (fun _ _ h => h))
  rw [hgn] at O4
  have HGN := Lib.hid hgn
  have HM := Lib.hid hm
  have hmle : m ≤ 100000000 := by rw [← hm]; exact HEL.out
  clear own4 src4 b C O3 B3 HZ3 ob4 hm
  go_wp2_with fail
  clear hgn
  go_loopw [6, 8] (fun v vi wr => ∃ (k : Nat) (o : Option Nat) (r : List (List UInt8)), vi = .int .i64 (k : Int) ∧ k ≤ m ∧ Hid (hopN ++ (es.take k).filter (fun x => !forF x) = r) ∧ Hid (OwnS wr v o r) ∧ Hid (∀ b, o = some b → b = gn ∨ w4.heap.size ≤ b) ∧ Hid (Turn (fun b => b = gn) w4 wr)) (fun _ vi _ => m - (intOf vi).toNat)
  case atStart => exact ⟨0, some gn, hopN, rfl, Nat.zero_le _, Lib.hid (by simp), O4, Lib.hid (fun b h => by injection h with h; exact .inl h.symm), Lib.hid (Turn.refl _ _)⟩
  case round =>
    obtain ⟨k, o, r, rfl, hk, HR, HO, HOB, HT⟩ := hrel
    by_cases hlt : k < m
    · obtain ⟨p, x, hx, hat, y0, _, _⟩ := (srcs_kept E4.out HT.out (fun _ h => h)).at (c := c4) HM.out hlt (Below.refl _ _)
      have sx := HEP.out x (List.mem_of_getElem? hx)
      have HTK := Lib.hid (show hopN ++ (es.take (k + 1)).filter (fun x => !forF x) = r ++ (if forF x = true then [] else [x]) by rw [names_snoc es k x hx, ← List.append_assoc, HR.out])
      have HRL := Lib.hid (show r.length ≤ 9 + k by
        rw [← HR.out, List.length_append, show hopN.length = 9 from rfl]
        have := List.length_filter_le (fun x => !forF x) (es.take k)
        rw [List.length_take] at this
        omega)
      obtain ⟨Xs, hXs⟩ : ∃ Xs : ByteArray, Xs = ⟨x.toArray⟩ := ⟨_, rfl⟩
      have hbx : bl Xs = x := by rw [hXs, bl_mk]
      have CF := Lib.hid (fun W : World => forall_any Xs W)
      rw [hbx] at CF
      have HX := Lib.hid hXs
      rw [← hXs] at y0
      clear hXs hbx hx sx
      cases hf : forF x with
      | true =>
        rw [hf] at CF HTK
        clear hf
        go_wp2_with fail
        refine (CF.out _).mono ?_
        rintro e w5 ⟨rfl, b5⟩
        have T5 := Lib.hid (HT.out.trans (Turn.of_below (S := fun _ => False) b5) (fun _ _ h => h.elim))
        have O5 := Lib.hid (HO.out.kept (Turn.of_below (S := fun _ => False) b5) (fun _ _ h => h))
        clear b5
        go_wp2_with fail
        go_roundw
        case rel => exact ⟨k + 1, o, r, by go_num, hlt, Lib.hid (by rw [HTK.out]; simp), O5, HOB, T5⟩
        case measure => simp [intOf]; omega
      | false =>
        rw [hf] at CF HTK
        clear hf
        go_wp2_with fail
        refine (CF.out _).mono ?_
        rintro e w5 ⟨rfl, b5⟩
        have T5 := Lib.hid (HT.out.trans (Turn.of_below (S := fun _ => False) b5) (fun _ _ h => h.elim))
        have O5 := Lib.hid (HO.out.kept (Turn.of_below (S := fun _ => False) b5) (fun _ _ h => h))
        have y5 := (b5.cell (Lib.lt_of_cell y0)).trans y0
        obtain ⟨v', w', o', hrun, own', t', ho'⟩ := run_push_str w5 _ o r x O5.out (by have := HRL.out; omega)
        rw [← HX.out] at hrun
        have HR5 := Lib.hid hrun
        have OO := Lib.hid own'
        have OB := Lib.hid (show ∀ b, o' = some b → b = gn ∨ w4.heap.size ≤ b from fun b hb => by
          rcases ho' b hb with h | h
          · exact HOB.out b h
          · right; have := T5.out.size; omega)
        have T6 := Lib.hid (T5.out.trans t' (fun b hb hS => by
          rcases HOB.out b hS with h | h
          · exact h
          · omega))
        clear hrun own' t' ho' b5 y0
        go_wp2_with (at_builtin; refine append_by rfl (.tmp 32) (.tmp 37) 25 rfl _ _ v' w' rfl rfl HR5.out ?_)
        go_roundw
        case rel => exact ⟨k + 1, o', r ++ [x], by go_num, hlt, Lib.hid (by rw [HTK.out]; simp), OO, OB, T6⟩
        case measure => simp [intOf]; omega
    · have HQ := Lib.hid (show nl = r by rw [HNF.out, ← HR.out, List.take_of_length_le (by rw [HM.out]; omega)])
      obtain ⟨A5, c5, hv5, src5⟩ := HO.out.src (fun _ => True) (fun _ _ => trivial)
      rw [← HQ.out] at src5 hv5
      subst hv5
      obtain ⟨q, hq⟩ : ∃ q, nl.length = q := ⟨_, rfl⟩
      have HQN := Lib.hid hq
      rw [hq] at hqn ⊢
      clear hq HQ
      have b25 : Below w2.heap.size w2 wr := B4.out.trans ⟨HT.out.os, HT.out.tape, HT.out.output, HT.out.size, fun b hb => HT.out.block b (by have := B4.out.size; omega) (by have := HGN.out; omega)⟩
      have S5 := Lib.hid (S2.out.below b25)
      have L5 := Lib.hid (L2.out.below b25)
      have F5 := Lib.hid (F2.out.kept (Turn.of_below (S := fun _ => False) b25) (fun h => h))
      have X5 := Lib.hid (X2.out.trans (b25.mono X2.out.size))
      have N5 := Lib.hid src5
      clear src5 b25 S2 L2 F2 X2 HR HO HOB HT E4 B4 O4 HM hmle HNF HEL HEP
      obtain ⟨w5, rfl⟩ : ∃ w5, w5 = wr := ⟨_, rfl⟩
      go_wp2_with fail
      clear hk hlt
      go_loopw [9] (fun vi wr => ∃ k : Nat, vi = .int .i64 (k : Int) ∧ k ≤ q ∧ Hid (Below w5.heap.size w5 wr)) (fun vi _ => q - (intOf vi).toNat)
      case atStart => exact ⟨0, rfl, Nat.zero_le _, Lib.hid (Below.refl _ _)⟩
      case round =>
        obtain ⟨k2, rfl, hk, HX⟩ := hrel
        by_cases hlt : k2 < q
        · obtain ⟨p, x, hx, hat, y0, _, _⟩ := N5.out.at (c := c5) HQN.out hlt HX.out
          have hmem := List.mem_of_getElem? hx
          obtain ⟨Xs, hXs⟩ : ∃ Xs : ByteArray, Xs = ⟨x.toArray⟩ := ⟨_, rfl⟩
          have hbx : bl Xs = x := by rw [hXs, bl_mk]
          have CG := Lib.hid (get_any wr A2 sl sn c2 HSN.out (by omega) (S5.out.below HX.out) (slim_bulk HSB.out) Xs)
          rw [hbx, HGD.out x hmem] at CG
          unfold GotS at CG
          rw [← hXs] at y0
          clear hXs hbx hx hmem
          go_wp2_with fail
          refine CG.out.mono ?_
          rintro e w6 ⟨v6, o6, rfl, own6, _, b6⟩
          obtain ⟨A6, c6, hv6, _⟩ := own6.src (fun _ => True) (fun _ _ => trivial)
          rw [List.length_nil] at hv6
          subst hv6
          have B6 := Lib.hid (HX.out.trans (b6.mono HX.out.size))
          clear own6 b6 y0
          go_wp2_with fail
          go_roundw
          case rel => exact ⟨k2 + 1, by go_num, hlt, B6⟩
          case measure => simp [intOf]; omega
        · have b57 := HX.out
          have S7 := Lib.hid (S5.out.below b57)
          have L7 := Lib.hid (L5.out.below b57)
          have N7 := Lib.hid (N5.out.below b57)
          have F7 := Lib.hid (F5.out.kept (Turn.of_below (S := fun _ => False) b57) (fun h => h))
          have X7 := Lib.hid (X5.out.trans (b57.mono X5.out.size))
          clear b57 HX S5 L5 N5 F5 X5 HGD
          obtain ⟨w7, rfl⟩ : ∃ w7, w7 = wr := ⟨_, rfl⟩
          go_wp2_with fail
          clear hk hlt
          go_loopw [10, 11] (fun vk vi wr => ∃ kk k : Nat, vk = .int .i64 (kk : Int) ∧ vi = .int .i64 (k : Int) ∧ k ≤ n ∧ kk ≤ k ∧ Hid (kk = ((ls.take k).filter (fun f => !goneF nl f)).length) ∧ Hid (Below w7.heap.size w7 wr)) (fun _ vi _ => n - (intOf vi).toNat)
          case atStart => exact ⟨0, 0, rfl, rfl, Nat.zero_le _, Nat.le_refl _, Lib.hid rfl, Lib.hid (Below.refl _ _)⟩
          case round =>
            obtain ⟨kk, k3, rfl, rfl, hk, hkk, HKK, HX⟩ := hrel
            obtain ⟨wo, rfl⟩ : ∃ wo, wo = wr := ⟨_, rfl⟩
            by_cases hlt : k3 < n
            · obtain ⟨f, hf⟩ : ∃ f, ls[k3]? = some f := ⟨ls[k3]'(by rw [HN.out]; exact hlt), List.getElem?_eq_getElem _⟩
              have HF := Lib.hid hf
              have HTK := Lib.hid (show ((ls.take (k3 + 1)).filter (fun f => !goneF nl f)).length = kk + (if goneF nl f = true then 0 else 1) by rw [kept_len nl ls k3 f hf, ← HKK.out])
              have HAT := Lib.hid (fun hg => filter_at (fun f => !goneF nl f) ls k3 f hf hg)
              rw [← HKK.out, ← HDR.out] at HAT
              clear hf
              go_wp2_with fail
              go_loopw [12, 13] (fun vb vj wr => ∃ (j : Nat) (b : Bool), vb = .bool b ∧ vj = .int .i64 (j : Int) ∧ j ≤ q ∧ Hid (goneF (nl.take j) f = b) ∧ Hid (Below wo.heap.size wo wr)) (fun _ vj _ => q - (intOf vj).toNat)
              case atStart => exact ⟨0, false, rfl, rfl, Nat.zero_le _, Lib.hid rfl, Lib.hid (Below.refl _ _)⟩
              case round =>
                obtain ⟨j, b, rfl, rfl, hj, HG, HI⟩ := hrel
                have HBI := Lib.hid (HX.out.trans (HI.out.mono HX.out.size))
                by_cases hjq : j < q
                · obtain ⟨p', x, hx, hat', y2, _, _⟩ := N7.out.at (c := c5) HQN.out hjq HBI.out
                  have HGS := Lib.hid (show goneF (nl.take (j + 1)) f = (b || (lowF x == lowF f.1)) by rw [take_snoc nl j x hx, gone_snoc, HG.out, show (lowF f.1 == lowF x) = (lowF x == lowF f.1) from Bool.beq_comm])
                  clear hx
                  cases b
                  · obtain ⟨p, f', hf', hat, y0, _, _, _⟩ := L7.out.at (c := c) HN.out hlt HBI.out
                    obtain rfl : f' = f := Option.some.inj (hf'.symm.trans HF.out)
                    obtain ⟨Nm, hNm⟩ : ∃ Nm : ByteArray, Nm = ⟨f'.1.toArray⟩ := ⟨_, rfl⟩
                    obtain ⟨Xs, hXs⟩ : ∃ Xs : ByteArray, Xs = ⟨x.toArray⟩ := ⟨_, rfl⟩
                    have b1 : f'.1 = bl Nm := by rw [hNm, bl_mk]
                    have b2 : x = bl Xs := by rw [hXs, bl_mk]
                    rw [← hNm] at y0
                    rw [← hXs] at y2
                    rw [b1, b2] at HGS
                    have CS := Lib.hid (fun X : World => ty_same Xs Nm X)
                    clear hNm hXs hf' b1 b2
                    generalize (lowF (bl Xs) == lowF (bl Nm)) = b at *
                    have BD : Hid (Below wo.heap.size wo wr.drew) := Lib.hid (drew_below HI.out)
                    go_wp2_with fail
                    go_region_held3 (fun w' => w'.cell? p = some (.string Nm) ∧ w'.cell? p' = some (.string Xs)) (first | exact ⟨z0, z2⟩ | go_keep)
                      (first
                        | (go_at_call 24; (with_reducible refine (CS.out wr.drew).mono ?_); rintro e w5 ⟨rfl, b5⟩; have z0 : w5.cell? p = some (.string Nm) := (b5.cell (Lib.lt_of_cell (w := wr.drew) y0)).trans y0; have z2 : w5.cell? p' = some (.string Xs) := (b5.cell (Lib.lt_of_cell (w := wr.drew) y2)).trans y2; have B5 := Lib.hid (BD.out.trans (b5.mono BD.out.size)); clear b5))
                    go_wp2_with fail
                    go_roundw
                    case rel => exact ⟨j + 1, b, rfl, by go_num, hjq, Lib.hid (by rw [HGS.out]; simp), B5⟩
                    case measure => simp [intOf]; omega
                  · clear y2 hat'
                    go_wp2_with fail
                    go_quiet (fail)
                    go_wp2_with fail
                    go_roundw
                    case rel => exact ⟨j + 1, true, rfl, by go_num, hjq, Lib.hid (by rw [HGS.out]; simp), Lib.hid (HI.out.trans ((quiet_below ⟨nq, rfl⟩).mono HI.out.size))⟩
                    case measure => simp [intOf]; omega
                · have HGB := Lib.hid (show goneF nl f = b by rw [← HG.out, List.take_of_length_le (by rw [HQN.out]; omega)])
                  cases b
                  · have hsk := HAT.out (by rw [HGB.out]; rfl)
                    have hks : kk < sn := by
                      have := (List.getElem?_eq_some_iff.1 hsk).1
                      rw [HSN.out] at this
                      exact this
                    obtain ⟨p, f', hf', hat, y0, y1, _, _⟩ := L7.out.at (c := c) HN.out hlt HBI.out
                    obtain rfl : f' = f := Option.some.inj (hf'.symm.trans HF.out)
                    obtain ⟨p', f'', hf'', hat', y0', y1', _, _⟩ := S7.out.at (c := c2) HSN.out hks HBI.out
                    obtain rfl : f'' = f' := Option.some.inj (hf''.symm.trans hsk)
                    have HNX := Lib.hid (show ((ls.take (k3 + 1)).filter (fun f => !goneF nl f)).length = kk + 1 by rw [HTK.out, HGB.out]; rfl)
                    obtain ⟨Nm, hNm⟩ : ∃ Nm : ByteArray, Nm = ⟨f''.1.toArray⟩ := ⟨_, rfl⟩
                    obtain ⟨Vl, hVl⟩ : ∃ Vl : ByteArray, Vl = ⟨f''.2.toArray⟩ := ⟨_, rfl⟩
                    rw [← hNm] at y0 y0'
                    rw [← hVl] at y1 y1'
                    have hg := fldGuard
                    have hq := run_neq_fld Nm Vl Nm Vl
                    rw [show (!(Nm.toList == Nm.toList && Vl.toList == Vl.toList)) = false by simp] at hq
                    clear hNm hVl hf' hf'' hsk HTK HGB HG
                    go_wp2_with fail
                    go_quiet (fail)
                    go_wp2_with fail
                    go_roundw
                    case rel => exact ⟨kk + 1, k3 + 1, by go_num, by go_num, hlt, by omega, Lib.hid HNX.out.symm, Lib.hid (HBI.out.trans ((quiet_below ⟨nq, rfl⟩).mono HBI.out.size))⟩
                    case measure => simp [intOf]; omega
                  · have HNX := Lib.hid (show ((ls.take (k3 + 1)).filter (fun f => !goneF nl f)).length = kk by rw [HTK.out, HGB.out]; rfl)
                    clear HTK HGB HG
                    go_wp2_with fail
                    go_roundw
                    case rel => exact ⟨kk, k3 + 1, rfl, by go_num, hlt, by omega, Lib.hid HNX.out.symm, HBI⟩
                    case measure => simp [intOf]; omega
            · have hks : kk = sn := by rw [HKK.out, List.take_of_length_le (by rw [HN.out]; omega), ← HDR.out, HSN.out]
              have em : ((kk : Int) != (sn : Int)) = false := by rw [hks]; simp
              have b78 := HX.out
              have S8 := Lib.hid (S7.out.below b78)
              have L8 := Lib.hid (L7.out.below b78)
              have F8 := Lib.hid (F7.out.kept (Turn.of_below (S := fun _ => False) b78) (fun h => h))
              have B8 := Lib.hid (X7.out.trans (b78.mono X7.out.size))
              clear b78 HX S7 L7 N7 F7 X7 HKK HDR hks hk HQN
              obtain ⟨w8, rfl⟩ : ∃ w8, w8 = wo := ⟨_, rfl⟩
              have C := strip_any w8 A2 sl sn c2 HSN.out HSB.out S8.out
              rw [HST.out] at C
              go_wp2_with fail
              refine (C).mono ?_
              rintro e w9 ⟨v9, o9, rfl, own9, _, b⟩
              obtain ⟨A9, c9, hv9, src9⟩ := own9.src (fun _ => True) (fun _ _ => trivial)
              rw [HSN.out] at hv9
              subst hv9
              have E := Lib.hid src9
              clear own9 src9 C em
              have B9 := Lib.hid (B8.out.trans (b.mono B8.out.size))
              have S_9 := Lib.hid (S8.out.below b)
              have L_9 := Lib.hid (L8.out.below b)
              have F_9 := Lib.hid (F8.out.kept (Turn.of_below (S := fun _ => False) b) (fun h => h))
              clear B8 S8 L8 F8
              clear b
              go_wp2_with fail
              have C := rsame_any w9 A9 A2 sl sl sn sn c9 c2 HSN.out HSN.out (by omega) E.out S_9.out
              rw [show (sl == sl) = true by simp] at C
              clear E
              refine (C).mono ?_
              rintro e w10 ⟨rfl, b⟩
              clear C
              have B10 := Lib.hid (B9.out.trans (b.mono B9.out.size))
              have S_10 := Lib.hid (S_9.out.below b)
              have L_10 := Lib.hid (L_9.out.below b)
              have F_10 := Lib.hid (F_9.out.kept (Turn.of_below (S := fun _ => False) b) (fun h => h))
              clear B9 S_9 L_9 F_9
              clear b
              go_wp2_with fail
              have C := closes_any 0 w10 A2 sl sn c2 HSN.out HSB.out S_10.out
              rw [HC0.out] at C
              refine (C).mono ?_
              rintro e w11 ⟨rfl, b⟩
              clear C
              have B11 := Lib.hid (B10.out.trans (b.mono B10.out.size))
              have S_11 := Lib.hid (S_10.out.below b)
              have L_11 := Lib.hid (L_10.out.below b)
              have F_11 := Lib.hid (F_10.out.kept (Turn.of_below (S := fun _ => False) b) (fun h => h))
              clear B10 S_10 L_10 F_10
              clear b
              go_wp2_with fail
              have C := closes_any 1 w11 A2 sl sn c2 HSN.out HSB.out S_11.out
              rw [HC1.out] at C
              refine (C).mono ?_
              rintro e w12 ⟨rfl, b⟩
              clear C
              have B12 := Lib.hid (B11.out.trans (b.mono B11.out.size))
              have S_12 := Lib.hid (S_11.out.below b)
              have L_12 := Lib.hid (L_11.out.below b)
              have F_12 := Lib.hid (F_11.out.kept (Turn.of_below (S := fun _ => False) b) (fun h => h))
              clear B11 S_11 L_11 F_11
              clear b
              go_upto_region 29 with fail
              have D0 : Below w12.heap.size w12 w12.drew := drew_below (Below.refl _ _)
              have D1 : Below w12.heap.size w12 (w12.alloc (.cells #[.string f1, .string f2, .string ⟨#[99, 79, 78, 78, 69, 67, 84, 73, 79, 78]⟩, .string f1] 32)) := (Below.refl _ _).alloc (Nat.le_refl _) _
              have D2 : Below w12.heap.size w12 (w12.alloc (.cells #[.string f1, .string f2, .string ⟨#[99, 79, 78, 78, 69, 67, 84, 73, 79, 78]⟩, .string f1] 32)).drew := drew_below D1
              have KK : ∀ Y : World, Below w12.heap.size w12 Y → (Y.cell? ⟨gf, 0, none⟩ = some (.string f1) ∧ Y.cell? ⟨gf, 1, none⟩ = some (.string f2)) := fun Y hY => by
                have i := F_12.out.kept (Turn.of_below (S := fun _ => False) hY) (fun h => h)
                exact ⟨i.cell 0, i.cell 1⟩
              have lit : ∀ Y : World, SrcF (Y.alloc (.cells #[.string f1, .string f2, .string ⟨#[99, 79, 78, 78, 69, 67, 84, 73, 79, 78]⟩, .string f1] 32)) (fun _ => True) (some ⟨Y.heap.size, 0, none⟩) [(bl f1, bl f2), ([99, 79, 78, 78, 69, 67, 84, 73, 79, 78], bl f1)] := fun Y => by
                have := srcf_made Y [(bl f1, bl f2), ([99, 79, 78, 78, 69, 67, 84, 73, 79, 78], bl f1)]
                simp only [flds, strV, mk_bl, List.flatMap_cons, List.flatMap_nil, List.append_nil, List.cons_append, List.nil_append] at this
                exact this
              obtain ⟨Aa, ca, wa, oa, ra, owna, oba, ba⟩ := nil_app w12.drew A ls n c HN.out (by omega) (L_12.out.below D0)
              have BA := D0.trans (ba.mono D0.size)
              have dA : Below wa.heap.size wa (wa.alloc (.cells #[.string f1, .string f2, .string ⟨#[99, 79, 78, 78, 69, 67, 84, 73, 79, 78]⟩, .string f1] 32)) := (Below.refl _ _).alloc (Nat.le_refl _) _
              have BA2 := BA.trans (dA.mono BA.size)
              obtain ⟨Ab, cb, wb, ob, rb, ownb, _, BB, _⟩ := more_app (wa.alloc (.cells #[.string f1, .string f2, .string ⟨#[99, 79, 78, 78, 69, 67, 84, 73, 79, 78]⟩, .string f1] 32)) _ oa ls [(bl f1, bl f2), ([99, 79, 78, 78, 69, 67, 84, 73, 79, 78], bl f1)] (own_below owna dA) (some ⟨wa.heap.size, 0, none⟩) 2 2 (n + 2) rfl (by rw [HN.out]) (lit wa) (by omega) BA2 (fun b h => Nat.le_trans D0.size (oba b h))
              obtain ⟨Ac, cc, we, oc, rc, ownc, obc, bc⟩ := nil_app (w12.alloc (.cells #[.string f1, .string f2, .string ⟨#[99, 79, 78, 78, 69, 67, 84, 73, 79, 78]⟩, .string f1] 32)).drew A ls n c HN.out (by omega) (L_12.out.below D2)
              have BC := D2.trans (bc.mono D2.size)
              have sC := ((lit w12).below (drew_below (Below.refl _ _))).below bc
              obtain ⟨Ad, cd, wd, od, rd, ownd, _, BD, _⟩ := more_app we _ oc ls [(bl f1, bl f2), ([99, 79, 78, 78, 69, 67, 84, 73, 79, 78], bl f1)] ownc (some ⟨w12.heap.size, 0, none⟩) 2 2 (n + 2) rfl (by rw [HN.out]) sC (by omega) BC (fun b h => Nat.le_trans D2.size (obc b h))
              have RA := Lib.hid ra
              have RB := Lib.hid rb
              have RC := Lib.hid rc
              have RD := Lib.hid rd
              have SB := Lib.hid (OwnF.reads ownb)
              have SD := Lib.hid (OwnF.reads ownd)
              have HBB := Lib.hid BB
              have HBD := Lib.hid BD
              have k0 := KK w12 (Below.refl _ _)
              have k1 := KK _ D0
              have k2 := KK _ D1
              have k3 := KK _ D2
              have k4 := KK _ BA
              have k5 := KK _ BA2
              have k6 := KK _ BB
              have k7 := KK _ BC
              have k8 := KK _ BD
              clear ra rb rc rd owna ownb ownc ownd oba obc ba bc dA sC lit KK D0 D1 D2 BA BA2 BB BC BD
              go_cut [14] from 116 to 123 (fun s14 wx => ∃ (Am : Option Addr) (cm : Nat), s14 = .slice Am (n + 2) cm ∧ Hid (SrcF wx (fun _ => True) Am (ls ++ [(bl f1, bl f2), ([99, 79, 78, 78, 69, 67, 84, 73, 79, 78], bl f1)])) ∧ Hid (Below w12.heap.size w12 wx))
              case first =>
                go_region_held3 (fun w' => w'.cell? ⟨gf, 0, none⟩ = some (.string f1) ∧ w'.cell? ⟨gf, 1, none⟩ = some (.string f2)) (first | (with_reducible exact k0) | (with_reducible exact k1) | (with_reducible exact k2) | (with_reducible exact k3) | (with_reducible exact k4) | (with_reducible exact k5) | (with_reducible exact k6) | (with_reducible exact k7) | (with_reducible exact k8) | go_keep)
                  (first
                    | ((with_reducible (show if _ = true then Oper.wp _ _ _ (w12.drew) _ _ else _)); refine step_append_by rfl _ (.tmp 116) 22 rfl _ _ (.slice Aa n ca) wa rfl rfl RA.out ?_)
                    | ((with_reducible (show if _ = true then Oper.wp _ _ _ (wa.alloc (.cells #[.string f1, .string f2, .string ⟨#[99, 79, 78, 78, 69, 67, 84, 73, 79, 78]⟩, .string f1] 32)) _ _ else _)); refine step_append_by rfl (.tmp 117) (.tmp 122) 22 rfl _ _ (.slice Ab (n + 2) cb) wb rfl rfl RB.out ?_)
                    | ((with_reducible (show if _ = true then Oper.wp _ _ _ ((w12.alloc (.cells #[.string f1, .string f2, .string ⟨#[99, 79, 78, 78, 69, 67, 84, 73, 79, 78]⟩, .string f1] 32)).drew) _ _ else _)); refine step_append_by rfl _ (.tmp 116) 22 rfl _ _ (.slice Ac n cc) we rfl rfl RC.out ?_)
                    | ((with_reducible (show if _ = true then Oper.wp _ _ _ we _ _ else _)); refine step_append_by rfl (.tmp 117) (.tmp 122) 22 rfl _ _ (.slice Ad (n + 2) cd) wd rfl rfl RD.out ?_))
                all_goals
                  go_wp2_with fail
                  go_meet
                  first
                    | exact ⟨Ab, cb, rfl, SB, HBB⟩
                    | exact ⟨Ad, cd, rfl, SD, HBD⟩
              case rest =>
                obtain ⟨Am, cm, rfl, SM, bb⟩ := hcut
                clear RA RB RC RD SB SD HBB HBD k0 k1 k2 k3 k4 k5 k6 k7 k8
                have bbo := bb.out
                clear L_12
                have B13 := Lib.hid (B12.out.trans (bbo.mono B12.out.size))
                have S_13 := Lib.hid (S_12.out.below bbo)
                have F_13 := Lib.hid (F_12.out.kept (Turn.of_below (S := fun _ => False) bbo) (fun h => h))
                clear B12 S_12 F_12
                clear bbo bb
                have y : wc.cell? ⟨gf, 0, none⟩ = some (.string f1) := F_13.out.cell 0
                go_wp2_with fail
                clear y
                cases ht : tokF (bl f1) with
                | false =>
                  have C := ty_token f1 wc
                  rw [ht] at C
                  refine (C).mono ?_
                  rintro e w14 ⟨rfl, b⟩
                  clear C
                  have B14 := Lib.hid (B13.out.trans (b.mono B13.out.size))
                  have S_14 := Lib.hid (S_13.out.below b)
                  have F_14 := Lib.hid (F_13.out.kept (Turn.of_below (S := fun _ => False) b) (fun h => h))
                  have M_14 := Lib.hid (SM.out.below b)
                  clear B13 S_13 F_13 SM
                  clear b
                  go_wp2_with fail
                  refine ((wakes_any w14)).mono ?_
                  rintro e w15 ⟨rfl, b⟩
                  have B15 := Lib.hid (B14.out.trans (b.mono B14.out.size))
                  have S_15 := Lib.hid (S_14.out.below b)
                  have F_15 := Lib.hid (F_14.out.kept (Turn.of_below (S := fun _ => False) b) (fun h => h))
                  have M_15 := Lib.hid (M_14.out.below b)
                  clear B14 S_14 F_14 M_14
                  clear b
                  go_wp2_with fail
                  go_ret
                  exact ⟨rfl, B15.out⟩
                | true =>
                  have C := ty_token f1 wc
                  rw [ht] at C
                  refine (C).mono ?_
                  rintro e w14 ⟨rfl, b⟩
                  clear C
                  have B14 := Lib.hid (B13.out.trans (b.mono B13.out.size))
                  have S_14 := Lib.hid (S_13.out.below b)
                  have F_14 := Lib.hid (F_13.out.kept (Turn.of_below (S := fun _ => False) b) (fun h => h))
                  have M_14 := Lib.hid (SM.out.below b)
                  clear B13 S_13 F_13 SM
                  clear b
                  have y : w14.cell? ⟨gf, 0, none⟩ = some (.string f1) := F_14.out.cell 0
                  go_wp2_with fail
                  clear y
                  cases hc : (lowF (bl f1) == lowF conN) with
                  | true =>
                    have C := ty_same f1 ⟨#[99, 111, 110, 110, 101, 99, 116, 105, 111, 110]⟩ w14
                    rw [show bl ⟨#[99, 111, 110, 110, 101, 99, 116, 105, 111, 110]⟩ = conN from rfl, hc] at C
                    refine (C).mono ?_
                    rintro e w15 ⟨rfl, b⟩
                    clear C
                    have B15 := Lib.hid (B14.out.trans (b.mono B14.out.size))
                    have S_15 := Lib.hid (S_14.out.below b)
                    have F_15 := Lib.hid (F_14.out.kept (Turn.of_below (S := fun _ => False) b) (fun h => h))
                    have M_15 := Lib.hid (M_14.out.below b)
                    clear B14 S_14 F_14 M_14
                    clear b
                    go_wp2_with fail
                    refine ((wakes_any w15)).mono ?_
                    rintro e w16 ⟨rfl, b⟩
                    have B16 := Lib.hid (B15.out.trans (b.mono B15.out.size))
                    have S_16 := Lib.hid (S_15.out.below b)
                    have F_16 := Lib.hid (F_15.out.kept (Turn.of_below (S := fun _ => False) b) (fun h => h))
                    have M_16 := Lib.hid (M_15.out.below b)
                    clear B15 S_15 F_15 M_15
                    clear b
                    go_wp2_with fail
                    go_ret
                    exact ⟨rfl, B16.out⟩
                  | false =>
                    have C := ty_same f1 ⟨#[99, 111, 110, 110, 101, 99, 116, 105, 111, 110]⟩ w14
                    rw [show bl ⟨#[99, 111, 110, 110, 101, 99, 116, 105, 111, 110]⟩ = conN from rfl, hc] at C
                    refine (C).mono ?_
                    rintro e w15 ⟨rfl, b⟩
                    clear C
                    have B15 := Lib.hid (B14.out.trans (b.mono B14.out.size))
                    have S_15 := Lib.hid (S_14.out.below b)
                    have F_15 := Lib.hid (F_14.out.kept (Turn.of_below (S := fun _ => False) b) (fun h => h))
                    have M_15 := Lib.hid (M_14.out.below b)
                    clear B14 S_14 F_14 M_14
                    clear b
                    have y : w15.cell? ⟨gf, 0, none⟩ = some (.string f1) := F_15.out.cell 0
                    go_wp2_with fail
                    clear y
                    cases hf : forF (bl f1) with
                    | false =>
                      have C := forall_any f1 w15
                      rw [hf] at C
                      refine (C).mono ?_
                      rintro e w16 ⟨rfl, b⟩
                      clear C
                      have B16 := Lib.hid (B15.out.trans (b.mono B15.out.size))
                      have S_16 := Lib.hid (S_15.out.below b)
                      have F_16 := Lib.hid (F_15.out.kept (Turn.of_below (S := fun _ => False) b) (fun h => h))
                      have M_16 := Lib.hid (M_15.out.below b)
                      clear B15 S_15 F_15 M_15
                      clear b
                      go_upto_region 34 with fail
                      have D0 : Below w16.heap.size w16 w16.drew := drew_below (Below.refl _ _)
                      have D1 : Below w16.heap.size w16 (w16.alloc (.cells #[.string f1] 9)) := (Below.refl _ _).alloc (Nat.le_refl _) _
                      have D2 : Below w16.heap.size w16 (w16.alloc (.cells #[.string f1] 9)).drew := drew_below D1
                      have KK : ∀ Y : World, Below w16.heap.size w16 Y → (Y.cell? ⟨gf, 0, none⟩ = some (.string f1) ∧ Y.cell? ⟨gf, 1, none⟩ = some (.string f2)) := fun Y hY => by
                        have i := F_16.out.kept (Turn.of_below (S := fun _ => False) hY) (fun h => h)
                        exact ⟨i.cell 0, i.cell 1⟩
                      have CST := Lib.hid (fun (Y : World) (hY : Below w16.heap.size w16 Y) => strip_any Y Am (ls ++ [(bl f1, bl f2), ([99, 79, 78, 78, 69, 67, 84, 73, 79, 78], bl f1)]) (n + 2) cm HNM.out HBM.out (M_16.out.below hY))
                      have k0 := KK w16 (Below.refl _ _)
                      have k1 := KK _ D0
                      have k2 := KK _ D1
                      have k3 := KK _ D2
                      rw [HM2.out ht hc hf] at CST
                      have HLE := Lib.hid (show (dropF sl [bl f1]).length ≤ 100000000 by have := dropF_length sl [bl f1]; rw [HSN.out] at this; omega)
                      have lit : ∀ Y : World, SrcS (Y.alloc (.cells #[.string f1] 9)) (fun _ => True) (some ⟨Y.heap.size, 0, none⟩) [bl f1] := fun Y => by
                        have := srcs_one Y (bl f1)
                        rw [mk_bl] at this
                        exact this
                      have CDR := Lib.hid (fun (Y Z : World) (hY : Below w16.heap.size w16 Y) (hZ : Below (Z.alloc (.cells #[.string f1] 9)).heap.size (Z.alloc (.cells #[.string f1] 9)) Y) => drop_any Y A2 (some ⟨Z.heap.size, 0, none⟩) sl [bl f1] sn c2 1 1 HSN.out rfl (by omega) (by omega) (S_16.out.below hY) ((lit Z).below hZ) (slim_bulk HSB.out))
                      obtain ⟨dl, hdl⟩ : ∃ dl, dropF sl [bl f1] = dl := ⟨_, rfl⟩
                      rw [hdl] at CST CDR HLE
                      have hdn := HLE.out
                      obtain ⟨dn, hdln⟩ : ∃ dn, dl.length = dn := ⟨_, rfl⟩
                      rw [hdln] at hdn
                      have HL := Lib.hid hdln
                      clear hdl hdln
                      go_region_held3 (fun w' => w'.cell? ⟨gf, 0, none⟩ = some (.string f1) ∧ w'.cell? ⟨gf, 1, none⟩ = some (.string f2)) (first | (with_reducible exact k0) | (with_reducible exact k1) | (with_reducible exact k2) | (with_reducible exact k3) | (with_reducible exact kS1) | (with_reducible exact kD1) | (with_reducible exact kM1) | (with_reducible exact kK1) | (with_reducible exact kS2) | (with_reducible exact kA2) | (with_reducible exact kD2) | (with_reducible exact kM2) | (with_reducible exact kK2) | go_keep)
                        (first
                          | (go_at_call 8
                             (with_reducible refine (CST.out (w16.alloc (.cells #[.string f1] 9)).drew D2).mono ?_)
                             rintro e s1 ⟨vs1, os1, rfl, owns, _, bs⟩
                             obtain ⟨As1, cs1, hvs, srs⟩ := owns.src (fun _ => True) (fun _ _ => trivial)
                             rw [HL.out] at hvs
                             subst hvs
                             have bS1 := (D2).trans (bs.mono (D2).size)
                             have kS1 := KK _ bS1
                             have EE1 := Lib.hid srs
                             have LB1 := Lib.hid ((drew_below (Below.refl (w16.alloc (.cells #[.string f1] 9)).heap.size (w16.alloc (.cells #[.string f1] 9)))).trans (bs.mono (Nat.le_refl _)))
                             clear owns bs)
                          | (go_at_call 8
                             (with_reducible refine (CST.out w16.drew D0).mono ?_)
                             rintro e s2 ⟨vs2, os2, rfl, owns, _, bs⟩
                             obtain ⟨As2, cs2, hvs, srs⟩ := owns.src (fun _ => True) (fun _ _ => trivial)
                             rw [HL.out] at hvs
                             subst hvs
                             have bS2 := (D0).trans (bs.mono (D0).size)
                             have kS2 := KK _ bS2
                             have a2 : Below s2.heap.size s2 (s2.alloc (.cells #[.string f1] 9)) := (Below.refl _ _).alloc (Nat.le_refl _) _
                             have bA2 := bS2.trans (a2.mono bS2.size)
                             have kA2 := KK _ bA2
                             have EE2 := Lib.hid (srs.below a2)
                             clear owns bs)
                          | (go_at_call 26
                             (with_reducible refine (CDR.out (s1) (w16) (bS1) (LB1.out)).mono ?_)
                             rintro e d1 ⟨vd1, od1, rfl, ownd, _, bd⟩
                             obtain ⟨Ad1, cd1, hvd, srd⟩ := ownd.src (fun _ => True) (fun _ _ => trivial)
                             rw [HL.out] at hvd
                             subst hvd
                             have bD1 := (bS1).trans (bd.mono (bS1).size)
                             have kD1 := KK _ bD1
                             have SD1 := Lib.hid srd
                             have ED1 := Lib.hid (EE1.out.below bd)
                             clear ownd srd bd)
                          | (go_at_call 26
                             (with_reducible refine (CDR.out (s2.alloc (.cells #[.string f1] 9)) (s2) (bA2) (Below.refl _ _)).mono ?_)
                             rintro e d2 ⟨vd2, od2, rfl, ownd, _, bd⟩
                             obtain ⟨Ad2, cd2, hvd, srd⟩ := ownd.src (fun _ => True) (fun _ _ => trivial)
                             rw [HL.out] at hvd
                             subst hvd
                             have bD2 := (bA2).trans (bd.mono (bA2).size)
                             have kD2 := KK _ bD2
                             have SD2 := Lib.hid srd
                             have ED2 := Lib.hid (EE2.out.below bd)
                             clear ownd srd bd)
                          | (go_at_call 13
                             (with_reducible refine (rsame_any d1 As1 Ad1 dl dl dn dn cs1 cd1 HL.out HL.out (by omega) ED1.out SD1.out).mono ?_)
                             rintro e m1 ⟨he, bm⟩
                             rw [beq_self_eq_true] at he
                             subst he
                             have bM1 := bD1.trans (bm.mono bD1.size)
                             have kM1 := KK _ bM1)
                          | (go_at_call 13
                             (with_reducible refine (rsame_any d2 As2 Ad2 dl dl dn dn cs2 cd2 HL.out HL.out (by omega) ED2.out SD2.out).mono ?_)
                             rintro e m2 ⟨he, bm⟩
                             rw [beq_self_eq_true] at he
                             subst he
                             have bM2 := bD2.trans (bm.mono bD2.size)
                             have kM2 := KK _ bM2)
                          | (go_at_call 22
                             (with_reducible refine (wakes_any m1).mono ?_)
                             rintro e l1 ⟨rfl, bk⟩
                             have bK1 := bM1.trans (bk.mono bM1.size)
                             have kK1 := KK _ bK1)
                          | (go_at_call 22
                             (with_reducible refine (wakes_any m2).mono ?_)
                             rintro e l2 ⟨rfl, bk⟩
                             have bK2 := bM2.trans (bk.mono bM2.size)
                             have kK2 := KK _ bK2))
                      all_goals
                        go_wp2_with fail
                        go_ret
                        first
                          | exact ⟨rfl, B16.out.trans (bK1.mono B16.out.size)⟩
                          | exact ⟨rfl, B16.out.trans (bK2.mono B16.out.size)⟩
                    | true =>
                      have C := forall_any f1 w15
                      rw [hf] at C
                      refine (C).mono ?_
                      rintro e w16 ⟨rfl, b⟩
                      clear C
                      have B16 := Lib.hid (B15.out.trans (b.mono B15.out.size))
                      have S_16 := Lib.hid (S_15.out.below b)
                      have F_16 := Lib.hid (F_15.out.kept (Turn.of_below (S := fun _ => False) b) (fun h => h))
                      have M_16 := Lib.hid (M_15.out.below b)
                      clear B15 S_15 F_15 M_15
                      clear b
                      go_upto_region 33 with fail
                      have D0 : Below w16.heap.size w16 w16.drew := drew_below (Below.refl _ _)
                      have D1 : Below w16.heap.size w16 (w16.alloc (.cells #[.string f1, .string f2] 32)) := (Below.refl _ _).alloc (Nat.le_refl _) _
                      have D2 : Below w16.heap.size w16 (w16.alloc (.cells #[.string f1, .string f2] 32)).drew := drew_below D1
                      have KK : ∀ Y : World, Below w16.heap.size w16 Y → (Y.cell? ⟨gf, 0, none⟩ = some (.string f1) ∧ Y.cell? ⟨gf, 1, none⟩ = some (.string f2)) := fun Y hY => by
                        have i := F_16.out.kept (Turn.of_below (S := fun _ => False) hY) (fun h => h)
                        exact ⟨i.cell 0, i.cell 1⟩
                      have CST := Lib.hid (fun (Y : World) (hY : Below w16.heap.size w16 Y) => strip_any Y Am (ls ++ [(bl f1, bl f2), ([99, 79, 78, 78, 69, 67, 84, 73, 79, 78], bl f1)]) (n + 2) cm HNM.out HBM.out (M_16.out.below hY))
                      have k0 := KK w16 (Below.refl _ _)
                      have k1 := KK _ D0
                      have k2 := KK _ D1
                      have k3 := KK _ D2
                      rw [HM1.out ht hc hf] at CST
                      have HL := Lib.hid (show (sl ++ [(bl f1, bl f2)]).length = sn + 1 by rw [List.length_append, HSN.out]; rfl)
                      have lit : ∀ Y : World, SrcF (Y.alloc (.cells #[.string f1, .string f2] 32)) (fun _ => True) (some ⟨Y.heap.size, 0, none⟩) [(bl f1, bl f2)] := fun Y => by
                        have := srcf_made Y [(bl f1, bl f2)]
                        simp only [flds, strV, mk_bl, List.flatMap_cons, List.flatMap_nil, List.append_nil] at this
                        exact this
                      go_region_held3 (fun w' => w'.cell? ⟨gf, 0, none⟩ = some (.string f1) ∧ w'.cell? ⟨gf, 1, none⟩ = some (.string f2)) (first | (with_reducible exact k0) | (with_reducible exact k1) | (with_reducible exact k2) | (with_reducible exact k3) | (with_reducible exact kS1) | (with_reducible exact kP1) | (with_reducible exact kQ1) | (with_reducible exact kM1) | (with_reducible exact kK1) | (with_reducible exact kS2) | (with_reducible exact kA2) | (with_reducible exact kP2) | (with_reducible exact kQ2) | (with_reducible exact kM2) | (with_reducible exact kK2) | (with_reducible exact kP3) | (with_reducible exact kA3) | (with_reducible exact kQ3) | (with_reducible exact kM3) | (with_reducible exact kK3) | go_keep)
                        (first
                          | (go_at_call 8
                             (with_reducible refine (CST.out (w16.alloc (.cells #[.string f1, .string f2] 32)).drew D2).mono ?_)
                             rintro e s1 ⟨vs1, os1, rfl, owns, _, bs⟩
                             obtain ⟨As1, cs1, hvs, srs⟩ := owns.src (fun b => b < s1.heap.size) (fun b hb => owns.own_lt b hb)
                             rw [HL.out] at hvs
                             subst hvs
                             have bS1 := (D2).trans (bs.mono (D2).size)
                             have kS1 := KK _ bS1
                             obtain ⟨Ap1, cp1, p1, op1, rp1, ownp1, obp1, bp1⟩ := nil_app (s1) A2 sl sn c2 HSN.out (by omega) (S_16.out.below (bS1))
                             have bP1 := (bS1).trans (bp1.mono (bS1).size)
                             have kP1 := KK _ bP1
                             have RP1 := Lib.hid rp1
                             obtain ⟨Aq1, cq1, q1, oq1, rq1, ownq1, _, bQ1, tQ1⟩ := more_app (p1) _ op1 sl [(bl f1, bl f2)] (ownp1) (some ⟨w16.heap.size, 0, none⟩) 1 1 (sn + 1) rfl (by rw [HSN.out]) ((((lit w16).below (drew_below (Below.refl _ _))).below bs).below bp1) (by omega) (bP1) (fun b h => Nat.le_trans bS1.size (obp1 b h))
                             have kQ1 := KK _ bQ1
                             have RQ1 := Lib.hid rq1
                             have SQ1 := Lib.hid (OwnF.reads ownq1)
                             have ES1 := Lib.hid (srcf_turned (srs.below bp1) tQ1 (fun k hk e => by have := obp1 k e; omega))
                             clear owns bs)
                          | (go_at_call 8
                             (with_reducible refine (CST.out w16.drew D0).mono ?_)
                             rintro e s2 ⟨vs2, os2, rfl, owns, _, bs⟩
                             obtain ⟨As2, cs2, hvs, srs⟩ := owns.src (fun b => b < s2.heap.size) (fun b hb => owns.own_lt b hb)
                             rw [HL.out] at hvs
                             subst hvs
                             have bS2 := (D0).trans (bs.mono (D0).size)
                             have kS2 := KK _ bS2
                             have a2 : Below s2.heap.size s2 (s2.alloc (.cells #[.string f1, .string f2] 32)) := (Below.refl _ _).alloc (Nat.le_refl _) _
                             have bA2 := bS2.trans (a2.mono bS2.size)
                             have kA2 := KK _ bA2
                             obtain ⟨Ap2, cp2, p2, op2, rp2, ownp2, obp2, bp2⟩ := nil_app (s2.alloc (.cells #[.string f1, .string f2] 32)) A2 sl sn c2 HSN.out (by omega) (S_16.out.below (bA2))
                             have bP2 := (bA2).trans (bp2.mono (bA2).size)
                             have kP2 := KK _ bP2
                             have RP2 := Lib.hid rp2
                             obtain ⟨Aq2, cq2, q2, oq2, rq2, ownq2, _, bQ2, tQ2⟩ := more_app (p2) _ op2 sl [(bl f1, bl f2)] (ownp2) (some ⟨s2.heap.size, 0, none⟩) 1 1 (sn + 1) rfl (by rw [HSN.out]) ((lit s2).below bp2) (by omega) (bP2) (fun b h => Nat.le_trans bA2.size (obp2 b h))
                             have kQ2 := KK _ bQ2
                             have RQ2 := Lib.hid rq2
                             have SQ2 := Lib.hid (OwnF.reads ownq2)
                             obtain ⟨Ap3, cp3, p3, op3, rp3, ownp3, obp3, bp3⟩ := nil_app (s2) A2 sl sn c2 HSN.out (by omega) (S_16.out.below (bS2))
                             have bP3 := (bS2).trans (bp3.mono (bS2).size)
                             have kP3 := KK _ bP3
                             have RP3 := Lib.hid rp3
                             have a3 : Below p3.heap.size p3 (p3.alloc (.cells #[.string f1, .string f2] 32)) := (Below.refl _ _).alloc (Nat.le_refl _) _
                             have bA3 := bP3.trans (a3.mono bP3.size)
                             have kA3 := KK _ bA3
                             obtain ⟨Aq3, cq3, q3, oq3, rq3, ownq3, _, bQ3, tQ3⟩ := more_app (p3.alloc (.cells #[.string f1, .string f2] 32)) _ op3 sl [(bl f1, bl f2)] (own_below ownp3 a3) (some ⟨p3.heap.size, 0, none⟩) 1 1 (sn + 1) rfl (by rw [HSN.out]) (lit p3) (by omega) (bA3) (fun b h => Nat.le_trans bS2.size (obp3 b h))
                             have kQ3 := KK _ bQ3
                             have RQ3 := Lib.hid rq3
                             have SQ3 := Lib.hid (OwnF.reads ownq3)
                             have ES2 := Lib.hid (srcf_turned ((srs.below a2).below bp2) tQ2 (fun k hk e => by have := obp2 k e; have := a2.size; omega))
                             have ES3 := Lib.hid (srcf_turned ((srs.below bp3).below a3) tQ3 (fun k hk e => by have := obp3 k e; omega))
                             clear owns bs)
                          | ((with_reducible (show if _ = true then Oper.wp _ _ _ (s1) _ _ else _)); refine step_append_by rfl _ (.tmp 139) 22 rfl _ _ (.slice Ap1 sn cp1) p1 rfl rfl RP1.out ?_)
                          | ((with_reducible (show if _ = true then Oper.wp _ _ _ (p1) _ _ else _)); refine step_append_by rfl (.tmp 140) (.tmp 142) 22 rfl _ _ (.slice Aq1 (sn + 1) cq1) q1 rfl rfl RQ1.out ?_)
                          | ((with_reducible (show if _ = true then Oper.wp _ _ _ (s2.alloc (.cells #[.string f1, .string f2] 32)) _ _ else _)); refine step_append_by rfl _ (.tmp 139) 22 rfl _ _ (.slice Ap2 sn cp2) p2 rfl rfl RP2.out ?_)
                          | ((with_reducible (show if _ = true then Oper.wp _ _ _ (p2) _ _ else _)); refine step_append_by rfl (.tmp 140) (.tmp 142) 22 rfl _ _ (.slice Aq2 (sn + 1) cq2) q2 rfl rfl RQ2.out ?_)
                          | ((with_reducible (show if _ = true then Oper.wp _ _ _ (s2) _ _ else _)); refine step_append_by rfl _ (.tmp 139) 22 rfl _ _ (.slice Ap3 sn cp3) p3 rfl rfl RP3.out ?_)
                          | ((with_reducible (show if _ = true then Oper.wp _ _ _ (p3.alloc (.cells #[.string f1, .string f2] 32)) _ _ else _)); refine step_append_by rfl (.tmp 140) (.tmp 142) 22 rfl _ _ (.slice Aq3 (sn + 1) cq3) q3 rfl rfl RQ3.out ?_)
                          | (go_at_call 13
                             (with_reducible refine (rsame_any q1 As1 Aq1 (sl ++ [(bl f1, bl f2)]) (sl ++ [(bl f1, bl f2)]) (sn + 1) (sn + 1) cs1 cq1 HL.out HL.out (by omega) ES1.out SQ1.out).mono ?_)
                             rintro e m1 ⟨he, bm⟩
                             rw [beq_self_eq_true] at he
                             subst he
                             have bM1 := bQ1.trans (bm.mono bQ1.size)
                             have kM1 := KK _ bM1)
                          | (go_at_call 13
                             (with_reducible refine (rsame_any q2 As2 Aq2 (sl ++ [(bl f1, bl f2)]) (sl ++ [(bl f1, bl f2)]) (sn + 1) (sn + 1) cs2 cq2 HL.out HL.out (by omega) ES2.out SQ2.out).mono ?_)
                             rintro e m2 ⟨he, bm⟩
                             rw [beq_self_eq_true] at he
                             subst he
                             have bM2 := bQ2.trans (bm.mono bQ2.size)
                             have kM2 := KK _ bM2)
                          | (go_at_call 13
                             (with_reducible refine (rsame_any q3 As2 Aq3 (sl ++ [(bl f1, bl f2)]) (sl ++ [(bl f1, bl f2)]) (sn + 1) (sn + 1) cs2 cq3 HL.out HL.out (by omega) ES3.out SQ3.out).mono ?_)
                             rintro e m3 ⟨he, bm⟩
                             rw [beq_self_eq_true] at he
                             subst he
                             have bM3 := bQ3.trans (bm.mono bQ3.size)
                             have kM3 := KK _ bM3)
                          | (go_at_call 22
                             (with_reducible refine (wakes_any m1).mono ?_)
                             rintro e l1 ⟨rfl, bk⟩
                             have bK1 := bM1.trans (bk.mono bM1.size)
                             have kK1 := KK _ bK1)
                          | (go_at_call 22
                             (with_reducible refine (wakes_any m2).mono ?_)
                             rintro e l2 ⟨rfl, bk⟩
                             have bK2 := bM2.trans (bk.mono bM2.size)
                             have kK2 := KK _ bK2)
                          | (go_at_call 22
                             (with_reducible refine (wakes_any m3).mono ?_)
                             rintro e l3 ⟨rfl, bk⟩
                             have bK3 := bM3.trans (bk.mono bM3.size)
                             have kK3 := KK _ bK3))
                      all_goals
                        go_wp2_with fail
                        go_ret
                        first
                          | exact ⟨rfl, B16.out.trans (bK1.mono B16.out.size)⟩
                          | exact ⟨rfl, B16.out.trans (bK2.mono B16.out.size)⟩
                          | exact ⟨rfl, B16.out.trans (bK3.mono B16.out.size)⟩
end Go.Proofs.YtinibacmhmmcdaaDoor.Hop
