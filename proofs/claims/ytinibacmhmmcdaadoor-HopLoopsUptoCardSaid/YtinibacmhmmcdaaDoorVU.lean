/-
  The law HopLoops: walk.
  Conditions: what the arguments read as; the list and the field hold at most 100000000 bytes.
-/
import Derived.Test.YtinibacmhmmcdaaDoorVY
namespace Go.Proofs.YtinibacmhmmcdaaDoor.Hop
open Go.RowKit

set_option maxHeartbeats 16000000 in
set_option maxRecDepth 100000 in
theorem loops_law {P : Nat → Prop} (w : World) (A : Option Addr) (ls : List Fld) (n c : Nat) (hn : ls.length = n) (hb : bulkF ls ≤ 100000000) (h : SrcF w P A ls) (f1 f2 : ByteArray) (hf1 : f1.size ≤ 100000000) (hf2 : f2.size ≤ 100000000) (mi : Int) :
    Calls Tryd.prog 6 #[.slice A n c, .agg #[.string f1, .string f2], .int .i64 mi] w fun e w' => e = .returned (.bool true) ∧ Below w.heap.size w w' := by
  have hlen := bulk_len ls
  have HBV := Lib.hid (show bulkF (viaF ls) ≤ 1000000000 by unfold viaF; rw [bulk_app]; rw [show bulkF [(viaK, ownN)] = 19 from rfl]; omega)
  have HBC := Lib.hid (show bulkF ([([99, 111, 110, 110, 101, 99, 116, 105, 111, 110], [97, 44, 32, 67, 76, 79, 83, 69])] ++ ls) ≤ 1000000000 by rw [bulk_app]; rw [show bulkF [([99, 111, 110, 110, 101, 99, 116, 105, 111, 110], [97, 44, 32, 67, 76, 79, 83, 69])] = 21 from rfl]; omega)
  have hff : bulkF [(bl f1, bl f2)] ≤ 200000003 := by rw [show bulkF [(bl f1, bl f2)] = (bl f1).length + (bl f2).length + 3 + 0 from rfl, bl_length, bl_length]; omega
  have HBM := Lib.hid (show bulkF (ls ++ [(bl f1, bl f2)]) ≤ 1000000000 by rw [bulk_app]; omega)
  have HB := Lib.hid (show bulkF ls ≤ 1000000000 by omega)
  have HN := Lib.hid hn
  have HNL : n ≤ 100000000 := by omega
  have HNM := Lib.hid (show (ls ++ [(bl f1, bl f2)]).length = n + 1 by simp [hn])
  have HOL := Lib.hid (fun hv => other_loops ls (bl f1, bl f2) hv)
  have HOC := Lib.hid (fun hv => other_closes ls (bl f1, bl f2) mi hv)
  obtain ⟨ml, hml⟩ : ∃ ml, ls ++ [(bl f1, bl f2)] = ml := ⟨_, rfl⟩
  have HML := Lib.hid hml
  obtain ⟨q2, hq2⟩ : ∃ q, loopsF ls = q := ⟨_, rfl⟩
  obtain ⟨q3, hq3⟩ : ∃ q, closesF mi ls = q := ⟨_, rfl⟩
  have HQ2 := Lib.hid hq2
  have HQ3 := Lib.hid hq3
  have hbw : Below w.heap.size w (w.alloc (.cells #[.string f1, .string f2] 32)) := (Below.refl _ _).alloc (Nat.le_refl _) _
  have L := Lib.hid (h.below hbw)
  have X := Lib.hid hbw
  have F := Lib.hid (Is.made w 32 [.string f1, .string f2])
  have hew : (w.alloc (.cells #[.string f1, .string f2] 32)).heap.size = w.heap.size + 1 := by simp
  obtain ⟨gf, hgf⟩ : ∃ gf, w.heap.size = gf := ⟨_, rfl⟩
  have HGF := Lib.hid hgf
  have HEW := Lib.hid hew
  rw [hgf] at F
  clear hlen hff hn hb h hml hq2 hq3 hbw hf1 hf2 hew hgf
  have ee : ∀ b : Bool, (b != b) = false := fun b => by simp
  have e2 := ee q2
  have e3 := ee q3
  clear ee
  go_enter Tryd.func6, Tryd.ntmps6
  have hgf := HGF.out
  go_wp2_with fail
  clear hgf
  obtain ⟨w1, hw1⟩ : ∃ w1, w.alloc (.cells #[.string f1, .string f2] 32) = w1 := ⟨_, rfl⟩
  rw [hw1] at L X F HEW ⊢
  clear hw1
  have C := via_any w1 A ls n c HN.out HB.out L.out
  refine (C).mono ?_
  rintro e w2 ⟨v2, o2, rfl, own2, _, b⟩
  obtain ⟨A2, c2, hv2, src2⟩ := own2.src (fun _ => True) (fun _ _ => trivial)
  rw [via_len, HN.out] at hv2
  subst hv2
  have V := Lib.hid src2
  clear own2 src2 C
  have B2 := Lib.hid (X.out.trans (b.mono X.out.size))
  have L_2 := Lib.hid (L.out.below b)
  have F_2 := Lib.hid (F.out.kept (Turn.of_below (S := fun _ => False) b) (fun h => h))
  clear L F
  clear b
  go_wp2_with fail
  have C := loops_any w2 A2 (viaF ls) (n + 1) c2 (by rw [via_len, HN.out]) HBV.out V.out
  rw [via_loops ls] at C
  clear V
  refine (C).mono ?_
  rintro e w3 ⟨rfl, b⟩
  clear C
  have B3 := Lib.hid (B2.out.trans (b.mono B2.out.size))
  have L_3 := Lib.hid (L_2.out.below b)
  have F_3 := Lib.hid (F_2.out.kept (Turn.of_below (S := fun _ => False) b) (fun h => h))
  clear B2 L_2 F_2
  clear b
  have bl0 := (Below.refl w3.heap.size w3).alloc (Nat.le_refl _) (.cells #[.string ⟨#[99, 111, 110, 110, 101, 99, 116, 105, 111, 110]⟩, .string ⟨#[97, 44, 32, 67, 76, 79, 83, 69]⟩] 32)
  have OK := row_ownF (w := w3.alloc (.cells #[.string ⟨#[99, 111, 110, 110, 101, 99, 116, 105, 111, 110]⟩, .string ⟨#[97, 44, 32, 67, 76, 79, 83, 69]⟩] 32)) (g := w3.heap.size) (c := 1) (cur := flds [([99, 111, 110, 110, 101, 99, 116, 105, 111, 110], [97, 44, 32, 67, 76, 79, 83, 69])]) (ls := [([99, 111, 110, 110, 101, 99, 116, 105, 111, 110], [97, 44, 32, 67, 76, 79, 83, 69])]) (Is.made w3 32 (flds [([99, 111, 110, 110, 101, 99, 116, 105, 111, 110], [97, 44, 32, 67, 76, 79, 83, 69])])) (by decide) (by decide) (by decide) rfl
  obtain ⟨A4, c4, w4, o4, hrun, own4, _, bb, _⟩ := more_app (w3.alloc (.cells #[.string ⟨#[99, 111, 110, 110, 101, 99, 116, 105, 111, 110]⟩, .string ⟨#[97, 44, 32, 67, 76, 79, 83, 69]⟩] 32)) _ (some w3.heap.size) [([99, 111, 110, 110, 101, 99, 116, 105, 111, 110], [97, 44, 32, 67, 76, 79, 83, 69])] ls OK A n c (n + 1) HN.out (by rw [show ([([99, 111, 110, 110, 101, 99, 116, 105, 111, 110], [97, 44, 32, 67, 76, 79, 83, 69])] : List Fld).length = 1 from rfl]; omega) (L_3.out.below bl0) (by omega) bl0 (fun b h => by injection h with h; omega)
  have HR4 := Lib.hid hrun
  have S4 := Lib.hid (OwnF.reads own4)
  clear OK bl0 hrun own4
  have B4 := Lib.hid (B3.out.trans (bb.mono B3.out.size))
  have L_4 := Lib.hid (L_3.out.below bb)
  have F_4 := Lib.hid (F_3.out.kept (Turn.of_below (S := fun _ => False) bb) (fun h => h))
  clear B3 L_3 F_3
  clear bb
  go_wp2_with (at_builtin; refine append_by_g rfl (.tmp 15) (.tmp 16) 22 rfl _ _ (.slice A4 (n + 1) c4) w4 rfl rfl HR4.out ?_)
  have C := closes_any mi w4 A4 ([([99, 111, 110, 110, 101, 99, 116, 105, 111, 110], [97, 44, 32, 67, 76, 79, 83, 69])] ++ ls) (n + 1) c4 (by rw [List.length_append, HN.out]; exact Nat.add_comm 1 n) HBC.out S4.out
  rw [show ([([99, 111, 110, 110, 101, 99, 116, 105, 111, 110], [97, 44, 32, 67, 76, 79, 83, 69])] ++ ls : List Fld) = (conN, [97, 44, 32, 67, 76, 79, 83, 69]) :: ls from rfl, said_closes ls mi] at C
  refine (C).mono ?_
  rintro e w5 ⟨rfl, b⟩
  clear C S4
  have B5 := Lib.hid (B4.out.trans (b.mono B4.out.size))
  have L_5 := Lib.hid (L_4.out.below b)
  have F_5 := Lib.hid (F_4.out.kept (Turn.of_below (S := fun _ => False) b) (fun h => h))
  clear B4 L_4 F_4
  clear b
  go_upto_region 3 with fail
  have D0 : Below w5.heap.size w5 w5.drew := drew_below (Below.refl _ _)
  have D1 : Below w5.heap.size w5 (w5.alloc (.cells #[.string f1, .string f2] 32)) := (Below.refl _ _).alloc (Nat.le_refl _) _
  have D2 : Below w5.heap.size w5 (w5.alloc (.cells #[.string f1, .string f2] 32)).drew := drew_below D1
  have KK : ∀ Y : World, Below w5.heap.size w5 Y → (Y.cell? ⟨gf, 0, none⟩ = some (.string f1) ∧ Y.cell? ⟨gf, 1, none⟩ = some (.string f2)) := fun Y hY => by
    have i := F_5.out.kept (Turn.of_below (S := fun _ => False) hY) (fun h => h)
    exact ⟨i.cell 0, i.cell 1⟩
  obtain ⟨Aa, ca, wa, oa, ra, owna, oba, ba⟩ := nil_app w5.drew A ls n c HN.out (by omega) (L_5.out.below D0)
  have BA := D0.trans (ba.mono D0.size)
  have dA : Below wa.heap.size wa (wa.alloc (.cells #[.string f1, .string f2] 32)) := (Below.refl _ _).alloc (Nat.le_refl _) _
  have BA2 := BA.trans (dA.mono BA.size)
  have sA : SrcF (wa.alloc (.cells #[.string f1, .string f2] 32)) (fun _ => True) (some ⟨wa.heap.size, 0, none⟩) [(bl f1, bl f2)] := by
    have := srcf_made wa [(bl f1, bl f2)]
    simp only [flds, strV, mk_bl, List.flatMap_cons, List.flatMap_nil, List.append_nil] at this
    exact this
  obtain ⟨Ab, cb, wb, ob, rb, ownb, _, BB, _⟩ := more_app (wa.alloc (.cells #[.string f1, .string f2] 32)) _ oa ls [(bl f1, bl f2)] (own_below owna dA) (some ⟨wa.heap.size, 0, none⟩) 1 1 (n + 1) rfl (by rw [HN.out]) sA (by omega) BA2 (fun b h => Nat.le_trans D0.size (oba b h))
  obtain ⟨Ac, cc, we, oc, rc, ownc, obc, bc⟩ := nil_app (w5.alloc (.cells #[.string f1, .string f2] 32)).drew A ls n c HN.out (by omega) (L_5.out.below D2)
  have BC := D2.trans (bc.mono D2.size)
  have sC0 : SrcF (w5.alloc (.cells #[.string f1, .string f2] 32)) (fun _ => True) (some ⟨w5.heap.size, 0, none⟩) [(bl f1, bl f2)] := by
    have := srcf_made w5 [(bl f1, bl f2)]
    simp only [flds, strV, mk_bl, List.flatMap_cons, List.flatMap_nil, List.append_nil] at this
    exact this
  have sC := (sC0.below (drew_below (Below.refl _ _))).below bc
  obtain ⟨Ad, cd, wd, od, rd, ownd, _, BD, _⟩ := more_app we _ oc ls [(bl f1, bl f2)] ownc (some ⟨w5.heap.size, 0, none⟩) 1 1 (n + 1) rfl (by rw [HN.out]) sC (by omega) BC (fun b h => Nat.le_trans D2.size (obc b h))
  rw [HML.out] at ownb ownd
  have RA := Lib.hid ra
  have RB := Lib.hid rb
  have RC := Lib.hid rc
  have RD := Lib.hid rd
  have SB := Lib.hid (OwnF.reads ownb)
  have SD := Lib.hid (OwnF.reads ownd)
  have HBB := Lib.hid BB
  have HBD := Lib.hid BD
  have k0 := KK w5 (Below.refl _ _)
  have k1 := KK _ D0
  have k2 := KK _ D1
  have k3 := KK _ D2
  have k4 := KK _ BA
  have k5 := KK _ BA2
  have k6 := KK _ BB
  have k7 := KK _ BC
  have k8 := KK _ BD
  clear ra rb rc rd owna ownb ownc ownd oba obc ba bc dA sA sC sC0 KK D0 D1 D2 BA BA2 BB BC BD
  go_cut [7] from 21 to 25 (fun s7 wx => ∃ (Am : Option Addr) (cm : Nat), s7 = .slice Am (n + 1) cm ∧ Hid (SrcF wx (fun _ => True) Am ml) ∧ Hid (Below w5.heap.size w5 wx))
  case first =>
    go_region_held3 (fun w' => w'.cell? ⟨gf, 0, none⟩ = some (.string f1) ∧ w'.cell? ⟨gf, 1, none⟩ = some (.string f2)) (first | (with_reducible exact k0) | (with_reducible exact k1) | (with_reducible exact k2) | (with_reducible exact k3) | (with_reducible exact k4) | (with_reducible exact k5) | (with_reducible exact k6) | (with_reducible exact k7) | (with_reducible exact k8) | go_keep)
      (first
        | ((with_reducible (show if _ = true then Oper.wp _ _ _ (w5.drew) _ _ else _)); refine step_append_by rfl _ (.tmp 21) 22 rfl _ _ (.slice Aa n ca) wa rfl rfl RA.out ?_)
        | ((with_reducible (show if _ = true then Oper.wp _ _ _ (wa.alloc (.cells #[.string f1, .string f2] 32)) _ _ else _)); refine step_append_by rfl (.tmp 22) (.tmp 24) 22 rfl _ _ (.slice Ab (n + 1) cb) wb rfl rfl RB.out ?_)
        | ((with_reducible (show if _ = true then Oper.wp _ _ _ ((w5.alloc (.cells #[.string f1, .string f2] 32)).drew) _ _ else _)); refine step_append_by rfl _ (.tmp 21) 22 rfl _ _ (.slice Ac n cc) we rfl rfl RC.out ?_)
        | ((with_reducible (show if _ = true then Oper.wp _ _ _ we _ _ else _)); refine step_append_by rfl (.tmp 22) (.tmp 24) 22 rfl _ _ (.slice Ad (n + 1) cd) wd rfl rfl RD.out ?_))
    all_goals
      go_wp2_with fail
      go_meet
      first
        | exact ⟨Ab, cb, rfl, SB, HBB⟩
        | exact ⟨Ad, cd, rfl, SD, HBD⟩
  case rest =>
    obtain ⟨Am, cm, rfl, SM, bb⟩ := hcut
    clear RA RB RC RD SB SD HBB HBD k0 k1 k2 k3 k4 k5 k6 k7 k8
    have bbo := bb.out
    have B6 := Lib.hid (B5.out.trans (bbo.mono B5.out.size))
    have L_6 := Lib.hid (L_5.out.below bbo)
    have F_6 := Lib.hid (F_5.out.kept (Turn.of_below (S := fun _ => False) bbo) (fun h => h))
    clear B5 L_5 F_5
    clear bbo bb
    rw [HML.out] at HBM HNM HOL HOC
    obtain ⟨m, hm⟩ : ∃ m, (elemF ls viaN).length = m := ⟨_, rfl⟩
    have HE := Lib.hid hm
    have hmm : m ≤ 1000000000 := by have := elem_bulk viaN ls; have := HB.out; omega
    clear hm
    cases hv : (lowF (bl f1) == viaN) with
    | true =>
      have y : wc.cell? ⟨gf, 0, none⟩ = some (.string f1) := F_6.out.cell 0
      go_wp2_with fail
      clear y
      have C := ty_same f1 ⟨#[118, 105, 97]⟩ wc
      rw [show lowF (bl ⟨#[118, 105, 97]⟩) = viaN from by decide, hv] at C
      refine (C).mono ?_
      rintro e w7 ⟨rfl, b⟩
      clear C
      have B7 := Lib.hid (B6.out.trans (b.mono B6.out.size))
      have L_7 := Lib.hid (L_6.out.below b)
      have F_7 := Lib.hid (F_6.out.kept (Turn.of_below (S := fun _ => False) b) (fun h => h))
      have M_7 := Lib.hid (SM.out.below b)
      clear B6 L_6 F_6 SM
      clear b
      cases hc : (lowF (bl f1) == conN) with
      | true =>
        have y : w7.cell? ⟨gf, 0, none⟩ = some (.string f1) := F_7.out.cell 0
        go_wp2_with fail
        clear y
        have C := ty_same f1 ⟨#[99, 111, 110, 110, 101, 99, 116, 105, 111, 110]⟩ w7
        rw [show lowF (bl ⟨#[99, 111, 110, 110, 101, 99, 116, 105, 111, 110]⟩) = conN from by decide, hc] at C
        refine (C).mono ?_
        rintro e w8 ⟨rfl, b⟩
        clear C
        have B8 := Lib.hid (B7.out.trans (b.mono B7.out.size))
        have L_8 := Lib.hid (L_7.out.below b)
        have F_8 := Lib.hid (F_7.out.kept (Turn.of_below (S := fun _ => False) b) (fun h => h))
        have M_8 := Lib.hid (M_7.out.below b)
        clear B7 L_7 F_7 M_7
        clear b
        clear M_8
        go_wp2_with fail
        have C := via_any w8 A ls n c HN.out HB.out L_8.out
        refine (C).mono ?_
        rintro e w9 ⟨vv, oo, rfl, owv, _, b⟩
        obtain ⟨Av, cv, hvv, srv⟩ := owv.src (fun _ => True) (fun _ _ => trivial)
        rw [via_len, HN.out] at hvv
        subst hvv
        have V := Lib.hid srv
        clear owv srv C
        have B9 := Lib.hid (B8.out.trans (b.mono B8.out.size))
        have L_9 := Lib.hid (L_8.out.below b)
        have F_9 := Lib.hid (F_8.out.kept (Turn.of_below (S := fun _ => False) b) (fun h => h))
        clear B8 L_8 F_8
        clear b
        go_wp2_with fail
        have C := elem_any w9 Av (viaF ls) (n + 1) cv (by rw [via_len, HN.out]) HBV.out V.out ⟨#[86, 73, 65]⟩
        rw [via_elems ls (bl ⟨#[86, 73, 65]⟩) (by decide), elem_low ls (bl ⟨#[86, 73, 65]⟩) viaN (by decide)] at C
        clear V
        refine (C).mono ?_
        rintro e w10 ⟨vv, oo, rfl, owv, _, b⟩
        obtain ⟨Ae, ce, hvv, _⟩ := owv.src (fun _ => True) (fun _ _ => trivial)
        rw [List.length_append, HE.out, show [ownN].length = 1 from rfl] at hvv
        subst hvv
        clear owv C
        have B10 := Lib.hid (B9.out.trans (b.mono B9.out.size))
        have L_10 := Lib.hid (L_9.out.below b)
        have F_10 := Lib.hid (F_9.out.kept (Turn.of_below (S := fun _ => False) b) (fun h => h))
        clear B9 L_9 F_9
        clear b
        go_wp2_with fail
        have C := elem_any w10 A ls n c HN.out HB.out L_10.out ⟨#[118, 105, 97]⟩
        rw [show bl ⟨#[118, 105, 97]⟩ = viaN from rfl] at C
        clear L_10
        clear F_10
        refine (C).mono ?_
        rintro e w11 ⟨vv, oo, rfl, owv, _, b⟩
        obtain ⟨Ag, cg, hvv, _⟩ := owv.src (fun _ => True) (fun _ _ => trivial)
        rw [HE.out] at hvv
        subst hvv
        clear owv C
        have B11 := Lib.hid (B10.out.trans (b.mono B10.out.size))
        clear B10
        clear b
        have hee : (((m + 1 : Nat) : Int) == (m : Int) + 1) = true := by simp
        go_wp2_with fail
        refine ((wakes_any w11)).mono ?_
        rintro e w12 ⟨rfl, b⟩
        have B12 := Lib.hid (B11.out.trans (b.mono B11.out.size))
        clear B11
        clear b
        go_wp2_with fail
        go_ret
        exact ⟨rfl, B12.out⟩
      | false =>
        have y : w7.cell? ⟨gf, 0, none⟩ = some (.string f1) := F_7.out.cell 0
        go_wp2_with fail
        clear y
        have C := ty_same f1 ⟨#[99, 111, 110, 110, 101, 99, 116, 105, 111, 110]⟩ w7
        rw [show lowF (bl ⟨#[99, 111, 110, 110, 101, 99, 116, 105, 111, 110]⟩) = conN from by decide, hc] at C
        refine (C).mono ?_
        rintro e w8 ⟨rfl, b⟩
        clear C
        have B8 := Lib.hid (B7.out.trans (b.mono B7.out.size))
        have L_8 := Lib.hid (L_7.out.below b)
        have F_8 := Lib.hid (F_7.out.kept (Turn.of_below (S := fun _ => False) b) (fun h => h))
        have M_8 := Lib.hid (M_7.out.below b)
        clear B7 L_7 F_7 M_7
        clear b
        go_wp2_with fail
        have C := closes_any mi w8 Am ml (n + 1) cm HNM.out HBM.out M_8.out
        rw [HOC.out hc, HQ3.out] at C
        clear M_8
        refine (C).mono ?_
        rintro e w9 ⟨rfl, b⟩
        clear C
        have B9 := Lib.hid (B8.out.trans (b.mono B8.out.size))
        have L_9 := Lib.hid (L_8.out.below b)
        have F_9 := Lib.hid (F_8.out.kept (Turn.of_below (S := fun _ => False) b) (fun h => h))
        clear B8 L_8 F_8
        clear b
        go_wp2_with fail
        have C := closes_any mi w9 A ls n c HN.out HB.out L_9.out
        rw [HQ3.out] at C
        refine (C).mono ?_
        rintro e w10 ⟨rfl, b⟩
        clear C
        have B10 := Lib.hid (B9.out.trans (b.mono B9.out.size))
        have L_10 := Lib.hid (L_9.out.below b)
        have F_10 := Lib.hid (F_9.out.kept (Turn.of_below (S := fun _ => False) b) (fun h => h))
        clear B9 L_9 F_9
        clear b
        go_wp2_with fail
        have C := via_any w10 A ls n c HN.out HB.out L_10.out
        refine (C).mono ?_
        rintro e w11 ⟨vv, oo, rfl, owv, _, b⟩
        obtain ⟨Av, cv, hvv, srv⟩ := owv.src (fun _ => True) (fun _ _ => trivial)
        rw [via_len, HN.out] at hvv
        subst hvv
        have V := Lib.hid srv
        clear owv srv C
        have B11 := Lib.hid (B10.out.trans (b.mono B10.out.size))
        have L_11 := Lib.hid (L_10.out.below b)
        have F_11 := Lib.hid (F_10.out.kept (Turn.of_below (S := fun _ => False) b) (fun h => h))
        clear B10 L_10 F_10
        clear b
        go_wp2_with fail
        have C := elem_any w11 Av (viaF ls) (n + 1) cv (by rw [via_len, HN.out]) HBV.out V.out ⟨#[86, 73, 65]⟩
        rw [via_elems ls (bl ⟨#[86, 73, 65]⟩) (by decide), elem_low ls (bl ⟨#[86, 73, 65]⟩) viaN (by decide)] at C
        clear V
        refine (C).mono ?_
        rintro e w12 ⟨vv, oo, rfl, owv, _, b⟩
        obtain ⟨Ae, ce, hvv, _⟩ := owv.src (fun _ => True) (fun _ _ => trivial)
        rw [List.length_append, HE.out, show [ownN].length = 1 from rfl] at hvv
        subst hvv
        clear owv C
        have B12 := Lib.hid (B11.out.trans (b.mono B11.out.size))
        have L_12 := Lib.hid (L_11.out.below b)
        have F_12 := Lib.hid (F_11.out.kept (Turn.of_below (S := fun _ => False) b) (fun h => h))
        clear B11 L_11 F_11
        clear b
        go_wp2_with fail
        have C := elem_any w12 A ls n c HN.out HB.out L_12.out ⟨#[118, 105, 97]⟩
        rw [show bl ⟨#[118, 105, 97]⟩ = viaN from rfl] at C
        clear L_12
        clear F_12
        refine (C).mono ?_
        rintro e w13 ⟨vv, oo, rfl, owv, _, b⟩
        obtain ⟨Ag, cg, hvv, _⟩ := owv.src (fun _ => True) (fun _ _ => trivial)
        rw [HE.out] at hvv
        subst hvv
        clear owv C
        have B13 := Lib.hid (B12.out.trans (b.mono B12.out.size))
        clear B12
        clear b
        have hee : (((m + 1 : Nat) : Int) == (m : Int) + 1) = true := by simp
        go_wp2_with fail
        refine ((wakes_any w13)).mono ?_
        rintro e w14 ⟨rfl, b⟩
        have B14 := Lib.hid (B13.out.trans (b.mono B13.out.size))
        clear B13
        clear b
        go_wp2_with fail
        go_ret
        exact ⟨rfl, B14.out⟩
    | false =>
      have y : wc.cell? ⟨gf, 0, none⟩ = some (.string f1) := F_6.out.cell 0
      go_wp2_with fail
      clear y
      have C := ty_same f1 ⟨#[118, 105, 97]⟩ wc
      rw [show lowF (bl ⟨#[118, 105, 97]⟩) = viaN from by decide, hv] at C
      refine (C).mono ?_
      rintro e w7 ⟨rfl, b⟩
      clear C
      have B7 := Lib.hid (B6.out.trans (b.mono B6.out.size))
      have L_7 := Lib.hid (L_6.out.below b)
      have F_7 := Lib.hid (F_6.out.kept (Turn.of_below (S := fun _ => False) b) (fun h => h))
      have M_7 := Lib.hid (SM.out.below b)
      clear B6 L_6 F_6 SM
      clear b
      go_wp2_with fail
      have C := loops_any w7 Am ml (n + 1) cm HNM.out HBM.out M_7.out
      rw [HOL.out hv, HQ2.out] at C
      refine (C).mono ?_
      rintro e w8 ⟨rfl, b⟩
      clear C
      have B8 := Lib.hid (B7.out.trans (b.mono B7.out.size))
      have L_8 := Lib.hid (L_7.out.below b)
      have F_8 := Lib.hid (F_7.out.kept (Turn.of_below (S := fun _ => False) b) (fun h => h))
      have M_8 := Lib.hid (M_7.out.below b)
      clear B7 L_7 F_7 M_7
      clear b
      go_wp2_with fail
      have C := loops_any w8 A ls n c HN.out HB.out L_8.out
      rw [HQ2.out] at C
      refine (C).mono ?_
      rintro e w9 ⟨rfl, b⟩
      clear C
      have B9 := Lib.hid (B8.out.trans (b.mono B8.out.size))
      have L_9 := Lib.hid (L_8.out.below b)
      have F_9 := Lib.hid (F_8.out.kept (Turn.of_below (S := fun _ => False) b) (fun h => h))
      have M_9 := Lib.hid (M_8.out.below b)
      clear B8 L_8 F_8 M_8
      clear b
      cases hc : (lowF (bl f1) == conN) with
      | true =>
        have y : w9.cell? ⟨gf, 0, none⟩ = some (.string f1) := F_9.out.cell 0
        go_wp2_with fail
        clear y
        have C := ty_same f1 ⟨#[99, 111, 110, 110, 101, 99, 116, 105, 111, 110]⟩ w9
        rw [show lowF (bl ⟨#[99, 111, 110, 110, 101, 99, 116, 105, 111, 110]⟩) = conN from by decide, hc] at C
        refine (C).mono ?_
        rintro e w10 ⟨rfl, b⟩
        clear C
        have B10 := Lib.hid (B9.out.trans (b.mono B9.out.size))
        have L_10 := Lib.hid (L_9.out.below b)
        have F_10 := Lib.hid (F_9.out.kept (Turn.of_below (S := fun _ => False) b) (fun h => h))
        have M_10 := Lib.hid (M_9.out.below b)
        clear B9 L_9 F_9 M_9
        clear b
        clear M_10
        go_wp2_with fail
        have C := via_any w10 A ls n c HN.out HB.out L_10.out
        refine (C).mono ?_
        rintro e w11 ⟨vv, oo, rfl, owv, _, b⟩
        obtain ⟨Av, cv, hvv, srv⟩ := owv.src (fun _ => True) (fun _ _ => trivial)
        rw [via_len, HN.out] at hvv
        subst hvv
        have V := Lib.hid srv
        clear owv srv C
        have B11 := Lib.hid (B10.out.trans (b.mono B10.out.size))
        have L_11 := Lib.hid (L_10.out.below b)
        have F_11 := Lib.hid (F_10.out.kept (Turn.of_below (S := fun _ => False) b) (fun h => h))
        clear B10 L_10 F_10
        clear b
        go_wp2_with fail
        have C := elem_any w11 Av (viaF ls) (n + 1) cv (by rw [via_len, HN.out]) HBV.out V.out ⟨#[86, 73, 65]⟩
        rw [via_elems ls (bl ⟨#[86, 73, 65]⟩) (by decide), elem_low ls (bl ⟨#[86, 73, 65]⟩) viaN (by decide)] at C
        clear V
        refine (C).mono ?_
        rintro e w12 ⟨vv, oo, rfl, owv, _, b⟩
        obtain ⟨Ae, ce, hvv, _⟩ := owv.src (fun _ => True) (fun _ _ => trivial)
        rw [List.length_append, HE.out, show [ownN].length = 1 from rfl] at hvv
        subst hvv
        clear owv C
        have B12 := Lib.hid (B11.out.trans (b.mono B11.out.size))
        have L_12 := Lib.hid (L_11.out.below b)
        have F_12 := Lib.hid (F_11.out.kept (Turn.of_below (S := fun _ => False) b) (fun h => h))
        clear B11 L_11 F_11
        clear b
        go_wp2_with fail
        have C := elem_any w12 A ls n c HN.out HB.out L_12.out ⟨#[118, 105, 97]⟩
        rw [show bl ⟨#[118, 105, 97]⟩ = viaN from rfl] at C
        clear L_12
        clear F_12
        refine (C).mono ?_
        rintro e w13 ⟨vv, oo, rfl, owv, _, b⟩
        obtain ⟨Ag, cg, hvv, _⟩ := owv.src (fun _ => True) (fun _ _ => trivial)
        rw [HE.out] at hvv
        subst hvv
        clear owv C
        have B13 := Lib.hid (B12.out.trans (b.mono B12.out.size))
        clear B12
        clear b
        have hee : (((m + 1 : Nat) : Int) == (m : Int) + 1) = true := by simp
        go_wp2_with fail
        refine ((wakes_any w13)).mono ?_
        rintro e w14 ⟨rfl, b⟩
        have B14 := Lib.hid (B13.out.trans (b.mono B13.out.size))
        clear B13
        clear b
        go_wp2_with fail
        go_ret
        exact ⟨rfl, B14.out⟩
      | false =>
        have y : w9.cell? ⟨gf, 0, none⟩ = some (.string f1) := F_9.out.cell 0
        go_wp2_with fail
        clear y
        have C := ty_same f1 ⟨#[99, 111, 110, 110, 101, 99, 116, 105, 111, 110]⟩ w9
        rw [show lowF (bl ⟨#[99, 111, 110, 110, 101, 99, 116, 105, 111, 110]⟩) = conN from by decide, hc] at C
        refine (C).mono ?_
        rintro e w10 ⟨rfl, b⟩
        clear C
        have B10 := Lib.hid (B9.out.trans (b.mono B9.out.size))
        have L_10 := Lib.hid (L_9.out.below b)
        have F_10 := Lib.hid (F_9.out.kept (Turn.of_below (S := fun _ => False) b) (fun h => h))
        have M_10 := Lib.hid (M_9.out.below b)
        clear B9 L_9 F_9 M_9
        clear b
        go_wp2_with fail
        have C := closes_any mi w10 Am ml (n + 1) cm HNM.out HBM.out M_10.out
        rw [HOC.out hc, HQ3.out] at C
        clear M_10
        refine (C).mono ?_
        rintro e w11 ⟨rfl, b⟩
        clear C
        have B11 := Lib.hid (B10.out.trans (b.mono B10.out.size))
        have L_11 := Lib.hid (L_10.out.below b)
        have F_11 := Lib.hid (F_10.out.kept (Turn.of_below (S := fun _ => False) b) (fun h => h))
        clear B10 L_10 F_10
        clear b
        go_wp2_with fail
        have C := closes_any mi w11 A ls n c HN.out HB.out L_11.out
        rw [HQ3.out] at C
        refine (C).mono ?_
        rintro e w12 ⟨rfl, b⟩
        clear C
        have B12 := Lib.hid (B11.out.trans (b.mono B11.out.size))
        have L_12 := Lib.hid (L_11.out.below b)
        have F_12 := Lib.hid (F_11.out.kept (Turn.of_below (S := fun _ => False) b) (fun h => h))
        clear B11 L_11 F_11
        clear b
        go_wp2_with fail
        have C := via_any w12 A ls n c HN.out HB.out L_12.out
        refine (C).mono ?_
        rintro e w13 ⟨vv, oo, rfl, owv, _, b⟩
        obtain ⟨Av, cv, hvv, srv⟩ := owv.src (fun _ => True) (fun _ _ => trivial)
        rw [via_len, HN.out] at hvv
        subst hvv
        have V := Lib.hid srv
        clear owv srv C
        have B13 := Lib.hid (B12.out.trans (b.mono B12.out.size))
        have L_13 := Lib.hid (L_12.out.below b)
        have F_13 := Lib.hid (F_12.out.kept (Turn.of_below (S := fun _ => False) b) (fun h => h))
        clear B12 L_12 F_12
        clear b
        go_wp2_with fail
        have C := elem_any w13 Av (viaF ls) (n + 1) cv (by rw [via_len, HN.out]) HBV.out V.out ⟨#[86, 73, 65]⟩
        rw [via_elems ls (bl ⟨#[86, 73, 65]⟩) (by decide), elem_low ls (bl ⟨#[86, 73, 65]⟩) viaN (by decide)] at C
        clear V
        refine (C).mono ?_
        rintro e w14 ⟨vv, oo, rfl, owv, _, b⟩
        obtain ⟨Ae, ce, hvv, _⟩ := owv.src (fun _ => True) (fun _ _ => trivial)
        rw [List.length_append, HE.out, show [ownN].length = 1 from rfl] at hvv
        subst hvv
        clear owv C
        have B14 := Lib.hid (B13.out.trans (b.mono B13.out.size))
        have L_14 := Lib.hid (L_13.out.below b)
        have F_14 := Lib.hid (F_13.out.kept (Turn.of_below (S := fun _ => False) b) (fun h => h))
        clear B13 L_13 F_13
        clear b
        go_wp2_with fail
        have C := elem_any w14 A ls n c HN.out HB.out L_14.out ⟨#[118, 105, 97]⟩
        rw [show bl ⟨#[118, 105, 97]⟩ = viaN from rfl] at C
        clear L_14
        clear F_14
        refine (C).mono ?_
        rintro e w15 ⟨vv, oo, rfl, owv, _, b⟩
        obtain ⟨Ag, cg, hvv, _⟩ := owv.src (fun _ => True) (fun _ _ => trivial)
        rw [HE.out] at hvv
        subst hvv
        clear owv C
        have B15 := Lib.hid (B14.out.trans (b.mono B14.out.size))
        clear B14
        clear b
        have hee : (((m + 1 : Nat) : Int) == (m : Int) + 1) = true := by simp
        go_wp2_with fail
        refine ((wakes_any w15)).mono ?_
        rintro e w16 ⟨rfl, b⟩
        have B16 := Lib.hid (B15.out.trans (b.mono B15.out.size))
        clear B15
        clear b
        go_wp2_with fail
        go_ret
        exact ⟨rfl, B16.out⟩
end Go.Proofs.YtinibacmhmmcdaaDoor.Hop
