/-
  The law VaryOthers: walk.
  Conditions: what the arguments read as; the lists and the field hold at most 100000000 bytes.
-/
import Derived.Test.YtbkpiadbgpnhlaaDoorWJ
namespace Go.Proofs.YtbkpiadbgpnhlaaDoor.Var
open Go.RowKit Hop

theorem any_snoc2 {ns : List (List UInt8)} {k : Nat} {x : List UInt8} (f : List UInt8 → Bool) (h : ns[k]? = some x) : (ns.take (k + 1)).any f = ((ns.take k).any f || f x) := by
  rw [take_snoc ns k x h, List.any_append]
  simp
theorem srcf_box {w : World} {g : Nat} {f1 f2 : ByteArray} (h : Is w g 32 [.string f1, .string f2]) : SrcF w (fun _ => True) (some ⟨g, 0, none⟩) [(bl f1, bl f2)] := fun _ => by
  refine ⟨_, rfl, trivial, h.lt, fun i f hf => ?_⟩
  have hi : i = 0 := by
    have := (List.getElem?_eq_some_iff.1 hf).1
    simpa using this
  subst hi
  have hx : f = (bl f1, bl f2) := by simpa using hf.symm
  subst hx
  refine ⟨?_, ?_⟩
  · rw [add_at, Nat.zero_add, h.cell]
    simp only [strV, mk_bl]
    rfl
  · rw [add_at, Nat.zero_add, h.cell]
    simp only [strV, mk_bl]
    rfl
set_option maxHeartbeats 16000000 in
set_option maxRecDepth 100000 in
theorem others_law {P P' : Nat → Prop} (w0 : World) (A0 : Option Addr) (ns : List (List UInt8)) (k0 c0 : Nat) (hk : ns.length = k0) (hk9 : k0 ≤ 100000000) (hnl : ∀ x ∈ ns, x.length ≤ 140737488351232) (hs : SrcS w0 P' A0 ns)
    (A : Option Addr) (ls : List Fld) (n c : Nat) (hn : ls.length = n) (hnc : n ≤ c) (hb : bulkF ls ≤ 100000000) (h : SrcF w0 P A ls) (f1 f2 : ByteArray) (hf1 : f1.size ≤ 100000000) (hf2 : f2.size ≤ 100000000) (n3 : Nat) (hn3 : n3 ≤ 255) :
    Calls Tryd.prog 6 #[.slice A0 k0 c0, .slice A n c, .agg #[.string f1, .string f2], .int .u8 (n3 : Int)] w0 fun e w' => e = .returned (.bool true) ∧ Below w0.heap.size w0 w' := by
  have hlen := bulk_len ls
  have hk2 : n3 % (n + 1) < n + 1 := Nat.mod_lt _ (by omega)
  have er : ((n3 : Int)).tmod ((n : Int) + 1) = ((n3 % (n + 1) : Nat) : Int) := by rw [Int.tmod_eq_emod_of_nonneg (by omega)]; rfl
  obtain ⟨k, hkk⟩ : ∃ k, n3 % (n + 1) = k := ⟨_, rfl⟩
  rw [hkk] at hk2 er
  have hn0 : ¬ (n : Int) + 1 = 0 := by omega
  have HNN : n ≤ 100000000 := by omega
  have hwr : IntKind.i64.wrap ((n : Int) + 1) = (n : Int) + 1 := by rw [IntKind.wrap_i64]; omega
  obtain ⟨ml, hml⟩ : ∃ ml, ls.take k ++ [(bl f1, bl f2)] ++ ls.drop k = ml := ⟨_, rfl⟩
  have HML := Lib.hid hml
  have HNM := Lib.hid (show ml.length = n + 1 by rw [← hml]; simp; omega)
  have hff : bulkF [(bl f1, bl f2)] ≤ 200000003 := by rw [show bulkF [(bl f1, bl f2)] = (bl f1).length + (bl f2).length + 3 + 0 from rfl, bl_length, bl_length]; omega
  have HBM := Lib.hid (show bulkF ml ≤ 1000000000 by
    have h1 : bulkF (ls.take k) + bulkF (ls.drop k) = bulkF ls := by rw [← bulk_app, List.take_append_drop]
    rw [← hml, bulk_app, bulk_app]
    omega)
  obtain ⟨wt, hwt⟩ : ∃ b, (ns.any fun nm => lowF nm == lowF (bl f1)) = b := ⟨_, rfl⟩
  have HWT := Lib.hid hwt
  have HMO := Lib.hid (show (selF ns ml == selF ns ls) = !wt by
    have h1 := sel_more ns (ls.take k) (ls.drop k) (bl f1, bl f2)
    rw [List.take_append_drop, hml, hwt] at h1
    exact h1)
  have HSO := Lib.hid (sel_small ns ls)
  have HBS := Lib.hid (show bulkF (smallF ls) ≤ 1000000000 by rw [bulk_small]; omega)
  have HB := Lib.hid (show bulkF ls ≤ 1000000000 by omega)
  have HN := Lib.hid hn
  have HK := Lib.hid hk
  have HNA := Lib.hid hnl
  have HF1 := Lib.hid hf1
  have l1 : (ls.take k).length = k := by rw [List.length_take]; omega
  obtain ⟨n2, hn2⟩ : ∃ x, n - k = x := ⟨_, rfl⟩
  obtain ⟨c2, hc2⟩ : ∃ x, c - k = x := ⟨_, rfl⟩
  have l2 : (ls.drop k).length = n2 := by rw [List.length_drop]; omega
  have HL1 := Lib.hid l1
  have HL2 := Lib.hid l2
  obtain ⟨A1, hs1, src1⟩ := run_front_fl A n c k (by omega)
  obtain ⟨A2, hs2, src2⟩ := run_back_fl A n c k (by omega) hnc
  rw [hn2, hc2] at hs2
  have HKN := Lib.hid (show k + n2 = n by omega)
  have hbw : Below w0.heap.size w0 (w0.alloc (.cells #[.string f1, .string f2] 32)) := (Below.refl _ _).alloc (Nat.le_refl _) _
  have L := Lib.hid (h.below hbw)
  have NN := Lib.hid (hs.below hbw)
  have X := Lib.hid hbw
  have F := Lib.hid (Is.made w0 32 [.string f1, .string f2])
  have HS1 := Lib.hid src1
  have HS2 := Lib.hid src2
  obtain ⟨gf, hgf⟩ : ∃ gf, w0.heap.size = gf := ⟨_, rfl⟩
  have HGF := Lib.hid hgf
  rw [hgf] at F
  clear hlen hff hn hb h hml hbw hf1 hf2 hgf hkk hwt hk hnl hs l1 l2 hn2 hc2 src1 src2
  go_enter Tryd.func6, Tryd.ntmps6
  have hgf := HGF.out
  go_upto_region 2 with fail
  clear hgf
  obtain ⟨w1, hw1⟩ : ∃ w1, w0.alloc (.cells #[.string f1, .string f2] 32) = w1 := ⟨_, rfl⟩
  rw [hw1] at L NN X F ⊢
  clear hw1 er hn0 hwr
  have D0 : Below w1.heap.size w1 w1.drew := drew_below (Below.refl _ _)
  have D1 : Below w1.heap.size w1 (w1.alloc (.cells #[.string f1, .string f2] 32)) := (Below.refl _ _).alloc (Nat.le_refl _) _
  have D2 : Below w1.heap.size w1 (w1.alloc (.cells #[.string f1, .string f2] 32)).drew := drew_below D1
  have KK : ∀ Y : World, Below w1.heap.size w1 Y → (Y.cell? ⟨gf, 0, none⟩ = some (.string f1) ∧ Y.cell? ⟨gf, 1, none⟩ = some (.string f2)) := fun Y hY => by
    have i := F.out.kept (Turn.of_below (S := fun _ => False) hY) (fun h => h)
    exact ⟨i.cell 0, i.cell 1⟩
  obtain ⟨Aa, ca, wa, oa, ra, owna, oba, ba⟩ := nil_app w1.drew A1 (ls.take k) k c HL1.out (by omega) (HS1.out _ _ _ (L.out.below D0))
  have BA := D0.trans (ba.mono D0.size)
  have dA : Below wa.heap.size wa (wa.alloc (.cells #[.string f1, .string f2] 32)) := (Below.refl _ _).alloc (Nat.le_refl _) _
  have BA2 := BA.trans (dA.mono BA.size)
  obtain ⟨Ab, cb, wb, ob, rb, ownb, obb, BB, _⟩ := more_app (wa.alloc (.cells #[.string f1, .string f2] 32)) _ oa (ls.take k) [(bl f1, bl f2)] (own_below owna dA) (some ⟨wa.heap.size, 0, none⟩) 1 1 (k + 1) rfl (by rw [HL1.out]) (srcf_box (Is.made wa 32 [.string f1, .string f2])) (by omega) BA2 (fun b h => Nat.le_trans D0.size (oba b h))
  obtain ⟨Ae, ce, we, oe, re, owne, obe, BE, _⟩ := more_app wb _ ob (ls.take k ++ [(bl f1, bl f2)]) (ls.drop k) ownb A2 n2 c2 (n + 1) HL2.out (by have := HKN.out; simp only [List.length_append, HL1.out, List.length_cons, List.length_nil]; omega) (HS2.out _ _ _ HN.out (L.out.below BB)) (by omega) BB obb
  obtain ⟨Ag, cg, wg, og, rg, owng, obg, bg⟩ := nil_app (w1.alloc (.cells #[.string f1, .string f2] 32)).drew A1 (ls.take k) k c HL1.out (by omega) (HS1.out _ _ _ (L.out.below D2))
  have BG := D2.trans (bg.mono D2.size)
  have iG : Is wg w1.heap.size 32 [.string f1, .string f2] := is_below ((Is.made w1 32 [.string f1, .string f2]).drew) bg
  obtain ⟨Ah, ch, wh, oh, rh, ownh, obh, BH, _⟩ := more_app wg _ og (ls.take k) [(bl f1, bl f2)] owng (some ⟨w1.heap.size, 0, none⟩) 1 1 (k + 1) rfl (by rw [HL1.out]) (srcf_box iG) (by omega) BG (fun b h => Nat.le_trans D2.size (obg b h))
  obtain ⟨Ai, ci, wi, oi, ri, owni, obi, BI, _⟩ := more_app wh _ oh (ls.take k ++ [(bl f1, bl f2)]) (ls.drop k) ownh A2 n2 c2 (n + 1) HL2.out (by have := HKN.out; simp only [List.length_append, HL1.out, List.length_cons, List.length_nil]; omega) (HS2.out _ _ _ HN.out (L.out.below BH)) (by omega) BH obh
  rw [HML.out] at owne owni
  have RA := Lib.hid ra
  have RB := Lib.hid rb
  have RE := Lib.hid re
  have RG := Lib.hid rg
  have RH := Lib.hid rh
  have RI := Lib.hid ri
  have SE := Lib.hid (OwnF.reads owne)
  have SI := Lib.hid (OwnF.reads owni)
  have HBE := Lib.hid BE
  have HBI := Lib.hid BI
  have y0 := KK w1 (Below.refl _ _)
  have y1 := KK _ D0
  have y2 := KK _ D1
  have y3 := KK _ D2
  have y4 := KK _ BA
  have y5 := KK _ BA2
  have y6 := KK _ BB
  have y7 := KK _ BE
  have y8 := KK _ BG
  have y9 := KK _ BH
  have y10 := KK _ BI
  clear ra rb re rg rh ri owna ownb owne owng ownh owni oba obb obe obg obh obi ba bg dA iG KK D0 D1 D2 BA BA2 BB BE BG BH BI
  go_cut [10] from 22 to 33 (fun s10 wx => ∃ (Am : Option Addr) (cm : Nat), s10 = .slice Am (n + 1) cm ∧ Hid (SrcF wx (fun _ => True) Am ml) ∧ Hid (Below w1.heap.size w1 wx))
  case first =>
    go_region_held3 (fun w' => w'.cell? ⟨gf, 0, none⟩ = some (.string f1) ∧ w'.cell? ⟨gf, 1, none⟩ = some (.string f2)) (first | (with_reducible exact y0) | (with_reducible exact y1) | (with_reducible exact y2) | (with_reducible exact y3) | (with_reducible exact y4) | (with_reducible exact y5) | (with_reducible exact y6) | (with_reducible exact y7) | (with_reducible exact y8) | (with_reducible exact y9) | (with_reducible exact y10) | go_keep)
      (first
        | ((with_reducible (show if _ = true then Oper.wp _ _ _ (w1.drew) _ _ else _)); refine step_append_by rfl (.const (.slice none 0 0)) (.tmp 24) 22 rfl (.slice none 0 0) (.slice A1 k c) (.slice Aa k ca) wa rfl rfl RA.out ?_)
        | ((with_reducible (show if _ = true then Oper.wp _ _ _ (wa.alloc (.cells #[.string f1, .string f2] 32)) _ _ else _)); refine step_append_by rfl (.tmp 25) (.tmp 27) 22 rfl (.slice Aa k ca) (.slice (some ⟨wa.heap.size, 0, none⟩) 1 1) (.slice Ab (k + 1) cb) wb rfl rfl RB.out ?_)
        | ((with_reducible (show if _ = true then Oper.wp _ _ _ wb _ _ else _)); refine step_append_by rfl (.tmp 28) (.tmp 31) 22 rfl (.slice Ab (k + 1) cb) (.slice A2 n2 c2) (.slice Ae (n + 1) ce) we rfl rfl RE.out ?_)
        | ((with_reducible (show if _ = true then Oper.wp _ _ _ ((w1.alloc (.cells #[.string f1, .string f2] 32)).drew) _ _ else _)); refine step_append_by rfl (.const (.slice none 0 0)) (.tmp 24) 22 rfl (.slice none 0 0) (.slice A1 k c) (.slice Ag k cg) wg rfl rfl RG.out ?_)
        | ((with_reducible (show if _ = true then Oper.wp _ _ _ wg _ _ else _)); refine step_append_by rfl (.tmp 25) (.tmp 27) 22 rfl (.slice Ag k cg) (.slice (some ⟨w1.heap.size, 0, none⟩) 1 1) (.slice Ah (k + 1) ch) wh rfl rfl RH.out ?_)
        | ((with_reducible (show if _ = true then Oper.wp _ _ _ wh _ _ else _)); refine step_append_by rfl (.tmp 28) (.tmp 31) 22 rfl (.slice Ah (k + 1) ch) (.slice A2 n2 c2) (.slice Ai (n + 1) ci) wi rfl rfl RI.out ?_))
    all_goals
      go_wp2_with fail
      go_meet
      first
        | exact ⟨Ae, ce, rfl, SE, HBE⟩
        | exact ⟨Ai, ci, rfl, SI, HBI⟩
  case rest =>
    obtain ⟨Am, cm, rfl, SM, HX2⟩ := hcut
    clear RA RB RE RG RH RI SE SI HBE HBI y0 y1 y2 y3 y4 y5 y6 y7 y8 y9 y10 hs1 hs2
    obtain ⟨w2, hw2⟩ : ∃ w2, wc = w2 := ⟨_, rfl⟩
    subst hw2
    have X2 := Lib.hid (X.out.trans (HX2.out.mono X.out.size))
    have L2 := Lib.hid (L.out.below HX2.out)
    have N2 := Lib.hid (NN.out.below HX2.out)
    have F2 := Lib.hid (is_below F.out HX2.out)
    clear X L NN F HX2
    go_wp2_with fail
    go_loopw [11, 12] (fun tv vi wr => ∃ i : Nat, vi = .int .i64 (i : Int) ∧ i ≤ k0 ∧ tv = .bool ((ns.take i).any fun nm => lowF nm == lowF (bl f1)) ∧ Hid (Below wc.heap.size wc wr)) (fun _ vi _ => k0 - (intOf vi).toNat)
    case atStart => exact ⟨0, rfl, Nat.zero_le _, rfl, Lib.hid (Below.refl _ _)⟩
    case round =>
      obtain ⟨i, rfl, hi, rfl, HB2⟩ := hrel
      obtain ⟨ba, hba⟩ : ∃ b, ((ns.take i).any fun nm => lowF nm == lowF (bl f1)) = b := ⟨_, rfl⟩
      rw [hba]
      by_cases hlt : i < k0
      · obtain ⟨p, x, hx, hat, y, _, _⟩ := N2.out.at (c := c0) HK.out hlt HB2.out
        have HAK := Lib.hid (show ((ns.take (i + 1)).any fun nm => lowF nm == lowF (bl f1)) = (ba || (lowF x == lowF (bl f1))) by rw [any_snoc2 _ hx, hba])
        have yf := (HB2.out.cell (Lib.lt_of_cell (F2.out.cell 0))).trans (F2.out.cell 0)
        simp only [List.getElem?_cons_zero] at yf
        obtain ⟨Xs, hXs⟩ : ∃ Xs : ByteArray, Xs = ⟨x.toArray⟩ := ⟨_, rfl⟩
        have hbx : bl Xs = x := by rw [hXs, bl_mk]
        have CS := Lib.hid (fun W : World => ty_same Xs f1 W)
        rw [hbx] at CS
        rw [← hXs] at y
        clear hXs hbx hx hba
        cases ba with
        | true =>
          clear CS
          go_wp2_with fail
          go_quiet (fail)
          go_wp2_with fail
          go_roundw
          case rel => exact ⟨i + 1, by go_num, hlt, by rw [HAK.out]; rfl, Lib.hid (below_drewN HB2.out _)⟩
          case measure => simp [intOf]; omega
        | false =>
          obtain ⟨sm, hsm⟩ : ∃ b, (lowF x == lowF (bl f1)) = b := ⟨_, rfl⟩
          rw [hsm] at CS HAK
          clear hsm
          go_upto_region 7 with fail
          have yd : wr.drew.cell? p = some (.string Xs) := y
          have yfd : wr.drew.cell? ⟨gf, 0, none⟩ = some (.string f1) := yf
          go_region_held3 (fun w' => w'.cell? p = some (.string Xs) ∧ w'.cell? ⟨gf, 0, none⟩ = some (.string f1)) (first | (with_reducible exact ⟨y, yf⟩) | (with_reducible exact ⟨yd, yfd⟩) | (with_reducible exact ⟨y6, yf6⟩) | go_keep)
            (first
              | (go_at_call 18
                 (with_reducible refine (CS.out wr.drew).mono ?_)
                 rintro e w6 ⟨rfl, b6⟩
                 have D6 : Hid (Below wr.heap.size wr w6) := Lib.hid ((drew_below (Below.refl wr.heap.size wr)).trans (b6.mono (drew_below (Below.refl wr.heap.size wr)).size))
                 have y6 : w6.cell? p = some (.string Xs) := (b6.cell (Lib.lt_of_cell yd)).trans yd
                 have yf6 : w6.cell? ⟨gf, 0, none⟩ = some (.string f1) := (b6.cell (Lib.lt_of_cell yfd)).trans yfd
                 clear b6))
          all_goals
            go_wp2_with fail
            go_roundw
            case rel => exact ⟨i + 1, by go_num, hlt, by rw [HAK.out]; rfl, Lib.hid (HB2.out.trans (D6.out.mono HB2.out.size))⟩
            case measure => simp [intOf]; omega
      · have hbw : ba = wt := by
          rw [← hba, List.take_of_length_le (by rw [HK.out]; omega)]
          exact HWT.out
        subst hbw
        clear hba
        have X3 := Lib.hid (X2.out.trans (HB2.out.mono X2.out.size))
        have L3 := Lib.hid (L2.out.below HB2.out)
        have N3 := Lib.hid (N2.out.below HB2.out)
        have M3 := Lib.hid (SM.out.below HB2.out)
        obtain ⟨sl, hsl⟩ : ∃ s, selF ns ls = s := ⟨_, rfl⟩
        obtain ⟨sm, hsm⟩ : ∃ s, selF ns ml = s := ⟨_, rfl⟩
        obtain ⟨ma, hma⟩ : ∃ x, sl.length = x := ⟨_, rfl⟩
        obtain ⟨mb, hmb⟩ : ∃ x, sm.length = x := ⟨_, rfl⟩
        have HMA := Lib.hid hma
        have HMB := Lib.hid hmb
        have HSA := Lib.hid hsl
        have HSB := Lib.hid hsm
        rw [hsl, hsm] at HMO
        rw [hsl] at HSO
        have hmal : ma ≤ k0 := by have := sel_len ls ns; rw [hsl, hma, HK.out] at this; exact this
        have hmbl : mb ≤ k0 := by have := sel_len ml ns; rw [hsm, hmb, HK.out] at this; exact this
        have hne : (!ba == ba) = false := by cases ba <;> rfl
        clear hsl hsm hma hmb X2 L2 N2 SM F2
        go_wp2_with fail
        have C := select_any wr A A0 ns ls k0 n c0 c HK.out HN.out (by omega) HNA.out HB.out N3.out L3.out
        rw [HSA.out] at C
        refine C.mono ?_
        rintro e w21 ⟨v, o, rfl, own, _, b⟩
        obtain ⟨AG, cG, hv, src⟩ := own.src (fun _ => True) (fun _ _ => trivial)
        rw [HMA.out] at hv
        subst hv
        have G := Lib.hid src
        clear own src C
        have B21 := Lib.hid (X3.out.trans (b.mono X3.out.size))
        have L_21 := Lib.hid (L3.out.below b)
        have N_21 := Lib.hid (N3.out.below b)
        have M_21 := Lib.hid (M3.out.below b)
        clear X3 L3 N3 M3
        clear b
        go_wp2_with fail
        have C := select_any w21 Am A0 ns ml k0 (n + 1) c0 cm HK.out HNM.out (by omega) HNA.out HBM.out N_21.out M_21.out
        rw [HSB.out] at C
        refine C.mono ?_
        rintro e w22 ⟨v, o, rfl, own, _, b⟩
        obtain ⟨AY, cY, hv, src⟩ := own.src (fun _ => True) (fun _ _ => trivial)
        rw [HMB.out] at hv
        subst hv
        have Y := Lib.hid src
        clear own src C
        have B22 := Lib.hid (B21.out.trans (b.mono B21.out.size))
        have L_22 := Lib.hid (L_21.out.below b)
        have N_22 := Lib.hid (N_21.out.below b)
        have M_22 := Lib.hid (M_21.out.below b)
        have G_22 := Lib.hid (G.out.below b)
        clear B21 L_21 N_21 M_21 G
        clear b
        go_wp2_with fail
        have C := vsame_any w22 AY AG sm sl mb ma cY cG HMB.out HMA.out (by omega) Y.out G_22.out
        rw [HMO.out] at C
        clear Y
        clear M_22
        refine (C).mono ?_
        rintro e w23 ⟨rfl, b⟩
        clear C
        have B23 := Lib.hid (B22.out.trans (b.mono B22.out.size))
        have L_23 := Lib.hid (L_22.out.below b)
        have N_23 := Lib.hid (N_22.out.below b)
        have G_23 := Lib.hid (G_22.out.below b)
        clear B22 L_22 N_22 G_22
        clear b
        go_wp2_with fail
        go_loopw [14, 15] (fun tv vi wr => ∃ (j : Nat) (o : Option Nat) (r : List Fld), vi = .int .i64 (j : Int) ∧ j ≤ n ∧ Hid (smallF (ls.take j) = r) ∧ r.length = j ∧ Hid (OwnF wr tv o r) ∧ Hid (∀ b, o = some b → w23.heap.size ≤ b) ∧ Hid (Below w23.heap.size w23 wr)) (fun _ vi _ => n - (intOf vi).toNat)
        case atStart => exact ⟨0, none, [], rfl, Nat.zero_le _, Lib.hid rfl, rfl, Lib.hid (OwnF.nil _), Lib.hid (fun _ h => by cases h), Lib.hid (Below.refl _ _)⟩
        case round =>
          obtain ⟨j, o, r, rfl, hj, HR, hrl, HO, HOB, HBJ⟩ := hrel
          by_cases hlj : j < n
          · obtain ⟨p, f, hf, hat, y, z, _, _⟩ := L_23.out.at (c := c) HN.out hlj HBJ.out
            have HRK := Lib.hid (show smallF (ls.take (j + 1)) = r ++ [(lowF f.1, f.2)] by rw [small_snoc ls j f hf, HR.out])
            obtain ⟨g1, g2⟩ := f
            simp only at *
            obtain ⟨Nm, hNm⟩ : ∃ Nm : ByteArray, Nm = ⟨g1.toArray⟩ := ⟨_, rfl⟩
            have hbn : bl Nm = g1 := by rw [hNm, bl_mk]
            have CL := Lib.hid (fun W : World => ty_lower Nm W)
            unfold Text at CL
            rw [hbn] at CL
            rw [← hNm] at y
            have HP := Lib.hid (fun (X : World) (hB : Below wr.heap.size wr X) => run_push_fld X _ o r (lowF g1, g2) (HO.out.kept (Turn.of_below (S := fun _ => False) hB) (fun _ _ h => h)) (by omega))
            simp only at HP
            clear hNm hbn hf
            obtain ⟨lg, hlg⟩ : ∃ l, lowF g1 = l := ⟨_, rfl⟩
            rw [hlg] at CL HP HRK
            clear hlg
            go_upto_region 15 with fail
            have yd : wr.drew.cell? p = some (.string Nm) := y
            have zd : wr.drew.cell? ⟨p.block, p.off + 1, none⟩ = some (.string ⟨g2.toArray⟩) := z
            go_region_held3 (fun w' => w'.cell? p = some (.string Nm) ∧ w'.cell? ⟨p.block, p.off + 1, none⟩ = some (.string ⟨g2.toArray⟩)) (first | (with_reducible exact ⟨y, z⟩) | (with_reducible exact ⟨yd, zd⟩) | (with_reducible exact ⟨y6, z6⟩) | (with_reducible exact ⟨y7, z7⟩) | (with_reducible exact ⟨y9, z9⟩) | go_keep)
              (first
                | (go_at_call 19
                   (with_reducible refine (CL.out wr.drew).mono ?_)
                   rintro e w6 ⟨rfl, b6⟩
                   have D6 : Hid (Below wr.heap.size wr w6) := Lib.hid ((drew_below (Below.refl wr.heap.size wr)).trans (b6.mono (drew_below (Below.refl wr.heap.size wr)).size))
                   have y6 : w6.cell? p = some (.string Nm) := (b6.cell (Lib.lt_of_cell yd)).trans yd
                   have z6 : w6.cell? ⟨p.block, p.off + 1, none⟩ = some (.string ⟨g2.toArray⟩) := (b6.cell (Lib.lt_of_cell zd)).trans zd
                   have D7 : Hid (Below wr.heap.size wr (w6.alloc (.cells #[.string ⟨lg.toArray⟩, .string ⟨g2.toArray⟩] 32))) := Lib.hid (D6.out.alloc D6.out.size _)
                   have y7 := (D7.out.cell (Lib.lt_of_cell y)).trans y
                   have z7 := (D7.out.cell (Lib.lt_of_cell z)).trans z
                   clear b6)
                | ((with_reducible (show if _ = true then Oper.wp _ _ _ (World.alloc w6 _) _ _ else _))
                   obtain ⟨v', w', o', hrun, own', t', ho'⟩ := HP.out w6 D6.out
                   refine step_append_by rfl (.tmp 65) (.tmp 78) 22 rfl _ _ v' w' rfl rfl hrun ?_
                   have OO := Lib.hid own'
                   have TT := Lib.hid (own_turn (HBJ.out.trans (D6.out.mono HBJ.out.size)) HOB.out t' ho')
                   have nlo : ∀ a : Addr, a.block < w23.heap.size → o ≠ some a.block := fun a ha e => by have := HOB.out _ e; omega
                   have y9 : w'.cell? p = some (.string Nm) := (TT.out.1.cell (by assumption)).trans ((HBJ.out.cell (by assumption)).symm.trans y)
                   have z9 : w'.cell? ⟨p.block, p.off + 1, none⟩ = some (.string ⟨g2.toArray⟩) := (TT.out.1.cell (p := ⟨p.block, p.off + 1, none⟩) (by assumption)).trans ((HBJ.out.cell (p := ⟨p.block, p.off + 1, none⟩) (by assumption)).symm.trans z)
                   clear own' t' ho' hrun nlo))
            all_goals
              go_wp2_with fail
              go_roundw
              case rel => exact ⟨j + 1, o', r ++ [(lg, g2)], by go_num, hlj, HRK, by simp [hrl], OO, Lib.hid TT.out.2, Lib.hid TT.out.1⟩
              case measure => simp [intOf]; omega
          · have HRE := Lib.hid (show r = smallF ls by rw [← HR.out, List.take_of_length_le (by rw [HN.out]; omega)])
            have X4 := Lib.hid (B23.out.trans (HBJ.out.mono B23.out.size))
            have N4 := Lib.hid (N_23.out.below HBJ.out)
            have G4 := Lib.hid (G_23.out.below HBJ.out)
            obtain ⟨A5, c5, hv5, src5⟩ := HO.out.src (fun _ => True) (fun _ _ => trivial)
            have hjn : j = n := by omega
            rw [hrl, hjn] at hv5
            subst hv5
            rw [HRE.out] at src5
            have E4 := Lib.hid src5
            have HEL := Lib.hid (show (smallF ls).length = n by rw [small_len, HN.out])
            obtain ⟨sq, hsq⟩ : ∃ s, selF ns (smallF ls) = s := ⟨_, rfl⟩
            obtain ⟨mq, hmq⟩ : ∃ x, sq.length = x := ⟨_, rfl⟩
            have HMQ := Lib.hid hmq
            have HSQ := Lib.hid hsq
            rw [hsq] at HSO
            have hmql : mq ≤ k0 := by have := sel_len (smallF ls) ns; rw [hsq, hmq, HK.out] at this; exact this
            have hle : (ma : Int) ≤ (k0 : Int) := by omega
            clear src5 HO hsq hmq hjn
            go_wp2_with fail
            have C := select_any wr A5 A0 ns (smallF ls) k0 n c0 c5 HK.out HEL.out (by omega) HNA.out HBS.out N4.out E4.out
            rw [HSQ.out] at C
            refine C.mono ?_
            rintro e w41 ⟨v, o, rfl, own, _, b⟩
            obtain ⟨AQ, cQ, hv, src⟩ := own.src (fun _ => True) (fun _ _ => trivial)
            rw [HMQ.out] at hv
            subst hv
            have Q := Lib.hid src
            clear own src C
            have B41 := Lib.hid (X4.out.trans (b.mono X4.out.size))
            have N_41 := Lib.hid (N4.out.below b)
            have G_41 := Lib.hid (G4.out.below b)
            have E_41 := Lib.hid (E4.out.below b)
            clear X4 N4 G4 E4
            clear b
            go_wp2_with fail
            have C := vsame_any w41 AQ AG sq sl mq ma cQ cG HMQ.out HMA.out (by omega) Q.out G_41.out
            rw [HSO.out] at C
            clear Q
            clear G_41
            clear N_41
            clear E_41
            refine (C).mono ?_
            rintro e w42 ⟨rfl, b⟩
            clear C
            have B42 := Lib.hid (B41.out.trans (b.mono B41.out.size))
            clear B41
            clear b
            go_wp2_with fail
            refine ((wakes_any w42)).mono ?_
            rintro e w43 ⟨rfl, b⟩
            have B43 := Lib.hid (B42.out.trans (b.mono B42.out.size))
            clear B42
            clear b
            go_wp2_with fail
            go_ret
            exact ⟨rfl, B43.out⟩
end Go.Proofs.YtbkpiadbgpnhlaaDoor.Var
