/-
  What package acl's Matches, Admits, May, All do.
  Conditions: the rules' Methods lie in memory; where a rule may be, Go's table of powers of ten is as its text lays it.
-/
import Derived.Test.YtcmnnidjamdmeaaDoorAC
namespace Go.Proofs.YtcmnnidjamdmeaaDoor.Acl
open Go.RowKit

theorem Ok.box {w : World} {r : RuE} : Is (w.alloc (.cells #[.bool r.al, .string r.h, .int .i64 r.lo, .int .i64 r.hi, .slice r.A r.n r.c] 25)) w.heap.size 25 r.cells := Is.made w 25 r.cells
theorem is_below {w w' : World} {g : Nat} {t : TypeId} {l : List Value} (h : Is w g t l) (hb : Below w.heap.size w w') : Is w' g t l := h.kept (Turn.of_below (S := fun _ => False) hb) (fun h => h)

set_option maxHeartbeats 4000000 in
set_option maxRecDepth 100000 in
theorem matches_any (r : RuE) (h : ByteArray) (p : Int) (m : ByteArray) (w : World) (hr : r.Ok w) (hz2 : h.size ≤ 9223372036854775807) :
    Calls Tryd.prog 12 #[.agg #[.bool r.al, .string r.h, .int .i64 r.lo, .int .i64 r.hi, .slice r.A r.n r.c], .string h, .int .i64 p, .string m] w fun e w' => e = .returned (.bool (matchF (bl h) p (bl m) r)) ∧ Below w.heap.size w w' := by
  have CC := Lib.hid (fun W : World => covers_any r.h h W hz2)
  have HM := Lib.hid (show matchF (bl h) p (bl m) r = (coversF (bl r.h) (bl h) && ((decide (r.lo ≤ p) && decide (p ≤ r.hi)) && (r.ms.isEmpty || r.ms.any (fun x => x == bl m)))) from rfl)
  have I0 := Ok.box (w := w) (r := r)
  have b0 : Below w.heap.size w (w.alloc (.cells #[.bool r.al, .string r.h, .int .i64 r.lo, .int .i64 r.hi, .slice r.A r.n r.c] 25)) := (Below.refl _ _).alloc (Nat.le_refl _) _
  have hs0 : (w.alloc (.cells #[.bool r.al, .string r.h, .int .i64 r.lo, .int .i64 r.hi, .slice r.A r.n r.c] 25)).heap.size = w.heap.size + 1 := by simp
  have I1 := I0.alloc (.cells #[.string m] 9)
  have M1 := Is.made (w.alloc (.cells #[.bool r.al, .string r.h, .int .i64 r.lo, .int .i64 r.hi, .slice r.A r.n r.c] 25)) 9 [.string m]
  have b1 := b0.alloc (by rw [hs0]; omega) (.cells #[.string m] 9)
  have HZ := Lib.hid (show ((w.alloc (.cells #[.bool r.al, .string r.h, .int .i64 r.lo, .int .i64 r.hi, .slice r.A r.n r.c] 25)).alloc (.cells #[.string m] 9)).heap.size = w.heap.size + 2 by simp)
  rw [hs0] at M1
  have I1 := Lib.hid I1
  have M1 := Lib.hid M1
  have B1 := Lib.hid b1
  have HR := Lib.hid hr
  have HMT := Lib.hid (show r.ms.isEmpty = decide (r.n = 0) by rw [← hr.hn]; cases r.ms <;> simp)
  clear I0 b0 hs0 b1 hr
  cases hc : coversF (bl r.h) (bl h) with
  | false =>
    have HR0 := Lib.hid (show matchF (bl h) p (bl m) r = false by rw [HM.out, hc]; rfl)
    rw [hc] at CC
    clear hc
    go_enter Tryd.func12, Tryd.ntmps12
    go_wp2_with fail
    refine (CC.out _).mono ?_
    rintro e w2 ⟨rfl, b2⟩
    have I2 := Lib.hid (is_below I1.out b2)
    have y2 := I2.out.cell 2
    have y3 := I2.out.cell 3
    have y4 := I2.out.cell 4
    simp only [RuE.cells, List.getElem?_cons_zero, List.getElem?_cons_succ] at y2 y3 y4
    have B2 := Lib.hid (B1.out.trans (b2.mono B1.out.size))
    have M2 := Lib.hid (is_below M1.out b2)
    clear b2
    go_wp2_with fail
    go_ret
    exact ⟨ret_bool HR0.out.symm, B2.out⟩
  | true =>
    rw [hc] at CC HM
    clear hc
    by_cases h1 : r.lo ≤ p
    · by_cases h2 : p ≤ r.hi
      · by_cases h3 : r.n = 0
        · have HR0 := Lib.hid (show matchF (bl h) p (bl m) r = true by rw [HM.out, HMT.out, decide_eq_true h1, decide_eq_true h2, decide_eq_true h3]; rfl)
          have e3 : ((r.n : Int) == 0) = true := by rw [h3]; rfl
          have e4 : (r.n : Int) = 0 := by rw [h3]; rfl
          clear h3
          go_enter Tryd.func12, Tryd.ntmps12
          go_wp2_with fail
          refine (CC.out _).mono ?_
          rintro e w2 ⟨rfl, b2⟩
          have I2 := Lib.hid (is_below I1.out b2)
          have y2 := I2.out.cell 2
          have y3 := I2.out.cell 3
          have y4 := I2.out.cell 4
          simp only [RuE.cells, List.getElem?_cons_zero, List.getElem?_cons_succ] at y2 y3 y4
          have B2 := Lib.hid (B1.out.trans (b2.mono B1.out.size))
          have M2 := Lib.hid (is_below M1.out b2)
          clear b2
          go_wp2_with fail
          go_ret
          exact ⟨ret_bool HR0.out.symm, B2.out⟩
        · have e3 : ((r.n : Int) == 0) = false := beq_eq_false_iff_ne.2 (by omega)
          have e4 : ¬ (r.n : Int) = 0 := by omega
          have HR0 := Lib.hid (show matchF (bl h) p (bl m) r = r.ms.any (fun x => x == bl m) by rw [HM.out, HMT.out, decide_eq_true h1, decide_eq_true h2, decide_eq_false h3]; rfl)
          clear h3
          go_enter Tryd.func12, Tryd.ntmps12
          go_wp2_with fail
          refine (CC.out _).mono ?_
          rintro e w2 ⟨rfl, b2⟩
          have I2 := Lib.hid (is_below I1.out b2)
          have y2 := I2.out.cell 2
          have y3 := I2.out.cell 3
          have y4 := I2.out.cell 4
          simp only [RuE.cells, List.getElem?_cons_zero, List.getElem?_cons_succ] at y2 y3 y4
          have B2 := Lib.hid (B1.out.trans (b2.mono B1.out.size))
          have M2 := Lib.hid (is_below M1.out b2)
          clear b2
          have CH := hasS_any 25 #[.pointer (some ⟨w.heap.size + 1, 0, none⟩)] eg_match (fun x => x == bl m) w2 r.A r.ms r.n r.c HR.out.hn HR.out.hm (srcs_below HR.out.s B2.out) (fun x _ X hX => by
            have := match1_any ⟨x.toArray⟩ m (w.heap.size + 1) X ((hX.cell M2.out.lt).trans (M2.out.cell 0))
            rw [bl_mk] at this
            exact this)
          go_wp2_with fail
          refine CH.mono ?_
          rintro e w3 ⟨rfl, b3⟩
          go_wp2_with fail
          go_ret
          exact ⟨ret_bool HR0.out.symm, B2.out.trans (b3.mono B2.out.size)⟩
      · have HR0 := Lib.hid (show matchF (bl h) p (bl m) r = false by rw [HM.out, decide_eq_false h2, Bool.and_false, Bool.false_and]; rfl)
        go_enter Tryd.func12, Tryd.ntmps12
        go_wp2_with fail
        refine (CC.out _).mono ?_
        rintro e w2 ⟨rfl, b2⟩
        have I2 := Lib.hid (is_below I1.out b2)
        have y2 := I2.out.cell 2
        have y3 := I2.out.cell 3
        have y4 := I2.out.cell 4
        simp only [RuE.cells, List.getElem?_cons_zero, List.getElem?_cons_succ] at y2 y3 y4
        have B2 := Lib.hid (B1.out.trans (b2.mono B1.out.size))
        have M2 := Lib.hid (is_below M1.out b2)
        clear b2
        go_wp2_with fail
        go_ret
        exact ⟨ret_bool HR0.out.symm, B2.out⟩
    · have HR0 := Lib.hid (show matchF (bl h) p (bl m) r = false by rw [HM.out, decide_eq_false h1]; rfl)
      go_enter Tryd.func12, Tryd.ntmps12
      go_wp2_with fail
      refine (CC.out _).mono ?_
      rintro e w2 ⟨rfl, b2⟩
      have I2 := Lib.hid (is_below I1.out b2)
      have y2 := I2.out.cell 2
      have y3 := I2.out.cell 3
      have y4 := I2.out.cell 4
      simp only [RuE.cells, List.getElem?_cons_zero, List.getElem?_cons_succ] at y2 y3 y4
      have B2 := Lib.hid (B1.out.trans (b2.mono B1.out.size))
      have M2 := Lib.hid (is_below M1.out b2)
      clear b2
      go_wp2_with fail
      go_ret
      exact ⟨ret_bool HR0.out.symm, B2.out⟩

/-! ## Admits -/
theorem admit_none {L : List RuE} {h : List UInt8} {p : Int} {m : List UInt8} (hn : L.any (matchF h p m) = false) : admitF L h p m = false := by
  unfold admitF
  rw [List.find?_eq_none.2 (fun x hx => by
    have := List.any_eq_false.1 hn x hx
    simpa using this)]
theorem admit_hit {L : List RuE} {h : List UInt8} {p : Int} {m : List UInt8} {k : Nat} {r : RuE} (hn : (L.take k).any (matchF h p m) = false) (hr : L[k]? = some r) (hm : matchF h p m r = true) : admitF L h p m = r.al := by
  have hs : L = L.take k ++ (r :: L.drop (k + 1)) := by
    obtain ⟨hk, rfl⟩ := List.getElem?_eq_some_iff.1 hr
    rw [List.getElem_cons_drop, List.take_append_drop]
  unfold admitF
  rw [hs, List.find?_append, List.find?_eq_none.2 (fun x hx => by
    have := List.any_eq_false.1 hn x hx
    simpa using this), List.find?_cons_of_pos (by simpa using hm)]
  rfl
set_option maxHeartbeats 4000000 in
set_option maxRecDepth 100000 in
theorem admits_any {P : Nat → Prop} (w : World) (A : Option Addr) (L : List RuE) (n c : Nat) (hn : L.length = n) (hmax : n ≤ 140737488351232) (hs : SrcU w P A L) (hok : ∀ r ∈ L, r.Ok w) (h : ByteArray) (p : Int) (m : ByteArray) (hz2 : h.size ≤ 9223372036854775807) :
    Calls Tryd.prog 14 #[.slice A n c, .string h, .int .i64 p, .string m] w fun e w' => e = .returned (.bool (admitF L (bl h) p (bl m))) ∧ Below w.heap.size w w' := by
  have HN := Lib.hid hn
  have H := Lib.hid hs
  have HO := Lib.hid hok
  have CM := Lib.hid (fun (r : RuE) (W : World) (hW : r.Ok W) => matches_any r h p m W hW hz2)
  clear hn hs hok hz2
  go_enter Tryd.func14, Tryd.ntmps14
  go_wp2_with fail
  go_step3
  go_wp2_with fail
  go_step3
  go_wp2_with fail
  go_loopw [9, 14] (fun v9 vi wr => ∃ k : Nat, v9 = .bool false ∧ vi = .int .i64 (k : Int) ∧ k ≤ n ∧ Hid ((L.take k).any (matchF (bl h) p (bl m)) = false) ∧ Hid (Below w.heap.size w wr)) (fun _ vi _ => n - (intOf vi).toNat)
  case atStart => exact ⟨0, rfl, rfl, Nat.zero_le _, Lib.hid rfl, Lib.hid (Below.refl _ _)⟩
  case round =>
    obtain ⟨k, rfl, rfl, hk, HE, HB⟩ := hrel
    by_cases hlt : k < n
    · obtain ⟨pa, r, hx, hat, hpb, y0, y1, y2, y3, y4⟩ := SrcU.at (c := c) H.out HN.out hlt HB.out
      have HTK := Lib.hid (show (L.take (k + 1)).any (matchF (bl h) p (bl m)) = matchF (bl h) p (bl m) r by rw [take_snoc L k r hx, List.any_append, HE.out]; simp)
      have HX := Lib.hid hx
      have HK := Lib.hid ((HO.out r (List.mem_of_getElem? hx)).below HB.out)
      clear hx hpb
      have I0 := Lib.hid (Ok.box (w := wr) (r := r))
      have b0 : Below wr.heap.size wr (wr.alloc (.cells #[.bool r.al, .string r.h, .int .i64 r.lo, .int .i64 r.hi, .slice r.A r.n r.c] 25)) := (Below.refl _ _).alloc (Nat.le_refl _) _
      have C := CM.out r (wr.alloc (.cells #[.bool r.al, .string r.h, .int .i64 r.lo, .int .i64 r.hi, .slice r.A r.n r.c] 25)) (HK.out.below b0)
      have B0 := Lib.hid (HB.out.trans (b0.mono HB.out.size))
      clear b0
      cases hm : matchF (bl h) p (bl m) r with
      | false =>
        rw [hm] at C HTK
        have C := Lib.hid C
        clear hm
        go_wp2_with fail
        refine C.out.mono ?_
        rintro e w5 ⟨rfl, b5⟩
        have B5 := Lib.hid (B0.out.trans (b5.mono B0.out.size))
        clear b5
        go_wp2_with fail
        go_roundw
        case rel => exact ⟨k + 1, rfl, by go_num, hlt, HTK, B5⟩
        case measure => simp [intOf]; omega
      | true =>
        have HF := Lib.hid (admit_hit HE.out HX.out hm)
        rw [hm] at C
        have C := Lib.hid C
        clear hm
        go_wp2_with fail
        refine C.out.mono ?_
        rintro e w5 ⟨rfl, b5⟩
        have z0 := (is_below I0.out b5).cell 0
        simp only [RuE.cells, List.getElem?_cons_zero] at z0
        have B5 := Lib.hid (B0.out.trans (b5.mono B0.out.size))
        clear b5 C I0 HK HTK HX
        generalize r.al = b at *
        cases b with
        | true =>
          go_wp2_with fail
          (try rw [Exit.noGoto_ret])
          go_ret
          exact ⟨ret_bool HF.out.symm, B5.out⟩
        | false =>
          go_wp2_with fail
          (try rw [Exit.noGoto_ret])
          go_ret
          exact ⟨ret_bool HF.out.symm, B5.out⟩
    · have HA := Lib.hid (admit_none (show L.any (matchF (bl h) p (bl m)) = false by rw [← HE.out, List.take_of_length_le (by rw [HN.out]; omega)]))
      go_wp2_with fail
      (try rw [Exit.noGoto_ret])
      go_ret
      exact ⟨ret_bool HA.out.symm, HB.out⟩
end Go.Proofs.YtcmnnidjamdmeaaDoor.Acl
