/-
  slices.IndexFunc, DeleteFunc over lists of fields, at whatever function value that lays blocks of its own alone.
  Conditions: those that each theorem names.
-/
import Derived.Test.YtinibacmhmmcdaaDoorVC
import Derived.Test.YtinibacmhmmcdaaDoorKF
namespace Go.Proofs.YtinibacmhmmcdaaDoor.Hop
open Go.RowKit

theorem flds_take : ∀ (ls : List Fld) (k : Nat), (flds ls).take (k * 2) = flds (ls.take k)
  | [], k => by simp [flds]
  | f :: r, 0 => by simp [flds]
  | f :: r, k + 1 => by
    show ([strV f.1, strV f.2] ++ flds r).take ((k + 1) * 2) = [strV f.1, strV f.2] ++ flds (r.take k)
    rw [show (k + 1) * 2 = k * 2 + 1 + 1 by omega, ← flds_take r k]
    rfl
theorem set_two (l : List Value) (k : Nat) (a b : Value) (h : k * 2 + 1 < l.length) : ((l.set (k * 2) a).set (k * 2 + 1) b).take ((k + 1) * 2) = l.take (k * 2) ++ [a, b] := by
  rw [show (k + 1) * 2 = k * 2 + 1 + 1 by omega, List.take_add_one, List.take_set_of_le (Nat.le_refl _), List.take_add_one, List.take_set_of_le (Nat.le_refl _)]
  rw [List.getElem?_set_self (by omega), List.getElem?_set_self (by rw [List.length_set]; omega)]
  simp
theorem zero_fld (w : World) : (zeroValue 32).run Tryd.prog w = .ok (.agg #[.string ⟨#[]⟩, .string ⟨#[]⟩]) w := by kernel_rfl

set_option maxHeartbeats 4000000 in
set_option maxRecDepth 100000 in
theorem idxF_any {P : Nat → Prop} {S : Nat → Prop} (g : Nat) (lb : Array Value) (eg : ∀ args w, (callFunc g args).run Tryd.prog w = .ok (.enter g args) w) (p : Fld → Bool) (w : World) (A : Option Addr) (ls : List Fld) (n c : Nat) (hn : ls.length = n) (hmax : n ≤ 140737488351232) (h : SrcF w P A ls) (ha : Asks g lb fldA p ls S w) :
    Calls Tryd.prog 55 #[.slice A n c, .func (.func g) #[] lb] w fun e w' => ∃ i : Int, e = .returned (.int .i64 i) ∧ Hit p ls i ∧ Below w.heap.size w w' := by
  have HN := Lib.hid hn
  have H := Lib.hid h
  have HA := Lib.hid ha
  clear hn h ha
  go_enter Tryd.func55, Tryd.ntmps55
  go_wp2_with fail
  go_loopw [8] (fun vi wr => ∃ k : Nat, vi = .int .i64 (k : Int) ∧ k ≤ n ∧ Hid ((ls.take k).any p = false) ∧ Hid (Below w.heap.size w wr)) (fun vi _ => n - (intOf vi).toNat)
  case atStart => exact ⟨0, rfl, Nat.zero_le _, Lib.hid rfl, Lib.hid (Below.refl _ _)⟩
  case round =>
    obtain ⟨k, rfl, hk, HE, HB⟩ := hrel
    by_cases hlt : k < n
    · obtain ⟨pa, x, hx, hat, y2, y3, _, _⟩ := H.out.at (c := c) HN.out hlt HB.out
      have HTK := Lib.hid (show (ls.take (k + 1)).any p = p x by rw [take_snoc ls k x hx, List.any_append, HE.out]; simp)
      have HX := Lib.hid hx
      have CD := HA.out x (List.mem_of_getElem? hx) wr (Turn.of_below HB.out)
      unfold fldA at CD
      clear hx
      cases hb : p x with
      | false =>
        rw [hb] at CD HTK
        clear hb
        go_wp2_with (go_at_fn g; go_must (refine CD.mono ?_; rintro e w5 ⟨rfl, b5⟩))
        have B5 := Lib.hid (HB.out.trans (b5.mono HB.out.size))
        clear b5
        go_roundw
        case rel => exact ⟨k + 1, by go_num, hlt, HTK, B5⟩
        case measure => simp [intOf]; omega
      | true =>
        rw [hb] at CD
        have HP := Lib.hid hb
        clear hb
        go_wp2_with (go_at_fn g; go_must (refine CD.mono ?_; rintro e w5 ⟨rfl, b5⟩))
        go_ret
        exact ⟨(k : Int), rfl, .inr ⟨k, x, rfl, HX.out, HP.out, HE.out⟩, HB.out.trans (b5.mono HB.out.size)⟩
    · have HN := Lib.hid (show ls.any p = false by rw [← HE.out, List.take_of_length_le (by rw [HN.out]; omega)])
      go_wp2_with fail
      go_ret
      exact ⟨-1, rfl, .inl ⟨rfl, HN.out⟩, HB.out⟩

set_option maxHeartbeats 8000000 in
set_option maxRecDepth 100000 in
/-- slices.DeleteFunc over a list of the call's own. -/
theorem delF_any (g : Nat) (lb : Array Value) (eg : ∀ args w, (callFunc g args).run Tryd.prog w = .ok (.enter g args) w) (p : Fld → Bool) (w : World) (v : Value) (o : Option Nat) (ls : List Fld) (hown : OwnF w v o ls) (hmax : ls.length ≤ 140737488351232) (ha : Asks g lb fldA p ls (fun b => o = some b) w) :
    Calls Tryd.prog 29 #[v, .func (.func g) #[] lb] w fun e w' => ∃ v', e = .returned v' ∧ OwnF w' v' o (ls.filter (keepB p)) ∧ Turn (fun b => o = some b) w w' := by
  obtain ⟨A0, c0, hv0, src0⟩ := hown.src (fun _ => True) (fun _ _ => trivial)
  have CI := idxF_any g lb eg p w A0 ls ls.length c0 rfl hmax src0 ha
  rw [← hv0] at CI
  clear src0 hv0
  rcases ownF_row hown with ⟨rfl, rfl, rfl⟩ | ⟨g0, c, cur, rfl, rfl, hi0, hnc, hcm, hcl, htk⟩
  · have HO := Lib.hid hown
    clear hown ha
    go_enter Tryd.func29, Tryd.ntmps29
    go_wp2_with fail
    refine CI.mono ?_
    rintro e w1 ⟨i, rfl, hi, b1⟩
    obtain rfl : i = -1 := by
      rcases hi with ⟨h, _⟩ | ⟨k, x, _, hx, _⟩
      · exact h
      · simp at hx
    go_wp2_with fail
    go_ret
    exact ⟨_, rfl, HO.out.kept (Turn.of_below (S := fun _ => False) b1) (fun _ _ h => h), Turn.of_below b1⟩
  · obtain ⟨n, hn⟩ : ∃ n, ls.length = n := ⟨_, rfl⟩
    rw [hn] at CI hmax hnc htk ⊢
    have HN := Lib.hid hn
    have HO := Lib.hid hown
    have HA := Lib.hid ha
    have I0 := Lib.hid hi0
    have HCL := Lib.hid hcl
    have HTK := Lib.hid htk
    have HCM := Lib.hid hcm
    clear hn hown ha hi0 hcl htk hcm
    go_enter Tryd.func29, Tryd.ntmps29
    go_wp2_with fail
    refine CI.mono ?_
    rintro e w1 ⟨i, rfl, hi, b1⟩
    have T1 := Lib.hid (Turn.of_below (S := fun b => g0 = b) b1)
    have I1 := Lib.hid (I0.out.kept (Turn.of_below (S := fun _ => False) b1) (fun h => h))
    have O1 := Lib.hid (HO.out.kept (Turn.of_below (S := fun _ => False) b1) (fun _ _ h => h))
    clear b1 I0 HO
    rcases hi with ⟨rfl, hno⟩ | ⟨k0, x0, rfl, hx0, hp0, hno⟩
    · have HF := Lib.hid (keep_all hno)
      clear hno
      go_wp2_with fail
      go_ret
      rw [HF.out]
      have O2 := O1.out
      rw [HN.out] at O2
      exact ⟨_, rfl, O2, T1.out.mono (fun _ _ h => by rw [h])⟩
    · have hk0 : k0 < n := by
        have := (List.getElem?_eq_some_iff.1 hx0).1
        rw [HN.out] at this
        exact this
      have hne1 : ((k0 : Int) == -1) = false := beq_eq_false_iff_ne.2 (by omega)
      have S0 := Lib.hid (show (ls.take (k0 + 1)).filter (keepB p) = ls.take k0 by rw [keep_snoc p ls k0 x0 hx0, keep_all hno, if_pos hp0, List.append_nil])
      have HT0 := Lib.hid (show cur.take (k0 * 2) = flds (ls.take k0) by
        have h1 := congrArg (List.take (k0 * 2)) HTK.out
        rw [List.take_take, Nat.min_eq_left (by omega)] at h1
        rw [h1, flds_take])
      have HL0 := Lib.hid (show k0 = (ls.take k0).length by rw [List.length_take, HN.out]; omega)
      have HR0 := Lib.hid (show ∀ (k : Nat) (x : Fld), ls[k]? = some x → cur[k * 2]? = some (strV x.1) ∧ cur[k * 2 + 1]? = some (strV x.2) by
        intro k x hx
        have hk : k < n := by
          have := (List.getElem?_eq_some_iff.1 hx).1
          rw [HN.out] at this
          exact this
        obtain ⟨e1, e2⟩ := flds_get ls k x hx
        rw [← HTK.out, List.getElem?_take, if_pos (by omega)] at e1
        rw [← HTK.out, List.getElem?_take, if_pos (by omega)] at e2
        exact ⟨e1, e2⟩)
      clear hx0 hp0 hno HTK O1
      go_wp2_with fail
      go_loopw [5, 6, 7] (fun s5 s6 _ wr => ∃ (i j : Nat) (cu : List Value), s5 = .int .i64 (i : Int) ∧ s6 = .int .i64 (j : Int) ∧ i < j ∧ j ≤ n ∧ Hid (Is wr g0 32 cu) ∧ Hid (cu.length = c * 2) ∧ Hid (i = ((ls.take j).filter (keepB p)).length) ∧ Hid (cu.take (i * 2) = flds ((ls.take j).filter (keepB p))) ∧
        Hid (∀ (k : Nat) (x : Fld), j ≤ k → ls[k]? = some x → cu[k * 2]? = some (strV x.1) ∧ cu[k * 2 + 1]? = some (strV x.2)) ∧ Hid (Turn (fun b => g0 = b) w wr)) (fun _ s6 _ _ => n - (intOf s6).toNat)
      case atStart => exact ⟨k0, k0 + 1, cur, rfl, by go_num, by omega, hk0, I1, HCL, Lib.hid (by rw [S0.out]; exact HL0.out), Lib.hid (by rw [S0.out]; exact HT0.out), Lib.hid (fun k x _ h => HR0.out k x h), T1⟩
      case round =>
        obtain ⟨i, j, cu, rfl, rfl, hij, hj, HI, HC, HLI, HTI, HRI, HT⟩ := hrel
        by_cases hlt : j < n
        · obtain ⟨x, hx⟩ : ∃ x, ls[j]? = some x := ⟨ls[j]'(by rw [HN.out]; exact hlt), List.getElem?_eq_getElem _⟩
          obtain ⟨e1, e2⟩ := HRI.out j x (Nat.le_refl _) hx
          have cj : wr.cell? ⟨g0, j * 2, none⟩ = some (.string ⟨x.1.toArray⟩) := by rw [HI.out.cell]; exact e1
          have cj1 : wr.cell? ⟨g0, j * 2 + 1, none⟩ = some (.string ⟨x.2.toArray⟩) := by rw [HI.out.cell]; exact e2
          have hat : ∀ Wx, (Instr.indexAt 22 (.slice (some ⟨g0, 0, none⟩) n c) (.int .i64 (j : Int))).run Tryd.prog Wx = .ok (.pointer (some ⟨g0, j * 2, none⟩)) Wx := fun Wx => at_row 22 32 2 Tryd.underlying22 fldSize g0 n c j hlt Wx
          have hai : ∀ Wx, (Instr.indexAt 22 (.slice (some ⟨g0, 0, none⟩) n c) (.int .i64 (i : Int))).run Tryd.prog Wx = .ok (.pointer (some ⟨g0, i * 2, none⟩)) Wx := fun Wx => at_row 22 32 2 Tryd.underlying22 fldSize g0 n c i (by omega) Wx
          obtain ⟨u, hu⟩ : ∃ u, cu[i * 2]? = some u := ⟨cu[i * 2]'(by rw [HC.out]; omega), List.getElem?_eq_getElem _⟩
          obtain ⟨u2, hu2⟩ : ∃ u, cu[i * 2 + 1]? = some u := ⟨cu[i * 2 + 1]'(by rw [HC.out]; omega), List.getElem?_eq_getElem _⟩
          have HU := Lib.hid hu
          have HU2 := Lib.hid hu2
          have T0 := Lib.hid (HT.out.alloc (.cells #[.string ⟨x.1.toArray⟩, .string ⟨x.2.toArray⟩] 32))
          have CD := HA.out x (List.mem_of_getElem? hx) (wr.alloc (.cells #[.string ⟨x.1.toArray⟩, .string ⟨x.2.toArray⟩] 32)) (T0.out.mono (fun _ _ h => by rw [h]))
          have J0 := Lib.hid (Is.made wr 32 [.string ⟨x.1.toArray⟩, .string ⟨x.2.toArray⟩])
          have I0 := Lib.hid (HI.out.alloc (.cells #[.string ⟨x.1.toArray⟩, .string ⟨x.2.toArray⟩] 32))
          unfold fldA at CD
          have HS := Lib.hid (keep_snoc p ls j x hx)
          have HX := Lib.hid hx
          clear hx hu hu2 e1 e2
          obtain ⟨x1, x2⟩ := x
          simp only at *
          cases hb : p (x1, x2) with
          | true =>
            rw [hb] at CD HS
            clear hb
            go_wp2_with (go_at_fn g; go_must (refine CD.mono ?_; rintro e w5 ⟨rfl, b5⟩))
            go_roundw
            case rel =>
              have S1 : (ls.take (j + 1)).filter (keepB p) = (ls.take j).filter (keepB p) := by rw [HS.out]; simp
              exact ⟨i, j + 1, cu, rfl, by go_num, by omega, hlt, Lib.hid (I0.out.kept (Turn.of_below (S := fun _ => False) b5) (fun h => h)), HC, Lib.hid (by rw [S1]; exact HLI.out), Lib.hid (by rw [S1]; exact HTI.out), Lib.hid (fun k x h hx => HRI.out k x (by omega) hx), Lib.hid (T0.out.trans (Turn.of_below (S := fun _ => False) b5) (fun _ _ h => h.elim))⟩
            case measure => simp [intOf]; omega
          | false =>
            rw [hb] at CD HS
            clear hb
            obtain ⟨Xs, hXs⟩ : ∃ Xs : ByteArray, Xs = ⟨x1.toArray⟩ := ⟨_, rfl⟩
            obtain ⟨Xt, hXt⟩ : ∃ Xt : ByteArray, Xt = ⟨x2.toArray⟩ := ⟨_, rfl⟩
            have HXs := Lib.hid hXs
            have HXt := Lib.hid hXt
            rw [← hXs] at cj CD J0 I0 T0
            rw [← hXt] at cj1 CD J0 I0 T0
            clear hXs hXt
            obtain ⟨gx, hgx⟩ : ∃ gx, wr.heap.size = gx := ⟨_, rfl⟩
            rw [hgx] at J0
            go_wp2_with (go_at_fn g; go_must (refine CD.mono ?_; rintro e w5 ⟨rfl, b5⟩; have I5 := Lib.hid (I0.out.kept (Turn.of_below (S := fun _ => False) b5) (fun h => h)); have J5 := Lib.hid (J0.out.kept (Turn.of_below (S := fun _ => False) b5) (fun h => h)); have T5 := Lib.hid (T0.out.trans (Turn.of_below (S := fun _ => False) b5) (fun _ _ h => h.elim)); clear b5; have yc : w5.cell? ⟨g0, i * 2, none⟩ = some u := (by rw [I5.out.cell]; exact HU.out); have yc1 : w5.cell? ⟨g0, i * 2 + 1, none⟩ = some u2 := (by rw [I5.out.cell]; exact HU2.out); have yf : w5.frozen? ⟨g0, i * 2, none⟩ = false := I5.out.free _; have yf1 : w5.frozen? ⟨g0, i * 2 + 1, none⟩ = false := I5.out.free _; have x5 : w5.cell? ⟨gx, 0, none⟩ = some (.string Xs) := J5.out.cell 0; have x6 : w5.cell? ⟨gx, 1, none⟩ = some (.string Xt) := J5.out.cell 1))
            go_roundw
            case rel =>
              have S1 : (ls.take (j + 1)).filter (keepB p) = (ls.take j).filter (keepB p) ++ [(x1, x2)] := by rw [HS.out]; simp
              refine ⟨i + 1, j + 1, (cu.set (i * 2) (.string Xs)).set (i * 2 + 1) (.string Xt), by go_num, by go_num, by omega, hlt, Lib.hid ((I5.out.set (i * 2) _).set (i * 2 + 1) _), Lib.hid (by rw [List.length_set, List.length_set]; exact HC.out), Lib.hid (by rw [S1, List.length_append, ← HLI.out]; rfl), Lib.hid ?_, Lib.hid ?_, Lib.hid ?_⟩
              · rw [S1, flds_append, ← HTI.out, set_two _ _ _ _ (by rw [HC.out]; omega), HXs.out, HXt.out]
                rfl
              · intro k y hk hy
                obtain ⟨e1, e2⟩ := HRI.out k y (by omega) hy
                rw [List.getElem?_set_ne (by omega), List.getElem?_set_ne (by omega), List.getElem?_set_ne (by omega), List.getElem?_set_ne (by omega)]
                exact ⟨e1, e2⟩
              · exact (T5.out.setCell (fun _ => rfl) _).setCell (fun _ => rfl) _
            case measure => simp [intOf]; omega
        · obtain rfl : j = n := by omega
          obtain ⟨w6, cu6, hcl, i6, l6, t6, tn6, z6⟩ := run_clear wr 22 32 0 (.agg #[.string ⟨#[]⟩, .string ⟨#[]⟩]) [.string ⟨#[]⟩, .string ⟨#[]⟩] Tryd.underlying22 zero_fld rfl (fun v hv => by simp at hv; rw [hv]; rfl) g0 32 (i * 2) (j - i) (c - i) cu HI.out (by rw [HC.out]; simp; omega)
          have HCLR := hcl
          have HI6 := Lib.hid i6
          have HL6 := Lib.hid l6
          have HT6 := Lib.hid t6
          have HTN6 := Lib.hid tn6
          clear i6 l6 t6 tn6 z6 hcl
          go_wp2_with fail
          go_ret
          have S1 : ls.filter (keepB p) = (ls.take j).filter (keepB p) := by rw [List.take_of_length_le (by rw [HN.out]; exact Nat.le_refl _)]
          rw [S1]
          refine ⟨_, rfl, ?_, ?_⟩
          · have h1 := row_ownF (ls := (ls.take j).filter (keepB p)) HI6.out (by rw [← HLI.out]; omega) HCM.out (by rw [HL6.out]; exact HC.out) (by rw [← HLI.out, HT6.out]; exact HTI.out)
            rw [← HLI.out] at h1
            exact h1
          · exact (HT.out.trans (HTN6.out.mono (S' := fun b => g0 = b) (fun _ _ h => h.symm)) (fun _ _ h => h)).mono (fun _ _ h => by rw [h])
end Go.Proofs.YtinibacmhmmcdaaDoor.Hop
