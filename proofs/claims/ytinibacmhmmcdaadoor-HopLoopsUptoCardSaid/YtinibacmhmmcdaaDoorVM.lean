/-
  The document's own Strip, Via, Loops, Closes.
  Conditions: the list holds at most 1000000000 bytes.
-/
import Derived.Test.YtinibacmhmmcdaaDoorVL
import Derived.Test.YtinibacmhmmcdaaDoorVG
import Derived.Test.YtinibacmhmmcdaaDoorHG
namespace Go.Proofs.YtinibacmhmmcdaaDoor.Hop
open Go.RowKit

theorem names_snoc (es : List (List UInt8)) (k : Nat) (x : List UInt8) (h : es[k]? = some x) : (es.take (k + 1)).filter (fun x => !forF x) = (es.take k).filter (fun x => !forF x) ++ (if forF x = true then [] else [x]) := by
  rw [take_snoc es k x h, List.filter_append]
  congr 1
  cases hp : forF x <;> simp [hp]
theorem srcs_kept {w w' : World} {P S : Nat → Prop} {A : Option Addr} {ls : List (List UInt8)} (h : SrcS w P A ls) (ht : Turn S w w') (hS : ∀ k, P k → ¬ S k) : SrcS w' P A ls := fun h0 => by
  obtain ⟨ad, h1, h2, h3, h4⟩ := h h0
  refine ⟨ad, h1, h2, Nat.lt_of_lt_of_le h3 ht.size, fun i f hf => (ht.cell (p := ad.add i) ?_ ?_).trans (h4 i f hf)⟩
  · unfold Addr.add; split <;> exact h3
  · unfold Addr.add; split <;> exact hS _ h2
set_option maxHeartbeats 8000000 in
set_option maxRecDepth 100000 in
theorem rstrip_any {P : Nat → Prop} (w : World) (A : Option Addr) (ls : List Fld) (n c : Nat) (hn : ls.length = n) (hb : bulkF ls ≤ 1000000000) (h : SrcF w P A ls) :
    Calls Tryd.prog 14 #[.slice A n c] w (GotF (stripF ls) w) := by
  have HLL := Lib.hid (show ls.length ≤ 1000000000 by have := bulk_len ls; omega)
  have hi0 : Is (w.alloc (.cells hopV 9)) w.heap.size 9 (strs hopN) := Is.made w 9 (strs hopN)
  have own0 := row_ownS (ls := hopN) (c := 9) hi0 (by decide) (by decide) (by decide) rfl
  rw [show hopN.length = 9 from rfl] at own0
  have b0 := (Below.refl w.heap.size w).alloc (Nat.le_refl _) (.cells hopV 9)
  have O0 := Lib.hid own0
  have B0 := Lib.hid b0
  have CE := relem_any (w.alloc (.cells hopV 9)) A ls n c hn hb (h.below b0) ⟨#[99, 111, 110, 110, 101, 99, 116, 105, 111, 110]⟩ (by decide)
  rw [show bl ⟨#[99, 111, 110, 110, 101, 99, 116, 105, 111, 110]⟩ = conN from rfl] at CE
  have HEL := Lib.hid (show (elemF ls conN).length ≤ 1000000000 by have := elem_bulk conN ls; omega)
  have HEP := Lib.hid (show ∀ x ∈ elemF ls conN, x.length ≤ 1000000000 from fun x hx => Nat.le_trans (elem_part hx) hb)
  have CD := Lib.hid (fun (W : World) (hB : Below w.heap.size w W) (A' : Option Addr) (q c' : Nat) (hq : (namesF ls).length = q) (h' : SrcS W (fun _ => True) A' (namesF ls)) => rdrop_any W A A' ls (namesF ls) n c q c' hn hq (by have := HLL.out; omega) (by have := names_len ls; omega) (h.below hB) h' (slim_bulk hb) (fun x hx => by have := names_part ls x hx; omega))
  rw [show dropF ls (namesF ls) = stripF ls from rfl] at CD
  have HNF := Lib.hid (show namesF ls = hopN ++ (elemF ls conN).filter (fun x => !forF x) from rfl)
  clear hn hb h hi0 own0 b0
  generalize stripF ls = sl at *
  generalize namesF ls = nl at *
  generalize elemF ls conN = es at *
  unfold hopV at O0 B0 CE
  go_enter Tryd.func14, Tryd.ntmps14
  go_wp2_with fail
  refine CE.mono ?_
  rintro e w1 ⟨v1, o1, rfl, own1, ob1, b1⟩
  obtain ⟨gw, hgw⟩ : ∃ gw, w.heap.size = gw := ⟨_, rfl⟩
  obtain ⟨A1, c1, hv1, src1⟩ := own1.src (fun b => ¬ b = gw) (fun k hk e => by
    have := ob1 k hk
    simp at this
    omega)
  subst hv1
  have H1 := Lib.hid src1
  have B1 := Lib.hid (B0.out.trans (b1.mono B0.out.size))
  have O1 := Lib.hid (O0.out.kept (Turn.of_below (S := fun _ => False) b1) (fun _ _ h => h))
  rw [hgw] at O1
  have HGW := Lib.hid hgw
  clear own1 src1 b1 CE O0 B0 ob1
  obtain ⟨m, hm⟩ : ∃ m, es.length = m := ⟨_, rfl⟩
  rw [hm]
  have HM := Lib.hid hm
  have hmle : m ≤ 1000000000 := by rw [← hm]; exact HEL.out
  clear hm
  go_wp2_with fail
  clear hgw
  go_loopw [3, 5] (fun v vi wr => ∃ (k : Nat) (o : Option Nat) (r : List (List UInt8)), vi = .int .i64 (k : Int) ∧ k ≤ m ∧ Hid (hopN ++ (es.take k).filter (fun x => !forF x) = r) ∧ Hid (OwnS wr v o r) ∧ Hid (∀ b, o = some b → b = gw ∨ w1.heap.size ≤ b) ∧ Hid (Turn (fun b => b = gw) w1 wr)) (fun _ vi _ => m - (intOf vi).toNat)
  case atStart => exact ⟨0, some gw, hopN, rfl, Nat.zero_le _, Lib.hid (by simp), O1, Lib.hid (fun b h => by injection h with h; exact .inl h.symm), Lib.hid (Turn.refl _ _)⟩
  case round =>
    obtain ⟨k, o, r, rfl, hk, HR, HO, HOB, HT⟩ := hrel
    have HW := Lib.hid (B1.out.trans (⟨HT.out.os, HT.out.tape, HT.out.output, HT.out.size, fun b hb => HT.out.block b (by have := B1.out.size; omega) (by have := HGW.out; omega)⟩ : Below w.heap.size w1 wr))
    by_cases hlt : k < m
    · obtain ⟨p, x, hx, hat, y0, _, _⟩ := (srcs_kept H1.out HT.out (fun _ h => h)).at (c := c1) HM.out hlt (Below.refl _ _)
      have sx := HEP.out x (List.mem_of_getElem? hx)
      have HTK := Lib.hid (show hopN ++ (es.take (k + 1)).filter (fun x => !forF x) = r ++ (if forF x = true then [] else [x]) by rw [names_snoc es k x hx, ← List.append_assoc, HR.out])
      have HRL := Lib.hid (show r.length ≤ 9 + k by
        rw [← HR.out, List.length_append, show hopN.length = 9 from rfl]
        have := List.length_filter_le (fun x => !forF x) (es.take k)
        rw [List.length_take] at this
        omega)
      obtain ⟨Xs, hXs⟩ : ∃ Xs : ByteArray, Xs = ⟨x.toArray⟩ := ⟨_, rfl⟩
      have hbx : bl Xs = x := by rw [hXs, bl_mk]
      have CF := Lib.hid (fun W : World => rforall_any Xs W (by rw [← bl_length, hbx]; omega))
      rw [hbx] at CF
      have HX := Lib.hid hXs
      rw [← hXs] at y0
      clear hXs hbx hx sx
      cases hf : forF x with
      | true =>
        rw [hf] at CF HTK
        clear hf
        go_wp2_with fail
        refine (CF.out _).mono ?_
        rintro e w2 ⟨rfl, b2⟩
        have T2 := Lib.hid (HT.out.trans (Turn.of_below (S := fun _ => False) b2) (fun _ _ h => h.elim))
        have O2 := Lib.hid (HO.out.kept (Turn.of_below (S := fun _ => False) b2) (fun _ _ h => h))
        clear b2
        go_wp2_with fail
        go_roundw
        case rel => exact ⟨k + 1, o, r, by go_num, hlt, Lib.hid (by rw [HTK.out]; simp), O2, HOB, T2⟩
        case measure => simp [intOf]; omega
      | false =>
        rw [hf] at CF HTK
        clear hf
        go_wp2_with fail
        refine (CF.out _).mono ?_
        rintro e w2 ⟨rfl, b2⟩
        have T2 := Lib.hid (HT.out.trans (Turn.of_below (S := fun _ => False) b2) (fun _ _ h => h.elim))
        have O2 := Lib.hid (HO.out.kept (Turn.of_below (S := fun _ => False) b2) (fun _ _ h => h))
        have y2 := (b2.cell (Lib.lt_of_cell y0)).trans y0
        obtain ⟨v', w', o', hrun, own', t', ho'⟩ := run_push_str w2 _ o r x O2.out (by have := HRL.out; omega)
        rw [← HX.out] at hrun
        have HR5 := Lib.hid hrun
        have OO := Lib.hid own'
        have OB := Lib.hid (show ∀ b, o' = some b → b = gw ∨ w1.heap.size ≤ b from fun b hb => by
          rcases ho' b hb with h | h
          · exact HOB.out b h
          · right; have := T2.out.size; omega)
        have T3 := Lib.hid (T2.out.trans t' (fun b hb hS => by
          rcases HOB.out b hS with h | h
          · exact h
          · omega))
        clear hrun own' t' ho' b2 y0
        go_wp2_with (at_builtin; refine append_by rfl (.tmp 21) (.tmp 26) 25 rfl _ _ v' w' rfl rfl HR5.out ?_)
        go_roundw
        case rel => exact ⟨k + 1, o', r ++ [x], by go_num, hlt, Lib.hid (by rw [HTK.out]; simp), OO, OB, T3⟩
        case measure => simp [intOf]; omega
    · have HQ := Lib.hid (show nl = r by rw [HNF.out, ← HR.out, List.take_of_length_le (by rw [HM.out]; omega)])
      obtain ⟨A2, c2, hv2, src2⟩ := HO.out.src (fun _ => True) (fun _ _ => trivial)
      subst hv2
      rw [← HQ.out] at src2
      have CD2 := CD.out wr HW.out A2 nl.length c2 rfl src2
      rw [HQ.out] at CD2
      clear src2
      go_wp2_with fail
      refine CD2.mono ?_
      rintro e w5 ⟨v5, o5, rfl, own5, ob5, b5⟩
      go_wp2_with fail
      go_ret
      exact ⟨v5, o5, rfl, own5, fun b hb => Nat.le_trans HW.out.size (ob5 b hb), HW.out.trans (b5.mono HW.out.size)⟩

set_option maxHeartbeats 4000000 in
set_option maxRecDepth 100000 in
theorem rvia_any {P : Nat → Prop} (w : World) (A : Option Addr) (ls : List Fld) (n c : Nat) (hn : ls.length = n) (hb : bulkF ls ≤ 1000000000) (h : SrcF w P A ls) :
    Calls Tryd.prog 15 #[.slice A n c] w (GotF (viaF ls) w) := by
  have hlen := bulk_len ls
  obtain ⟨v1, w1, o1, hrun1, own1, t1, ho1⟩ := run_append_srcF w (.slice none 0 0) none [] ls (OwnF.nil w) A n c hn h (by simp; omega)
  rw [List.nil_append] at own1
  have T1 := own_turn (o := none) (o' := o1) (Below.refl w.heap.size w) (fun _ h => by cases h) t1 (fun b hb => by
    rcases ho1 with h | h
    · rw [h] at hb; cases hb
    · rw [h] at hb; injection hb with hb; right; omega)
  obtain ⟨v', w', o', hrun, own', t', ho'⟩ := run_push_fld w1 v1 o1 ls (viaK, ownN) own1 (by omega)
  have HR1 := Lib.hid hrun1
  have HR5 := Lib.hid hrun
  unfold viaK ownN at HR5
  have OO := Lib.hid own'
  have TT := Lib.hid (own_turn T1.1 T1.2 t' ho')
  have HV := Lib.hid (show viaF ls = ls ++ [(viaK, ownN)] from rfl)
  generalize viaF ls = vs at *
  obtain ⟨A1, c1, rfl, _⟩ := own1.src (fun _ => True) (fun _ _ => trivial)
  clear hn hb h hlen hrun1 hrun own1 t1 ho1 T1 own' t' ho'
  generalize ls.length = q1 at *
  go_enter Tryd.func15, Tryd.ntmps15
  go_wp2_with (first
    | (at_builtin; refine append_by rfl (.tmp 4) (.tmp 5) 22 rfl _ _ (.slice A1 q1 c1) w1 rfl rfl HR1.out ?_)
    | (at_builtin; refine append_by rfl (.tmp 7) (.tmp 9) 22 rfl _ _ v' w' rfl rfl HR5.out ?_))
  go_ret
  exact ⟨_, o', rfl, by rw [HV.out]; exact OO.out, TT.out.2, TT.out.1⟩

theorem second_le (l : List UInt8) : (secondF l).length ≤ l.length := by
  have h1 : ∀ (p : UInt8 → Bool) (x : List UInt8), (x.dropWhile p).length ≤ x.length := fun p x => (List.dropWhile_sublist _).length_le
  have h2 : ∀ (p : UInt8 → Bool) (x : List UInt8), (x.takeWhile p).length ≤ x.length := fun p x => (List.takeWhile_sublist _).length_le
  unfold secondF partF restF
  exact Nat.le_trans (h2 _ _) (Nat.le_trans (h1 _ _) (Nat.le_trans (h1 _ _) (h1 _ _)))
set_option maxHeartbeats 8000000 in
set_option maxRecDepth 100000 in
theorem rloops_any {P : Nat → Prop} (w : World) (A : Option Addr) (ls : List Fld) (n c : Nat) (hn : ls.length = n) (hb : bulkF ls ≤ 1000000000) (h : SrcF w P A ls) :
    Calls Tryd.prog 19 #[.slice A n c] w fun e w' => e = .returned (.bool (loopsF ls)) ∧ Below w.heap.size w w' := by
  have CE := relem_any w A ls n c hn hb h ⟨#[118, 105, 97]⟩ (by decide)
  rw [show bl ⟨#[118, 105, 97]⟩ = viaN from rfl] at CE
  have HLF := Lib.hid (show loopsF ls = (elemF ls viaN).any mineB from rfl)
  have HEL := Lib.hid (show (elemF ls viaN).length ≤ 1000000000 by have := elem_bulk viaN ls; omega)
  have HEP := Lib.hid (show ∀ x ∈ elemF ls viaN, x.length ≤ 1000000000 from fun x hx => Nat.le_trans (elem_part hx) hb)
  clear hn hb h
  generalize loopsF ls = q at *
  generalize elemF ls viaN = es at *
  go_enter Tryd.func19, Tryd.ntmps19
  go_wp2_with fail
  refine CE.mono ?_
  rintro e w1 ⟨v1, o1, rfl, own1, ob1, b1⟩
  obtain ⟨A1, c1, hv1, src1⟩ := own1.src (fun _ => True) (fun _ _ => trivial)
  subst hv1
  have H1 := Lib.hid src1
  have B1 := Lib.hid b1
  clear own1 src1 b1 CE ob1
  obtain ⟨m, hm⟩ : ∃ m, es.length = m := ⟨_, rfl⟩
  rw [hm]
  have HM := Lib.hid hm
  have hmle : m ≤ 1000000000 := by rw [← hm]; exact HEL.out
  clear hm
  go_wp2_with fail
  go_loopw [4] (fun vi wr => ∃ k : Nat, vi = .int .i64 (k : Int) ∧ k ≤ m ∧ Hid ((es.take k).any mineB = false) ∧ Hid (Below w1.heap.size w1 wr)) (fun vi _ => m - (intOf vi).toNat)
  case atStart => exact ⟨0, rfl, Nat.zero_le _, Lib.hid rfl, Lib.hid (Below.refl _ _)⟩
  case round =>
    obtain ⟨k, rfl, hk, HE, HB⟩ := hrel
    by_cases hlt : k < m
    · obtain ⟨p, x, hx, hat, y0, _, _⟩ := H1.out.at (c := c1) HM.out hlt HB.out
      have sx := HEP.out x (List.mem_of_getElem? hx)
      have HTK := Lib.hid (show (es.take (k + 1)).any mineB = mineB x by rw [take_snoc es k x hx, List.any_append, HE.out]; simp)
      have HX := Lib.hid (List.mem_of_getElem? hx)
      have HMB := Lib.hid (show mineB x = (lowF (secondF x) == wordN) from rfl)
      obtain ⟨Xs, hXs⟩ : ∃ Xs : ByteArray, Xs = ⟨x.toArray⟩ := ⟨_, rfl⟩
      have hbx : bl Xs = x := by rw [hXs, bl_mk]
      obtain ⟨Ys, hYs⟩ : ∃ Ys : ByteArray, Ys = ⟨(secondF x).toArray⟩ := ⟨_, rfl⟩
      have hby : bl Ys = secondF x := by rw [hYs, bl_mk]
      obtain ⟨Ls, hLs⟩ : ∃ Ls : ByteArray, Ls = ⟨(lowF (secondF x)).toArray⟩ := ⟨_, rfl⟩
      have hsl : (secondF x).length ≤ x.length := second_le x
      have C2 := Lib.hid (fun W : World => second_any Xs W (by rw [← bl_length, hbx]; omega))
      rw [hbx, ← hYs] at C2
      have C3 := Lib.hid (fun W : World => lower_any Ys W (by rw [← bl_length, hby]; omega))
      unfold Text at C3
      rw [hby, ← hLs] at C3
      have hLL : (Ls.toList == [116, 111, 108, 108, 104, 111, 117, 115, 101]) = mineB x := by
        rw [HMB.out, Lib.toList_data, hLs]
        rfl
      rw [← hXs] at y0
      clear hXs hbx hYs hby hLs hsl hx sx
      cases hb : mineB x with
      | false =>
        rw [hb] at hLL HTK
        clear hb
        go_wp2_with fail
        refine (C2.out _).mono ?_
        rintro e w2 ⟨rfl, rfl⟩
        go_wp2_with fail
        refine (C3.out _).mono ?_
        rintro e w3 ⟨rfl, b3⟩
        have B3 := Lib.hid (HB.out.trans (b3.mono HB.out.size))
        clear b3
        go_wp2_with fail
        go_roundw
        case rel => exact ⟨k + 1, by go_num, hlt, HTK, B3⟩
        case measure => simp [intOf]; omega
      | true =>
        rw [hb] at hLL
        have HY := Lib.hid (show es.any mineB = true from List.any_eq_true.2 ⟨x, HX.out, hb⟩)
        clear hb
        go_wp2_with fail
        refine (C2.out _).mono ?_
        rintro e w2 ⟨rfl, rfl⟩
        go_wp2_with fail
        refine (C3.out _).mono ?_
        rintro e w3 ⟨rfl, b3⟩
        go_wp2_with fail
        go_ret
        exact ⟨ret_bool (by rw [HLF.out, HY.out]), B1.out.trans ((HB.out.trans (b3.mono HB.out.size)).mono B1.out.size)⟩
    · have HN := Lib.hid (show es.any mineB = false by rw [← HE.out, List.take_of_length_le (by rw [HM.out]; omega)])
      go_wp2_with fail
      go_ret
      exact ⟨ret_bool (by rw [HLF.out, HN.out]), B1.out.trans (HB.out.mono B1.out.size)⟩

set_option maxHeartbeats 8000000 in
set_option maxRecDepth 100000 in
theorem rcloses_any {P : Nat → Prop} (mi : Int) (w : World) (A : Option Addr) (ls : List Fld) (n c : Nat) (hn : ls.length = n) (hb : bulkF ls ≤ 1000000000) (h : SrcF w P A ls) :
    Calls Tryd.prog 21 #[.int .i64 mi, .slice A n c] w fun e w' => e = .returned (.bool (closesF mi ls)) ∧ Below w.heap.size w w' := by
  have CE := relem_any w A ls n c hn hb h ⟨#[99, 111, 110, 110, 101, 99, 116, 105, 111, 110]⟩ (by decide)
  rw [show bl ⟨#[99, 111, 110, 110, 101, 99, 116, 105, 111, 110]⟩ = conN from rfl] at CE
  have HLF := Lib.hid (show closesF mi ls = if (elemF ls conN).any (fun x => lowF x == closeN) = true then true else if (elemF ls conN).any (fun x => lowF x == keepN) = true then false else mi == 0 from rfl)
  have HEL := Lib.hid (show (elemF ls conN).length ≤ 1000000000 by have := elem_bulk conN ls; omega)
  have HEP := Lib.hid (show ∀ x ∈ elemF ls conN, x.length ≤ 1000000000 from fun x hx => Nat.le_trans (elem_part hx) hb)
  clear hn hb h
  generalize closesF mi ls = q at *
  generalize elemF ls conN = es at *
  go_enter Tryd.func21, Tryd.ntmps21
  go_wp2_with fail
  refine CE.mono ?_
  rintro e w1 ⟨v1, o1, rfl, own1, ob1, b1⟩
  obtain ⟨A1, c1, hv1, src1⟩ := own1.src (fun _ => True) (fun _ _ => trivial)
  subst hv1
  have H1 := Lib.hid src1
  have B1 := Lib.hid b1
  clear own1 src1 b1 CE ob1
  obtain ⟨m, hm⟩ : ∃ m, es.length = m := ⟨_, rfl⟩
  rw [hm]
  have HM := Lib.hid hm
  have hmle : m ≤ 1000000000 := by rw [← hm]; exact HEL.out
  clear hm
  go_wp2_with fail
  go_loopw [6, 7] (fun vs vi wr => ∃ (k : Nat) (st : Bool), vs = .bool st ∧ vi = .int .i64 (k : Int) ∧ k ≤ m ∧ Hid ((es.take k).any (fun x => lowF x == closeN) = false) ∧ Hid ((es.take k).any (fun x => lowF x == keepN) = st) ∧ Hid (Below w1.heap.size w1 wr)) (fun _ vi _ => m - (intOf vi).toNat)
  case atStart => exact ⟨0, false, rfl, rfl, Nat.zero_le _, Lib.hid rfl, Lib.hid rfl, Lib.hid (Below.refl _ _)⟩
  case round =>
    obtain ⟨k, st, rfl, rfl, hk, HE, HK, HB⟩ := hrel
    by_cases hlt : k < m
    · obtain ⟨p, x, hx, hat, y0, _, _⟩ := H1.out.at (c := c1) HM.out hlt HB.out
      have sx := HEP.out x (List.mem_of_getElem? hx)
      have HTE := Lib.hid (show (es.take (k + 1)).any (fun x => lowF x == closeN) = (lowF x == closeN) by rw [take_snoc es k x hx, List.any_append, HE.out]; simp)
      have HTK := Lib.hid (show (es.take (k + 1)).any (fun x => lowF x == keepN) = (st || (lowF x == keepN)) by rw [take_snoc es k x hx, List.any_append, HK.out]; simp)
      have HX := Lib.hid (List.mem_of_getElem? hx)
      obtain ⟨Xs, hXs⟩ : ∃ Xs : ByteArray, Xs = ⟨x.toArray⟩ := ⟨_, rfl⟩
      have hbx : bl Xs = x := by rw [hXs, bl_mk]
      obtain ⟨Ls, hLs⟩ : ∃ Ls : ByteArray, Ls = ⟨(lowF x).toArray⟩ := ⟨_, rfl⟩
      have C3 := Lib.hid (fun W : World => lower_any Xs W (by rw [← bl_length, hbx]; omega))
      unfold Text at C3
      rw [hbx, ← hLs] at C3
      have hLC : (Ls.toList == [99, 108, 111, 115, 101]) = (lowF x == closeN) := by rw [Lib.toList_data, hLs]; rfl
      have hLK : (Ls.toList == [107, 101, 101, 112, 45, 97, 108, 105, 118, 101]) = (lowF x == keepN) := by rw [Lib.toList_data, hLs]; rfl
      rw [← hXs] at y0
      clear hXs hbx hLs hx sx
      cases hb : (lowF x == closeN) with
      | true =>
        rw [hb] at hLC
        have HY := Lib.hid (show es.any (fun x => lowF x == closeN) = true from List.any_eq_true.2 ⟨x, HX.out, hb⟩)
        clear hb hLK
        go_wp2_with fail
        refine (C3.out _).mono ?_
        rintro e w3 ⟨rfl, b3⟩
        go_wp2_with fail
        go_ret
        exact ⟨ret_bool (by rw [HLF.out, HY.out]; rfl), B1.out.trans ((HB.out.trans (b3.mono HB.out.size)).mono B1.out.size)⟩
      | false =>
        rw [hb] at hLC HTE
        clear hb
        cases hc : (lowF x == keepN) with
        | true =>
          rw [hc] at hLK HTK
          clear hc
          go_wp2_with fail
          refine (C3.out _).mono ?_
          rintro e w3 ⟨rfl, b3⟩
          have B3 := Lib.hid (HB.out.trans (b3.mono HB.out.size))
          clear b3
          go_wp2_with fail
          go_roundw
          case rel => exact ⟨k + 1, true, rfl, by go_num, hlt, HTE, Lib.hid (by rw [HTK.out]; simp), B3⟩
          case measure => simp [intOf]; omega
        | false =>
          rw [hc] at hLK HTK
          clear hc
          go_wp2_with fail
          refine (C3.out _).mono ?_
          rintro e w3 ⟨rfl, b3⟩
          have B3 := Lib.hid (HB.out.trans (b3.mono HB.out.size))
          clear b3
          go_wp2_with fail
          go_roundw
          case rel => exact ⟨k + 1, st, rfl, by go_num, hlt, HTE, Lib.hid (by rw [HTK.out]; simp), B3⟩
          case measure => simp [intOf]; omega
    · have HN := Lib.hid (show es.any (fun x => lowF x == closeN) = false by rw [← HE.out, List.take_of_length_le (by rw [HM.out]; omega)])
      have HN2 := Lib.hid (show es.any (fun x => lowF x == keepN) = st by rw [← HK.out, List.take_of_length_le (by rw [HM.out]; omega)])
      cases st
      all_goals
        go_wp2_with fail
        go_ret
        exact ⟨ret_bool (by rw [HLF.out, HN.out, HN2.out]; rfl), B1.out.trans (HB.out.mono B1.out.size)⟩
end Go.Proofs.YtinibacmhmmcdaaDoor.Hop
