/-
  Package hop's Loops, Closes, Via, call by call.
  Conditions: the list holds at most 1000000000 bytes.
-/
import Derived.Test.YtinibacmhmmcdaaDoorVE
import Derived.Test.YtinibacmhmmcdaaDoorVI
import Derived.Test.YtinibacmhmmcdaaDoorShelf
namespace Go.Proofs.YtinibacmhmmcdaaDoor.Hop
open Go.RowKit

theorem eg_loops : ∀ args w, (callFunc 40 args).run Tryd.prog w = .ok (.enter 40 args) w := enters_of Tryd.func40 (by kernel_rfl) rfl
theorem eg_asks : ∀ args w, (callFunc 61 args).run Tryd.prog w = .ok (.enter 61 args) w := enters_of Tryd.func61 (by kernel_rfl) rfl
theorem eg_blank : ∀ args w, (callFunc 42 args).run Tryd.prog w = .ok (.enter 42 args) w := enters_of Tryd.func42 (by kernel_rfl) rfl
theorem eg_forall : ∀ args w, (callFunc 16 args).run Tryd.prog w = .ok (.enter 16 args) w := enters_of Tryd.func16 (by kernel_rfl) rfl
theorem eg_strip : ∀ args w, (callFunc 31 args).run Tryd.prog w = .ok (.enter 31 args) w := enters_of Tryd.func31 (by kernel_rfl) rfl

theorem blank_at (w : World) : PredAt Tryd.prog 42 #[] encR blankR w := by
  intro W r _
  unfold FnGives encR blankR
  have e0 : ((r : Int) == 32) = (r == 32) := by rw [Bool.eq_iff_iff]; simp; omega
  have e1 : ((r : Int) == 9) = (r == 9) := by rw [Bool.eq_iff_iff]; simp; omega
  cases h0 : (r == 32) with
  | true =>
    rw [h0] at e0
    go_enter Tryd.func42, Tryd.ntmps42
    go_wp2
    go_ret
    exact ⟨rfl, 0, rfl⟩
  | false =>
    rw [h0] at e0
    cases h1 : (r == 9) with
    | true =>
      rw [h1] at e1
      go_enter Tryd.func42, Tryd.ntmps42
      go_wp2
      go_ret
      exact ⟨rfl, 0, rfl⟩
    | false =>
      rw [h1] at e1
      go_enter Tryd.func42, Tryd.ntmps42
      go_wp2
      go_ret
      exact ⟨rfl, 0, rfl⟩
theorem own_cell {w : World} {B e g n cap : Nat} {xs : List Value} (h : w.ownsRow B e 1 (.slice (some ⟨g, 0, none⟩) n cap) n xs) (k : Nat) (v : Value) (hv : xs[k]? = some v) : w.cell? ⟨g, k, none⟩ = some v := by
  rcases h.2 with ⟨h1, _⟩ | ⟨g', cap', cur, h1, _, hh, _, _, hsz, htk⟩
  · cases h1
  · injection h1 with h1 _ _
    injection h1 with h1
    injection h1 with h1 _ _
    subst h1
    rw [cell_of_row w g k cur e (0, 0) hh, ← Array.getElem?_toList]
    rw [← htk, List.getElem?_take] at hv
    split at hv
    · exact hv
    · cases hv
theorem word_low : lowF wordN = wordN := by decide
set_option maxHeartbeats 4000000 in
set_option maxRecDepth 100000 in
theorem loops1_any (s : ByteArray) (w : World) (hs : s.size ≤ 1000000000) : Calls Tryd.prog 40 #[.string s] w fun e w' => e = .returned (.bool (mineB (bl s))) ∧ Below w.heap.size w w' := by
  have CF := Tryd.strings_FieldsFunc 42 #[] eg_blank blankR s w (by omega) (blank_at w)
  have HA := Lib.hid (ask_fl (bl s))
  rw [← fields_fl s] at HA
  generalize mineB (bl s) = q at *
  generalize Lib.goFieldsP blankR s = F at *
  obtain ⟨m, hm⟩ : ∃ m, F.length = m := ⟨_, rfl⟩
  rw [hm] at CF
  by_cases hlt : 1 < m
  · obtain ⟨y, hy⟩ : ∃ y, F[1]? = some y := ⟨F[1]'(by omega), List.getElem?_eq_getElem _⟩
    have HQ := Lib.hid (show (lowF (bl y) == wordN) = q by
      rw [← HA.out]
      unfold askB
      rw [List.getElem?_map, hy]
      rfl)
    have CS := Lib.hid (fun W : World => ty_same y ⟨#[116, 111, 108, 108, 104, 111, 117, 115, 101]⟩ W)
    rw [show lowF (bl ⟨#[116, 111, 108, 108, 104, 111, 117, 115, 101]⟩) = wordN from by decide, HQ.out] at CS
    have HY := Lib.hid (show (F.map Value.string)[1]? = some (.string y) by rw [List.getElem?_map, hy]; rfl)
    clear HA hy HQ
    have HM := Lib.hid hm
    clear hm
    generalize F.map Value.string = xs at *
    go_enter Tryd.func40, Tryd.ntmps40
    go_wp2_with fail
    refine CF.mono ?_
    rintro e w1 ⟨A, rfl, hA, own1, b1⟩
    have y1 : w1.cell? ⟨A, 1, none⟩ = some (.string y) := own_cell own1 1 _ HY.out
    have hat : ∀ Wx, (Instr.indexAt 25 (.slice (some ⟨A, 0, none⟩) m m) (.int .i64 1)).run Tryd.prog Wx = .ok (.pointer (some ⟨A, 1, none⟩)) Wx := fun Wx => by
      have := at_row 25 9 1 Tryd.underlying25 strSize A m m 1 hlt Wx
      exact this
    clear own1 CF
    go_wp2_with fail
    refine (CS.out _).mono ?_
    rintro e w2 ⟨rfl, b2⟩
    go_wp2_with fail
    go_ret
    exact ⟨rfl, b1.trans (b2.mono b1.size)⟩
  · have HQ := Lib.hid (show q = false by
      rw [← HA.out]
      unfold askB
      rw [List.getElem?_map, List.getElem?_eq_none (by omega)]
      rfl)
    clear HA
    have HM := Lib.hid hm
    clear hm
    generalize F.map Value.string = xs at *
    go_enter Tryd.func40, Tryd.ntmps40
    go_wp2_with fail
    refine CF.mono ?_
    rintro e w1 ⟨A, rfl, hA, own1, b1⟩
    clear own1 CF
    go_wp2_with fail
    go_ret
    exact ⟨ret_bool HQ.out.symm, b1⟩
theorem asks1_any (x what : ByteArray) (g : Nat) (X : World) (hc : X.cell? ⟨g, 0, none⟩ = some (.string what)) :
    Calls Tryd.prog 61 #[.string x, .pointer (some ⟨g, 0, none⟩)] X fun e w' => e = .returned (.bool (lowF (bl x) == lowF (bl what))) ∧ Below X.heap.size X w' := by
  have CS := Lib.hid (fun W : World => ty_same x what W)
  generalize (lowF (bl x) == lowF (bl what)) = b at *
  go_enter Tryd.func61, Tryd.ntmps61
  go_wp2_with fail
  refine (CS.out _).mono ?_
  rintro e w' ⟨rfl, b'⟩
  go_wp2_with fail
  go_ret
  exact ⟨rfl, b'⟩

set_option maxHeartbeats 4000000 in
set_option maxRecDepth 100000 in
theorem has_any {P : Nat → Prop} (g : Nat) (lb : Array Value) (eg : ∀ args w, (callFunc g args).run Tryd.prog w = .ok (.enter g args) w) (p : List UInt8 → Bool) (w : World) (A : Option Addr) (ls : List Fld) (n c : Nat) (hn : ls.length = n) (hb : bulkF ls ≤ 1000000000) (h : SrcF w P A ls) (nm : ByteArray)
    (ha : Asks g lb strV p (elemF ls (bl nm)) (fun _ => False) w) :
    Calls Tryd.prog 39 #[.slice A n c, .string nm, .func (.func g) #[] lb] w fun e w' => e = .returned (.bool ((elemF ls (bl nm)).any p)) ∧ Below w.heap.size w w' := by
  have CE := elem_any w A ls n c hn hb h nm
  have HL := Lib.hid (show (elemF ls (bl nm)).length ≤ 1000000000 by have := elem_bulk (bl nm) ls; omega)
  have HA := Lib.hid ha
  clear ha hn hb h
  generalize elemF ls (bl nm) = es at *
  obtain ⟨q, hq⟩ : ∃ q, es.any p = q := ⟨_, rfl⟩
  rw [hq]
  have HQ := Lib.hid hq
  clear hq
  go_enter Tryd.func39, Tryd.ntmps39
  go_wp2_with fail
  refine CE.mono ?_
  rintro e w1 ⟨v1, o1, rfl, own1, _, b1⟩
  obtain ⟨A1, c1, hv1, src1⟩ := own1.src (fun _ => True) (fun _ _ => trivial)
  subst hv1
  have CH := Lib.hid (hasS_any g lb eg p w1 A1 es es.length c1 rfl (by have := HL.out; omega) src1 (HA.out.mono (Turn.of_below b1) (fun _ _ h => h)))
  rw [HQ.out] at CH
  clear own1 src1 CE
  generalize es.length = m at *
  go_wp2_with fail
  refine CH.out.mono ?_
  rintro e w2 ⟨rfl, b2⟩
  go_wp2_with fail
  go_ret
  exact ⟨rfl, b1.trans (b2.mono b1.size)⟩
theorem loops_any {P : Nat → Prop} (w : World) (A : Option Addr) (ls : List Fld) (n c : Nat) (hn : ls.length = n) (hb : bulkF ls ≤ 1000000000) (h : SrcF w P A ls) :
    Calls Tryd.prog 18 #[.slice A n c] w fun e w' => e = .returned (.bool (loopsF ls)) ∧ Below w.heap.size w w' := by
  have CH := has_any 40 #[] eg_loops mineB w A ls n c hn hb h ⟨#[86, 105, 97]⟩ (fun x hx X _ => by
    have hl : x.length ≤ 1000000000 := Nat.le_trans (elem_part hx) hb
    have := loops1_any ⟨x.toArray⟩ X (by rw [← bl_length, bl_mk]; exact hl)
    rw [bl_mk] at this
    exact this)
  rw [show (elemF ls (bl ⟨#[86, 105, 97]⟩)).any mineB = loopsF ls from by unfold loopsF; rw [elem_low ls (bl ⟨#[86, 105, 97]⟩) viaN (by decide)]] at CH
  clear hn hb h
  generalize loopsF ls = q at *
  go_enter Tryd.func18, Tryd.ntmps18
  go_wp2_with fail
  refine CH.mono ?_
  rintro e w2 ⟨rfl, b2⟩
  go_wp2_with fail
  go_ret
  exact ⟨rfl, b2⟩
theorem asks_any {P : Nat → Prop} (w : World) (A : Option Addr) (ls : List Fld) (n c : Nat) (hn : ls.length = n) (hb : bulkF ls ≤ 1000000000) (h : SrcF w P A ls) (what : ByteArray) :
    Calls Tryd.prog 44 #[.slice A n c, .string what] w fun e w' => e = .returned (.bool (hasB ls (bl what))) ∧ Below w.heap.size w w' := by
  have b0 : Below w.heap.size w (w.alloc (.cells #[.string what] 9)) := (Below.refl _ _).alloc (Nat.le_refl _) _
  have i0 := Is.made w 9 [.string what]
  have CH := has_any 61 #[.pointer (some ⟨w.heap.size, 0, none⟩)] eg_asks (fun x => lowF x == lowF (bl what)) (w.alloc (.cells #[.string what] 9)) A ls n c hn hb (h.below b0) ⟨#[99, 111, 110, 110, 101, 99, 116, 105, 111, 110]⟩ (fun x hx X hX => by
    have := asks1_any ⟨x.toArray⟩ what w.heap.size X ((i0.kept hX (fun h => h)).cell 0)
    rw [bl_mk] at this
    exact this)
  rw [show (elemF ls (bl ⟨#[99, 111, 110, 110, 101, 99, 116, 105, 111, 110]⟩)).any (fun x => lowF x == lowF (bl what)) = hasB ls (bl what) from rfl] at CH
  have B0 := Lib.hid b0
  clear hn hb h i0 b0
  generalize hasB ls (bl what) = q at *
  go_enter Tryd.func44, Tryd.ntmps44
  go_wp2_with fail
  refine CH.mono ?_
  rintro e w2 ⟨rfl, b2⟩
  go_wp2_with fail
  go_ret
  exact ⟨rfl, B0.out.trans (b2.mono B0.out.size)⟩
set_option maxHeartbeats 4000000 in
theorem closes_any {P : Nat → Prop} (mi : Int) (w : World) (A : Option Addr) (ls : List Fld) (n c : Nat) (hn : ls.length = n) (hb : bulkF ls ≤ 1000000000) (h : SrcF w P A ls) :
    Calls Tryd.prog 20 #[.int .i64 mi, .slice A n c] w fun e w' => e = .returned (.bool (closesF mi ls)) ∧ Below w.heap.size w w' := by
  have C1 := asks_any w A ls n c hn hb h ⟨#[99, 108, 111, 115, 101]⟩
  have C2 := Lib.hid (fun (W : World) (hB : Below w.heap.size w W) => asks_any W A ls n c hn hb (h.below hB) ⟨#[107, 101, 101, 112, 45, 97, 108, 105, 118, 101]⟩)
  rw [show bl ⟨#[99, 108, 111, 115, 101]⟩ = closeN from rfl] at C1
  rw [show bl ⟨#[107, 101, 101, 112, 45, 97, 108, 105, 118, 101]⟩ = keepN from rfl] at C2
  clear hn hb h
  have HC := Lib.hid (show closesF mi ls = if hasB ls closeN = true then true else if hasB ls keepN = true then false else mi == 0 from rfl)
  generalize closesF mi ls = r at *
  generalize hasB ls closeN = q1 at *
  generalize hasB ls keepN = q2 at *
  cases q1 with
  | true =>
    go_enter Tryd.func20, Tryd.ntmps20
    go_wp2_with fail
    refine C1.mono ?_
    rintro e w1 ⟨rfl, b1⟩
    go_wp2_with fail
    go_ret
    exact ⟨ret_bool HC.out.symm, b1⟩
  | false =>
    cases q2 with
    | true =>
      go_enter Tryd.func20, Tryd.ntmps20
      go_wp2_with fail
      refine C1.mono ?_
      rintro e w1 ⟨rfl, b1⟩
      go_wp2_with fail
      refine (C2.out _ b1).mono ?_
      rintro e w2 ⟨rfl, b2⟩
      go_wp2_with fail
      go_ret
      exact ⟨ret_bool HC.out.symm, b1.trans (b2.mono b1.size)⟩
    | false =>
      go_enter Tryd.func20, Tryd.ntmps20
      go_wp2_with fail
      refine C1.mono ?_
      rintro e w1 ⟨rfl, b1⟩
      go_wp2_with fail
      refine (C2.out _ b1).mono ?_
      rintro e w2 ⟨rfl, b2⟩
      go_wp2_with fail
      go_ret
      exact ⟨ret_bool HC.out.symm, b1.trans (b2.mono b1.size)⟩

theorem copy_any {P : Nat → Prop} (w : World) (A : Option Addr) (ls : List Fld) (n c : Nat) (hn : ls.length = n) (hb : bulkF ls ≤ 1000000000) (h : SrcF w P A ls) :
    Calls Tryd.prog 30 #[.slice A n c] w (GotF ls w) := by
  have hlen := bulk_len ls
  have CD := drop_any (P' := fun _ => True) w A none ls [] n c 0 0 hn rfl (by omega) (by omega) h (fun h => by simp at h) (slim_bulk hb)
  rw [drop_none] at CD
  clear hn hb h hlen
  go_enter Tryd.func30, Tryd.ntmps30
  go_wp2_with fail
  refine CD.mono ?_
  rintro e w2 ⟨v, o, rfl, own, ob, b2⟩
  go_wp2_with fail
  go_ret
  exact ⟨v, o, rfl, own, ob, b2⟩
set_option maxHeartbeats 4000000 in
set_option maxRecDepth 100000 in
theorem via_any {P : Nat → Prop} (w : World) (A : Option Addr) (ls : List Fld) (n c : Nat) (hn : ls.length = n) (hb : bulkF ls ≤ 1000000000) (h : SrcF w P A ls) :
    Calls Tryd.prog 9 #[.slice A n c] w (GotF (viaF ls) w) := by
  have hlen := bulk_len ls
  have CC := copy_any w A ls n c hn hb h
  have HL := Lib.hid (show ls.length ≤ 1000000000 by omega)
  have HV := Lib.hid (show viaF ls = ls ++ [(viaK, ownN)] from rfl)
  generalize viaF ls = vs at *
  clear hn hb h hlen
  go_enter Tryd.func9, Tryd.ntmps9
  go_wp2_with fail
  refine CC.mono ?_
  rintro e w2 ⟨v, o, rfl, own, ob, b2⟩
  obtain ⟨v', w', o', hrun, own', t', ho'⟩ := run_push_fld w2 v o ls (viaK, ownN) own (by have := HL.out; omega)
  have HR5 := Lib.hid hrun
  unfold viaK ownN at HR5
  have OO := Lib.hid own'
  have TT := Lib.hid (own_turn b2 ob t' ho')
  clear hrun own' t' ho' own ob b2 CC
  go_wp2_with (at_builtin; refine append_by rfl (.tmp 4) (.tmp 6) 22 rfl _ _ v' w' rfl rfl HR5.out ?_)
  go_ret
  exact ⟨_, o', rfl, by rw [HV.out]; exact OO.out, TT.out.2, TT.out.1⟩
end Go.Proofs.YtinibacmhmmcdaaDoor.Hop
