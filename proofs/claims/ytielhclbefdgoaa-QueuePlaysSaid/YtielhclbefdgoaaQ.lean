/-
  What the law QueuePlays answers, as a call: true, and nothing that was there before has turned.
  Conditions: those that the theorem names: what the arguments read.
-/
import Derived.Test.YtielhclbefdgoaaP
import Derived.Deep.DeepCutAuto
import Derived.Deep.CutBlock
import Derived.Deep.RegionHeld3
namespace Go.Proofs.Ytielhclbefdgoaa
open Go.RowKit

theorem actSize : (Try.prog.info? 33).map (·.size) = some 3 := by kernel_rfl

/-- &l[k], elements of three cells. -/
theorem run_at3 (a : Addr) (n c k : Nat) (hk : k < n) (W : World) :
    (Instr.indexAt 22 (.slice (some a) n c) (.int .i64 (k : Int))).run Try.prog W = .ok (.pointer (some (a.add (k * 3)))) W := by
  obtain ⟨i, hi, hs⟩ := Option.map_eq_some_iff.1 actSize
  have h2 : ¬ n ≤ k := by omega
  simp [Instr.indexAt, run_underlying Try.underlying22, asIntOf, h2, sizeOf, typeInfo, hi, hs]

/-- What holds at the head of each round: g' is the reference's block. -/
def PlaysRel (W : World) (m N g' : Nat) (uq i : Value) (wr : World) : Prop :=
  ∃ (k g r : Nat) (o : Option Nat) (xs : List UInt8), k ≤ N ∧ k ≤ 200 ∧ i = .int .i64 (k : Int) ∧ uq = .pointer (some ⟨g, 0, none⟩) ∧ Queue wr g r m xs ∧ Ref wr g' o m xs ∧ o ≠ some r ∧ o ≠ some g ∧ g ≠ g' ∧ r ≠ g' ∧
    W.heap.size ≤ g ∧ W.heap.size ≤ r ∧ (∀ b, o = some b → W.heap.size ≤ b) ∧ Below W.heap.size W wr

theorem Quiet.more {a b c : World} (h : Quiet a b) (h' : Quiet b c) : Quiet a c := by
  obtain ⟨n, rfl⟩ := h
  obtain ⟨k, rfl⟩ := h'
  exact ⟨n + k, by rw [World.drewN_drewN]⟩

theorem equal_left (w : World) (g : Nat) (xs ys : List UInt8) (n c : Nat) (v : Value) (o : Option Nat) (hn : xs.length = n) (h : Is w g 5 (vals xs)) (h' : Own w v o ys) :
    Calls Try.prog 13 #[.slice (some ⟨g, 0, none⟩) n c, v] w fun e w' => e = .returned (.bool (xs == ys)) ∧ w = w' := by
  obtain ⟨A', c', rfl, hs'⟩ := h'.src (fun _ => True) (fun _ _ => trivial)
  exact equal_any w _ A' xs ys _ _ c c' hn rfl (h.src (fun _ => True) trivial) hs'

theorem vals_u8 (xs : List UInt8) : ∀ k, k < xs.length → ∃ z, (vals xs)[k]? = some (.int .u8 z) := fun k hk => ⟨_, by rw [vals_get, List.getElem?_eq_getElem hk]; rfl⟩

theorem own_made (w : World) : Own (w.alloc (.cells #[] 5)) (.slice (some ⟨w.heap.size, 0, none⟩) 0 0) (some w.heap.size) [] :=
  ⟨⟨rfl, .inr ⟨w.heap.size, 0, #[], rfl, Nat.zero_le _, heap_alloc_new w _, Nat.le_refl _, by simp only [maxLen]; omega, rfl, rfl⟩⟩, rfl⟩

theorem Own.is {w : World} {v : Value} {b : Nat} {bs : List UInt8} (h : Own w v (some b) bs) : ∃ (c : Nat) (ls : List Value), v = .slice (some ⟨b, 0, none⟩) bs.length c ∧ Is w b 5 ls ∧ bs.length ≤ ls.length ∧ (∀ k, k < bs.length → ∃ z, ls[k]? = some (.int .u8 z)) ∧ bs.length ≤ c := by
  obtain ⟨⟨h1, h2⟩, h3⟩ := h
  rcases h2 with ⟨rfl, _⟩ | ⟨g, cap, cur, rfl, _, hh, hnc, _, hsz, htk⟩
  · cases h3
  · injection h3 with h3
    subst h3
    refine ⟨cap, cur.toList, rfl, by simpa [Is] using hh, by simp; omega, fun k hk => ?_, hnc⟩
    obtain ⟨z, hz⟩ := vals_u8 bs k hk
    rw [← htk, List.getElem?_take] at hz
    split at hz
    · exact ⟨z, hz⟩
    · cases hz

/-- A queue behind a call of which nothing is asked. -/
def Weak (g r m : Nat) (w : World) (e : Ending) (w' : World) : Prop := ∃ v ys, e = .returned v ∧ Queue w' g r m ys ∧ Turn (fun b => b = g ∨ b = r) w w'

theorem take_weak (w : World) (g r m : Nat) (xs : List UInt8) (h : Queue w g r m xs) : Calls Try.prog 11 #[.pointer (some ⟨g, 0, none⟩), .int .i64 1] w (Weak g r m w) := by
  by_cases h0 : xs.length = 0
  · exact (take_short w g r m xs h 1 (by omega)).mono fun e w' ⟨he, hw⟩ => ⟨_, xs, he, hw ▸ h, hw ▸ Turn.refl _ _⟩
  · exact (take_ok w g r m xs h 1 (by omega)).mono fun e w' ⟨he, _, hq, ht, _⟩ => ⟨_, _, he, hq, ht⟩

theorem push_weak (W : World) (g r m : Nat) (xs : List UInt8) (h : Queue W g r m xs) (cs : Array Value) (hcs : cs = (vals [115, 112, 111, 105, 108, 116]).toArray) (fr : Nat × Nat) :
    Calls Try.prog 9 #[.pointer (some ⟨g, 0, none⟩), .slice (some ⟨W.heap.size, 0, none⟩) 6 6] (W.alloc (.cells cs 5 fr)) (Weak g r m W) := by
  by_cases h0 : xs.length + 6 ≤ m
  · exact (push_lit W g r m xs [115, 112, 111, 105, 108, 116] h 6 rfl cs hcs fr h0).mono fun e w' ⟨he, hq, ht⟩ => ⟨_, _, he, hq, ht⟩
  · exact (push_lit_full W g r m xs h 6 _ (by omega) _ (by omega)).mono fun e w' ⟨he, hq, ht⟩ => ⟨_, _, he, hq, ht⟩

/-- What holds behind the switch. -/
def PlaysMid (W : World) (m g' : Nat) (uq : Value) (wr : World) : Prop :=
  ∃ (g r : Nat) (o : Option Nat) (xs : List UInt8), uq = .pointer (some ⟨g, 0, none⟩) ∧ Queue wr g r m xs ∧ Ref wr g' o m xs ∧ o ≠ some r ∧ o ≠ some g ∧ g ≠ g' ∧ r ≠ g' ∧
    W.heap.size ≤ g ∧ W.heap.size ≤ r ∧ (∀ b, o = some b → W.heap.size ≤ b) ∧ Below W.heap.size W wr

/-- While n bytes at block b are spoilt, one by one. -/
def Spoils (b n : Nat) (w : World) (i : Value) (wx : World) : Prop :=
  ∃ (j : Nat) (ls : List Value), j ≤ n ∧ i = .int .i64 (j : Int) ∧ Is wx b 5 ls ∧ n ≤ ls.length ∧ (∀ k, k < n → ∃ z, ls[k]? = some (.int .u8 z)) ∧ Turn (· = b) w wx

theorem Spoils.start {b n : Nat} {w : World} {ls : List Value} (h : Is w b 5 ls) (hn : n ≤ ls.length) (hz : ∀ k, k < n → ∃ z, ls[k]? = some (.int .u8 z)) : Spoils b n w (.int .i64 0) w :=
  ⟨0, ls, Nat.zero_le _, rfl, h, hn, hz, Turn.refl _ _⟩
theorem Spoils.step {b n j : Nat} {w wx : World} {ls : List Value} (hj : j < n) (h : Is wx b 5 ls) (hn : n ≤ ls.length) (hz : ∀ k, k < n → ∃ z, ls[k]? = some (.int .u8 z)) (ht : Turn (· = b) w wx) (y : Int) (i : Int) (hi : i = (j : Int) + 1) :
    Spoils b n w (.int .i64 i) (wx.setCell ⟨b, j, none⟩ (.int .u8 y)) := by
  subst hi
  refine ⟨j + 1, _, hj, by simp, h.set j _, by simpa using hn, fun k hk => ?_, ht.setCell (fun _ => rfl) _⟩
  rw [List.getElem?_set]
  by_cases e : j = k
  · subst e
    exact ⟨y, by simp; omega⟩
  · rw [if_neg e]
    exact hz k hk

set_option maxRecDepth 100000 in
set_option maxHeartbeats 8000000 in
theorem plays_true (mo : Int) (h0 : -9223372036854775808 ≤ mo) (h1 : mo ≤ 9223372036854775807) (A : Option Addr) (N C : Nat) (K1 K2 : Nat → Int) (RA : Nat → Option Addr) (RC : Nat → Nat) (R : Nat → List UInt8) (W : World)
    (_hN : N ≤ 140737488351232)
    (hl : ∀ k, k < N → ∃ a, A = some a ∧ a.block < W.heap.size ∧ W.cell? (a.add (k * 3)) = some (.int .i64 (K1 k)) ∧ W.cell? (a.add (k * 3 + 1)) = some (.int .i64 (K2 k)) ∧ W.cell? (a.add (k * 3 + 2)) = some (.slice (RA k) (R k).length (RC k)) ∧
      (R k).length ≤ RC k ∧ RC k ≤ 140737488351232 ∧ Src W (fun b => b < W.heap.size) (RA k) (R k) ∧ (-9223372036854775808 ≤ K2 k ∧ K2 k ≤ 9223372036854775807)) :
    Calls Try.prog 3 #[.int .i64 mo, .slice A N C] W fun e w' => e = .returned (.bool true) ∧ Below W.heap.size W w' := by
  by_cases hbad : mo < 0 ∨ 16384 < mo
  · have HL := Lib.hid hl
    have HBAD := Lib.hid hbad
    clear hl hbad
    go_enter Try.func3, Try.ntmps3
    go_wp2_with fail
    refine (awake_true W).mono ?_
    rintro e w1 ⟨rfl, b1⟩
    go_wp2_with fail
    refine (new_bad mo HBAD.out w1).mono ?_
    rintro e w' ⟨rfl, rfl⟩
    go_wp2_with fail
    refine (ref_new_bad mo HBAD.out w1).mono ?_
    rintro e w' ⟨rfl, rfl⟩
    go_wp2_with fail
    go_ret
    exact ⟨rfl, b1⟩
  · obtain ⟨m, hm⟩ : ∃ m : Nat, (m : Int) = mo := ⟨mo.toNat, by omega⟩
    subst hm
    have hm' : m ≤ 16384 := by omega
    have HL := Lib.hid hl
    clear hl hbad h0 h1
    go_enter Try.func3, Try.ntmps3
    go_wp2_with fail
    refine (awake_true W).mono ?_
    rintro e w1 ⟨rfl, b1⟩
    go_wp2_with fail
    refine (new_ok m hm' w1).mono ?_
    rintro e w2 ⟨rfl, q2, t2, s2⟩
    have S2 := Lib.hid s2
    clear s2
    go_wp2_with fail
    refine (ref_new_ok m hm' w2).mono ?_
    rintro e w3 ⟨rfl, r3, t3⟩
    have q3 := q2.kept t3 (fun h => h) (fun h => h)
    have B3 : Below W.heap.size W w3 := b1.trans ((((t2.trans t3 (fun _ _ h => h)).below (fun _ _ h => h))).mono b1.size)
    have hs1 := b1.size
    have hs2 : w1.heap.size + 2 ≤ w2.heap.size := by have := S2.out; omega
    clear q2 t2 t3 b1
    go_wp2_with fail
    go_loopw [5, 47] (fun uq i wr => PlaysRel W m N w2.heap.size uq i wr) (fun _ i _ => N - (intOf i).toNat)
    case atStart => exact ⟨0, _, _, none, [], Nat.zero_le _, Nat.zero_le _, rfl, rfl, q3, r3, (fun h => by cases h), (fun h => by cases h), by omega, by omega, by omega, by omega, (fun _ h => by cases h), B3⟩
    case round =>
      obtain ⟨k, g, r, o, xs, hk, hk2, rfl, rfl, hq, hr, hor, hog, hgg, hrg, hWg, hWr, hWo, hB⟩ := hrel
      by_cases hlt : k < N
      · obtain ⟨a, hA, hab, hc0, hc1, hc2, hRC, hRCm, hsrc, hK2⟩ := HL.out k hlt
        have hat := fun Wx => run_at3 a N C k hlt Wx
        rw [← hA] at hat
        obtain ⟨p, hp⟩ : ∃ p, p = a.add (k * 3) := ⟨_, rfl⟩
        have e1 : a.add (k * 3 + 1) = p.add 1 := by rw [hp, add_add_at]
        have e2 : a.add (k * 3 + 2) = p.add 2 := by rw [hp, add_add_at]
        rw [e1] at hc1
        rw [e2] at hc2
        rw [← hp] at hat hc0
        have hpb : p.block < W.heap.size := by rw [hp]; unfold Addr.add; split <;> exact hab
        have hp1 : (p.add 1).block < W.heap.size := by unfold Addr.add; split <;> exact hpb
        have hp2 : (p.add 2).block < W.heap.size := by unfold Addr.add; split <;> exact hpb
        have x0 := (hB.cell hpb).trans hc0
        have x1 : wr.cell? ⟨p.block, p.off + 1, none⟩ = _ := (hB.cell hp1).trans hc1
        have x2 : wr.cell? ⟨p.block, p.off + 2, none⟩ = _ := (hB.cell hp2).trans hc2
        generalize R k = bs at *
        generalize RA k = bA at *
        generalize RC k = bc at *
        generalize K1 k = what at *
        generalize K2 k = num at *
        have hqm := hq.count
        have HO1 := Lib.hid hor
        have HO2 := Lib.hid hog
        have HWO := Lib.hid hWo
        clear hA hp hc0 hc1 hc2 e1 e2 hab hor hog hWo hp1 hp2 hpb
        by_cases h200 : k = 200
        · have hkb : ((k : Int) == 200) = true := by simp; omega
          clear h200
          go_wp2_with fail
          go_ret
          exact ⟨rfl, hB.alloc hB.size _⟩
        · go_upto_block 2 with fail
          generalize hwa : wr.alloc (Obj.cells #[Value.int IntKind.i64 what, Value.int IntKind.i64 num, Value.slice bA bs.length bc] 33) = wa
          have ia : Is wa wr.heap.size 33 [.int .i64 what, .int .i64 num, .slice bA bs.length bc] := by rw [← hwa]; exact Is.made _ _ _
          have ta : Turn (fun _ => False) wr wa := by rw [← hwa]; exact (Turn.refl _ _).alloc _
          have HWA := Lib.hid hwa
          clear hwa
          go_cut [5] (fun uq wx => PlaysMid W m w2.heap.size uq wx)
          case first =>
            have lg := hq.ltg
            have lr := hq.ltr
            have lr' := hr.ltg
            have LO := Lib.hid hr.lto
            have q4 := hq.kept ta (fun h => h) (fun h => h)
            have r4 := hr.kept ta (fun h => h) (fun _ _ h => h)
            have B4 : Below W.heap.size W wa := hB.trans ((ta.below (fun _ _ h => h)).mono hB.size)
            have sza : wr.heap.size < wa.heap.size := ia.lt
            have a0 := ia.cell 0
            have a1 := ia.cell 1
            have a2 := ia.cell 2
            simp only [List.getElem?_cons_succ, List.getElem?_cons_zero] at a0 a1 a2
            clear hat x0 x1 x2 hB hq hr HWA
            by_cases h0 : what = 0
            · have b0 : (what == 0) = true := by simpa using h0
              clear h0 a0 a1
              have srca := (hsrc.kept (Turn.of_below (S := fun b => W.heap.size ≤ b) B4 |> fun t => t) (fun b h1 h2 => by omega))
              have ob : Own (wa.alloc (.cells #[] 5)) (.slice (some ⟨wa.heap.size, 0, none⟩) 0 0) (some wa.heap.size) [] := own_made wa
              have tb : Turn (fun _ => False) wa (wa.alloc (.cells #[] 5)) := (Turn.refl _ _).alloc _
              have srcb := srca.kept tb (fun _ _ h => h)
              obtain ⟨V5, w5, O5, hrun5, own5, t5, ho5⟩ := run_append_src (wa.alloc (.cells #[] 5)) _ _ [] bs ob bA bs.length bc rfl srcb (by simp; omega)
              rw [List.nil_append] at own5
              have hO5 : ∃ b5, O5 = some b5 ∧ wa.heap.size ≤ b5 := by
                rcases ho5 with h | h
                · exact ⟨_, h, Nat.le_refl _⟩
                · exact ⟨_, h, by simp⟩
              obtain ⟨b5, rfl, hb5⟩ := hO5
              obtain ⟨c5, ls5, rfl, i5, hl5, hz5, hc5⟩ := own5.is
              have T5 : Turn (fun b => wa.heap.size ≤ b) wa w5 := (tb.mono (fun _ _ h => h.elim)).trans t5 (fun b _ h => by injection h with h; omega)
              have q5 := q4.kept T5 (by omega) (by omega)
              have r5 := r4.kept T5 (by omega) (fun b hb h => by have := LO.out b hb; omega)
              have ia5 := ia.kept T5 (by omega)
              have a25 := ia5.cell 2
              simp only [List.getElem?_cons_succ, List.getElem?_cons_zero] at a25
              have src5 := srca.kept T5 (fun b h1 h2 => by have := B4.size; omega)
              have B5 : Below W.heap.size W w5 := B4.trans ⟨T5.os, T5.tape, T5.output, T5.size, fun b hb => T5.block b (by omega) (by omega)⟩
              have lt5 := i5.lt
              obtain ⟨A6, c6, hv6, osrc5⟩ := own5.src (fun b => b ≠ g ∧ b ≠ r) (fun b hb => by injection hb with hb; omega)
              injection hv6 with e6 _ e7
              subst e6 e7
              have HR5 := Lib.hid hrun5
              have HZ5 := Lib.hid hz5
              clear hrun5 hz5 ho5
              go_wp2_with (at_builtin; refine append_by rfl (.tmp 58) (.tmp 60) 31 rfl _ _ _ w5 rfl rfl HR5.out ?_)
              clear HR5 a2
              have szr : wr.heap.size < w5.heap.size := ia5.lt
              by_cases hfit : xs.length + bs.length ≤ m
              case' pos =>
                have CP := Lib.hid (fun (X : World) (hX : Quiet w5 X) => (push_ok X g r m xs bs (q5.kept hX.turn (fun h => h) (fun h => h)) _ c5 bs.length rfl hfit hc5 (osrc5.kept hX.turn (fun _ _ h => h))).mono
                  (fun e w6 h => (⟨h.1, h.2.1, (hX.turn.mono (fun _ _ h => h.elim)).trans h.2.2.1 (fun _ _ h => h)⟩ : e = .returned (.int .i64 0) ∧ Queue w6 g r m (xs ++ bs) ∧ Turn (fun b => b = g ∨ b = r) w5 w6)))
                have CQ := Lib.hid (fun (X : World) (hX : Turn (fun b => b = g ∨ b = r) w5 X) => ref_push_ok X w2.heap.size o m xs bs (r5.kept hX (by omega) (fun b hb h => by rcases h with h | h <;> (subst h; first | exact HO2.out hb | exact HO1.out hb))) bA bs.length bc rfl hfit (src5.kept hX (fun b h1 h2 => by omega)))
                go_region_held3 (fun w' => w'.cell? ⟨wr.heap.size, 2, none⟩ = some (.slice bA bs.length bc)) (first | exact a25 | exact a26 | exact a27 | go_keep)
                  (first
                    | (go_at_call 9; refine (CP.out _ ⟨_, rfl⟩).mono ?_; rintro e w6 ⟨rfl, q6, t6⟩; have a26 : w6.cell? ⟨wr.heap.size, 2, none⟩ = some (.slice bA bs.length bc) := (t6.cell (p := ⟨wr.heap.size, 2, none⟩) szr (by show ¬ (wr.heap.size = g ∨ wr.heap.size = r); omega)).trans a25)
                    | (go_at_call 10; refine (CQ.out _ t6).mono ?_; rintro e w7 ⟨rfl, t7, o7, r7, ho7⟩; have a27 : w7.cell? ⟨wr.heap.size, 2, none⟩ = some (.slice bA bs.length bc) := (t7.cell (p := ⟨wr.heap.size, 2, none⟩) (Nat.lt_of_lt_of_le szr t6.size) (by show ¬ (wr.heap.size = w2.heap.size); omega)).trans a26))
                have sz6 := t6.size
                have q7 := q6.kept t7 (by omega) (by omega)
                have T7 : Turn (fun b => b = g ∨ b = r ∨ b = w2.heap.size) w5 w7 := (t6.mono (S' := fun b => b = g ∨ b = r ∨ b = w2.heap.size) (fun _ _ h => by omega)).trans t7 (fun _ _ h => .inr (.inr h))
                have HO7 : Hid (∀ b, o7 = some b → b ≠ b5 ∧ b ≠ r ∧ b ≠ g ∧ W.heap.size ≤ b) := fun b hb => by have := ho7 b hb; omega
                generalize xs ++ bs = ys at *
                clear CP CQ a26 a27 q6 t6 t7 ho7 hfit
              case' neg =>
                have CP := Lib.hid (fun (X : World) (hX : Quiet w5 X) => (push_full X g r m xs (q5.kept hX.turn (fun h => h) (fun h => h)) (some ⟨b5, 0, none⟩) bs.length c5 (by omega) (by omega)).mono
                  (fun e w6 h => (⟨h.1, Quiet.more hX h.2⟩ : e = .returned (.int .i64 7) ∧ Quiet w5 w6)))
                have CQ := Lib.hid (fun (X : World) (hX : Quiet w5 X) => (ref_push_full X w2.heap.size o m xs (r5.kept hX.turn (fun h => h) (fun _ _ h => h)) bA bs.length bc (by omega) (by omega)).mono
                  (fun e w6 h => (⟨h.1, Quiet.more hX h.2⟩ : e = .returned (.int .i64 7) ∧ Quiet w5 w6)))
                go_region_held3 (fun w' => w'.cell? ⟨wr.heap.size, 2, none⟩ = some (.slice bA bs.length bc)) (first | exact a25 | exact a26 | exact a27 | go_keep)
                  (first
                    | (go_at_call 9; refine (CP.out _ ⟨_, rfl⟩).mono ?_; rintro e w6 ⟨rfl, t6⟩; have a26 : w6.cell? ⟨wr.heap.size, 2, none⟩ = some (.slice bA bs.length bc) := (t6.turn.cell (p := ⟨wr.heap.size, 2, none⟩) szr (fun h => h)).trans a25)
                    | (go_at_call 10; refine (CQ.out _ t6).mono ?_; rintro e w7 ⟨rfl, t7⟩; have a27 : w7.cell? ⟨wr.heap.size, 2, none⟩ = some (.slice bA bs.length bc) := (t7.turn.cell (p := ⟨wr.heap.size, 2, none⟩) szr (fun h => h)).trans a25))
                have q7 := q5.kept t7.turn (fun h => h) (fun h => h)
                have r7 := r5.kept t7.turn (fun h => h) (fun _ _ h => h)
                have T7 : Turn (fun b => b = g ∨ b = r ∨ b = w2.heap.size) w5 w7 := t7.turn.mono (fun _ _ h => h.elim)
                have HO7 : Hid (∀ b, o = some b → b ≠ b5 ∧ b ≠ r ∧ b ≠ g ∧ W.heap.size ≤ b) := fun b hb => by
                  have h1 := LO.out b hb
                  exact ⟨by omega, fun h => by subst h; exact HO1.out hb, fun h => by subst h; exact HO2.out hb, HWO.out b hb⟩
                obtain ⟨o7, ho7⟩ : ∃ x, x = o := ⟨_, rfl⟩
                obtain ⟨ys, hys⟩ : ∃ x, x = xs := ⟨_, rfl⟩
                subst ho7 hys
                clear CP CQ a26 a27 t6 t7 hfit
              all_goals
                have i7 := i5.kept T7 (by omega)
                have B7 : Below W.heap.size W w7 := B5.trans ⟨T7.os, T7.tape, T7.output, T7.size, fun b hb => T7.block b (by omega) (by omega)⟩
                clear q5 r5 q4 r4 i5 own5 osrc5 src5 srcb srca ia ia5 a25 T5 t5 tb ob
                obtain ⟨wo, hwo⟩ : ∃ w, w = wr := ⟨_, rfl⟩
                subst hwo
                go_wp2_with fail
                go_loopw [72] (fun i wx => Spoils b5 bs.length w7 i wx) (fun i _ => bs.length - (intOf i).toNat)
                case atStart => exact Spoils.start i7 hl5 HZ5.out
                case round =>
                  obtain ⟨j, ls, hj, rfl, hi, hnl, hz, ht⟩ := hrel
                  have HZ := Lib.hid hz
                  clear hz
                  by_cases hlj : j < bs.length
                  · obtain ⟨z, hz⟩ := HZ.out j hlj
                    have hc := (hi.cell j).trans hz
                    have hfr := hi.free j
                    clear hz
                    go_wp2_with fail
                    exact ⟨Spoils.step hlj hi hnl HZ.out ht _ _ rfl, by simp [intOf]; omega⟩
                  · go_wp2_with fail
                    go_meet
                    exact ⟨g, r, o7, ys, rfl, q7.kept ht (by omega) (by omega), r7.kept ht (by omega) (fun b hb h => (HO7.out b hb).1 h), (fun h => (HO7.out _ h).2.1 rfl), (fun h => (HO7.out _ h).2.2.1 rfl), hgg, hrg, hWg, hWr,
                      (fun b hb => (HO7.out b hb).2.2.2), B7.trans ⟨ht.os, ht.tape, ht.output, ht.size, fun b hb => ht.block b (by have := B7.size; omega) (by omega)⟩⟩
            · have b0 : (what == 0) = false := by simpa using h0
              by_cases h1 : what = 1
              · have b1 : (what == 1) = true := by simpa using h1
                clear h0 h1 a0
                by_cases hneg : num < 0
                · go_wp2_with fail
                  refine (take_neg wa g r m xs q4 num hneg).mono ?_
                  rintro e w' ⟨rfl, rfl⟩
                  go_wp2_with fail
                  refine (ref_take_neg wa w2.heap.size num hneg).mono ?_
                  rintro e w' ⟨rfl, rfl⟩
                  go_wp2_with fail
                  refine (equal_any (P := fun _ => True) (P' := fun _ => True) wa none none [] [] 0 0 0 0 rfl rfl (fun h => absurd h (by simp)) (fun h => absurd h (by simp))).mono ?_
                  rintro e w' ⟨rfl, rfl⟩
                  obtain ⟨wo, hwo⟩ : ∃ w, w = wr := ⟨_, rfl⟩
                  subst hwo
                  go_wp2_with fail
                  go_loopw [109] (fun i wx => i = .int .i64 0 ∧ wx = wa) (fun _ _ => 0)
                  case atStart => exact ⟨rfl, rfl⟩
                  case round =>
                    obtain ⟨rfl, rfl⟩ := hrel
                    go_wp2_with fail
                    go_meet
                    exact ⟨g, r, o, xs, rfl, q4, r4, HO1.out, HO2.out, hgg, hrg, hWg, hWr, HWO.out, B4⟩
                by_cases hsh : (xs.length : Int) < num
                · go_wp2_with fail
                  refine (take_short wa g r m xs q4 num hsh).mono ?_
                  rintro e w' ⟨rfl, rfl⟩
                  go_wp2_with fail
                  refine (ref_take_short wa w2.heap.size o m xs r4 num hsh).mono ?_
                  rintro e w' ⟨rfl, rfl⟩
                  go_wp2_with fail
                  refine (equal_any (P := fun _ => True) (P' := fun _ => True) wa none none [] [] 0 0 0 0 rfl rfl (fun h => absurd h (by simp)) (fun h => absurd h (by simp))).mono ?_
                  rintro e w' ⟨rfl, rfl⟩
                  obtain ⟨wo, hwo⟩ : ∃ w, w = wr := ⟨_, rfl⟩
                  subst hwo
                  go_wp2_with fail
                  go_loopw [109] (fun i wx => i = .int .i64 0 ∧ wx = wa) (fun _ _ => 0)
                  case atStart => exact ⟨rfl, rfl⟩
                  case round =>
                    obtain ⟨rfl, rfl⟩ := hrel
                    go_wp2_with fail
                    go_meet
                    exact ⟨g, r, o, xs, rfl, q4, r4, HO1.out, HO2.out, hgg, hrg, hWg, hWr, HWO.out, B4⟩
                obtain ⟨n, hnum⟩ : ∃ n : Nat, num = n := ⟨num.toNat, by omega⟩
                subst hnum
                have hn : n ≤ xs.length := by omega
                have hln : (xs.take n).length = n := by simp; omega
                have HLN := Lib.hid hln
                clear hneg hsh hln
                go_wp2_with fail
                refine (take_to wa g r m xs q4 n n (xs.take n) (xs.drop n) (List.take_append_drop n xs).symm HLN.out rfl).mono ?_
                rintro e w5 ⟨rfl, i5, q5, t5⟩
                have r5 := r4.kept t5 (by omega) (fun b hb h => by rcases h with h | h <;> (subst h; first | exact HO2.out hb | exact HO1.out hb))
                have ia5 := ia.kept t5 (by omega)
                have a15 := ia5.cell 1
                simp only [List.getElem?_cons_succ, List.getElem?_cons_zero] at a15
                go_wp2_with fail
                refine (ref_take_ok w5 w2.heap.size o m xs r5 n hn).mono ?_
                rintro e w6 ⟨t6, v6, o6, o6', rfl, own6, r6, ho6, ho6'⟩
                have hlt5 := i5.lt
                have i6 := i5.kept t6 (by omega)
                have q6 := q5.kept t6 (by omega) (by omega)
                have CE := Lib.hid (equal_left w6 wa.heap.size (xs.take n) (xs.take n) n n v6 o6' HLN.out i6 own6)
                have T6 : Turn (fun b => b = g ∨ b = r ∨ b = w2.heap.size) wa w6 := (t5.mono (S' := fun b => b = g ∨ b = r ∨ b = w2.heap.size) (fun _ _ h => by omega)).trans t6 (fun _ _ h => .inr (.inr h))
                have B6 : Below W.heap.size W w6 := B4.trans ⟨T6.os, T6.tape, T6.output, T6.size, fun b hb => T6.block b (by omega) (by omega)⟩
                have HO6 := Lib.hid ho6
                clear ho6 ho6'
                go_wp2_with fail
                refine CE.out.mono ?_
                rintro e w' ⟨rfl, rfl⟩
                have hz6 := vals_u8 (xs.take n)
                rw [HLN.out] at hz6
                have Z6 := Lib.hid hz6
                clear hz6 CE t6 t5 T6 own6
                obtain ⟨wo, hwo⟩ : ∃ w, w = wr := ⟨_, rfl⟩
                subst hwo
                go_wp2_with fail
                go_loopw [109] (fun i wx => Spoils wa.heap.size n w6 i wx) (fun i _ => n - (intOf i).toNat)
                case atStart => exact Spoils.start i6 (by rw [vals_length, HLN.out]; exact Nat.le_refl _) Z6.out
                case round =>
                  obtain ⟨j, ls, hj, rfl, hi, hnl, hz, ht⟩ := hrel
                  have HZ := Lib.hid hz
                  clear hz
                  by_cases hlj : j < n
                  · obtain ⟨z, hz⟩ := HZ.out j hlj
                    have hc := (hi.cell j).trans hz
                    have hfr := hi.free j
                    clear hz
                    go_wp2_with fail
                    exact ⟨Spoils.step hlj hi hnl HZ.out ht _ _ rfl, by simp [intOf]; omega⟩
                  · go_wp2_with fail
                    go_meet
                    exact ⟨g, r, o6, xs.drop n, rfl, q6.kept ht (by omega) (by omega), r6.kept ht (by omega) (fun b hb h => by have := HO6.out b hb; omega), (fun h => by have := HO6.out _ h; omega), (fun h => by have := HO6.out _ h; omega), hgg, hrg, hWg, hWr,
                      (fun b hb => by have := HO6.out b hb; omega), B6.trans ⟨ht.os, ht.tape, ht.output, ht.size, fun b hb => ht.block b (by have := B6.size; omega) (by omega)⟩⟩
              · have b1 : (what == 1) = false := by simpa using h1
                by_cases h2 : what = 2
                · have b2 : (what == 2) = true := by simpa using h2
                  have kc := fun (w : World) (C : Array Value) (n c : Nat) => Lib.run_convert_bytes_const (P := Try.prog) w 31 5 C n c Try.underlying31 Try.underlying5
                  clear h0 h1 h2
                  go_wp2_with fail
                  refine (copy_queue wa g r m xs q4).mono ?_
                  rintro e w5 ⟨rfl, q5, t5, -⟩
                  have o5 := q4.kept t5 (fun h => h) (fun h => h)
                  go_wp2_with fail
                  refine (take_weak w5 g r m xs o5).mono ?_
                  rintro e w6 ⟨v6, ys6, rfl, o6, t6⟩
                  go_wp2_with fail
                  refine (push_weak w6 g r m ys6 o6 _ rfl _).mono ?_
                  rintro e w7 ⟨v7, ys7, rfl, o7, t7⟩
                  have T7 := (t5.mono (S' := fun b => b = g ∨ b = r) (fun _ _ h => h.elim)).trans (t6.trans t7 (fun _ _ h => h)) (fun _ _ h => h)
                  have q7 := (q5.kept t6 (by omega) (by omega)).kept t7 (by omega) (by omega)
                  have r7 := r4.kept T7 (by omega) (fun b hb h => by rcases h with h | h <;> (subst h; first | exact HO2.out hb | exact HO1.out hb))
                  go_wp2_with fail
                  go_meet
                  exact ⟨wa.heap.size + 1, wa.heap.size, o, xs, rfl, q7, r7, (fun h => by have := LO.out _ h; omega), (fun h => by have := LO.out _ h; omega), by omega, by omega, by omega, by omega, HWO.out,
                    B4.trans ⟨T7.os, T7.tape, T7.output, T7.size, fun b hb => T7.block b (by omega) (by omega)⟩⟩
                · have b2 : (what == 2) = false := by simpa using h2
                  clear h0 h1 h2
                  go_wp2_with fail
                  go_meet
                  exact ⟨g, r, o, xs, rfl, q4, r4, HO1.out, HO2.out, hgg, hrg, hWg, hWr, HWO.out, B4⟩
          case rest =>
            clear hq hr HO1 HO2 HWO hgg hrg hWg hWr hB hqm ia ta HWA x0 x1 x2 hat hsrc
            obtain ⟨g, r, o, xs, rfl, hq, hr, hor, hog, hgg, hrg, hWg, hWr, hWo, hB⟩ := hcut
            have HO1 := Lib.hid hor
            have HO2 := Lib.hid hog
            have HWO := Lib.hid hWo
            clear hor hog hWo
            go_wp2_with fail
            refine (bytes_to wc _ _ m xs hq xs.length rfl).mono ?_
            rintro e w4 ⟨rfl, i4, q4, t4⟩
            have hqm := q4.count
            have hr4 := hr.kept t4 (fun h => h) (fun _ _ h => h)
            obtain ⟨rA, rc, ri, ro, _, _, _⟩ := hr4
            have y0 := ri.cell 0
            have y1 := ri.cell 1
            simp only [List.getElem?_cons_succ, List.getElem?_cons_zero] at y0 y1
            obtain ⟨A5, c5, hv5, src5⟩ := ro.src (fun _ => True) (fun _ _ => trivial)
            injection hv5 with e5 _ e6
            subst e5 e6
            have CE := Lib.hid (fun n => (equal_any (w4.drewN n) _ _ xs xs xs.length xs.length xs.length rc rfl rfl ((i4.drewN n).src (fun _ => True) trivial) (src5.kept (S := fun _ => False) ((Turn.refl _ _).drewN n) (fun _ _ h => h))).mono (fun e w' h => (⟨by rw [h.1]; simp, h.2.symm⟩ : e = .returned (.bool true) ∧ w' = w4.drewN n)))
            have CL := Lib.hid (fun n => (len_queue (w4.drewN n) _ _ m xs (q4.drewN n)).mono (fun e w' h => (⟨h.1, h.2.symm⟩ : e = _ ∧ w' = _)))
            have CR := Lib.hid (fun n => room_queue (w4.drewN n) _ _ m xs (q4.drewN n))
            have hsub : ((m - xs.length : Nat) : Int) = (m : Int) - (xs.length : Int) := by omega
            go_wp2_with fail
            go_quiet (first | (go_at_call 13; exact Calls.quiet_of_same (CE.out _)) | (go_at_call 16; exact Calls.quiet_of_same (CL.out _)) | (go_at_call 17; exact Calls.quiet_of (CR.out _)))
            have Q5 : Quiet w4 (w4.drewN nq) := ⟨nq, rfl⟩
            generalize w4.drewN nq = w5 at *
            have T5 := (t4.trans Q5.turn (fun _ _ h => h))
            have q5 := hq.kept T5 (fun h => h) (fun h => h)
            have r5 := hr.kept T5 (fun h => h) (fun _ _ h => h)
            have B5 := hB.trans ((Turn.below T5 (fun _ _ h => h)).mono hB.size)
            have i5 := i4.kept Q5.turn (fun h => h)
            have lg := hq.ltg
            have lr := hq.ltr
            have lr' := hr.ltg
            have LO := Lib.hid hr.lto
            have z5 := vals_u8 xs
            have Z5 := Lib.hid z5
            clear z5 hsub CE CL CR y0 y1 ri ro src5 Q5 T5 q4 i4 t4 hq hr hB
            obtain ⟨wo, hwo⟩ : ∃ w, w = wr := ⟨_, rfl⟩
            subst hwo
            go_wp2_with fail
            go_loopw [168] (fun i wx => Spoils wc.heap.size xs.length w5 i wx) (fun i _ => xs.length - (intOf i).toNat)
            case atStart => exact Spoils.start i5 (by rw [vals_length]; exact Nat.le_refl _) Z5.out
            case round =>
              obtain ⟨j, ls, hj, rfl, hi, hn, hz, ht⟩ := hrel
              have HZ := Lib.hid hz
              clear hz
              by_cases hlj : j < xs.length
              · obtain ⟨z, hz⟩ := HZ.out j hlj
                have hc := (hi.cell j).trans hz
                have hfr := hi.free j
                clear hz
                go_wp2_with fail
                exact ⟨Spoils.step hlj hi hn HZ.out ht _ _ rfl, by simp [intOf]; omega⟩
              · go_wp2_with fail
                exact ⟨⟨k + 1, g, r, o, xs, by omega, by omega, by simp, rfl, q5.kept ht (by omega) (by omega), r5.kept ht (by omega) (fun b hb h => by have := LO.out b hb; omega), HO1.out, HO2.out, hgg, hrg, hWg, hWr, HWO.out,
                  B5.trans ⟨ht.os, ht.tape, ht.output, ht.size, fun b hb => ht.block b (by have := B5.size; omega) (by omega)⟩⟩, by simp [intOf]; omega⟩
      · go_wp2_with fail
        go_ret
        exact ⟨rfl, hB⟩
end Go.Proofs.Ytielhclbefdgoaa
