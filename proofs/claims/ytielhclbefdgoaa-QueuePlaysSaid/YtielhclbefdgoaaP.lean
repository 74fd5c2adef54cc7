/-
  What the document's own queue (the reference) does, call by call.
  Conditions: those that each theorem names.
-/
import Derived.Test.YtielhclbefdgoaaM
namespace Go.Proofs.Ytielhclbefdgoaa
open Go.RowKit

/-- The reference's queue at block g: its bytes xs at block o (none: nil). -/
def Ref (w : World) (g : Nat) (o : Option Nat) (m : Nat) (xs : List UInt8) : Prop :=
  ∃ (A : Option Addr) (c : Nat), Is w g 44 [.slice A xs.length c, .int .i64 m] ∧ Own w (.slice A xs.length c) o xs ∧ xs.length ≤ m ∧ m ≤ 16384 ∧ xs.length ≤ c

theorem Own.cap {w : World} {A : Option Addr} {n c : Nat} {o : Option Nat} {bs : List UInt8} (h : Own w (.slice A n c) o bs) : n ≤ c ∧ n = bs.length := by
  obtain ⟨⟨h1, h2⟩, _⟩ := h
  rcases h2 with ⟨hv, hn⟩ | ⟨g, cap, cur, hv, _, _, hnc, _⟩
  · injection hv with _ h3 h4
    exact ⟨by omega, by omega⟩
  · injection hv with _ h3 h4
    exact ⟨by omega, h3⟩

theorem Ref.kept {w w' : World} {g : Nat} {o : Option Nat} {m : Nat} {xs : List UInt8} {S : Nat → Prop} (h : Ref w g o m xs) (ht : Turn S w w') (hg : ¬ S g) (ho : ∀ k, o = some k → ¬ S k) : Ref w' g o m xs := by
  obtain ⟨A, c, h1, h2, h3⟩ := h
  exact ⟨A, c, h1.kept ht hg, h2.kept ht ho, h3⟩
theorem Ref.ltg {w : World} {g : Nat} {o : Option Nat} {m : Nat} {xs : List UInt8} (h : Ref w g o m xs) : g < w.heap.size := by
  obtain ⟨A, c, h1, _⟩ := h
  exact h1.lt
theorem Ref.lto {w : World} {g : Nat} {o : Option Nat} {m : Nat} {xs : List UInt8} (h : Ref w g o m xs) (k : Nat) (hk : o = some k) : k < w.heap.size := by
  obtain ⟨A, c, _, h2, _⟩ := h
  exact h2.lt k hk

/-- Own: the bytes in new memory. -/
def Owned (bs : List UInt8) (w : World) (e : Ending) (w' : World) : Prop :=
  ∃ v o, e = .returned v ∧ Own w' v o bs ∧ Turn (fun _ => False) w w' ∧ ∀ k, o = some k → w.heap.size ≤ k

set_option maxHeartbeats 400000 in
theorem own_any {P : Nat → Prop} (w : World) (A : Option Addr) (n c : Nat) (bs : List UInt8) (hn : bs.length = n) (hs : Src w P A bs) (hlen : bs.length ≤ 140737488355328) : Calls Try.prog 21 #[.slice A n c] w (Owned bs w) := by
  obtain ⟨v, w', o, hrun, hown, ht, ho⟩ := run_append_src w (.slice none 0 0) none [] bs (Own.nil w) A n c hn hs (by simpa using hlen)
  rw [List.nil_append] at hown
  have HR := Lib.hid hrun
  have HO := Lib.hid ho
  have HN := Lib.hid hn
  clear hrun ho hn
  go_enter Try.func21, Try.ntmps21
  go_wp2_with (at_builtin; refine append_by rfl (.tmp 4) (.tmp 5) 31 rfl _ _ v w' rfl rfl HR.out ?_)
  go_ret
  refine ⟨v, o, rfl, hown, ht.mono (fun _ _ h => by cases h), fun k hk => ?_⟩
  rcases HO.out with h | h
  · rw [h] at hk; cases hk
  · rw [h] at hk; injection hk with hk; omega

set_option maxHeartbeats 400000 in
theorem ref_new_bad (n : Int) (hn : n < 0 ∨ 16384 < n) (w : World) : Calls Try.prog 8 #[.int .i64 n] w fun e w' => e = .returned (.tuple #[.pointer none, .int .i64 1]) ∧ w = w' := by
  rcases hn with hn | hn
  · go_enter Try.func8, Try.ntmps8
    go_wp2_with fail
    go_ret2
    exact ⟨rfl, rfl⟩
  · go_enter Try.func8, Try.ntmps8
    go_wp2_with fail
    go_ret2
    exact ⟨rfl, rfl⟩

set_option maxHeartbeats 400000 in
theorem ref_new_ok (m : Nat) (hm : m ≤ 16384) (w : World) : Calls Try.prog 8 #[.int .i64 m] w fun e w' => e = .returned (.tuple #[.pointer (some ⟨w.heap.size, 0, none⟩), .int .i64 0]) ∧ Ref w' w.heap.size none m [] ∧ Turn (fun _ => False) w w' := by
  go_enter Try.func8, Try.ntmps8
  go_wp2_with fail
  go_ret2
  refine ⟨rfl, ⟨none, 0, ?_, Own.nil _, by simp, hm, by simp⟩, (Turn.refl _ _).alloc _⟩
  exact Is.made w 44 [.slice none 0 0, .int .i64 m]

set_option maxHeartbeats 400000 in
theorem ref_push_full (w : World) (g : Nat) (o : Option Nat) (m : Nat) (xs : List UInt8) (h : Ref w g o m xs) (A : Option Addr) (n c : Nat) (hn : m < xs.length + n) (_hmax : n ≤ 140737488351232) :
    Calls Try.prog 10 #[.pointer (some ⟨g, 0, none⟩), .slice A n c] w fun e w' => e = .returned (.int .i64 7) ∧ Quiet w w' := by
  obtain ⟨B', c', h1, h2, h3, h4, h5⟩ := h
  have c0 := h1.cell 0
  have c1 := h1.cell 1
  simp only [List.getElem?_cons_succ, List.getElem?_cons_zero] at c0 c1
  clear h1 h2
  go_enter Try.func10, Try.ntmps10
  go_wp2_with fail
  go_quiet (fail)
  go_wp2_with fail
  go_ret
  exact ⟨rfl, _, rfl⟩

/-- What the reference's Push leaves. -/
def RefPushes (g : Nat) (m : Nat) (l : List UInt8) (w : World) (e : Ending) (w' : World) : Prop :=
  e = .returned (.int .i64 0) ∧ Turn (· = g) w w' ∧ ∃ o, Ref w' g o m l ∧ ∀ k, o = some k → w.heap.size ≤ k

set_option maxHeartbeats 1000000 in
theorem ref_push_ok {P : Nat → Prop} (w : World) (g : Nat) (o : Option Nat) (m : Nat) (xs bs : List UInt8) (h : Ref w g o m xs) (A : Option Addr) (n c : Nat) (hb : bs.length = n) (hn : xs.length + n ≤ m) (hs : Src w P A bs) :
    Calls Try.prog 10 #[.pointer (some ⟨g, 0, none⟩), .slice A n c] w (RefPushes g m (xs ++ bs) w) := by
  obtain ⟨B', c', h1, h2, h3, h4, h5⟩ := h
  have c0 := h1.cell 0
  have c1 := h1.cell 1
  simp only [List.getElem?_cons_succ, List.getElem?_cons_zero] at c0 c1
  have HB := Lib.hid hb
  clear hb
  go_enter Try.func10, Try.ntmps10
  go_wp2_with fail
  go_quiet (fail)
  have Q1 : Quiet w (w.drewN nq) := ⟨nq, rfl⟩
  generalize w.drewN nq = w1 at *
  have i1 := h1.kept Q1.turn (fun h => h)
  have o1 := h2.kept Q1.turn (fun _ _ h => h)
  have s1 := hs.kept Q1.turn (fun _ _ h => h)
  have d0 := i1.cell 0
  simp only [List.getElem?_cons_zero] at d0
  obtain ⟨A2, c2, hv2, src1⟩ := o1.src (fun _ => True) (fun _ _ => trivial)
  injection hv2 with e1 e2 e3
  subst e1 e3
  clear e2 c0 c1
  go_wp2_with fail
  refine (own_any w1 _ _ _ xs rfl src1 (by omega)).mono ?_
  rintro e w2 ⟨v2, o2, rfl, own2, t2, ho2⟩
  have s2 := s1.kept t2 (fun _ _ h => h)
  obtain ⟨v3, w3, o3, hrun3, own3, t3, ho3⟩ := run_append_src w2 v2 o2 xs bs own2 A n c HB.out s2 (by have := HB.out; omega)
  obtain ⟨A4, c4, hv4, _⟩ := own3.src (fun _ => True) (fun _ _ => trivial)
  subst hv4
  generalize hl4 : (xs ++ bs).length = n4 at *
  have HL4 := Lib.hid hl4
  clear hl4
  have HR3 := Lib.hid hrun3
  have HO2 := Lib.hid ho2
  have HO3 := Lib.hid ho3
  have i3 := (i1.kept t2 (fun h => h)).kept t3 (fun h => by have := HO2.out _ h; have := i1.lt; omega)
  have f3 := i3.free 0
  have d3 := i3.cell 0
  simp only [List.getElem?_cons_zero] at d3
  clear hrun3 ho2 ho3
  go_wp2_with (at_builtin; refine append_by rfl (.tmp 23) (.tmp 24) 31 rfl _ _ _ w3 rfl rfl HR3.out ?_)
  go_ret
  have hl4 := HL4.out
  subst hl4
  have hl := own3.cap
  have ho3 : ∀ k, o3 = some k → w.heap.size ≤ k := fun k hk => by
    rcases HO3.out with h | h
    · have := HO2.out k (h.symm.trans hk); have := Q1.turn.size; omega
    · rw [h] at hk; injection hk with hk; have := Q1.turn.size; have := t2.size; omega
  have hg := h1.lt
  refine ⟨rfl, ?_, o3, ⟨A4, c4, i3.set 0 _, own3.kept ((Turn.refl (· = g) w3).setCell (p := ⟨g, 0, none⟩) (fun _ => rfl) _) (fun k hk h => by have := ho3 k hk; omega), by rw [List.length_append, HB.out]; exact hn, h4, hl.1⟩, ho3⟩
  have T3 : Turn (· = g) w w3 := ((Q1.turn.trans t2 (fun _ _ h => h)).mono (S' := (· = g)) (fun _ _ h => h.elim)).trans t3 (fun k hk h => by have := HO2.out k h; have := Q1.turn.size; omega)
  exact T3.setCell (p := ⟨g, 0, none⟩) (fun _ => rfl) _

set_option maxHeartbeats 400000 in
theorem ref_take_neg (w : World) (g : Nat) (n : Int) (hn : n < 0) : Calls Try.prog 12 #[.pointer (some ⟨g, 0, none⟩), .int .i64 n] w fun e w' => e = .returned (.tuple #[.slice none 0 0, .int .i64 1]) ∧ w = w' := by
  go_enter Try.func12, Try.ntmps12
  go_wp2_with fail
  go_ret2
  exact ⟨rfl, rfl⟩

set_option maxHeartbeats 400000 in
theorem ref_take_short (w : World) (g : Nat) (o : Option Nat) (m : Nat) (xs : List UInt8) (h : Ref w g o m xs) (n : Int) (hn : (xs.length : Int) < n) :
    Calls Try.prog 12 #[.pointer (some ⟨g, 0, none⟩), .int .i64 n] w fun e w' => e = .returned (.tuple #[.slice none 0 0, .int .i64 4]) ∧ w = w' := by
  obtain ⟨B', c', h1, h2, h3, h4, h5⟩ := h
  have c0 := h1.cell 0
  simp only [List.getElem?_cons_zero] at c0
  have h0 : 0 ≤ n := by omega
  clear h1 h2
  go_enter Try.func12, Try.ntmps12
  go_wp2_with fail
  go_ret2
  exact ⟨rfl, rfl⟩

/-- What the reference's Take answers and leaves. -/
def RefTakes (g : Nat) (m : Nat) (l rest : List UInt8) (w : World) (e : Ending) (w' : World) : Prop :=
  Turn (· = g) w w' ∧ ∃ v o o', e = .returned (.tuple #[v, .int .i64 0]) ∧ Own w' v o' l ∧ Ref w' g o m rest ∧ (∀ k, o = some k → w.heap.size ≤ k) ∧ (∀ k, o' = some k → w.heap.size ≤ k ∧ o ≠ some k)

/-- b[:k]. -/
theorem run_till (A : Option Addr) (n c k : Nat) (hk : k ≤ n) (hn : n ≤ c) : ∃ A', (∀ W : World, (Instr.slice 31 (.slice A n c) none (some (.int .i64 (k : Int))) none).run Try.prog W = .ok (.slice A' k c) W) ∧
    (0 < k → A' = A) := by
  refine ⟨if c = 0 then A else A.map (·.add 0), fun W => ?_, fun h => ?_⟩
  · have h1 : ¬ c < k := by omega
    simp [Instr.slice, run_underlying Try.underlying31, Instr.sliceBounds, Instr.sliceBound, asIntOf, h1]
  · rw [if_neg (by omega)]
    cases A with
    | none => rfl
    | some a => simp [Addr.add]

theorem Src.take {w : World} {P : Nat → Prop} {A A' : Option Addr} {xs : List UInt8} (h : Src w P A xs) (k : Nat) (hA : 0 < k → A' = A) : Src w P A' (xs.take k) := by
  intro h0
  rw [List.length_take] at h0
  obtain ⟨ad, h1, h2, h3, h4⟩ := h (by omega)
  refine ⟨ad, (hA (by omega)).trans h1, h2, h3, fun i v hv => h4 i v ?_⟩
  rw [vals_take, List.getElem?_take] at hv
  split at hv
  · exact hv
  · cases hv
theorem Src.drop {w : World} {P : Nat → Prop} {A A' : Option Addr} {xs : List UInt8} (h : Src w P A xs) (k : Nat) (hA : 0 < xs.length - k → A' = A.map (·.add k)) : Src w P A' (xs.drop k) := by
  intro h0
  rw [List.length_drop] at h0
  obtain ⟨ad, h1, h2, h3, h4⟩ := h (by omega)
  refine ⟨ad.add k, by rw [hA h0, h1]; rfl, ?_, ?_, fun i v hv => ?_⟩
  · unfold Addr.add; split <;> exact h2
  · unfold Addr.add; split <;> exact h3
  · rw [add_add_at]
    refine h4 _ v ?_
    rw [vals_drop, List.getElem?_drop] at hv
    exact hv

set_option maxHeartbeats 1000000 in
theorem ref_take_ok (w : World) (g : Nat) (o : Option Nat) (m : Nat) (xs : List UInt8) (h : Ref w g o m xs) (n : Nat) (hn : n ≤ xs.length) :
    Calls Try.prog 12 #[.pointer (some ⟨g, 0, none⟩), .int .i64 n] w (RefTakes g m (xs.take n) (xs.drop n) w) := by
  obtain ⟨A, c, h1, h2, h3, h4, h5⟩ := h
  have c0 := h1.cell 0
  simp only [List.getElem?_cons_zero] at c0
  obtain ⟨A2, c2, hv2, src⟩ := h2.src (fun _ => True) (fun _ _ => trivial)
  injection hv2 with e1 e2 e3
  subst e1 e3
  clear e2
  obtain ⟨At, htill, hAt⟩ := run_till A xs.length c n hn h5
  obtain ⟨Ad, hcut, hAd⟩ := run_cut A xs.length c n hn h5
  have src1 := src.take n hAt
  have HAD := Lib.hid hAd
  have HSR := Lib.hid src
  have hg := h1.lt
  clear hAt hAd src
  go_enter Try.func12, Try.ntmps12
  go_wp2_with fail
  refine (own_any w _ n _ (xs.take n) (by simp; omega) src1 (by simp; omega)).mono ?_
  rintro e w2 ⟨v2, o2, rfl, own2, t2, ho2⟩
  obtain ⟨A5, c5, hv5, _⟩ := own2.src (fun _ => True) (fun _ _ => trivial)
  have i2 := h1.kept t2 (fun h => h)
  have d2 := i2.cell 0
  simp only [List.getElem?_cons_zero] at d2
  have src2 := (HSR.out.kept t2 (fun _ _ h => h)).drop n HAD.out
  have HO2 := Lib.hid ho2
  have HV5 := Lib.hid hv5
  clear ho2 hv5 c0
  go_wp2_with fail
  refine (own_any w2 _ _ _ (xs.drop n) (by simp) src2 (by simp; omega)).mono ?_
  rintro e w3 ⟨v3, o3, rfl, own3, t3, ho3⟩
  obtain ⟨A4, c4, hv4, _⟩ := own3.src (fun _ => True) (fun _ _ => trivial)
  subst hv4
  generalize hl4 : (xs.drop n).length = n4 at *
  have HL4 := Lib.hid hl4
  clear hl4
  have i3 := i2.kept t3 (fun h => h)
  have own2' := own2.kept t3 (fun _ _ h => h)
  have f3 := i3.free 0
  have d3 := i3.cell 0
  simp only [List.getElem?_cons_zero] at d3
  have HO3 := Lib.hid ho3
  clear ho3
  go_wp2_with fail
  go_ret2
  have hl4 := HL4.out
  subst hl4
  have hsz := t2.size
  have T3 : Turn (· = g) w w3 := (t2.trans t3 (fun _ _ h => h)).mono (fun _ _ h => h.elim)
  have Tg := (Turn.refl (· = g) w3).setCell (p := ⟨g, 0, none⟩) (fun _ => rfl) (.slice A4 (xs.drop n).length c4)
  refine ⟨T3.setCell (p := ⟨g, 0, none⟩) (fun _ => rfl) _, v2, o3, o2, rfl, own2'.kept Tg (fun k hk h => by have := HO2.out k hk; omega), ⟨A4, c4, i3.set 0 _, own3.kept Tg (fun k hk h => by have := HO3.out k hk; omega), by simp; omega, h4, own3.cap.1⟩,
    fun k hk => by have := HO3.out k hk; omega, fun k hk => ⟨HO2.out k hk, fun h => by have := HO3.out k h; have := own2.lt k hk; omega⟩⟩
end Go.Proofs.Ytielhclbefdgoaa
