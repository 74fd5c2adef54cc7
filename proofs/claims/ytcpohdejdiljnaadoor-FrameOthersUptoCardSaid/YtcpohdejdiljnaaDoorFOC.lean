/-
  What FrameOthers' loop keeps: a list of its own that grows, a list behind, the message's box.
  Conditions: those that each theorem names.
-/
import Derived.Test.YtcpohdejdiljnaaDoorFOA
namespace Go.Proofs.YtcpohdejdiljnaaDoor
open Go.RowKit

theorem OwnF.own_ltF {w : World} {v : Value} {o : Option Nat} {ls : List Fld} (h : OwnF w v o ls) (k : Nat) (hk : o = some k) : k < w.heap.size := by
  obtain ⟨⟨_, h2⟩, h3⟩ := h
  rcases h2 with ⟨hv, _⟩ | ⟨g, cap, cur, hv, _, hh, _⟩
  · rw [hv] at h3; rw [← h3] at hk; cases hk
  · rw [hv] at h3
    rw [← h3] at hk
    injection hk with hk
    rw [← hk]
    exact (Array.getElem?_eq_some_iff.1 hh).1
/-- v, of the loop's own, has the fields r; A reads bk; the box is as it was; g is another block. -/
structure Mid (w X : World) (v : Value) (o : Option Nat) (r : List Fld) (A : Option Addr) (bk : List Fld) (box : List Value) (g : Nat) : Prop where
  own : OwnF X v o r
  far : ∀ b, o = some b → w.heap.size < b ∧ b ≠ g
  src : SrcF X (fun b => ¬ o = some b ∧ b ≠ g) A bk
  box : Is X w.heap.size 24 box
  low : Below w.heap.size w X
section
variable {w X : World} {v : Value} {o : Option Nat} {r : List Fld} {A : Option Addr} {bk : List Fld} {box : List Value} {g : Nat}
theorem Mid.below {X' : World} (h : Mid w X v o r A bk box g) (hb : Below X.heap.size X X') : Mid w X' v o r A bk box g :=
  ⟨h.own.kept (Turn.of_below (S := fun _ => False) hb) (fun _ _ h => h), h.far, h.src.below hb, h.box.kept (Turn.of_below (S := fun _ => False) hb) (fun h => h), h.low.trans (hb.mono h.low.size)⟩
theorem Mid.next (h : Mid w X v o r A bk box g) : Mid w X v o r A bk box X.heap.size :=
  ⟨h.own, fun b hb => ⟨(h.far b hb).1, Nat.ne_of_lt (h.own.own_ltF b hb)⟩, h.src.mono (fun _ hk hP => ⟨hP.1, Nat.ne_of_lt hk⟩), h.box, h.low⟩
theorem Mid.made (h : Mid w X v o r A bk box X.heap.size) (ob : Obj) : Mid w (X.alloc ob) v o r A bk box X.heap.size := h.below ((Below.refl _ _).alloc (Nat.le_refl _) _)
theorem Mid.set (h : Mid w X v o r A bk box g) (hg : w.heap.size < g) (i : Nat) (u : Value) : Mid w (X.setCell ⟨g, i, none⟩ u) v o r A bk box g := by
  have t : Turn (· = g) X (X.setCell ⟨g, i, none⟩ u) := (Turn.refl (· = g) X).setCell (fun _ => rfl) _
  exact ⟨h.own.kept t (fun k hk hkg => (h.far k hk).2 hkg), h.far, h.src.turned t (fun _ hk => hk.2), h.box.kept t (fun e => by omega), h.low.setCell (Nat.le_of_lt hg) _⟩
theorem Mid.push (h : Mid w X v o r A bk box g) (hg : g < X.heap.size) (x : Fld) (hl : r.length ≤ 1000) :
    ∃ (v' : Value) (w' : World) (o' : Option Nat), (Builtin.append_ #[22, 22] 22 #[v, .slice (some ⟨X.heap.size, 0, none⟩) 1 1]).run Tryd.prog (X.alloc (.cells #[.string ⟨x.1.toArray⟩, .string ⟨x.2.toArray⟩] 34)) = .ok v' w' ∧ Mid w w' v' o' (r ++ [x]) A bk box g ∧ (∀ l, Is X g 34 l → Is w' g 34 l) ∧ X.heap.size ≤ w'.heap.size := by
  obtain ⟨v', w', o', hrun, own', t', ho'⟩ := run_push_fld X v o r x h.own (by omega)
  have hbx := h.box.lt
  refine ⟨v', w', o', hrun, ⟨own', fun b hb => ?_, ?_, h.box.kept t' (fun e => by have := (h.far _ e).1; omega), Turn.none_below h.low (fun k hk => Nat.le_of_lt (h.far k hk).1) t'⟩, fun l hi => hi.kept t' (fun e => (h.far _ e).2 rfl), t'.size⟩
  · rcases ho' b hb with e | e
    · exact h.far b e
    · exact ⟨by omega, by omega⟩
  · have h1 : SrcF X (fun b => (¬ o = some b ∧ b ≠ g) ∧ ¬ o' = some b) A bk := h.src.mono (fun k hk hP => ⟨hP, fun e => by
      rcases ho' k e with e | e
      · exact hP.1 e
      · omega⟩)
    exact (h1.turned t' (fun k hk => hk.1.1)).mono (fun k _ hk => ⟨hk.2, hk.1.2⟩)
theorem OwnF.lit (X : World) (f : Fld) : OwnF (X.alloc (.cells #[.string ⟨f.1.toArray⟩, .string ⟨f.2.toArray⟩] 34)) (.slice (some ⟨X.heap.size, 0, none⟩) 1 1) (some X.heap.size) [f] :=
  ⟨⟨rfl, .inr ⟨X.heap.size, 1, #[.string ⟨f.1.toArray⟩, .string ⟨f.2.toArray⟩], rfl, Nat.zero_le _, heap_alloc_new X _, Nat.le_refl _, by decide, rfl, rfl⟩⟩, rfl⟩
/-- append([]Field{f}, back...). -/
theorem Mid.back (h : Mid w X v o r A bk box g) (f : Fld) (n c : Nat) (hn : bk.length = n) (hmax : n ≤ 1000) :
    ∃ (A' : Option Addr) (c' : Nat) (w' : World), (Builtin.append_ #[22, 22] 22 #[.slice (some ⟨X.heap.size, 0, none⟩) 1 1, .slice A n c]).run Tryd.prog (X.alloc (.cells #[.string ⟨f.1.toArray⟩, .string ⟨f.2.toArray⟩] 34)) = .ok (.slice A' (n + 1) c') w' ∧ Mid w w' v o r A' (f :: bk) box w'.heap.size := by
  have hl := OwnF.lit X f
  have hb1 : Below X.heap.size X (X.alloc (.cells #[.string ⟨f.1.toArray⟩, .string ⟨f.2.toArray⟩] 34)) := (Below.refl _ _).alloc (Nat.le_refl _) _
  obtain ⟨v', w', o', hrun, own', t', ho'⟩ := run_append_srcF _ _ _ [f] bk hl A n c hn (h.src.below hb1) (by simp; omega)
  have hb2 : Below X.heap.size X w' := Turn.none_below hb1 (fun k hk => by injection hk with hk; omega) t'
  have hfar : ∀ b, o' = some b → X.heap.size ≤ b := by
    intro b hb
    rcases ho' with e | e
    · rw [e] at hb; injection hb with hb; omega
    · rw [e] at hb; injection hb with hb; simp at hb; omega
  obtain ⟨A', c', rfl, hs'⟩ := own'.src (fun b => ¬ o = some b) (fun k hk e => by
    have h1 := hfar k hk
    have h2 := h.own.own_ltF k e
    omega)
  have e1 : ([f] ++ bk).length = n + 1 := by simp [hn]
  have hm := h.below hb2
  rw [e1] at hrun
  exact ⟨A', c', w', hrun, ⟨hm.own, fun b hb => ⟨(hm.far b hb).1, Nat.ne_of_lt (hm.own.own_ltF b hb)⟩, hs'.mono (fun _ hk hP => ⟨hP, Nat.ne_of_lt hk⟩), hm.box, hm.low⟩⟩
end
end Go.Proofs.YtcpohdejdiljnaaDoor
