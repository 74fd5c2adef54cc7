/-
  Appends to nil, and of one field more, in whatever order.
  Conditions: those that each theorem names.
-/
import Derived.Test.YtinibacmhmmcdaaDoorVX
import Derived.Deep.CutRange
namespace Go.Proofs.YtinibacmhmmcdaaDoor.Hop
open Go.RowKit

/-- append(nil, l...). -/
theorem nil_app {P : Nat → Prop} (X : World) (A : Option Addr) (ls : List Fld) (n c : Nat) (hn : ls.length = n) (hmax : n ≤ 1000000001) (h : SrcF X P A ls) :
    ∃ (A1 : Option Addr) (c1 : Nat) (w1 : World) (o1 : Option Nat), (Builtin.append_ #[22, 22] 22 #[.slice none 0 0, .slice A n c]).run Tryd.prog X = .ok (.slice A1 n c1) w1 ∧ OwnF w1 (.slice A1 n c1) o1 ls ∧ (∀ b, o1 = some b → X.heap.size ≤ b) ∧ Below X.heap.size X w1 := by
  obtain ⟨v1, w1, o1, hrun, own1, t1, ho1⟩ := run_append_srcF X (.slice none 0 0) none [] ls (OwnF.nil X) A n c hn h (by simp; omega)
  rw [List.nil_append] at own1
  have T1 := own_turn (o := none) (o' := o1) (Below.refl X.heap.size X) (fun _ h => by cases h) t1 (fun b hb => by
    rcases ho1 with h | h
    · rw [h] at hb; cases hb
    · rw [h] at hb; injection hb with hb; right; omega)
  obtain ⟨A1, c1, hv1, _⟩ := own1.src (fun _ => True) (fun _ _ => trivial)
  rw [hn] at hv1
  subst hv1
  exact ⟨A1, c1, w1, o1, hrun, own1, T1.2, T1.1⟩
/-- append(v, l...), v and l as they lie. -/
theorem more_app {P : Nat → Prop} (X : World) (v : Value) (o : Option Nat) (ls news : List Fld) (h : OwnF X v o ls) (A : Option Addr) (n c m : Nat) (hn : news.length = n) (hm : ls.length + n = m) (hs : SrcF X P A news) (hmax : m ≤ 1000000100) {W : World} (hW : Below W.heap.size W X) (ho : ∀ b, o = some b → W.heap.size ≤ b) :
    ∃ (A1 : Option Addr) (c1 : Nat) (w1 : World) (o1 : Option Nat), (Builtin.append_ #[22, 22] 22 #[v, .slice A n c]).run Tryd.prog X = .ok (.slice A1 m c1) w1 ∧ OwnF w1 (.slice A1 m c1) o1 (ls ++ news) ∧ (∀ b, o1 = some b → W.heap.size ≤ b) ∧ Below W.heap.size W w1 ∧ Turn (fun k => o = some k) X w1 := by
  obtain ⟨v1, w1, o1, hrun, own1, t1, ho1⟩ := run_append_srcF X v o ls news h A n c hn hs (by omega)
  have T1 := own_turn (o' := o1) hW ho t1 (fun b hb => by
    rcases ho1 with h | h
    · rw [h] at hb; exact .inl hb
    · rw [h] at hb; injection hb with hb; right; omega)
  obtain ⟨A1, c1, hv1, _⟩ := own1.src (fun _ => True) (fun _ _ => trivial)
  rw [List.length_append, hn, hm] at hv1
  subst hv1
  exact ⟨A1, c1, w1, o1, hrun, own1, T1.2, T1.1, t1⟩
theorem OwnF.reads {w : World} {A : Option Addr} {n c : Nat} {o : Option Nat} {ls : List Fld} (h : OwnF w (.slice A n c) o ls) : SrcF w (fun _ => True) A ls := by
  obtain ⟨A1, c1, hv1, s⟩ := h.src (fun _ => True) (fun _ _ => trivial)
  injection hv1 with h1
  subst h1
  exact s
theorem own_below {w w' : World} {v : Value} {o : Option Nat} {ls : List Fld} (h : OwnF w v o ls) (hb : Below w.heap.size w w') : OwnF w' v o ls := h.kept (Turn.of_below (S := fun _ => False) hb) (fun _ _ h => h)
end Go.Proofs.YtinibacmhmmcdaaDoor.Hop
