/-
  The machine that reads fields: plain mathematics.
  Conditions: those that each theorem names.
-/
import Derived.Test.YtemgfppclakdmaaGreatDoorHH
namespace Go.Proofs.YtemgfppclakdmaaGreatDoor
open Go.RowKit

/-- What is told, but that more is wanted, stands whatever comes. -/
theorem run_stands : ∀ (b r : List UInt8) (at0 part long : Nat) (nm v : List UInt8) (l : List Fld), (runF at0 part long nm v l b).2.2 ≠ 8 → runF at0 part long nm v l (b ++ r) = runF at0 part long nm v l b
  | [], r, at0, part, long, nm, v, l, h => by simp [runF] at h
  | c :: b, r, at0, part, long, nm, v, l, h => by
    show runF at0 part long nm v l (c :: (b ++ r)) = _
    cases hs : stepF at0 c part long nm v l with
    | stop l' n e => rw [runF_stop hs, runF_stop hs]
    | go part' long' nm' v' l' =>
      rw [runF_go hs] at h
      rw [runF_go hs, runF_go hs]
      exact run_stands b r _ _ _ _ _ _ h
/-- The step's answers. -/
theorem step_stop {at0 part long : Nat} {nm v : List UInt8} {l l' : List Fld} {c : UInt8} {n e : Nat} (h : stepF at0 c part long nm v l = .stop l' n e) :
    (e = 0 ∧ l' = l ∧ n = at0 + 1 ∧ at0 < 2048) ∨ ((e = 20 ∨ e = 21) ∧ l' = [] ∧ n = 0) := by
  unfold stepF at h
  repeat' split at h
  all_goals
    first
      | (cases h; done)
      | (injection h with h1 h2 h3
         subst h1 h2 h3
         first
           | (right; exact ⟨.inr rfl, rfl, rfl⟩)
           | (right; exact ⟨.inl rfl, rfl, rfl⟩)
           | (left; exact ⟨rfl, rfl, rfl, by omega⟩))
theorem run_range : ∀ (b : List UInt8) (at0 part long : Nat) (nm v : List UInt8) (l : List Fld) (l' : List Fld) (n e : Nat), runF at0 part long nm v l b = (l', n, e) →
    (e = 0 ∧ at0 < n ∧ n ≤ at0 + b.length ∧ n ≤ 2048) ∨ ((e = 8 ∨ e = 20 ∨ e = 21) ∧ l' = [] ∧ n = 0)
  | [], at0, part, long, nm, v, l, l', n, e, h => by
    simp only [runF, Prod.mk.injEq] at h
    obtain ⟨rfl, rfl, rfl⟩ := h
    exact .inr ⟨.inl rfl, rfl, rfl⟩
  | c :: b, at0, part, long, nm, v, l, l', n, e, h => by
    cases hs : stepF at0 c part long nm v l with
    | stop l2 n2 e2 =>
      rw [runF_stop hs] at h
      simp only [Prod.mk.injEq] at h
      obtain ⟨rfl, rfl, rfl⟩ := h
      rcases step_stop hs with ⟨h1, _, h3, h4⟩ | ⟨h1, h2, h3⟩
      · exact .inl ⟨h1, by omega, by simp; omega, by omega⟩
      · exact .inr ⟨.inr h1, h2, h3⟩
    | go part' long' nm' v' l2 =>
      rw [runF_go hs] at h
      rcases run_range b _ _ _ _ _ _ _ _ _ h with ⟨h1, h2, h3, h4⟩ | h1
      · exact .inl ⟨h1, by omega, by simp; omega, h4⟩
      · exact .inr h1
/-- Of a beginning the same is told, or more is wanted. -/
theorem head_prefix (b : List UInt8) (k : Nat) : parseH (b.take k) = parseH b ∨ parseH (b.take k) = ([], 0, 8) := by
  by_cases h : (parseH (b.take k)).2.2 = 8
  · right
    obtain ⟨⟨l, n⟩, hh⟩ : ∃ p : List Fld × Nat, parseH (b.take k) = (p.1, p.2, 8) := ⟨((parseH (b.take k)).1, (parseH (b.take k)).2.1), by rw [← h]⟩
    rcases run_range _ _ _ _ _ _ _ _ _ _ hh with ⟨h1, _⟩ | ⟨_, h2, h3⟩
    · cases h1
    · rw [hh]
      simp only at h2 h3
      rw [h2, h3]
  · left
    have := run_stands (b.take k) (b.drop k) 0 0 0 [] [] [] h
    rw [List.take_append_drop] at this
    exact this.symm
theorem head_stands (b r : List UInt8) (h : (parseH b).2.2 ≠ 8) : parseH (b ++ r) = parseH b := run_stands b r 0 0 0 [] [] [] h
/-- Of a beginning that is shorter than what was read, more is wanted. -/
theorem head_short (b : List UInt8) (k : Nat) (l : List Fld) (n : Nat) (h : parseH b = (l, n, 0)) (hk : k < n) : parseH (b.take k) = ([], 0, 8) := by
  rcases head_prefix b k with h1 | h1
  · rw [h] at h1
    rcases run_range _ _ _ _ _ _ _ _ _ _ h1 with ⟨_, _, h3, _⟩ | ⟨h2, _⟩
    · have := List.length_take_le k b
      omega
    · omega
  · exact h1
/-- What is told: names that are tokens, values that may be shown and have no blanks at their ends, 32 of them at the most. -/
def Fine (f : Fld) : Prop := tokF f.1 = true ∧ visF f.2 = true ∧ trimF f.2 = f.2
def St (part : Nat) (nm v : List UInt8) (l : List Fld) : Prop :=
  (∀ f ∈ l, Fine f) ∧ ((part = 0 ∨ part = 4) → l.length ≤ 32) ∧ ((part = 1 ∨ part = 2 ∨ part = 3) → tokF nm = true ∧ l.length < 32) ∧ ((part = 2 ∨ part = 3) → visF v = true)
theorem tok_snoc (l : List UInt8) (c : UInt8) (h : tokF l = true) (hc : tokB c = true) : tokF (l ++ [c]) = true := by
  unfold tokF at h ⊢
  simp only [Bool.and_eq_true] at h
  simp [h.2, hc]
theorem vis_snoc (l : List UInt8) (c : UInt8) (h : visF l = true) (hc : shownB c = true) : visF (l ++ [c]) = true := by
  unfold visF at h ⊢
  simp [h, hc]
end Go.Proofs.YtemgfppclakdmaaGreatDoor
