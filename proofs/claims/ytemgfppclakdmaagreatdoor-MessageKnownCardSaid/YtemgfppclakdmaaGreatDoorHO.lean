/-
  What the machine tells, and that it reads what was put: plain mathematics.
  Conditions: those that each theorem names.
-/
import Derived.Test.YtemgfppclakdmaaGreatDoorHM
namespace Go.Proofs.YtemgfppclakdmaaGreatDoor
open Go.RowKit

theorem vis_trim (l : List UInt8) (h : visF l = true) : visF (trimF l) = true := by
  unfold visF trimF rtrim ltrim at *
  rw [List.all_eq_true] at h ⊢
  intro x hx
  rw [List.mem_reverse] at hx
  have h1 := (List.dropWhile_sublist _).subset hx
  rw [List.mem_reverse] at h1
  exact h x ((List.dropWhile_sublist _).subset h1)
theorem St.step {at0 part long part' long' : Nat} {nm v nm' v' : List UInt8} {l l' : List Fld} {c : UInt8} (h : St part nm v l) (hs : stepF at0 c part long nm v l = .go part' long' nm' v' l') : St part' nm' v' l' := by
  obtain ⟨h1, h2, h3, h4⟩ := h
  unfold stepF at hs
  repeat' split at hs
  all_goals
    first
      | (cases hs; done)
      | (injection hs with e1 e2 e3 e4 e5
         subst e1 e2 e3 e4 e5
         refine ⟨?_, ?_, ?_, ?_⟩ <;> first
           | exact h1
           | (intro hp; omega)
           | (intro _; exact h2 (by omega))
           | (intro _; exact h3 (by omega))
           | (intro _; exact h4 (by omega))
           | (intro _; refine ⟨by simp [tokF, *], ?_⟩; have := h2 (by omega); omega)
           | (intro _; exact ⟨tok_snoc _ _ (h3 (by omega)).1 (by assumption), (h3 (by omega)).2⟩)
           | (intro _; rfl)
           | (intro _; exact vis_snoc _ _ (h4 (by omega)) (by assumption))
           | (intro f hf
              rw [List.mem_append, List.mem_singleton] at hf
              rcases hf with hf | rfl
              · exact h1 f hf
              · exact ⟨(h3 (by omega)).1, vis_trim _ (h4 (by omega)), trim_twice _⟩)
           | (intro _; rw [List.length_append, List.length_singleton]; have := (h3 (by omega)).2; omega))
theorem run_fine : ∀ (b : List UInt8) (at0 part long : Nat) (nm v : List UInt8) (l l' : List Fld) (n : Nat), St part nm v l → part ≤ 4 → runF at0 part long nm v l b = (l', n, 0) → (∀ f ∈ l', Fine f) ∧ l'.length ≤ 32
  | [], at0, part, long, nm, v, l, l', n, hS, hp, h => by simp [runF] at h
  | c :: b, at0, part, long, nm, v, l, l', n, hS, hp, h => by
    cases hs : stepF at0 c part long nm v l with
    | stop l2 n2 e2 =>
      rw [runF_stop hs] at h
      simp only [Prod.mk.injEq] at h
      obtain ⟨rfl, rfl, rfl⟩ := h
      have hpart : part = 4 := by
        unfold stepF at hs
        repeat' split at hs
        all_goals
          first
            | (cases hs; done)
            | omega
      rcases step_stop hs with ⟨_, h2, _, _⟩ | ⟨h1, _⟩
      · rw [h2]
        exact ⟨hS.1, hS.2.1 (.inr hpart)⟩
      · omega
    | go part' long' nm' v' l2 =>
      rw [runF_go hs] at h
      have hp' : part' ≤ 4 := by
        unfold stepF at hs
        repeat' split at hs
        all_goals
          first
            | (cases hs; done)
            | (injection hs with e1 e2 e3 e4 e5; omega)
      exact run_fine b _ _ _ _ _ _ _ _ (hS.step hs) hp' h
theorem parse_fine (b : List UInt8) (l : List Fld) (n : Nat) (h : parseH b = (l, n, 0)) : (∀ f ∈ l, Fine f) ∧ l.length ≤ 32 :=
  run_fine b 0 0 0 [] [] [] l n ⟨fun _ h => (by cases h), fun _ => by simp, fun h => by omega, fun h => by omega⟩ (by omega) h

theorem tok_facts (c : UInt8) (h : tokB c = true) : c ≠ 13 ∧ c ≠ 58 := by
  constructor
  · rintro rfl
    revert h
    decide
  · rintro rfl
    revert h
    decide
theorem shown_13 (c : UInt8) (h : shownB c = true) : c ≠ 13 := by
  rintro rfl
  revert h
  decide
theorem run_name : ∀ (cs r : List UInt8) (at0 long : Nat) (nm v : List UInt8) (l : List Fld), (∀ c ∈ cs, tokB c = true) → long + cs.length + 1 ≤ 512 → at0 + cs.length + 1 ≤ 2048 →
    runF at0 1 long nm v l (cs ++ 58 :: r) = runF (at0 + cs.length + 1) 2 (long + cs.length + 1) (nm ++ cs) [] l r
  | [], r, at0, long, nm, v, l, _, h1, h2 => by
    rw [List.nil_append, runF_go (show stepF at0 58 1 long nm v l = .go 2 (long + 1) nm [] l by
      unfold stepF
      rw [if_neg (by simp at h2; omega), if_neg (by omega), if_pos rfl, if_neg (by decide), if_neg (by simp at h1; omega), if_pos rfl])]
    simp
  | c :: cs, r, at0, long, nm, v, l, hc, h1, h2 => by
    have h3 : long + 1 + cs.length + 1 ≤ 512 := by simp at h1; omega
    have h4 : at0 + 1 + cs.length + 1 ≤ 2048 := by simp at h2; omega
    have hb := hc c (by simp)
    obtain ⟨n1, n2⟩ := tok_facts c hb
    rw [List.cons_append, runF_go (show stepF at0 c 1 long nm v l = .go 1 (long + 1) (nm ++ [c]) v l by
      unfold stepF
      rw [if_neg (by omega), if_neg (by omega), if_pos rfl, if_neg n1, if_neg (by omega), if_neg n2, if_pos hb]), run_name cs r _ _ _ _ _ (fun d hd => hc d (by simp [hd])) h3 h4]
    simp only [List.length_cons, List.append_assoc, List.singleton_append]
    congr 1 <;> omega
theorem run_value : ∀ (cs r : List UInt8) (at0 long : Nat) (nm v : List UInt8) (l : List Fld), (∀ c ∈ cs, shownB c = true) → long + cs.length ≤ 512 → at0 + cs.length + 2 ≤ 2048 →
    runF at0 2 long nm v l (cs ++ 13 :: 10 :: r) = runF (at0 + cs.length + 2) 0 0 nm (v ++ cs) (l ++ [(nm, trimF (v ++ cs))]) r
  | [], r, at0, long, nm, v, l, _, h1, h2 => by
    rw [List.nil_append, runF_go (show stepF at0 13 2 long nm v l = .go 3 long nm v l by
      unfold stepF
      rw [if_neg (by simp at h2; omega), if_neg (by omega), if_neg (by omega), if_pos rfl, if_pos rfl]), runF_go (show stepF (at0 + 1) 10 3 long nm v l = .go 0 0 nm v (l ++ [(nm, trimF v)]) by
      unfold stepF
      rw [if_neg (by simp at h2; omega), if_neg (by omega), if_neg (by omega), if_neg (by omega), if_pos rfl, if_pos rfl])]
    simp
  | c :: cs, r, at0, long, nm, v, l, hc, h1, h2 => by
    have h3 : long + 1 + cs.length ≤ 512 := by simp at h1; omega
    have h4 : at0 + 1 + cs.length + 2 ≤ 2048 := by simp at h2; omega
    have hb := hc c (by simp)
    rw [List.cons_append, runF_go (show stepF at0 c 2 long nm v l = .go 2 (long + 1) nm (v ++ [c]) l by
      unfold stepF
      rw [if_neg (by omega), if_neg (by omega), if_neg (by omega), if_pos rfl, if_neg (shown_13 c hb), if_neg (by omega), if_pos hb]), run_value cs r _ _ _ _ _ (fun d hd => hc d (by simp [hd])) h3 h4]
    simp only [List.length_cons, List.append_assoc, List.singleton_append]
    congr 1
    omega
theorem lineOk_facts (f : Fld) (h : lineOk f = true) : lineL f ≤ 512 ∧ tokF f.1 = true ∧ visF f.2 = true ∧ trimF f.2 = f.2 := by
  unfold lineOk at h
  simp only [Bool.and_eq_true, decide_eq_true_eq, beq_iff_eq] at h
  exact h
theorem run_line (f : Fld) (r : List UInt8) (at0 : Nat) (nm v : List UInt8) (l : List Fld) (h : lineOk f = true) (hl : l.length < 32) (h2 : at0 + lineL f + 2 ≤ 2048) :
    ∃ v', runF at0 0 0 nm v l (f.1 ++ ([58, 32] ++ (f.2 ++ [13, 10])) ++ r) = runF (at0 + lineL f + 2) 0 0 f.1 v' (l ++ [f]) r := by
  obtain ⟨h3, h4, h5, h6⟩ := lineOk_facts f h
  obtain ⟨hne, hall⟩ := tok_mem f.1 h4
  obtain ⟨f1, f2⟩ := f
  simp only at *
  unfold lineL at h2 h3
  simp only at h2 h3
  cases f1 with
  | nil => exact absurd rfl hne
  | cons c cs =>
    have hb := hall c (by simp)
    obtain ⟨n1, n2⟩ := tok_facts c hb
    simp only [List.length_cons] at h2 h3
    have hvis : ∀ d ∈ 32 :: f2, shownB d = true := by
      intro d hd
      rcases List.mem_cons.1 hd with rfl | hd
      · decide
      · unfold visF at h5
        exact List.all_eq_true.1 h5 d hd
    have ht : trimF (32 :: f2) = f2 := by
      have e : ltrim (32 :: f2) = ltrim f2 := ltrim_yes 32 f2 (by decide)
      unfold trimF at h6 ⊢
      rw [e]
      exact h6
    refine ⟨32 :: f2, ?_⟩
    have e1 : c :: cs ++ ([58, 32] ++ (f2 ++ [13, 10])) ++ r = c :: (cs ++ 58 :: ((32 :: f2) ++ 13 :: 10 :: r)) := by simp
    rw [e1, runF_go (show stepF at0 c 0 0 nm v l = .go 1 1 [c] v l by
      unfold stepF
      rw [if_neg (by omega), if_pos rfl, if_neg n1, if_neg (by omega), if_neg (by omega), if_pos hb]), run_name cs _ _ _ _ _ _ (fun d hd => hall d (by simp [hd])) (by omega) (by omega),
      run_value (32 :: f2) r _ _ _ _ _ hvis (by simp; omega) (by simp; omega), List.nil_append, ht]
    simp only [List.length_cons, List.singleton_append, lineL]
    congr 1
    omega
theorem run_lines : ∀ (ls : List Fld) (r : List UInt8) (at0 : Nat) (nm v : List UInt8) (l : List Fld), (∀ f ∈ ls, lineOk f = true) → l.length + ls.length ≤ 32 → at0 + (linesF ls).length ≤ 2048 →
    ∃ nm' v', runF at0 0 0 nm v l (linesF ls ++ r) = runF (at0 + (linesF ls).length) 0 0 nm' v' (l ++ ls) r
  | [], r, at0, nm, v, l, _, _, _ => ⟨nm, v, by simp [linesF]⟩
  | f :: ls, r, at0, nm, v, l, h, h1, h2 => by
    have hlen : (f.1 ++ ([58, 32] ++ (f.2 ++ [13, 10]))).length = lineL f + 2 := by
      unfold lineL
      simp
      omega
    have e : linesF (f :: ls) = (f.1 ++ ([58, 32] ++ (f.2 ++ [13, 10]))) ++ linesF ls := by simp [linesF]
    rw [e, List.length_append, hlen] at h2
    simp only [List.length_cons] at h1
    obtain ⟨v', hv⟩ := run_line f (linesF ls ++ r) at0 nm v l (h f (by simp)) (by omega) (by omega)
    obtain ⟨nm2, v2, hr⟩ := run_lines ls r (at0 + lineL f + 2) f.1 v' (l ++ [f]) (fun g hg => h g (by simp [hg])) (by simp; omega) (by omega)
    refine ⟨nm2, v2, ?_⟩
    rw [e, List.append_assoc, hv, hr, List.length_append, hlen, List.append_assoc, List.singleton_append]
    congr 1
    omega
/-- What was put is read, whatever stands behind. -/
theorem parse_put (ls : List Fld) (r : List UInt8) (h : mayF ls = true) : parseH ((linesF ls ++ [13, 10]) ++ r) = (ls, (linesF ls ++ [13, 10]).length, 0) := by
  obtain ⟨h1, h2, h3⟩ := may_facts ls h
  have hl := linesF_length ls
  obtain ⟨nm, v, hr⟩ := run_lines ls ([13, 10] ++ r) 0 [] [] [] h2 (by simpa using h1) (by omega)
  unfold parseH
  rw [List.append_assoc, hr, Nat.zero_add, List.nil_append]
  rw [show ([13, 10] ++ r : List UInt8) = 13 :: 10 :: r from rfl, runF_go (show stepF (linesF ls).length 13 0 0 nm v ls = .go 4 0 nm v ls by
    unfold stepF
    rw [if_neg (by omega), if_pos rfl, if_pos rfl]), runF_stop (show stepF ((linesF ls).length + 1) 10 4 0 nm v ls = .stop ls ((linesF ls).length + 1 + 1) 0 by
    unfold stepF
    rw [if_neg (by omega), if_neg (by omega), if_neg (by omega), if_neg (by omega), if_neg (by omega), if_pos rfl])]
  simp
end Go.Proofs.YtemgfppclakdmaaGreatDoor
