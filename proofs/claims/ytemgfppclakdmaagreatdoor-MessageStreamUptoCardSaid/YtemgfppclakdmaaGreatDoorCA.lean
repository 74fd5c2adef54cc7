/-
  Plain mathematics of coded bodies: what is taken of bytes, part by part; it stays, whatever stands behind.
  Conditions: those that each theorem names.
-/
import Derived.Test.YtemgfppclakdmaaGreatDoorHM
import Derived.Test.YtemgfppclakdmaaGreatDoorNA
namespace Go.Proofs.YtemgfppclakdmaaGreatDoor
open Go.RowKit

/-- The place of a byte 0a among the next m bytes. -/
def lfF : Nat → List UInt8 → Option Nat
  | 0, _ => none
  | _ + 1, [] => none
  | m + 1, c :: r => if c = 10 then some 0 else (lfF m r).map (· + 1)
theorem lf_some : ∀ (m : Nat) (l : List UInt8) (k : Nat), lfF m l = some k → k < m ∧ k < l.length ∧ l[k]? = some 10 ∧ ∀ j, j < k → l[j]? ≠ some 10
  | 0, _, _, h => by simp [lfF] at h
  | _ + 1, [], _, h => by simp [lfF] at h
  | m + 1, c :: r, k, h => by
    unfold lfF at h
    split at h
    · next hc =>
      injection h with h
      subst h hc
      exact ⟨by omega, by simp, rfl, fun j hj => by omega⟩
    · next hc =>
      rw [Option.map_eq_some_iff] at h
      obtain ⟨i, hi, rfl⟩ := h
      obtain ⟨h1, h2, h3, h4⟩ := lf_some m r i hi
      refine ⟨by omega, by simpa using h2, by simpa using h3, fun j hj => ?_⟩
      cases j with
      | zero => simpa using hc
      | succ j => simpa using h4 j (by omega)
theorem lf_of : ∀ (m : Nat) (l : List UInt8) (k : Nat), k < m → l[k]? = some 10 → (∀ j, j < k → l[j]? ≠ some 10) → lfF m l = some k
  | 0, _, _, h, _, _ => by omega
  | _ + 1, [], _, _, h, _ => by simp at h
  | m + 1, c :: r, 0, _, h, _ => by
    unfold lfF
    rw [if_pos (by simpa using h)]
  | m + 1, c :: r, k + 1, h1, h2, h3 => by
    unfold lfF
    have hc : c ≠ 10 := by simpa using h3 0 (by omega)
    rw [if_neg hc, lf_of m r k (by omega) (by simpa using h2) (fun j hj => by simpa using h3 (j + 1) (by omega))]
    rfl
theorem lf_none : ∀ (m : Nat) (l : List UInt8), lfF m l = none ↔ ∀ j, j < m → l[j]? ≠ some 10 := by
  intro m l
  constructor
  · intro h j hj hl
    -- the least place
    have key : ∀ n, n < m → l[n]? = some 10 → False := by
      intro n
      induction n using Nat.strongRecOn with
      | ind n ih =>
        intro hn h10
        by_cases hex : ∃ i, i < n ∧ l[i]? = some 10
        · obtain ⟨i, hi, h3⟩ := hex
          exact ih i hi (by omega) h3
        · have := lf_of m l n hn h10 (fun i hi hk => hex ⟨i, hi, hk⟩)
          rw [h] at this
          cases this
    exact key j hj hl
  · intro h
    cases hk : lfF m l with
    | none => rfl
    | some k =>
      obtain ⟨h1, _, h3, _⟩ := lf_some m l k hk
      exact absurd h3 (h k h1)
theorem lf_app (m : Nat) (l t : List UInt8) (k : Nat) (h : lfF m l = some k) : lfF m (l ++ t) = some k := by
  obtain ⟨h1, h2, h3, h4⟩ := lf_some m l k h
  refine lf_of m _ k h1 ?_ (fun j hj => ?_)
  · rw [List.getElem?_append_left h2]; exact h3
  · rw [List.getElem?_append_left (by omega)]; exact h4 j hj
theorem lf_app_none (m : Nat) (l t : List UInt8) (h : lfF m l = none) (hl : m ≤ l.length) : lfF m (l ++ t) = none := by
  rw [lf_none] at *
  intro j hj
  rw [List.getElem?_append_left (by omega)]
  exact h j hj

/-- What a size line says, without its last byte 0a. -/
def sizeF (t : List UInt8) : Nat × Nat :=
  if t.getLast? ≠ some 13 then (0, 20)
  else if t.dropLast.dropWhile (· != 59) ≠ [] ∧ visF ((t.dropLast.dropWhile (· != 59)).drop 1) = false then (0, 20)
  else if (readF 16 (t.dropLast.takeWhile (· != 59))).2 = 3 then (0, 21)
  else if (readF 16 (t.dropLast.takeWhile (· != 59))).2 = 0 then ((readF 16 (t.dropLast.takeWhile (· != 59))).1, 0)
  else (0, 20)
theorem sizeF_err (t : List UInt8) : (sizeF t).2 = 0 ∨ (sizeF t).2 = 20 ∨ (sizeF t).2 = 21 := by
  unfold sizeF
  repeat' split
  all_goals simp
abbrev Tk := List UInt8 × Nat × Nat
/-- What is taken, from a size line on. -/
def takeG : Nat → Nat → List UInt8 → List UInt8 → Tk
  | 0, _, _, _ => ([], 0, 8)
  | f + 1, at0, body, l =>
    match lfF 64 l with
    | none => ([], 0, if 64 ≤ l.length then 21 else 8)
    | some k =>
      if (sizeF (l.take k)).2 ≠ 0 then ([], 0, (sizeF (l.take k)).2)
      else if 4096 < body.length + (sizeF (l.take k)).1 then ([], 0, 21)
      else if (sizeF (l.take k)).1 = 0 then (if (parseH (l.drop (k + 1))).2.2 = 0 then (body, at0 + (k + 1) + (parseH (l.drop (k + 1))).2.1, 0) else ([], 0, (parseH (l.drop (k + 1))).2.2))
      else if l.length < k + 1 + (sizeF (l.take k)).1 + 2 then ([], 0, 8)
      else if l[k + 1 + (sizeF (l.take k)).1]? ≠ some 13 ∨ l[k + 1 + (sizeF (l.take k)).1 + 1]? ≠ some 10 then ([], 0, 20)
      else takeG f (at0 + (k + 1 + (sizeF (l.take k)).1 + 2)) (body ++ (l.drop (k + 1)).take (sizeF (l.take k)).1) (l.drop (k + 1 + (sizeF (l.take k)).1 + 2))
def takeF (b : List UInt8) : Tk := takeG (b.length + 1) 0 [] b
theorem takeG_fuel : ∀ (f g at0 : Nat) (body l : List UInt8), l.length < f → l.length < g → takeG f at0 body l = takeG g at0 body l
  | 0, _, _, _, _, h, _ => by omega
  | _, 0, _, _, _, _, h => by omega
  | f + 1, g + 1, at0, body, l, h1, h2 => by
    unfold takeG
    cases hk : lfF 64 l with
    | none => rfl
    | some k =>
      simp only
      generalize sizeF (l.take k) = p
      obtain ⟨n, e⟩ := p
      simp only
      split
      · rfl
      · split
        · rfl
        · split
          · rfl
          · split
            · rfl
            · split
              · rfl
              · exact takeG_fuel f g _ _ _ (by rw [List.length_drop]; omega) (by rw [List.length_drop]; omega)
theorem run_used (b : List UInt8) : (parseH b).2.1 ≤ b.length := by
  have := run_range b 0 0 0 [] [] [] (parseH b).1 (parseH b).2.1 (parseH b).2.2 rfl
  omega
theorem takeG_some {f at0 k n e : Nat} {body l : List UInt8} (h : lfF 64 l = some k) (hs : sizeF (l.take k) = (n, e)) : takeG (f + 1) at0 body l =
    if e ≠ 0 then ([], 0, e)
    else if 4096 < body.length + n then ([], 0, 21)
    else if n = 0 then (if (parseH (l.drop (k + 1))).2.2 = 0 then (body, at0 + (k + 1) + (parseH (l.drop (k + 1))).2.1, 0) else ([], 0, (parseH (l.drop (k + 1))).2.2))
    else if l.length < k + 1 + n + 2 then ([], 0, 8)
    else if l[k + 1 + n]? ≠ some 13 ∨ l[k + 1 + n + 1]? ≠ some 10 then ([], 0, 20)
    else takeG f (at0 + (k + 1 + n + 2)) (body ++ (l.drop (k + 1)).take n) (l.drop (k + 1 + n + 2)) := by
  rw [takeG, h]
  simp only [hs]
theorem takeG_none {f at0 : Nat} {body l : List UInt8} (h : lfF 64 l = none) : takeG (f + 1) at0 body l = ([], 0, if 64 ≤ l.length then 21 else 8) := by rw [takeG, h]
/-- What is told stays, whatever stands behind. -/
theorem takeG_stays (t : List UInt8) : ∀ (f at0 : Nat) (body l : List UInt8), l.length < f → (takeG f at0 body l).2.2 ≠ 8 → takeG (f + t.length) at0 body (l ++ t) = takeG f at0 body l
  | 0, _, _, _, h, _ => by omega
  | f + 1, at0, body, l, h1, h => by
    rw [show f + 1 + t.length = (f + t.length) + 1 by omega]
    unfold takeG at h ⊢
    cases hk : lfF 64 l with
    | none =>
      rw [hk] at h
      simp only at h
      have hl : 64 ≤ l.length := by
        by_cases hl : 64 ≤ l.length
        · exact hl
        · rw [if_neg hl] at h; exact absurd rfl h
      rw [lf_app_none 64 l t hk hl]
      simp only
      rw [if_pos hl, if_pos (by rw [List.length_append]; omega)]
    | some k =>
      rw [hk] at h
      rw [lf_app 64 l t k hk]
      obtain ⟨_, hkl, _, _⟩ := lf_some 64 l k hk
      have ht : (l ++ t).take k = l.take k := List.take_append_of_le_length (by omega)
      simp only at h ⊢
      rw [ht]
      have hd : (l ++ t).drop (k + 1) = l.drop (k + 1) ++ t := List.drop_append_of_le_length (by omega)
      rw [hd]
      generalize sizeF (l.take k) = p at *
      obtain ⟨n, e⟩ := p
      simp only at h ⊢
      by_cases c1 : e ≠ 0
      · rw [if_pos c1, if_pos c1]
      · rw [if_neg c1] at h ⊢
        rw [if_neg c1]
        by_cases c2 : 4096 < body.length + n
        · rw [if_pos c2, if_pos c2]
        · rw [if_neg c2] at h ⊢
          rw [if_neg c2]
          by_cases c3 : n = 0
          · rw [if_pos c3] at h ⊢
            rw [if_pos c3]
            have h8 : (parseH (l.drop (k + 1))).2.2 ≠ 8 := by
              intro h8
              rw [h8] at h
              simp at h
            rw [head_stands _ t h8]
          · rw [if_neg c3] at h ⊢
            rw [if_neg c3]
            by_cases c4 : l.length < k + 1 + n + 2
            · rw [if_pos c4] at h; exact absurd rfl h
            · rw [if_neg c4] at h ⊢
              rw [if_neg (by rw [List.length_append]; omega)]
              rw [List.getElem?_append_left (by omega), List.getElem?_append_left (by omega)]
              by_cases c5 : l[k + 1 + n]? ≠ some 13 ∨ l[k + 1 + n + 1]? ≠ some 10
              · rw [if_pos c5, if_pos c5]
              · rw [if_neg c5] at h ⊢
                rw [if_neg c5]
                have e1 : (l.drop (k + 1) ++ t).take n = (l.drop (k + 1)).take n := List.take_append_of_le_length (by rw [List.length_drop]; omega)
                have e2 : (l ++ t).drop (k + 1 + n + 2) = l.drop (k + 1 + n + 2) ++ t := List.drop_append_of_le_length (by omega)
                rw [e1, e2]
                exact takeG_stays t f _ _ _ (by rw [List.length_drop]; omega) h
theorem take_stays (b t : List UInt8) (h : (takeF b).2.2 ≠ 8) : takeF (b ++ t) = takeF b := by
  unfold takeF at *
  rw [List.length_append, show b.length + t.length + 1 = b.length + 1 + t.length by omega]
  exact takeG_stays t (b.length + 1) 0 [] b (by omega) h
/-- How much is told. -/
theorem takeG_range : ∀ (f at0 : Nat) (body l : List UInt8), body.length ≤ 4096 → body.length ≤ at0 → ((takeG f at0 body l).2.2 = 0 ∧ (takeG f at0 body l).1.length ≤ 4096 ∧ (takeG f at0 body l).1.length ≤ (takeG f at0 body l).2.1 ∧ (takeG f at0 body l).2.1 ≤ at0 + l.length) ∨
    ((takeG f at0 body l).2.2 ≠ 0 ∧ (takeG f at0 body l).1 = [] ∧ (takeG f at0 body l).2.1 = 0)
  | 0, _, _, _, _, _ => .inr ⟨by simp [takeG], rfl, rfl⟩
  | f + 1, at0, body, l, hb, hat => by
    unfold takeG
    cases hk : lfF 64 l with
    | none =>
      right
      simp only
      split <;> simp
    | some k =>
      obtain ⟨_, hkl, _, _⟩ := lf_some 64 l k hk
      simp only
      have hse := sizeF_err (l.take k)
      generalize sizeF (l.take k) = p at *
      obtain ⟨n, e⟩ := p
      simp only at hse ⊢
      split
      · next c1 => exact .inr ⟨c1, rfl, rfl⟩
      · split
        · exact .inr ⟨by simp, rfl, rfl⟩
        · split
          · split
            · next c0 =>
              refine .inl ⟨rfl, hb, by show body.length ≤ at0 + (k + 1) + _; omega, ?_⟩
              have h1 := run_used (l.drop (k + 1))
              rw [List.length_drop] at h1
              show at0 + (k + 1) + _ ≤ _
              omega
            · next c0 => exact .inr ⟨c0, rfl, rfl⟩
          · split
            · exact .inr ⟨by simp, rfl, rfl⟩
            · split
              · exact .inr ⟨by simp, rfl, rfl⟩
              · have := takeG_range f (at0 + (k + 1 + n + 2)) (body ++ (l.drop (k + 1)).take n) (l.drop (k + 1 + n + 2)) (by rw [List.length_append, List.length_take]; omega) (by rw [List.length_append, List.length_take, List.length_drop]; omega)
                rw [List.length_drop] at this
                rcases this with ⟨h1, h2, h3, h4⟩ | h
                · exact .inl ⟨h1, h2, h3, by omega⟩
                · exact .inr h
theorem takeF_range (b : List UInt8) : ((takeF b).2.2 = 0 ∧ (takeF b).1.length ≤ 4096 ∧ (takeF b).1.length ≤ (takeF b).2.1 ∧ (takeF b).2.1 ≤ b.length) ∨ ((takeF b).2.2 ≠ 0 ∧ (takeF b).1 = [] ∧ (takeF b).2.1 = 0) := by
  have := takeG_range (b.length + 1) 0 [] b (by simp) (by simp)
  rw [Nat.zero_add] at this
  exact this
theorem takeF_small (b : List UInt8) : (takeF b).1.length ≤ 4096 := by
  rcases takeF_range b with h | h
  · exact h.2.1
  · rw [h.2.1]; simp
end Go.Proofs.YtemgfppclakdmaaGreatDoor
