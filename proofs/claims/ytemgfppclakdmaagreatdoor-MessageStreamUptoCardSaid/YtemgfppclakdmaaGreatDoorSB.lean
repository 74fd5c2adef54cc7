/-
  Lines of requests and of responses: plain mathematics.
  Conditions: those that each theorem names.
-/
import Derived.Test.YtemgfppclakdmaaGreatDoorPA
namespace Go.Proofs.YtemgfppclakdmaaGreatDoor.Sta
open Go.RowKit

/-- The version with this minor; the minor of a version; what may be a target. -/
def versL (n : Nat) : List UInt8 := [72, 84, 84, 80, 47, 49, 46, if n = 0 then 48 else 49]
def minorF (l : List UInt8) : Option Nat := if l = versL 0 then some 0 else if l = versL 1 then some 1 else none
def targB (c : UInt8) : Bool := decide (33 ≤ c.toNat) && decide (c.toNat ≤ 126)
def targF (l : List UInt8) : Bool := !l.isEmpty && l.all targB
def minI (r : Option Nat) : Int := match r with | none => -1 | some n => (n : Int)
theorem minor_vers (n : Nat) (h : n ≤ 1) : minorF (versL n) = some n := by
  rcases (show n = 0 ∨ n = 1 by omega) with rfl | rfl <;> decide
theorem minor_some {l : List UInt8} {n : Nat} (h : minorF l = some n) : l = versL n ∧ n ≤ 1 := by
  unfold minorF at h
  split at h
  · rename_i h1
    injection h with h
    subst h
    exact ⟨h1, by omega⟩
  · split at h
    · rename_i h1
      injection h with h
      subst h
      exact ⟨h1, by omega⟩
    · cases h
theorem targ_mem {l : List UInt8} (h : targF l = true) : l ≠ [] ∧ ∀ c ∈ l, targB c = true := by
  unfold targF at h
  simp only [Bool.and_eq_true, Bool.not_eq_true', List.all_eq_true] at h
  exact ⟨by intro e; rw [e] at h; simp at h, h.2⟩
theorem eq_str {s : ByteArray} {l : List UInt8} : (s.toList == l) = decide (bl s = l) := by
  rw [Lib.toList_data]
  show (bl s == l) = _
  by_cases h : bl s = l
  · rw [h]; simp
  · rw [decide_eq_false h]; exact beq_false_of_ne h

theorem targ_no (l : List UInt8) (k : Nat) (c : UInt8) (h : l[k]? = some c) (hc : targB c = false) : targF l = false := by
  have : l.all targB = false := by
    rw [Bool.eq_false_iff]
    intro hall
    rw [List.all_eq_true.1 hall c (List.mem_of_getElem? h)] at hc
    cases hc
  unfold targF
  rw [this]
  simp
end Go.Proofs.YtemgfppclakdmaaGreatDoor.Sta

namespace Go.Proofs.YtemgfppclakdmaaGreatDoor.Sta
open Go.RowKit

/-- Where the blanks stand. -/
def cutsAt : Nat → List UInt8 → List Nat
  | _, [] => []
  | i, c :: r => if c = 32 then i :: cutsAt (i + 1) r else cutsAt (i + 1) r
theorem cuts_app : ∀ (m r : List UInt8) (i : Nat), 32 ∉ m → cutsAt i (m ++ r) = cutsAt (i + m.length) r
  | [], r, i, _ => by simp
  | c :: m, r, i, h => by
    have hc : ¬ c = 32 := fun e => h (by simp [e])
    have hm : 32 ∉ m := fun e => h (by simp [e])
    show (if c = 32 then _ else cutsAt (i + 1) (m ++ r)) = _
    rw [if_neg hc, cuts_app m r (i + 1) hm]
    congr 1
    simp
    omega
theorem cuts_blank (i : Nat) (r : List UInt8) : cutsAt i (32 :: r) = i :: cutsAt (i + 1) r := by simp [cutsAt]
theorem cuts_nil (l : List UInt8) (i : Nat) (h : 32 ∉ l) : cutsAt i l = [] := by
  have := cuts_app l [] i h
  rw [List.append_nil] at this
  rw [this]
  rfl
theorem cuts_none : ∀ (l : List UInt8) (i : Nat), cutsAt i l = [] → 32 ∉ l
  | [], _, _ => by simp
  | c :: l, i, h => by
    unfold cutsAt at h
    split at h
    · cases h
    · rename_i hc
      have := cuts_none l (i + 1) h
      simp only [List.mem_cons, not_or]
      exact ⟨fun e => hc e.symm, this⟩
theorem cuts_cons : ∀ (l : List UInt8) (i a : Nat) (rest : List Nat), cutsAt i l = a :: rest → ∃ m r, l = m ++ 32 :: r ∧ 32 ∉ m ∧ a = i + m.length ∧ cutsAt (a + 1) r = rest
  | [], i, a, rest, h => by cases h
  | c :: l, i, a, rest, h => by
    unfold cutsAt at h
    split at h
    · rename_i hc
      injection h with h1 h2
      subst h1 hc
      exact ⟨[], l, rfl, by simp, by simp, h2⟩
    · rename_i hc
      obtain ⟨m, r, h1, h2, h3, h4⟩ := cuts_cons l (i + 1) a rest h
      refine ⟨c :: m, r, by rw [h1]; rfl, ?_, by simp; omega, h4⟩
      simp only [List.mem_cons, not_or]
      exact ⟨fun e => hc e.symm, h2⟩
theorem cuts_snoc : ∀ (l : List UInt8) (c : UInt8) (i : Nat), cutsAt i (l ++ [c]) = cutsAt i l ++ (if c = 32 then [i + l.length] else [])
  | [], c, i => by
    show (if c = 32 then _ else _) = _
    split <;> simp [cutsAt]
  | d :: l, c, i => by
    show (if d = 32 then i :: cutsAt (i + 1) (l ++ [c]) else cutsAt (i + 1) (l ++ [c])) = (if d = 32 then i :: cutsAt (i + 1) l else cutsAt (i + 1) l) ++ _
    rw [cuts_snoc l c (i + 1)]
    have e : i + 1 + l.length = i + (d :: l).length := by simp; omega
    rw [e]
    split <;> simp
theorem cuts_le (l : List UInt8) (i : Nat) : (cutsAt i l).length ≤ l.length := by
  induction l generalizing i with
  | nil => simp [cutsAt]
  | cons c l ih =>
    unfold cutsAt
    have := ih (i + 1)
    split <;> simp <;> omega

/-- A request's line: its method, target, minor. -/
def reqF (l : List UInt8) : Option (List UInt8 × List UInt8 × Nat) := match cutsAt 0 l with
  | [a, b] => match minorF (l.drop (b + 1)) with
    | some n => if l.length ≤ 512 ∧ tokF (l.take a) = true ∧ a ≤ 32 ∧ targF ((l.drop (a + 1)).take (b - (a + 1))) = true then some (l.take a, (l.drop (a + 1)).take (b - (a + 1)), n) else none
    | none => none
  | _ => none
def reqL (m t : List UInt8) (n : Nat) : List UInt8 := m ++ 32 :: (t ++ 32 :: versL n)
theorem tok_blank {l : List UInt8} (h : tokF l = true) : (32 : UInt8) ∉ l := fun hm => by
  have := (tok_mem l h).2 32 hm
  revert this
  decide
theorem targ_blank {l : List UInt8} (h : targF l = true) : (32 : UInt8) ∉ l := fun hm => by
  have := (targ_mem h).2 32 hm
  revert this
  decide
theorem vers_blank (n : Nat) : (32 : UInt8) ∉ versL n := by
  unfold versL
  split <;> decide
theorem cuts_two {l : List UInt8} {a b : Nat} (h : cutsAt 0 l = [a, b]) : ∃ m t r, l = m ++ 32 :: (t ++ 32 :: r) ∧ 32 ∉ m ∧ 32 ∉ t ∧ 32 ∉ r ∧ a = m.length ∧ b = m.length + 1 + t.length := by
  obtain ⟨m, r1, h1, h2, h3, h4⟩ := cuts_cons l 0 a [b] h
  obtain ⟨t, r, h5, h6, h7, h8⟩ := cuts_cons r1 (a + 1) b [] h4
  exact ⟨m, t, r, by rw [h1, h5], h2, h6, cuts_none r _ h8, by omega, by omega⟩
theorem parts_two (m t r : List UInt8) : (m ++ 32 :: (t ++ 32 :: r)).take m.length = m ∧ ((m ++ 32 :: (t ++ 32 :: r)).drop (m.length + 1)).take (m.length + 1 + t.length - (m.length + 1)) = t ∧ (m ++ 32 :: (t ++ 32 :: r)).drop (m.length + 1 + t.length + 1) = r := by
  have h1 : (m ++ 32 :: (t ++ 32 :: r)).drop (m.length + 1) = t ++ 32 :: r := by
    rw [show m ++ 32 :: (t ++ 32 :: r) = (m ++ [32]) ++ (t ++ 32 :: r) by simp, List.drop_left' (by simp)]
  refine ⟨List.take_left' rfl, ?_, ?_⟩
  · rw [h1, show m.length + 1 + t.length - (m.length + 1) = t.length by omega]
    exact List.take_left' rfl
  · rw [show m.length + 1 + t.length + 1 = (m.length + 1) + (t.length + 1) by omega, ← List.drop_drop, h1, show t ++ 32 :: r = (t ++ [32]) ++ r by simp, List.drop_left' (by simp)]
theorem req_iff (l m t : List UInt8) (n : Nat) : reqF l = some (m, t, n) ↔ l = reqL m t n ∧ tokF m = true ∧ m.length ≤ 32 ∧ targF t = true ∧ n ≤ 1 ∧ l.length ≤ 512 := by
  constructor
  · intro h
    unfold reqF at h
    split at h
    · rename_i a b hc
      obtain ⟨m', t', r, hl, _, _, _, ha, hb⟩ := cuts_two hc
      obtain ⟨p1, p2, p3⟩ := parts_two m' t' r
      subst ha hb
      rw [hl, p1, p2, p3] at h
      split at h
      · rename_i n' hn
        split at h
        · rename_i hh
          simp only [Option.some.injEq, Prod.mk.injEq] at h
          obtain ⟨rfl, rfl, rfl⟩ := h
          obtain ⟨hv, hn1⟩ := minor_some hn
          obtain ⟨q1, q2, q3, q4⟩ := hh
          refine ⟨by rw [hl, hv]; rfl, q2, q3, q4, hn1, by rw [hl]; exact q1⟩
        · cases h
      · cases h
    · cases h
  · rintro ⟨hl, h1, h2, h3, h4, h5⟩
    have hc : cutsAt 0 l = [m.length, m.length + 1 + t.length] := by
      rw [hl]
      unfold reqL
      rw [cuts_app m _ 0 (tok_blank h1), cuts_blank, cuts_app t _ _ (targ_blank h3), cuts_blank, cuts_nil _ _ (vers_blank n)]
      simp
    obtain ⟨p1, p2, p3⟩ := parts_two m t (versL n)
    unfold reqF
    rw [hc]
    simp only
    have hl' : l = m ++ 32 :: (t ++ 32 :: versL n) := hl
    rw [hl', p1, p2, p3, minor_vers n h4]
    simp only
    rw [if_pos ⟨by rw [← hl']; exact h5, h1, h2, h3⟩]

/-- A response's line: its minor, status, reason. -/
def digB (c : UInt8) : Bool := decide (48 ≤ c.toNat) && decide (c.toNat ≤ 57)
def digL (n : Nat) : List UInt8 := [UInt8.ofNat (48 + n / 100), UInt8.ofNat (48 + n / 10 % 10), UInt8.ofNat (48 + n % 10)]
def statOf (a b c : UInt8) : Nat := 100 * (a.toNat - 48) + 10 * (b.toNat - 48) + (c.toNat - 48)
def statF (l : List UInt8) : Option (Nat × Nat × List UInt8) := match l with
  | v0 :: v1 :: v2 :: v3 :: v4 :: v5 :: v6 :: v7 :: s0 :: a :: b :: c :: s1 :: r => match minorF [v0, v1, v2, v3, v4, v5, v6, v7] with
    | some n => if s0 = 32 ∧ s1 = 32 ∧ digB a = true ∧ digB b = true ∧ digB c = true ∧ 100 ≤ statOf a b c ∧ statOf a b c ≤ 599 ∧ visF r = true ∧ l.length ≤ 512 then some (n, statOf a b c, r) else none
    | none => none
  | _ => none
def statL (n st : Nat) (r : List UInt8) : List UInt8 := versL n ++ 32 :: (digL st ++ 32 :: r)
theorem dig_of (k : Nat) (h : k ≤ 9) : (UInt8.ofNat (48 + k)).toNat = 48 + k := UInt8.toNat_ofNat_of_lt' (by show 48 + k < 256; omega)
theorem dig_back (c : UInt8) (h : digB c = true) : UInt8.ofNat (48 + (c.toNat - 48)) = c := by
  unfold digB at h
  simp only [Bool.and_eq_true, decide_eq_true_eq] at h
  rw [show 48 + (c.toNat - 48) = c.toNat by omega]
  simp
theorem stat_iff (l r : List UInt8) (n st : Nat) : statF l = some (n, st, r) ↔ l = statL n st r ∧ n ≤ 1 ∧ 100 ≤ st ∧ st ≤ 599 ∧ visF r = true ∧ l.length ≤ 512 := by
  constructor
  · intro h
    unfold statF at h
    split at h
    · rename_i v0 v1 v2 v3 v4 v5 v6 v7 s0 a b c s1 r'
      split at h
      · rename_i n' hn
        split at h
        · rename_i hh
          simp only [Option.some.injEq, Prod.mk.injEq] at h
          obtain ⟨rfl, rfl, rfl⟩ := h
          obtain ⟨rfl, rfl, d1, d2, d3, h1, h2, h3, h4⟩ := hh
          obtain ⟨hv, hn1⟩ := minor_some hn
          refine ⟨?_, hn1, h1, h2, h3, h4⟩
          unfold statL
          rw [← hv]
          have e1 := dig_back a d1
          have e2 := dig_back b d2
          have e3 := dig_back c d3
          have b1 : a.toNat - 48 ≤ 9 := by unfold digB at d1; simp only [Bool.and_eq_true, decide_eq_true_eq] at d1; omega
          have b2 : b.toNat - 48 ≤ 9 := by unfold digB at d2; simp only [Bool.and_eq_true, decide_eq_true_eq] at d2; omega
          have b3 : c.toNat - 48 ≤ 9 := by unfold digB at d3; simp only [Bool.and_eq_true, decide_eq_true_eq] at d3; omega
          have q1 : statOf a b c / 100 = a.toNat - 48 := by unfold statOf; omega
          have q2 : statOf a b c / 10 % 10 = b.toNat - 48 := by unfold statOf; omega
          have q3 : statOf a b c % 10 = c.toNat - 48 := by unfold statOf; omega
          unfold digL
          rw [q1, q2, q3, e1, e2, e3]
          rfl
        · cases h
      · cases h
    · cases h
  · rintro ⟨hl, h1, h2, h3, h4, h5⟩
    have d1 : st / 100 ≤ 9 := by omega
    have d2 : st / 10 % 10 ≤ 9 := by omega
    have d3 : st % 10 ≤ 9 := by omega
    have e1 := dig_of _ d1
    have e2 := dig_of _ d2
    have e3 := dig_of _ d3
    have hv : minorF (versL n) = some n := minor_vers n h1
    have hs : statOf (UInt8.ofNat (48 + st / 100)) (UInt8.ofNat (48 + st / 10 % 10)) (UInt8.ofNat (48 + st % 10)) = st := by
      unfold statOf
      rw [e1, e2, e3]
      omega
    have hl' : l = 72 :: 84 :: 84 :: 80 :: 47 :: 49 :: 46 :: (if n = 0 then 48 else 49) :: 32 :: UInt8.ofNat (48 + st / 100) :: UInt8.ofNat (48 + st / 10 % 10) :: UInt8.ofNat (48 + st % 10) :: 32 :: r := hl
    have hd : ∀ k, k ≤ 9 → digB (UInt8.ofNat (48 + k)) = true := fun k hk => by
      unfold digB
      rw [dig_of k hk]
      simp
      omega
    rw [hl']
    unfold statF
    simp only
    rw [show ([72, 84, 84, 80, 47, 49, 46, if n = 0 then 48 else 49] : List UInt8) = versL n from rfl, hv]
    simp only
    rw [hs, if_pos ⟨trivial, trivial, hd _ d1, hd _ d2, hd _ d3, h2, h3, h4, by rw [← hl']; exact h5⟩]
/-- No line is both. -/
theorem never_both (l : List UInt8) (a : List UInt8 × List UInt8 × Nat) (b : Nat × Nat × List UInt8) (h1 : reqF l = some a) (h2 : statF l = some b) : False := by
  obtain ⟨m, t, n⟩ := a
  obtain ⟨k, s, r⟩ := b
  obtain ⟨e1, t1, _⟩ := (req_iff l m t n).1 h1
  obtain ⟨e2, _⟩ := (stat_iff l r k s).1 h2
  rw [e1] at e2
  unfold reqL statL at e2
  have hs : (47 : UInt8) ∉ m := fun hm => by
    have := (tok_mem m t1).2 47 hm
    revert this
    decide
  have hm32 := tok_blank t1
  match m, hs, hm32, e2 with
  | [], _, _, e => exact absurd e (by simp [versL])
  | [_], _, _, e => simp [versL] at e
  | [_, _], _, _, e => simp [versL] at e
  | [_, _, _], _, _, e => simp [versL] at e
  | [_, _, _, _], _, _, e => simp [versL] at e
  | _ :: _ :: _ :: _ :: c :: _, hs, _, e =>
    simp [versL] at e
    exact hs (by simp [e.2.2.2.2.1])
end Go.Proofs.YtemgfppclakdmaaGreatDoor.Sta
