/-
  Hosts, ports, paths, URLs as lists of bytes: plain mathematics.
  Conditions: those that each theorem names.
-/
import Derived.Test.YtopanahgeeolbaaGreatDoorNA
import Derived.Test.YtopanahgeeolbaaGreatDoorRB
namespace Go.Proofs.YtopanahgeeolbaaGreatDoor.Uri
open Go.RowKit

/-- The parts between the bytes d. -/
def splitF (d : UInt8) : List UInt8 → List (List UInt8)
  | [] => [[]]
  | c :: l => if c = d then [] :: splitF d l else match splitF d l with
    | [] => [[c]]
    | p :: ps => (c :: p) :: ps
theorem splitF_ne (d : UInt8) (l : List UInt8) : splitF d l ≠ [] := by
  cases l with
  | nil => simp [splitF]
  | cons c l =>
    unfold splitF
    split
    · simp
    · split <;> simp
theorem splitF_yes (d : UInt8) (l : List UInt8) : splitF d (d :: l) = [] :: splitF d l := by simp [splitF]
theorem splitF_no (d c : UInt8) (l : List UInt8) (h : c ≠ d) : ∃ p ps, splitF d l = p :: ps ∧ splitF d (c :: l) = (c :: p) :: ps := by
  cases hs : splitF d l with
  | nil => exact absurd hs (splitF_ne d l)
  | cons p ps => exact ⟨p, ps, rfl, by unfold splitF; rw [if_neg h, hs]⟩
theorem splitF_none (d : UInt8) : ∀ l : List UInt8, d ∉ l → splitF d l = [l]
  | [], _ => rfl
  | c :: l, h => by
    simp only [List.mem_cons, not_or] at h
    obtain ⟨p, ps, h1, h2⟩ := splitF_no d c l (fun e => h.1 e.symm)
    rw [splitF_none d l h.2] at h1
    injection h1 with h1 h3
    rw [h2, ← h1, ← h3]
theorem splitF_append (d : UInt8) : ∀ a b : List UInt8, splitF d (a ++ d :: b) = splitF d a ++ splitF d b
  | [], b => splitF_yes d b
  | c :: a, b => by
    have ih := splitF_append d a b
    by_cases h : c = d
    · subst h
      rw [List.cons_append, splitF_yes, splitF_yes, ih]
      rfl
    · obtain ⟨p, ps, h1, h2⟩ := splitF_no d c a h
      obtain ⟨q, qs, h3, h4⟩ := splitF_no d c (a ++ d :: b) h
      rw [ih, h1] at h3
      injection h3 with h3 h5
      rw [List.cons_append, h4, h2, ← h3, ← h5]
      rfl
theorem splitF_hit (d : UInt8) (a b : List UInt8) (h : d ∉ a) : splitF d (a ++ d :: b) = a :: splitF d b := by rw [splitF_append, splitF_none d a h]; rfl
theorem splitF_count (d : UInt8) : ∀ l : List UInt8, (splitF d l).length = l.count d + 1
  | [] => rfl
  | c :: l => by
    have ih := splitF_count d l
    by_cases h : c = d
    · subst h; rw [splitF_yes, List.length_cons, ih, List.count_cons_self]
    · obtain ⟨p, ps, h1, h2⟩ := splitF_no d c l h
      rw [h1] at ih
      rw [h2, List.count_cons_of_ne h, ← ih]
      rfl
theorem splitF_all (d : UInt8) (f : UInt8 → Bool) : ∀ l : List UInt8, (splitF d l).all (fun p => p.all f) = l.all (fun c => c == d || f c)
  | [] => rfl
  | c :: l => by
    have ih := splitF_all d f l
    by_cases h : c = d
    · subst h; rw [splitF_yes, List.all_cons, ih]; simp
    · obtain ⟨p, ps, h1, h2⟩ := splitF_no d c l h
      rw [h1] at ih
      have hb : (c == d) = false := by simpa using h
      rw [h2, List.all_cons (a := c), ← ih, List.all_cons, List.all_cons, List.all_cons, hb, Bool.false_or, Bool.and_assoc]
theorem splitF_len (d : UInt8) (l p : List UInt8) (h : p ∈ splitF d l) : p.length ≤ l.length := by
  induction l generalizing p with
  | nil => simp [splitF] at h; subst h; simp
  | cons c l ih =>
    by_cases hc : c = d
    · subst hc
      rw [splitF_yes, List.mem_cons] at h
      rcases h with rfl | h
      · simp
      · have := ih p h; simp; omega
    · obtain ⟨q, ps, h1, h2⟩ := splitF_no d c l hc
      rw [h2, List.mem_cons] at h
      rcases h with rfl | h
      · have := ih q (by rw [h1]; simp); simp; omega
      · have := ih p (by rw [h1]; simp [h]); simp; omega

/-- What stands ahead of the first byte d, and behind it. -/
def cutC (d : UInt8) : List UInt8 → List UInt8 × List UInt8
  | [] => ([], [])
  | c :: l => if c = d then ([], l) else (c :: (cutC d l).1, (cutC d l).2)
theorem cutC_none (d : UInt8) : ∀ l : List UInt8, d ∉ l → cutC d l = (l, [])
  | [], _ => rfl
  | c :: l, h => by
    simp only [List.mem_cons, not_or] at h
    unfold cutC
    rw [if_neg (fun e => h.1 e.symm), cutC_none d l h.2]
theorem cutC_hit (d : UInt8) : ∀ a b : List UInt8, d ∉ a → cutC d (a ++ d :: b) = (a, b)
  | [], b, _ => by simp [cutC]
  | c :: a, b, h => by
    simp only [List.mem_cons, not_or] at h
    rw [List.cons_append]
    unfold cutC
    rw [if_neg (fun e => h.1 e.symm), cutC_hit d a b h.2]
theorem cutC_or (d : UInt8) (l : List UInt8) : (d ∉ l ∧ cutC d l = (l, [])) ∨ ∃ a b, l = a ++ d :: b ∧ d ∉ a ∧ cutC d l = (a, b) := by
  by_cases h : d ∈ l
  · obtain ⟨a, b, hl, ha⟩ := List.eq_append_cons_of_mem h
    exact .inr ⟨a, b, hl, ha, by rw [hl, cutC_hit d a b ha]⟩
  · exact .inl ⟨h, cutC_none d l h⟩
/-- May a byte end what stands ahead of a path? -/
def endB (c : UInt8) : Bool := c == 47 || c == 63
/-- What stands ahead of the first '/' or '?', and what begins there. -/
def cutA : List UInt8 → List UInt8 × List UInt8
  | [] => ([], [])
  | c :: l => if endB c = true then ([], c :: l) else (c :: (cutA l).1, (cutA l).2)
theorem cutA_none : ∀ l : List UInt8, l.all (fun c => !endB c) = true → cutA l = (l, [])
  | [], _ => rfl
  | c :: l, h => by
    simp only [List.all_cons, Bool.and_eq_true, Bool.not_eq_true'] at h
    unfold cutA
    rw [h.1, if_neg (by simp), cutA_none l (by simpa using h.2)]
theorem cutA_hit : ∀ (a : List UInt8) (c : UInt8) (b : List UInt8), a.all (fun c => !endB c) = true → endB c = true → cutA (a ++ c :: b) = (a, c :: b)
  | [], c, b, _, h => by rw [List.nil_append]; unfold cutA; rw [if_pos h]
  | x :: a, c, b, ha, h => by
    simp only [List.all_cons, Bool.and_eq_true, Bool.not_eq_true'] at ha
    rw [List.cons_append]
    unfold cutA
    rw [ha.1, if_neg (by simp), cutA_hit a c b (by simpa using ha.2) h]
theorem cutA_or (l : List UInt8) : (l.all (fun c => !endB c) = true ∧ cutA l = (l, [])) ∨ ∃ a c b, l = a ++ c :: b ∧ a.all (fun c => !endB c) = true ∧ endB c = true ∧ cutA l = (a, c :: b) := by
  induction l with
  | nil => exact .inl ⟨rfl, rfl⟩
  | cons x l ih =>
    by_cases h : endB x = true
    · exact .inr ⟨[], x, l, rfl, rfl, h, by unfold cutA; rw [if_pos h]⟩
    · have hx : endB x = false := by simpa using h
      rcases ih with ⟨h1, h2⟩ | ⟨a, c, b, h1, h2, h3, h4⟩
      · exact .inl ⟨by rw [List.all_cons, h1, hx]; rfl, by unfold cutA; rw [if_neg h, h2]⟩
      · exact .inr ⟨x :: a, c, b, by rw [h1]; rfl, by rw [List.all_cons, h2, hx]; rfl, h3, by unfold cutA; rw [if_neg h, h4]⟩

def digB10 (c : UInt8) : Bool := decide (48 ≤ c.toNat) && decide (c.toNat ≤ 57)
def smallB (c : UInt8) : Bool := decide (97 ≤ c.toNat) && decide (c.toNat ≤ 122)
def bigB (c : UInt8) : Bool := decide (65 ≤ c.toNat) && decide (c.toNat ≤ 90)
/-- Bytes of a label. -/
def hostB (c : UInt8) : Bool := digB10 c || smallB c || c == 45
/-- Digits to the base 16, small. -/
def hexLB (c : UInt8) : Bool := digB10 c || (decide (97 ≤ c.toNat) && decide (c.toNat ≤ 102))
def hexB (c : UInt8) : Bool := digB10 c || (decide (97 ≤ c.toNat) && decide (c.toNat ≤ 102)) || (decide (65 ≤ c.toNat) && decide (c.toNat ≤ 70))
def marksL : List UInt8 := [45, 46, 95, 126, 33, 36, 38, 39, 40, 41, 42, 43, 44, 59, 61, 58, 64, 47, 63]
/-- Bytes of a path, but for '%'. -/
def pathB (c : UInt8) : Bool := smallB c || bigB c || digB10 c || marksL.contains c
theorem dig_ten (c : UInt8) : digB 10 c = digB10 c := by
  have := byte_every (fun c => digB 10 c == digB10 c) (by decide +kernel) c
  simpa using this

/-- The number that digits say without noughts ahead, if it is no more than most. -/
def numbF (most : Nat) (l : List UInt8) : Option Nat := if (readF 10 l).2 = 0 ∧ (readF 10 l).1 ≤ most ∧ numF 10 (readF 10 l).1 = l then some (readF 10 l).1 else none
def octF (l : List UInt8) : Bool := (numbF 255 l).isSome
def labF (l : List UInt8) : Bool := !l.isEmpty && l.all hostB
def numericF (l : List UInt8) : Bool := if l.take 2 = [48, 120] then (l.drop 2).all hexLB else l.all digB10
def lastF (ls : List (List UInt8)) : List UInt8 := ls.getLastD []
def namedF (l : List UInt8) : Bool := decide (l.length ≤ 64) && ((splitF 46 l).all labF && (!numericF (lastF (splitF 46 l)) || (decide ((splitF 46 l).length = 4) && (splitF 46 l).all octF)))
/-- Are a path's bytes right? -/
def pathF : List UInt8 → Bool
  | [] => true
  | c :: l => if c = 37 then (decide (2 ≤ l.length) && (l.take 2).all hexB) && pathF l else pathB c && pathF l
/-- Does what stands behind a '%' begin with its digits? -/
def escF (l : List UInt8) : Bool := decide (2 ≤ l.length) && (l.take 2).all hexB

def httpL : List UInt8 := [104, 116, 116, 112, 58, 47, 47]
/-- What num.Text tells of a port. -/
def portL (p : Int) : List UInt8 := if 0 ≤ p ∧ p ≤ 9007199254740991 then numF 10 p.toNat else []
def authF (h : List UInt8) (p : Int) : List UInt8 := if p = 80 then h else h ++ 58 :: portL p
def textF (h : List UInt8) (p : Int) (q : List UInt8) : List UInt8 := httpL ++ authF h p ++ q
def authorityF (l : List UInt8) : Option (List UInt8 × Nat) := match numbF 65535 (cutC 58 l).2 with
  | none => none
  | some p => if p = 0 then none else if namedF (lowF (cutC 58 l).1) = true then some (lowF (cutC 58 l).1, p) else none
def colonF (a : List UInt8) : List UInt8 := if a.contains 58 = true then a else a ++ [58, 56, 48]
def slashF (q : List UInt8) : List UInt8 := if q.take 1 = [47] then q else 47 :: q
def endF (r : Option (List UInt8 × Nat)) (q : List UInt8) : Option (List UInt8 × Nat × List UInt8) := match r with
  | none => none
  | some (h, p) => if (textF h p q).length ≤ 384 ∧ pathF q = true then some (h, p, q) else none
def parseF (t : List UInt8) : Option (List UInt8 × Nat × List UInt8) :=
  if lowF (t.take 7) = httpL then endF (authorityF (colonF (cutA (t.drop 7)).1)) (slashF (cutA (t.drop 7)).2) else none
def mayF (h : List UInt8) (p : Int) (q : List UInt8) : Bool := namedF h && (decide (1 ≤ p) && (decide (p ≤ 65535) && ((decide (q.take 1 = [47]) && pathF q) && decide ((textF h p q).length ≤ 384))))

/-! ## Numbers -/
theorem numb_some {most n : Nat} {l : List UInt8} (h : numbF most l = some n) : n ≤ most ∧ numF 10 n = l := by
  unfold numbF at h
  split at h
  · rename_i hh
    injection h with h
    subst h
    exact hh.2
  · cases h
theorem numb_of (most n : Nat) (hn : n ≤ most) (hm : n ≤ Most) : numbF most (numF 10 n) = some n := by
  obtain ⟨h1, h2⟩ := numF_val 10 (by omega) (by omega) n
  have hr : readF 10 (numF 10 n) = (n, 0) := by
    rw [readF_ok 10 _ (numF_ne 10 n (by omega)) h2 (by rw [h1]; exact hm), h1]
  unfold numbF
  rw [hr, if_pos ⟨rfl, hn, rfl⟩]
theorem numb_digits {most n : Nat} {l : List UInt8} (h : numbF most l = some n) : l ≠ [] ∧ l.all digB10 = true := by
  obtain ⟨_, h2⟩ := numb_some h
  subst h2
  refine ⟨numF_ne 10 n (by omega), ?_⟩
  rw [show digB10 = digB 10 from funext fun c => (dig_ten c).symm]
  exact (numF_val 10 (by omega) (by omega) n).2
theorem valF_short (c : UInt8) (l : List UInt8) (h : c ≠ 48) : 10 ^ l.length ≤ valF 10 (c :: l) := valF_long 10 c l h
theorem valF_up : ∀ (n : Nat) (l : List UInt8), l.length = n → l.all (digB 10) = true → valF 10 l < 10 ^ n
  | 0, l, hl, _ => by
    obtain rfl : l = [] := List.eq_nil_of_length_eq_zero hl
    simp [valF]
  | n + 1, l, hl, h => by
    obtain ⟨m, d, rfl⟩ : ∃ m d, l = m ++ [d] := ⟨l.dropLast, l.getLast (by rintro rfl; simp at hl), (List.dropLast_concat_getLast _).symm⟩
    rw [List.all_append] at h
    simp only [Bool.and_eq_true, List.all_cons, List.all_nil, Bool.and_true, digB, decide_eq_true_eq] at h
    have := valF_up n m (by simpa using hl) (by simpa [digB] using h.1)
    rw [valF_snoc, Nat.pow_succ]
    omega
/-- Said outright: nothing but digits, no nought ahead of others, no more than most. -/
theorem numb_iff (most : Nat) (hm : most ≤ Most) (l : List UInt8) (n : Nat) : numbF most l = some n ↔ (l ≠ [] ∧ l.all digB10 = true ∧ (l.take 1 = [48] → l.length = 1) ∧ valF 10 l ≤ most ∧ n = valF 10 l) := by
  rw [show digB10 = digB 10 from funext fun c => (dig_ten c).symm]
  constructor
  · intro h
    obtain ⟨h1, h2⟩ := numb_some h
    obtain ⟨h3, h4⟩ := numF_val 10 (by omega) (by omega) n
    subst h2
    refine ⟨numF_ne 10 n (by omega), h4, ?_, by omega, h3.symm⟩
    intro h0
    obtain ⟨r, hr⟩ : ∃ r, numF 10 n = 48 :: r := by
      cases hh : numF 10 n with
      | nil => exact absurd hh (numF_ne 10 n (by omega))
      | cons a r => rw [hh] at h0; simp at h0; exact ⟨r, by rw [h0]⟩
    have hb := numF_back 10 (by omega) (by omega) (numF 10 n) h4
    rw [h3] at hb
    split at hb
    · rw [hb]; rfl
    · have hd : (bareF (numF 10 n)).length ≤ r.length := by
        rw [hr]
        unfold bareF
        rw [List.dropWhile_cons, if_pos (by rfl)]
        exact (List.dropWhile_sublist _).length_le
      have := congrArg List.length hb
      rw [List.length_map] at this
      rw [hr] at this hd
      simp at this
      omega
  · rintro ⟨h0, h1, h2, h3, rfl⟩
    have hr : readF 10 l = (valF 10 l, 0) := readF_ok 10 l h0 h1 (by omega)
    unfold numbF
    rw [hr]
    refine if_pos ⟨rfl, h3, ?_⟩
    cases l with
    | nil => exact absurd rfl h0
    | cons c l =>
      by_cases hc : c = 48
      · subst hc
        have : l = [] := by have := h2 rfl; simpa using this
        subst this
        rfl
      · rw [numF_read 10 (by omega) (by omega) c hc l.length l rfl h1]
        have : ∀ x ∈ (c :: l), lowD x = x := fun x hx => by
          have := List.all_eq_true.1 h1 x hx
          exact lowD_ten x (by simpa [digB] using this)
        conv => rhs; rw [← List.map_id (c :: l)]
        exact List.map_congr_left this
end Go.Proofs.YtopanahgeeolbaaGreatDoor.Uri
