/-
  What the laws ask of hosts and URLs: plain mathematics.
  Conditions: those that each theorem names.
-/
import Derived.Test.YthkcniimnaephaaGreatDoorYB
namespace Go.Proofs.YthkcniimnaephaaGreatDoor.Uri
open Go.RowKit

/-! ## One host has one text -/
theorem not_named_of_part {l : List UInt8} {p : List UInt8} (hm : p ∈ splitF 46 l) (h : labF p = false) : namedF l = false := by
  rw [Bool.eq_false_iff]
  intro hn
  have := List.all_eq_true.1 (named_parts hn).2.1 p hm
  rw [h] at this
  cases this
theorem one_mid (a b : List UInt8) : namedF (a ++ 46 :: 46 :: b) = false := by
  refine not_named_of_part (p := []) ?_ rfl
  rw [splitF_append, splitF_yes]
  simp
theorem one_back (l : List UInt8) : namedF (l ++ [46]) = false := by
  refine not_named_of_part (p := []) ?_ rfl
  rw [splitF_append]
  simp [splitF]
theorem one_front (l : List UInt8) : namedF (46 :: l) = false := by
  refine not_named_of_part (p := []) ?_ rfl
  rw [splitF_yes]
  simp
theorem named_nil : namedF [] = false := by decide
theorem one_last {l : List UInt8} (hn : namedF l = true) (m : List UInt8) : l ≠ m ++ [46] := by
  rintro rfl
  rw [one_back] at hn
  cases hn
theorem named_hosts {l : List UInt8} (hn : namedF l = true) (c : UInt8) (hc : c ∈ l) : (c == 46 || hostB c) = true := List.all_eq_true.1 (named_all hn) c hc
theorem one_up (a b : List UInt8) (c : UInt8) (hc : smallB c = true) : namedF (a ++ (c - 32) :: b) = false := by
  rw [Bool.eq_false_iff]
  intro hn
  have h1 := named_hosts hn (c - 32) (by simp)
  have h2 := byte_all (fun c => !smallB c || !(c - 32 == 46 || hostB (c - 32))) (by decide +kernel) c
  rw [hc, h1] at h2
  cases h2
theorem split_digits (l : List UInt8) (h : l.all (fun c => c == 46 || digB10 c) = true) : ∀ p ∈ splitF 46 l, p.all digB10 = true := by
  rw [← splitF_all] at h
  exact List.all_eq_true.1 h
theorem numeric_digits (p : List UInt8) (h : p.all digB10 = true) : numericF p = true := by
  unfold numericF
  split
  · rename_i h2
    have : (120 : UInt8) ∈ p := List.mem_of_mem_take (i := 2) (by rw [h2]; simp)
    exact absurd (List.all_eq_true.1 h 120 this) (by decide)
  · exact h
theorem last_mem (ls : List (List UInt8)) (h : ls ≠ []) : lastF ls ∈ ls := by
  unfold lastF
  rw [List.getLastD_eq_getLast?, List.getLast?_eq_some_getLast h]
  exact List.getLast_mem h
theorem digits_four {l : List UInt8} (hn : namedF l = true) (h : l.all (fun c => c == 46 || digB10 c) = true) : (splitF 46 l).length = 4 ∧ (splitF 46 l).all octF = true :=
  (named_parts hn).2.2 (numeric_digits _ (split_digits l h _ (last_mem _ (splitF_ne 46 l))))
theorem digits_dots {l : List UInt8} (hn : namedF l = true) (h : l.all (fun c => c == 46 || digB10 c) = true) : l.count 46 = 3 := by
  have := (digits_four hn h).1
  rw [splitF_count] at this
  omega
theorem oct_nought (l : List UInt8) (h : octF l = true) : octF (48 :: l) = false := by
  unfold octF at h ⊢
  cases hl : numbF 255 l with
  | none => rw [hl] at h; cases h
  | some n =>
    obtain ⟨h1, h2, h3, _, _⟩ := (numb_iff 255 (by unfold Most; omega) l n).1 hl
    cases hr : numbF 255 (48 :: l) with
    | none => rfl
    | some m =>
      obtain ⟨_, _, g3, _, _⟩ := (numb_iff 255 (by unfold Most; omega) (48 :: l) m).1 hr
      have := g3 rfl
      exact absurd (List.eq_nil_of_length_eq_zero (by simpa using this)) h1
theorem digits_nought {l : List UInt8} (hn : namedF l = true) (h : l.all (fun c => c == 46 || digB10 c) = true) : namedF (48 :: l) = false := by
  obtain ⟨h1, h2⟩ := digits_four hn h
  rw [Bool.eq_false_iff]
  intro hm
  have h' : (48 :: l).all (fun c => c == 46 || digB10 c) = true := by rw [List.all_cons, h]; decide
  obtain ⟨_, g2⟩ := digits_four hm h'
  obtain ⟨p, ps, e1, e2⟩ := splitF_no 46 48 l (by decide)
  rw [e1, List.all_cons] at h2
  rw [e2, List.all_cons] at g2
  simp only [Bool.and_eq_true] at h2 g2
  have := oct_nought p h2.1
  rw [g2.1] at this
  cases this
theorem digits_more {l : List UInt8} (hn : namedF l = true) (h : l.all (fun c => c == 46 || digB10 c) = true) : namedF (49 :: 46 :: l) = false := by
  obtain ⟨h1, _⟩ := digits_four hn h
  rw [Bool.eq_false_iff]
  intro hm
  have h' : (49 :: 46 :: l).all (fun c => c == 46 || digB10 c) = true := by rw [List.all_cons, List.all_cons, h]; decide
  obtain ⟨g1, _⟩ := digits_four hm h'
  rw [show (49 :: 46 :: l) = [49] ++ 46 :: l from rfl, splitF_append] at g1
  simp [splitF, h1] at g1
/-- Has a text neither ':', '/', nor '?'? -/
def plainB (c : UInt8) : Bool := (c != 58) && ((c != 47) && (c != 63))
def plainF (l : List UInt8) : Bool := l.all plainB
theorem plain_low (l : List UInt8) (h : plainF (lowF l) = true) : l.all (fun c => !endB c) = true ∧ 58 ∉ l := by
  have hb : ∀ c ∈ l, (!endB c) = true ∧ c ≠ 58 := by
    intro c hc
    have h1 := List.all_eq_true.1 h (lowB c) (List.mem_map_of_mem hc)
    have h2 := byte_all (fun c => !plainB (lowB c) || (!endB c && (c != 58))) (by decide +kernel) c
    simp only [h1, Bool.not_true, Bool.false_or, Bool.and_eq_true, bne_iff_ne] at h2
    exact h2
  exact ⟨List.all_eq_true.2 fun c hc => (hb c hc).1, fun hm => (hb 58 hm).2 rfl⟩
theorem one_parse (l : List UInt8) (hp : plainF (lowF l) = true) (h : (parseF (httpL ++ l ++ [47])).isSome = true) : namedF (lowF l) = true := by
  obtain ⟨h1, h2⟩ := plain_low l hp
  rw [parse_ref] at h
  split at h
  · rename_i hh
    obtain ⟨m1, _⟩ := may_parts hh.2
    unfold rurlF at m1
    rw [List.append_assoc, List.drop_left' (by rfl), cutA_hit l 47 [] h1 (by decide)] at m1
    simp only at m1
    rw [cutC_none 58 l h2] at m1
    exact m1
  · cases h
theorem one_auth (l : List UInt8) (h : (authorityF (l ++ [58, 49])).isSome = true) : namedF (lowF l) = true := by
  cases ha : authorityF (l ++ [58, 49]) with
  | none => rw [ha] at h; cases h
  | some x =>
    obtain ⟨hh, p⟩ := x
    obtain ⟨a1, a2, a3, a4, a5⟩ := authority_some ha
    rcases cutC_or 58 l with ⟨hn, hc⟩ | ⟨x, y, hl, hx, hc⟩
    · rw [show l ++ [58, 49] = l ++ 58 :: [49] from rfl, cutC_hit 58 l _ hn] at a4
      rw [← a4]
      exact a1
    · rw [hl, show (x ++ 58 :: y) ++ [58, 49] = x ++ 58 :: (y ++ [58, 49]) by simp, cutC_hit 58 x _ hx] at a5
      have := List.all_eq_true.1 (num_digits p) 58 (by rw [a5]; simp)
      exact absurd this (by decide)

/-! ## Capital letters -/
def upB (c : UInt8) : UInt8 := if 97 ≤ c ∧ c ≤ 122 then c - 32 else c
theorem up_low (c : UInt8) (h : (c == 46 || hostB c) = true) : lowB (upB c) = c := by
  have := byte_all (fun c => !(c == 46 || hostB c) || (lowB (upB c) == c)) (by decide +kernel) c
  simp only [h, Bool.not_true, Bool.false_or, beq_iff_eq] at this
  exact this
theorem up_dig (c : UInt8) (h : (c == 58 || digB10 c) = true) : upB c = c := by
  have := byte_all (fun c => !(c == 58 || digB10 c) || (upB c == c)) (by decide +kernel) c
  simp only [h, Bool.not_true, Bool.false_or, beq_iff_eq] at this
  exact this
theorem up_named {l : List UInt8} (hn : namedF l = true) : lowF (l.map upB) = l := by
  unfold lowF
  rw [List.map_map]
  conv => rhs; rw [← List.map_id l]
  exact List.map_congr_left fun c hc => up_low c (named_hosts hn c hc)
theorem up_tail (p : Nat) : (tailF p).map upB = tailF p := by
  have : ∀ c ∈ tailF p, upB c = c := by
    intro c hc
    unfold tailF at hc
    split at hc
    · cases hc
    · rw [List.mem_cons] at hc
      rcases hc with rfl | hc
      · decide
      · exact up_dig c (by rw [List.all_eq_true.1 (num_digits p) c hc]; simp)
  conv => rhs; rw [← List.map_id (tailF p)]
  exact List.map_congr_left this
/-- A text, the first n bytes in capital letters. -/
def upTo (l : List UInt8) (n : Nat) : List UInt8 := (l.take n).map upB ++ l.drop n
theorem parse_up {h q : List UInt8} {p : Nat} (hm : mayF h (p : Int) q = true) : parseF (upTo (textF h (p : Int) q) (7 + (authF h (p : Int)).length)) = some (h, p, q) := by
  obtain ⟨m1, m2, m3, m4, m5, m6⟩ := may_parts hm
  have e : upTo (textF h (p : Int) q) (7 + (authF h (p : Int)).length) = httpL.map upB ++ (h.map upB ++ tailF p) ++ q := by
    unfold upTo textF
    rw [List.take_left' (by rw [List.length_append]; rfl), List.drop_left' (by rw [List.length_append]; rfl), auth_tail h p (by omega), List.map_append, List.map_append, up_tail]
  rw [e, parse_gen (httpL.map upB) (h.map upB) q p (by decide) (by rw [up_named m1]; exact m1) (by omega) (by omega) m4, up_named m1, if_pos ⟨m6, m5⟩]

/-! ## There and back -/
theorem auth_back {h q : List UInt8} {p : Nat} (hm : mayF h (p : Int) q = true) (h8 : p ≠ 80) : authorityF (authF h (p : Int)) = some (h, p) := by
  obtain ⟨m1, m2, m3, _⟩ := may_parts hm
  have := authority_of h p (by rw [low_named m1]; exact m1) (by omega) (by omega)
  rw [low_named m1] at this
  rw [auth_tail h p (by omega)]
  unfold tailF
  rw [if_neg h8]
  exact this
theorem auth_usual {h q : List UInt8} {p : Nat} (hm : mayF h (p : Int) q = true) (h8 : p = 80) : authorityF (authF h (p : Int) ++ [58, 56, 48]) = some (h, p) := by
  subst h8
  obtain ⟨m1, _⟩ := may_parts hm
  have := authority_of h 80 (by rw [low_named m1]; exact m1) (by omega) (by omega)
  rw [low_named m1] at this
  have e : authF h ((80 : Nat) : Int) ++ [58, 56, 48] = h ++ 58 :: numF 10 80 := by
    unfold authF
    rw [if_pos (by omega)]
    rfl
  rw [e]
  exact this
theorem text_ne (h q : List UInt8) (p : Int) : textF h p q ≠ [] := by simp [textF, httpL]
/-- A URL's text, if it may be. -/
def textI (h : List UInt8) (p : Int) (q : List UInt8) : List UInt8 := if mayF h p q = true then textF h p q else []
def hostI (h : List UInt8) (p : Int) (q : List UInt8) : List UInt8 := if mayF h p q = true then authF h p else []
theorem textI_ne (h q : List UInt8) (p : Int) : (textI h p q).isEmpty = !mayF h p q := by
  unfold textI
  cases hm : mayF h p q with
  | true => simp [textF, httpL]
  | false => simp
theorem parse_nil : parseF [] = none := by decide +kernel
theorem text_head (h q : List UInt8) (p : Int) : ∃ r, textF h p q = 104 :: r := ⟨_, rfl⟩
theorem join_text (h q : List UInt8) (p : Int) (h' q' : List UInt8) (p' : Nat) (hm : mayF h p q = true) : joinF h p q (textI h' (p' : Int) q') = if mayF h' (p' : Int) q' = true then some (h', p', q') else none := by
  unfold joinF
  rw [if_pos hm]
  by_cases hm' : mayF h' (p' : Int) q' = true
  · unfold textI
    rw [if_pos hm', if_pos hm']
    obtain ⟨r, hr⟩ := text_head h' q' (p' : Int)
    rw [if_neg, may_back hm']
    rw [hr]
    simp
  · unfold textI
    rw [if_neg hm', if_neg hm', if_neg (by simp), parse_nil]
theorem join_no (h q : List UInt8) (p : Int) (ref : List UInt8) (hm : mayF h p q = false) : joinF h p q ref = none := by unfold joinF; rw [if_neg (by rw [hm]; simp)]
theorem join_path (h q : List UInt8) (p : Int) (ref : List UInt8) (hm : mayF h p q = true) (h1 : ref.take 1 = [47]) (h2 : ref.take 2 ≠ [47, 47]) : joinF h p q ref = if mayF h p ref = true then some (h, p.toNat, ref) else none := by
  unfold joinF
  rw [if_pos hm, if_pos ⟨h1, h2⟩]
theorem join_may {h q ref h' q' : List UInt8} {p : Int} {p' : Nat} (hj : joinF h p q ref = some (h', p', q')) : mayF h' (p' : Int) q' = true := by
  unfold joinF at hj
  split at hj
  · split at hj
    · split at hj
      · rename_i hm _ hm'
        obtain ⟨n, rfl, _, _⟩ := may_nat hm'
        injection hj with hj
        injection hj with hj1 hj2
        injection hj2 with hj2 hj3
        subst hj1 hj2 hj3
        exact hm'
      · cases hj
    · exact parse_may hj
  · cases hj
/-- What the landed Join parses. -/
theorem join_landed (h q : List UInt8) (p : Int) (ref : List UInt8) (hm : mayF h p q = true) (h1 : ref.take 1 = [47]) (h2 : ref.take 2 ≠ [47, 47]) : parseF (textF h p ref) = joinF h p q ref := by
  rw [join_path h q p ref hm h1 h2]
  obtain ⟨n, rfl, n1, n2⟩ := may_nat hm
  obtain ⟨m1, _⟩ := may_parts hm
  rw [parse_text h ref n m1 n1 n2 h1]
  rfl
theorem join_other (h q : List UInt8) (p : Int) (ref : List UInt8) (hm : mayF h p q = true) (h1 : ¬ (ref.take 1 = [47] ∧ ref.take 2 ≠ [47, 47])) : parseF ref = joinF h p q ref := by
  unfold joinF
  rw [if_pos hm, if_neg h1]
end Go.Proofs.YthkcniimnaephaaGreatDoor.Uri
