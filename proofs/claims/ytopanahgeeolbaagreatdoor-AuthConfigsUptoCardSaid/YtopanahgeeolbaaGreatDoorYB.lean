/-
  Hosts, paths, URLs: what is parsed may be, what may be is parsed from its text: plain mathematics.
  Conditions: those that each theorem names.
-/
import Derived.Test.YtopanahgeeolbaaGreatDoorYA
import Derived.Test.YtopanahgeeolbaaGreatDoorPA
namespace Go.Proofs.YtopanahgeeolbaaGreatDoor.Uri
open Go.RowKit

/-! ## Paths -/
theorem esc_head (l p : List UInt8) (ps : List (List UInt8)) (h : splitF 37 l = p :: ps) : escF p = escF l := by
  match l, h with
  | [], h => simp [splitF] at h; rw [h.1]
  | [a], h =>
    by_cases ha : a = 37
    · subst ha; rw [splitF_yes] at h; injection h with h1 h2; rw [← h1]; rfl
    · rw [splitF_none 37 [a] (by simpa using fun e => ha e.symm)] at h; injection h with h1 h2; rw [h1]
  | a :: b :: l, h =>
    by_cases ha : a = 37
    · subst ha; rw [splitF_yes] at h; injection h with h1 h2; rw [← h1]
      have : hexB 37 = false := by decide
      simp [escF, this]
    · obtain ⟨q, qs, h1, h2⟩ := splitF_no 37 a (b :: l) ha
      by_cases hb : b = 37
      · subst hb
        rw [splitF_yes] at h1
        injection h1 with h1 h3
        rw [h2] at h
        injection h with h h4
        rw [← h, ← h1]
        have : hexB 37 = false := by decide
        simp [escF, this]
      · obtain ⟨q', qs', h3, h4⟩ := splitF_no 37 b l hb
        rw [h4] at h1
        injection h1 with h1 h5
        rw [h2] at h
        injection h with h h6
        rw [← h, ← h1]
        simp [escF]
theorem path_split (l : List UInt8) : pathF l = ((splitF 37 l).tail.all escF && (splitF 37 l).all (fun p => p.all pathB)) := by
  induction l with
  | nil => rfl
  | cons c l ih =>
    by_cases h : c = 37
    · subst h
      unfold pathF
      rw [if_pos rfl, splitF_yes, List.tail_cons, ih]
      cases hs : splitF 37 l with
      | nil => exact absurd hs (splitF_ne 37 l)
      | cons p ps =>
        have he := esc_head l p ps hs
        have he2 : (decide (2 ≤ l.length) && (l.take 2).all hexB) = escF p := he.symm
        rw [List.tail_cons, he2]
        simp [Bool.and_assoc]
    · obtain ⟨p, ps, h1, h2⟩ := splitF_no 37 c l h
      unfold pathF
      rw [if_neg h, h2, ih, h1, List.tail_cons, List.tail_cons, List.all_cons, List.all_cons, List.all_cons]
      cases pathB c <;> cases ps.all escF <;> simp

/-! ## Hosts -/
theorem lab_all (l : List UInt8) (h : (splitF 46 l).all labF = true) : l.all (fun c => c == 46 || hostB c) = true := by
  rw [← splitF_all]
  rw [List.all_eq_true] at h ⊢
  intro p hp
  have := h p hp
  unfold labF at this
  simp only [Bool.and_eq_true] at this
  exact this.2
theorem named_parts {l : List UInt8} (h : namedF l = true) : l.length ≤ 64 ∧ (splitF 46 l).all labF = true ∧ (numericF (lastF (splitF 46 l)) = true → (splitF 46 l).length = 4 ∧ (splitF 46 l).all octF = true) := by
  unfold namedF at h
  simp only [Bool.and_eq_true, Bool.or_eq_true, Bool.not_eq_true', decide_eq_true_eq] at h
  refine ⟨h.1, h.2.1, fun hn => ?_⟩
  rcases h.2.2 with h2 | h2
  · rw [hn] at h2; cases h2
  · exact h2
theorem named_all {l : List UInt8} (h : namedF l = true) : l.all (fun c => c == 46 || hostB c) = true := lab_all l (named_parts h).2.1
theorem named_ne {l : List UInt8} (h : namedF l = true) : l ≠ [] := by
  rintro rfl
  exact absurd h (by decide)
theorem byte_low (c : UInt8) (h : (lowB c == 46 || hostB (lowB c)) = true) : (!endB c) = true ∧ c ≠ 58 := by
  have := byte_all (fun c => !(lowB c == 46 || hostB (lowB c)) || (!endB c && (c != 58))) (by decide +kernel) c
  simp only [h, Bool.not_true, Bool.false_or, Bool.and_eq_true, bne_iff_ne] at this
  exact this
theorem low_host (c : UInt8) (h : (c == 46 || hostB c) = true) : lowB c = c := by
  have := byte_all (fun c => !(c == 46 || hostB c) || (lowB c == c)) (by decide +kernel) c
  simp only [h, Bool.not_true, Bool.false_or, beq_iff_eq] at this
  exact this
theorem low_named {l : List UInt8} (h : namedF l = true) : lowF l = l := by
  have ha := named_all h
  unfold lowF
  conv => rhs; rw [← List.map_id l]
  exact List.map_congr_left fun c hc => low_host c (List.all_eq_true.1 ha c hc)
/-- A text whose small letters are a host. -/
theorem low_far {nm : List UInt8} (h : namedF (lowF nm) = true) : nm.all (fun c => !endB c) = true ∧ 58 ∉ nm := by
  have ha := List.all_eq_true.1 (named_all h)
  have hb : ∀ c ∈ nm, (!endB c) = true ∧ c ≠ 58 := fun c hc => byte_low c (ha (lowB c) (List.mem_map_of_mem hc))
  exact ⟨List.all_eq_true.2 fun c hc => (hb c hc).1, fun hm => (hb 58 hm).2 rfl⟩
theorem dig_far (c : UInt8) (h : digB10 c = true) : (!endB c) = true ∧ c ≠ 58 ∧ c ≠ 46 := by
  have := byte_all (fun c => !digB10 c || (!endB c && ((c != 58) && (c != 46)))) (by decide +kernel) c
  simp only [h, Bool.not_true, Bool.false_or, Bool.and_eq_true, bne_iff_ne] at this
  exact this

/-! ## Authorities -/
/-- What stands behind a host in a text. -/
def tailF (p : Nat) : List UInt8 := if p = 80 then [] else 58 :: numF 10 p
theorem port_nat (p : Nat) (h : p ≤ 65535) : portL (p : Int) = numF 10 p := by
  unfold portL
  rw [if_pos ⟨by omega, by omega⟩]
  rfl
theorem auth_tail (h : List UInt8) (p : Nat) (hp : p ≤ 65535) : authF h (p : Int) = h ++ tailF p := by
  unfold authF tailF
  by_cases h8 : p = 80
  · rw [if_pos (by omega), if_pos h8, List.append_nil]
  · rw [if_neg (by omega), if_neg h8, port_nat p hp]
theorem num_digits (p : Nat) : (numF 10 p).all digB10 = true := by
  rw [show digB10 = digB 10 from funext fun c => (dig_ten c).symm]
  exact (numF_val 10 (by omega) (by omega) p).2
theorem tail_far (p : Nat) : (tailF p).all (fun c => !endB c) = true := by
  unfold tailF
  split
  · rfl
  · rw [List.all_cons]
    have : (!endB 58) = true := by decide
    rw [this, Bool.true_and, List.all_eq_true]
    intro c hc
    exact (dig_far c (List.all_eq_true.1 (num_digits p) c hc)).1
theorem authority_of (nm : List UInt8) (p : Nat) (hn : namedF (lowF nm) = true) (h1 : 1 ≤ p) (hp : p ≤ 65535) : authorityF (nm ++ 58 :: numF 10 p) = some (lowF nm, p) := by
  unfold authorityF
  rw [cutC_hit 58 nm _ (low_far hn).2]
  simp only
  rw [numb_of 65535 p hp (by unfold Most; omega)]
  simp only
  rw [if_neg (by omega), if_pos hn]
theorem colon_of (nm : List UInt8) (p : Nat) (hn : namedF (lowF nm) = true) : colonF (nm ++ tailF p) = nm ++ 58 :: numF 10 p := by
  unfold colonF tailF
  by_cases h8 : p = 80
  · rw [if_pos h8, List.append_nil, if_neg (by simpa using (low_far hn).2), h8]
    rfl
  · rw [if_neg h8, if_pos (by simp)]
theorem authority_some {l : List UInt8} {h : List UInt8} {p : Nat} (ha : authorityF l = some (h, p)) : namedF h = true ∧ 1 ≤ p ∧ p ≤ 65535 ∧ h = lowF (cutC 58 l).1 ∧ numF 10 p = (cutC 58 l).2 := by
  unfold authorityF at ha
  split at ha
  · cases ha
  · rename_i q hq
    split at ha
    · cases ha
    · split at ha
      · rename_i h0 hn
        injection ha with ha
        injection ha with ha hb
        subst hb
        subst ha
        obtain ⟨h1, h2⟩ := numb_some hq
        exact ⟨hn, by omega, h1, rfl, h2⟩
      · cases ha

/-! ## URLs -/
theorem slash_head (q : List UInt8) : (slashF q).take 1 = [47] := by
  unfold slashF
  split
  · assumption
  · rfl
theorem slash_id {q : List UInt8} (h : q.take 1 = [47]) : slashF q = q := by unfold slashF; rw [if_pos h]
theorem parse_may {t h q : List UInt8} {p : Nat} (hp : parseF t = some (h, p, q)) : mayF h (p : Int) q = true := by
  unfold parseF at hp
  split at hp
  · unfold endF at hp
    split at hp
    · cases hp
    · rename_i h' p' ha
      split at hp
      · rename_i hl
        injection hp with hp
        injection hp with hp1 hp2
        injection hp2 with hp2 hp3
        subst hp1 hp2 hp3
        obtain ⟨a1, a2, a3, _, _⟩ := authority_some ha
        unfold mayF
        rw [a1, decide_eq_true (by omega), decide_eq_true (by omega), decide_eq_true (slash_head _), hl.2, decide_eq_true hl.1]
        rfl
      · cases hp
  · cases hp
theorem may_parts {h q : List UInt8} {p : Int} (hm : mayF h p q = true) : namedF h = true ∧ 1 ≤ p ∧ p ≤ 65535 ∧ q.take 1 = [47] ∧ pathF q = true ∧ (textF h p q).length ≤ 384 := by
  unfold mayF at hm
  simp only [Bool.and_eq_true, decide_eq_true_eq] at hm
  exact ⟨hm.1, hm.2.1, hm.2.2.1, hm.2.2.2.1.1, hm.2.2.2.1.2, hm.2.2.2.2⟩
theorem may_of {h q : List UInt8} {p : Int} (h1 : namedF h = true) (h2 : 1 ≤ p) (h3 : p ≤ 65535) (h4 : q.take 1 = [47]) (h5 : pathF q = true) (h6 : (textF h p q).length ≤ 384) : mayF h p q = true := by
  unfold mayF
  simp only [Bool.and_eq_true, decide_eq_true_eq]
  exact ⟨h1, h2, h3, ⟨h4, h5⟩, h6⟩
/-- A text that is laid so is parsed as what it was laid of, if it may be. -/
theorem parse_gen (pre nm q : List UInt8) (p : Nat) (hpre : lowF pre = httpL) (hn : namedF (lowF nm) = true) (h1 : 1 ≤ p) (hp : p ≤ 65535) (hq : q.take 1 = [47]) :
    parseF (pre ++ (nm ++ tailF p) ++ q) = if (textF (lowF nm) (p : Int) q).length ≤ 384 ∧ pathF q = true then some (lowF nm, p, q) else none := by
  obtain ⟨r, rfl⟩ : ∃ r, q = 47 :: r := by
    cases q with
    | nil => cases hq
    | cons c r => simp at hq; exact ⟨r, by rw [hq]⟩
  have hl : pre.length = 7 := by
    have := congrArg List.length hpre
    rw [lowF_length] at this
    exact this
  unfold parseF
  rw [List.append_assoc, List.take_left' hl, List.drop_left' hl, if_pos hpre]
  rw [cutA_hit (nm ++ tailF p) 47 r (by rw [List.all_append, (low_far hn).1, tail_far p]; rfl) (by decide)]
  simp only
  rw [colon_of nm p hn, authority_of nm p hn h1 hp, slash_id hq]
  rfl
theorem text_tail (h q : List UInt8) (p : Nat) (hp : p ≤ 65535) : textF h (p : Int) q = httpL ++ (h ++ tailF p) ++ q := by rw [textF, auth_tail h p hp]
theorem parse_text (h q : List UInt8) (p : Nat) (hn : namedF h = true) (h1 : 1 ≤ p) (hp : p ≤ 65535) (hq : q.take 1 = [47]) :
    parseF (textF h (p : Int) q) = if mayF h (p : Int) q = true then some (h, p, q) else none := by
  have hl := low_named hn
  have := parse_gen httpL h q p (by decide) (by rw [hl]; exact hn) h1 hp hq
  rw [text_tail h q p hp, this, hl]
  by_cases hm : mayF h (p : Int) q = true
  · obtain ⟨_, _, _, _, m5, m6⟩ := may_parts hm
    rw [if_pos ⟨m6, m5⟩, if_pos hm]
  · rw [if_neg hm, if_neg]
    rintro ⟨m1, m2⟩
    exact hm (may_of hn (by omega) (by omega) hq m2 m1)
theorem may_nat {h q : List UInt8} {p : Int} (hm : mayF h p q = true) : ∃ n : Nat, p = (n : Int) ∧ 1 ≤ n ∧ n ≤ 65535 := by
  obtain ⟨_, h1, h2, _⟩ := may_parts hm
  exact ⟨p.toNat, by omega, by omega, by omega⟩
theorem may_back {h q : List UInt8} {p : Nat} (hm : mayF h (p : Int) q = true) : parseF (textF h (p : Int) q) = some (h, p, q) := by
  obtain ⟨m1, m2, m3, m4, _, _⟩ := may_parts hm
  rw [parse_text h q p m1 (by omega) (by omega) m4, if_pos hm]
/-- What a URL is that was parsed, as it is compared. -/
def isF (r : Option (List UInt8 × Nat × List UInt8)) (h : List UInt8) (p : Int) (q : List UInt8) : Bool := match r with
  | none => false
  | some (h', p', q') => decide (h' = h) && (decide ((p' : Int) = p) && decide (q' = q))
theorem may_is (h q : List UInt8) (p : Int) : isF (parseF (textF h p q)) h p q = mayF h p q := by
  rw [Bool.eq_iff_iff]
  constructor
  · intro hi
    cases hp : parseF (textF h p q) with
    | none => rw [hp] at hi; cases hi
    | some x =>
      obtain ⟨h', p', q'⟩ := x
      rw [hp] at hi
      simp only [isF, Bool.and_eq_true, decide_eq_true_eq] at hi
      obtain ⟨rfl, rfl, rfl⟩ := hi
      exact parse_may hp
  · intro hm
    obtain ⟨n, rfl, _, _⟩ := may_nat hm
    rw [may_back hm]
    simp [isF]

/-! ## As the reference says it -/
theorem cut_head (l : List UInt8) : (cutA l).2 = [] ∨ (cutA l).2.take 1 = [47] ∨ (cutA l).2.take 1 = [63] := by
  rcases cutA_or l with ⟨_, h⟩ | ⟨a, c, b, _, _, hc, h⟩
  · left; rw [h]
  · right
    rw [h]
    simp only [endB, Bool.or_eq_true, beq_iff_eq] at hc
    rcases hc with rfl | rfl
    · left; rfl
    · right; rfl
/-- The port behind a ':' (80: there is none). -/
def rportF (a : List UInt8) : Nat := if a.contains 58 = true then (numbF 65535 (cutC 58 a).2).getD 0 else 80
def rurlF (t : List UInt8) : List UInt8 × Nat × List UInt8 := (lowF (cutC 58 (cutA (t.drop 7)).1).1, rportF (cutA (t.drop 7)).1, slashF (cutA (t.drop 7)).2)
theorem parse_ref (t : List UInt8) : parseF t = if lowF (t.take 7) = httpL ∧ mayF (rurlF t).1 ((rurlF t).2.1 : Int) (rurlF t).2.2 = true then some (rurlF t) else none := by
  unfold parseF
  by_cases h0 : lowF (t.take 7) = httpL
  · rw [if_pos h0]
    unfold rurlF
    generalize (cutA (t.drop 7)).1 = a
    generalize (cutA (t.drop 7)).2 = q
    simp only
    have key : ∀ (h : List UInt8) (p : Nat), authorityF (colonF a) = (if namedF h = true ∧ 1 ≤ p ∧ p ≤ 65535 then some (h, p) else none) →
        endF (authorityF (colonF a)) (slashF q) = if lowF (t.take 7) = httpL ∧ mayF h (p : Int) (slashF q) = true then some (h, p, slashF q) else none := by
      intro h p ha
      rw [ha]
      by_cases hn : namedF h = true ∧ 1 ≤ p ∧ p ≤ 65535
      · rw [if_pos hn]
        unfold endF
        simp only
        by_cases hm : mayF h (p : Int) (slashF q) = true
        · obtain ⟨_, _, _, _, m5, m6⟩ := may_parts hm
          rw [if_pos ⟨m6, m5⟩, if_pos ⟨h0, hm⟩]
        · have hn1 : ¬ ((textF h (p : Int) (slashF q)).length ≤ 384 ∧ pathF (slashF q) = true) := by
            rintro ⟨m1, m2⟩
            exact hm (may_of hn.1 (by omega) (by omega) (slash_head q) m2 m1)
          rw [if_neg hn1, if_neg (fun hx => hm hx.2)]
      · rw [if_neg hn, if_neg]
        · rfl
        · rintro ⟨_, hm⟩
          obtain ⟨m1, m2, m3, _⟩ := may_parts hm
          exact hn ⟨m1, by omega, by omega⟩
    refine key _ _ ?_
    unfold rportF colonF
    rcases cutC_or 58 a with ⟨hn, hc⟩ | ⟨x, y, hl, hx, hc⟩
    · have hb : a.contains 58 = false := by simpa using hn
      rw [hb, hc, if_neg Bool.false_ne_true, if_neg Bool.false_ne_true]
      unfold authorityF
      rw [show a ++ [58, 56, 48] = a ++ 58 :: [56, 48] from rfl, cutC_hit 58 a _ hn]
      simp only
      rw [show numbF 65535 [56, 48] = some 80 from by decide +kernel]
      simp only
      rw [if_neg (by omega)]
      by_cases h1 : namedF (lowF a) = true
      · rw [if_pos h1, if_pos ⟨h1, by omega, by omega⟩]
      · rw [if_neg h1, if_neg (fun h => h1 h.1)]
    · have hb : a.contains 58 = true := by rw [hl]; simp
      rw [hb, if_pos rfl, if_pos rfl, hc]
      unfold authorityF
      rw [hc]
      simp only
      cases hq : numbF 65535 y with
      | none => simp
      | some n =>
        have := (numb_some hq).1
        simp only [Option.getD_some]
        by_cases hz : n = 0
        · rw [if_pos hz, if_neg (by omega)]
        · rw [if_neg hz]
          by_cases h1 : namedF (lowF x) = true
          · rw [if_pos h1, if_pos ⟨h1, by omega, by omega⟩]
          · rw [if_neg h1, if_neg (fun h => h1 h.1)]
  · rw [if_neg h0, if_neg (fun h => h0 h.1)]
/-- A reference, joined. -/
def joinF (h : List UInt8) (p : Int) (q ref : List UInt8) : Option (List UInt8 × Nat × List UInt8) :=
  if mayF h p q = true then (if ref.take 1 = [47] ∧ ref.take 2 ≠ [47, 47] then (if mayF h p ref = true then some (h, p.toNat, ref) else none) else parseF ref) else none
end Go.Proofs.YtopanahgeeolbaaGreatDoor.Uri
