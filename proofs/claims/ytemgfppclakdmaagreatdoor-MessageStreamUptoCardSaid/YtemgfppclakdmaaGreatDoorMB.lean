/-
  Plain mathematics of messages: what is put; it is read back, whatever stands behind.
  Conditions: those that each theorem names.
-/
import Derived.Test.YtemgfppclakdmaaGreatDoorCA
import Derived.Test.YtemgfppclakdmaaGreatDoorSB
import Derived.Test.YtemgfppclakdmaaGreatDoorFA
import Derived.Test.YtemgfppclakdmaaGreatDoorGA
import Derived.Test.YtemgfppclakdmaaGreatDoorHO
namespace Go.Proofs.YtemgfppclakdmaaGreatDoor
open Go.RowKit

/-- The first line of bytes, without its end; how many bytes it has with it; the error. -/
def firstM (b : List UInt8) : List UInt8 × Nat × Nat :=
  match lfF 512 b with
  | none => ([], 0, if 512 ≤ b.length then 21 else 8)
  | some k => if k = 0 ∨ b[k - 1]? ≠ some 13 then ([], 0, 20) else (b.take (k - 1), k + 1, 0)
/-- The fields behind it. -/
def fieldsM (b : List UInt8) (at0 : Nat) : List Fld × Nat × Nat :=
  if (parseH ((b.take 2048).drop at0)).2.2 = 8 ∧ 2048 ≤ b.length then ([], 0, 21)
  else if (parseH ((b.take 2048).drop at0)).2.2 ≠ 0 then ([], 0, (parseH ((b.take 2048).drop at0)).2.2)
  else ((parseH ((b.take 2048).drop at0)).1, at0 + (parseH ((b.take 2048).drop at0)).2.1, 0)
/-- The body behind them. -/
def bodyM (l : List UInt8) (k : Kd) (ended : Bool) : List UInt8 × Nat × Nat :=
  if k.1 = 0 then ([], 0, 0)
  else if k.1 = 1 then (if l.length < k.2.1 then ([], 0, 8) else (l.take k.2.1, k.2.1, 0))
  else if k.1 = 2 then takeF l
  else if 4096 < l.length then ([], 0, 21)
  else if ended = true then (l, l.length, 0)
  else ([], 0, 8)
/-- A message, its body told; its fields told; its first line told: what is said of it, how many bytes it has, the error. -/
def doneM {α : Type} (a : α) (l : List Fld) (u : Nat) (r : List UInt8 × Nat × Nat) : Option (α × List Fld × List UInt8) × Nat × Nat := if r.2.2 ≠ 0 then (none, 0, r.2.2) else (some (a, l, r.1), u + r.2.1, 0)
def restM {α : Type} (kind : α → List Fld → Kd) (ended : Bool) (b : List UInt8) (a : α) (q : List Fld × Nat × Nat) : Option (α × List Fld × List UInt8) × Nat × Nat :=
  if q.2.2 ≠ 0 then (none, 0, q.2.2) else if (kind a q.1).2.2 ≠ 0 then (none, 0, (kind a q.1).2.2) else doneM a q.1 q.2.1 (bodyM (b.drop q.2.1) (kind a q.1) ended)
def lineM {α : Type} (begin : List UInt8 → Option α) (kind : α → List Fld → Kd) (ended : Bool) (b : List UInt8) (p : List UInt8 × Nat × Nat) : Option (α × List Fld × List UInt8) × Nat × Nat :=
  if p.2.2 ≠ 0 then (none, 0, p.2.2) else match begin p.1 with
  | none => (none, 0, 20)
  | some a => restM kind ended b a (fieldsM b p.2.1)
def msgM {α : Type} (begin : List UInt8 → Option α) (kind : α → List Fld → Kd) (ended : Bool) (b : List UInt8) : Option (α × List Fld × List UInt8) × Nat × Nat := lineM begin kind ended b (firstM b)
abbrev RqM := List UInt8 × List UInt8 × Nat
abbrev RsM := Nat × Nat × List UInt8
def requestM (b : List UInt8) : Option (RqM × List Fld × List UInt8) × Nat × Nat := msgM Sta.reqF (fun a l => reqK (a.2.2 : Int) l) false b
def responseM (b m : List UInt8) (ended : Bool) : Option (RsM × List Fld × List UInt8) × Nat × Nat := msgM Sta.statF (fun a l => resK (a.2.1 : Int) m (reqK (a.1 : Int) l)) ended b

theorem firstM_range (b : List UInt8) : ((firstM b).2.2 = 0 ∧ (firstM b).2.1 ≤ b.length ∧ (firstM b).2.1 ≤ 512 ∧ 0 < (firstM b).2.1 ∧ (firstM b).1.length ≤ 512) ∨ ((firstM b).2.2 ≠ 0 ∧ (firstM b).1 = [] ∧ (firstM b).2.1 = 0) := by
  unfold firstM
  cases h : lfF 512 b with
  | none =>
    right
    simp only
    split <;> simp
  | some k =>
    obtain ⟨h1, h2, _, _⟩ := lf_some 512 b k h
    simp only
    split
    · right; simp
    · left
      refine ⟨rfl, by show k + 1 ≤ _; omega, by show k + 1 ≤ _; omega, by show 0 < k + 1; omega, ?_⟩
      show (b.take (k - 1)).length ≤ 512
      rw [List.length_take]
      omega
theorem firstM_stays (b t : List UInt8) (h : (firstM b).2.2 ≠ 8) : firstM (b ++ t) = firstM b := by
  unfold firstM at *
  cases hk : lfF 512 b with
  | none =>
    rw [hk] at h
    simp only at h
    have hl : 512 ≤ b.length := by
      by_cases hl : 512 ≤ b.length
      · exact hl
      · rw [if_neg hl] at h; exact absurd rfl h
    rw [lf_app_none 512 b t hk hl]
    simp only
    rw [if_pos hl, if_pos (by rw [List.length_append]; omega)]
  | some k =>
    obtain ⟨h1, h2, _, _⟩ := lf_some 512 b k hk
    rw [lf_app 512 b t k hk]
    simp only
    rw [List.getElem?_append_left (by omega), List.take_append_of_le_length (by omega)]
theorem fieldsM_range (b : List UInt8) (at0 : Nat) (ha : at0 ≤ b.length) (ha2 : at0 ≤ 512) : ((fieldsM b at0).2.2 = 0 ∧ (fieldsM b at0).2.1 ≤ b.length ∧ (fieldsM b at0).2.1 ≤ 2048 ∧ at0 ≤ (fieldsM b at0).2.1) ∨ ((fieldsM b at0).2.2 ≠ 0 ∧ (fieldsM b at0).1 = [] ∧ (fieldsM b at0).2.1 = 0) := by
  unfold fieldsM
  split
  · right; simp
  · split
    · next h => right; exact ⟨h, rfl, rfl⟩
    · left
      have := run_used ((b.take 2048).drop at0)
      rw [List.length_drop, List.length_take] at this
      refine ⟨rfl, ?_, ?_, ?_⟩
      · show at0 + _ ≤ _; omega
      · show at0 + _ ≤ _; omega
      · show at0 ≤ at0 + _; omega
theorem fieldsM_stays (b t : List UInt8) (at0 : Nat) (ha : at0 ≤ b.length) (_ha2 : at0 ≤ 512) (h : (fieldsM b at0).2.2 ≠ 8) : fieldsM (b ++ t) at0 = fieldsM b at0 := by
  by_cases hl : 2048 ≤ b.length
  · unfold fieldsM
    rw [List.take_append_of_le_length hl]
    have e : (2048 ≤ (b ++ t).length) = (2048 ≤ b.length) := by rw [List.length_append, eq_iff_iff]; omega
    simp only [e]
  · have h8 : (parseH (b.drop at0)).2.2 ≠ 8 := by
      intro h8
      apply h
      unfold fieldsM
      rw [List.take_of_length_le (by omega)]
      rw [if_neg (fun h => hl h.2), if_pos (by rw [h8]; simp)]
      exact h8
    have e1 : (b.take 2048).drop at0 = b.drop at0 := by rw [List.take_of_length_le (by omega)]
    have e2 : ((b ++ t).take 2048).drop at0 = b.drop at0 ++ t.take (2048 - b.length) := by
      rw [List.take_append, List.take_of_length_le (by omega), List.drop_append_of_le_length (by omega)]
    unfold fieldsM
    rw [e1, e2, head_stands _ _ h8, if_neg (fun h => h8 h.1)]
    split
    · rw [if_neg (fun h => h8 h.1)]
    · rw [if_neg (fun h => h8 h.1)]
theorem bodyM_range (l : List UInt8) (k : Kd) (ended : Bool) (hk : k.1 = 1 → k.2.1 ≤ 4096) : ((bodyM l k ended).2.2 = 0 ∧ (bodyM l k ended).1.length ≤ 4096 ∧ (bodyM l k ended).2.1 ≤ l.length) ∨ ((bodyM l k ended).2.2 ≠ 0 ∧ (bodyM l k ended).1 = [] ∧ (bodyM l k ended).2.1 = 0) := by
  unfold bodyM
  split
  · left; simp
  · split
    · next h =>
      split
      · right; simp
      · left
        have := hk h
        refine ⟨rfl, ?_, ?_⟩
        · show (l.take k.2.1).length ≤ _
          rw [List.length_take]; omega
        · show k.2.1 ≤ _; omega
    · split
      · rcases takeF_range l with ⟨h1, h2, _, h4⟩ | h
        · exact .inl ⟨h1, h2, h4⟩
        · exact .inr h
      · split
        · right; simp
        · split
          · left
            exact ⟨rfl, by show l.length ≤ _; omega, Nat.le_refl _⟩
          · right; simp
theorem bodyM_stays (l t : List UInt8) (k : Kd) (ended : Bool) (h : (bodyM l k false).2.2 ≠ 8) : bodyM (l ++ t) k ended = bodyM l k false := by
  unfold bodyM at *
  by_cases h0 : k.1 = 0
  · rw [if_pos h0, if_pos h0]
  · rw [if_neg h0] at h ⊢
    rw [if_neg h0]
    by_cases h1 : k.1 = 1
    · rw [if_pos h1] at h ⊢
      rw [if_pos h1]
      by_cases hl : l.length < k.2.1
      · rw [if_pos hl] at h; exact absurd rfl h
      · rw [if_neg hl, if_neg (by rw [List.length_append]; omega), List.take_append_of_le_length (by omega)]
    · rw [if_neg h1] at h ⊢
      rw [if_neg h1]
      by_cases h2 : k.1 = 2
      · rw [if_pos h2] at h ⊢
        rw [if_pos h2]
        exact take_stays l t h
      · rw [if_neg h2] at h ⊢
        rw [if_neg h2]
        by_cases hl : 4096 < l.length
        · rw [if_pos hl, if_pos (by rw [List.length_append]; omega)]
        · rw [if_neg hl] at h
          simp at h

section
variable {α : Type} {begin : List UInt8 → Option α} {kind : α → List Fld → Kd}
/-- How much is told. -/
def Told9 (b : List UInt8) (R : Option (α × List Fld × List UInt8) × Nat × Nat) : Prop := (∃ a l x, R.1 = some (a, l, x) ∧ R.2.2 = 0 ∧ x.length ≤ 4096 ∧ R.2.1 ≤ b.length) ∨ (R.2.2 ≠ 0 ∧ R.1 = none ∧ R.2.1 = 0)
theorem doneM_range (b : List UInt8) (a : α) (l : List Fld) (u : Nat) (r : List UInt8 × Nat × Nat) (h : (r.2.2 = 0 ∧ r.1.length ≤ 4096 ∧ u + r.2.1 ≤ b.length) ∨ r.2.2 ≠ 0) : Told9 b (doneM a l u r) := by
  unfold doneM
  rcases h with ⟨h1, h2, h3⟩ | h
  · rw [if_neg (fun h => h h1)]
    exact .inl ⟨a, l, r.1, rfl, rfl, h2, h3⟩
  · rw [if_pos h]
    exact .inr ⟨h, rfl, rfl⟩
theorem restM_range (hk : ∀ a l, (kind a l).1 = 1 → (kind a l).2.1 ≤ 4096) (ended : Bool) (b : List UInt8) (a : α) (q : List Fld × Nat × Nat) (h : q.2.2 = 0 → q.2.1 ≤ b.length) : Told9 b (restM kind ended b a q) := by
  unfold restM
  by_cases he : q.2.2 = 0
  · rw [if_neg (fun h => h he)]
    by_cases hke : (kind a q.1).2.2 = 0
    · rw [if_neg (fun h => h hke)]
      refine doneM_range b a q.1 q.2.1 _ ?_
      have := h he
      rcases bodyM_range (b.drop q.2.1) (kind a q.1) ended (hk a _) with ⟨q1, q2, q3⟩ | ⟨q1, _, _⟩
      · rw [List.length_drop] at q3
        exact .inl ⟨q1, q2, by omega⟩
      · exact .inr q1
    · rw [if_pos hke]
      exact .inr ⟨hke, rfl, rfl⟩
  · rw [if_pos he]
    exact .inr ⟨he, rfl, rfl⟩
theorem msgM_range (hk : ∀ a l, (kind a l).1 = 1 → (kind a l).2.1 ≤ 4096) (ended : Bool) (b : List UInt8) : Told9 b (msgM begin kind ended b) := by
  unfold msgM lineM
  rcases firstM_range b with ⟨f1, f2, f3, f4, _⟩ | ⟨f1, _, _⟩
  · rw [if_neg (fun h => h f1)]
    cases hb : begin (firstM b).1 with
    | none => exact .inr ⟨by simp, rfl, rfl⟩
    | some a =>
      refine restM_range hk ended b a _ (fun he => ?_)
      rcases fieldsM_range b (firstM b).2.1 f2 f3 with ⟨_, g2, _, _⟩ | ⟨g1, _, _⟩
      · exact g2
      · exact absurd he g1
  · rw [if_pos f1]
    exact .inr ⟨f1, rfl, rfl⟩
/-- What is told stays, whatever stands behind, ended or not. -/
theorem doneM_more (a : α) (l : List Fld) (u : Nat) (r : List UInt8 × Nat × Nat) (h : (doneM a l u r).2.2 ≠ 8) : r.2.2 ≠ 8 := by
  intro h8
  apply h
  unfold doneM
  rw [if_pos (by omega)]
  exact h8
theorem restM_stays (ended : Bool) (b t : List UInt8) (a : α) (q : List Fld × Nat × Nat) (hq : q.2.2 = 0 → q.2.1 ≤ b.length) (h : (restM kind false b a q).2.2 ≠ 8) : restM kind ended (b ++ t) a q = restM kind false b a q := by
  unfold restM at *
  by_cases he : q.2.2 = 0
  · have c1 : ¬ (q.2.2 ≠ 0) := fun h => h he
    rw [if_neg c1] at h
    rw [if_neg c1, if_neg c1]
    by_cases hke : (kind a q.1).2.2 = 0
    · have c2 : ¬ ((kind a q.1).2.2 ≠ 0) := fun h => h hke
      rw [if_neg c2] at h
      rw [if_neg c2, if_neg c2]
      rw [List.drop_append_of_le_length (hq he), bodyM_stays _ t _ ended (doneM_more _ _ _ _ h)]
    · rw [if_pos hke, if_pos hke]
  · rw [if_pos he, if_pos he]
theorem restM_more (ended : Bool) (b : List UInt8) (a : α) (q : List Fld × Nat × Nat) (h : (restM kind ended b a q).2.2 ≠ 8) : q.2.2 ≠ 8 := by
  intro h8
  apply h
  unfold restM
  rw [if_pos (by omega)]
  exact h8
theorem lineM_more (ended : Bool) (b : List UInt8) (p : List UInt8 × Nat × Nat) (h : (lineM begin kind ended b p).2.2 ≠ 8) : p.2.2 ≠ 8 := by
  intro h8
  apply h
  unfold lineM
  rw [if_pos (by omega)]
  exact h8
theorem msgM_stays (ended : Bool) (b t : List UInt8) (h : (msgM begin kind false b).2.2 ≠ 8) : msgM begin kind ended (b ++ t) = msgM begin kind false b := by
  unfold msgM at *
  rw [firstM_stays b t (lineM_more _ _ _ h)]
  unfold lineM at *
  by_cases hf : (firstM b).2.2 = 0
  · have c1 : ¬ ((firstM b).2.2 ≠ 0) := fun h => h hf
    rw [if_neg c1] at h
    rw [if_neg c1, if_neg c1]
    rcases firstM_range b with ⟨_, f2, f3, _, _⟩ | ⟨f1, _, _⟩
    · cases hb : begin (firstM b).1 with
      | none => rfl
      | some a =>
        rw [hb] at h
        simp only at h ⊢
        rw [fieldsM_stays b t _ f2 f3 (restM_more _ _ _ _ h)]
        refine restM_stays ended b t a _ (fun he => ?_) h
        rcases fieldsM_range b (firstM b).2.1 f2 f3 with ⟨_, g2, _, _⟩ | ⟨g1, _, _⟩
        · exact g2
        · exact absurd he g1
    · exact absurd hf f1
  · rw [if_pos hf, if_pos hf]
/-- Of a beginning more is wanted. -/
theorem msgM_short (hk : ∀ a l, (kind a l).1 = 1 → (kind a l).2.1 ≤ 4096) (b : List UInt8) (n k : Nat) (h : (msgM begin kind false b).2 = (n, 0)) (hk2 : k < n) : (msgM begin kind false (b.take k)).2.2 = 8 := by
  by_cases h8 : (msgM begin kind false (b.take k)).2.2 = 8
  · exact h8
  · exfalso
    have hs := msgM_stays (begin := begin) (kind := kind) false (b.take k) (b.drop k) h8
    rw [List.take_append_drop, ] at hs
    rw [hs] at h
    rcases msgM_range (begin := begin) hk false (b.take k) with ⟨_, _, _, _, _, _, h4⟩ | ⟨h1, _, _⟩
    · rw [h, List.length_take] at h4
      simp only at h4
      omega
    · rw [h] at h1
      exact h1 rfl
end
theorem lenF_small (xs : List (List UInt8)) : (lenF xs).2.1 ≤ 4096 := by
  unfold lenF
  repeat' split
  · simp
  · simp
  · next h => simp only [not_or] at h; show (firstF xs).1 ≤ 4096; omega
theorem reqK_small (n : Int) (ls : List Fld) : (reqK n ls).2.1 ≤ 4096 := by
  unfold reqK
  repeat' split
  · simp
  · simp
  · unfold codF; split <;> simp
  · exact lenF_small _
  · simp
theorem resK_small (st : Int) (m : List UInt8) (p : Kd) (h : p.2.1 ≤ 4096) : (resK st m p).2.1 ≤ 4096 := by
  unfold resK
  repeat' split
  · simp
  · simp
  · simp
  · simp
  · exact h
theorem request_stays (b t : List UInt8) (h : (requestM b).2.2 ≠ 8) : requestM (b ++ t) = requestM b := msgM_stays false b t h
theorem response_stays (b t m : List UInt8) (ended : Bool) (h : (responseM b m false).2.2 ≠ 8) : responseM (b ++ t) m ended = responseM b m false := msgM_stays ended b t h
theorem request_range (b : List UInt8) : Told9 b (requestM b) := msgM_range (fun _ _ _ => reqK_small _ _) false b
theorem response_range (b m : List UInt8) (ended : Bool) : Told9 b (responseM b m ended) := msgM_range (fun _ _ _ => resK_small _ _ _ (reqK_small _ _)) ended b
end Go.Proofs.YtemgfppclakdmaaGreatDoor

namespace Go.Proofs.YtemgfppclakdmaaGreatDoor.Sta
open Go.RowKit

theorem put_facts {n : Int} {m t a : List UInt8} (h : putReqF n m t = some a) : reqF a = some (m, t, n.toNat) ∧ statF a = none ∧ tokF m = true ∧ a.length ≤ 512 ∧ (n.toNat : Int) = n := by
  unfold putReqF at h
  split at h
  · rename_i hh
    injection h with h
    subst h
    obtain ⟨h0, h1, h2, h3, h4⟩ := hh
    have hr : reqF (reqL m t n.toNat) = some (m, t, n.toNat) := (req_iff _ _ _ _).2 ⟨rfl, h1, h2, h3, by omega, by rw [req_len]; exact h4⟩
    refine ⟨hr, ?_, h1, by rw [req_len]; exact h4, by omega⟩
    cases hs : statF (reqL m t n.toNat) with
    | none => rfl
    | some x => exact (never_both _ _ _ hr hs).elim
  · cases h
theorem tell_facts {n st : Int} {r b : List UInt8} (h : putStatF n st r = some b) : statF b = some (n.toNat, st.toNat, r) ∧ visF r = true ∧ b.length ≤ 512 ∧ (n.toNat : Int) = n ∧ (st.toNat : Int) = st := by
  unfold putStatF at h
  split at h
  · rename_i hh
    injection h with h
    subst h
    obtain ⟨h0, h1, h2, h3, h4⟩ := hh
    exact ⟨(stat_iff _ _ _ _).2 ⟨rfl, by omega, by omega, by omega, h3, by rw [stat_len]; exact h4⟩, h3, by rw [stat_len]; exact h4, by omega, by omega⟩
  · cases h
theorem req_facts {l m t : List UInt8} {n : Nat} (h : reqF l = some (m, t, n)) : putReqF n m t = some l ∧ statF l = none ∧ n ≤ 1 ∧ m.length ≤ 512 ∧ t.length ≤ 512 := by
  obtain ⟨hl, h1, h2, h3, h4, h5⟩ := (req_iff _ _ _ _).1 h
  have hlen := h5
  rw [hl, req_len] at hlen
  refine ⟨?_, ?_, h4, by omega, by omega⟩
  · unfold putReqF
    rw [if_pos ⟨by omega, h1, h2, h3, hlen⟩, hl]
    rfl
  · cases hs : statF l with
    | none => rfl
    | some x => exact (never_both _ _ _ h hs).elim
theorem stat_facts {l r : List UInt8} {n st : Nat} (h : statF l = some (n, st, r)) : putStatF n st r = some l ∧ reqF l = none ∧ n ≤ 1 ∧ st ≤ 599 ∧ r.length ≤ 512 := by
  obtain ⟨hl, h1, h2, h3, h4, h5⟩ := (stat_iff _ _ _ _).1 h
  have hlen := h5
  rw [hl, stat_len] at hlen
  refine ⟨?_, ?_, h1, h3, by omega⟩
  · unfold putStatF
    rw [if_pos ⟨by omega, by omega, by omega, h4, hlen⟩, hl]
    rfl
  · cases hs : reqF l with
    | none => rfl
    | some x => exact (never_both _ _ _ hs h).elim
theorem line_plain (m t : List UInt8) (n : Nat) (h1 : tokF m = true) (h2 : targF t = true) : ∀ c ∈ reqL m t n, c ≠ 10 := by
  intro c hc
  unfold reqL at hc
  simp only [List.mem_append, List.mem_cons] at hc
  rcases hc with hc | rfl | hc | rfl | hc
  · have := (tok_mem m h1).2 c hc
    rintro rfl
    revert this
    decide
  · decide
  · have := (targ_mem h2).2 c hc
    rintro rfl
    revert this
    decide
  · decide
  · rintro rfl
    unfold versL at hc
    split at hc <;> revert hc <;> decide
theorem dig_small (k : Nat) (h : k ≤ 9) : UInt8.ofNat (48 + k) ≠ 10 := by
  intro e
  have := congrArg UInt8.toNat e
  rw [dig_of k h] at this
  have e10 : (10 : UInt8).toNat = 10 := rfl
  omega
theorem line_told (n st : Nat) (r : List UInt8) (hs : st ≤ 599) (hr : visF r = true) : ∀ c ∈ statL n st r, c ≠ 10 := by
  intro c hc
  unfold statL at hc
  simp only [List.mem_append, List.mem_cons] at hc
  rcases hc with hc | rfl | hc | rfl | hc
  · rintro rfl
    unfold versL at hc
    split at hc <;> revert hc <;> decide
  · decide
  · unfold digL at hc
    simp only [List.mem_cons, List.not_mem_nil, or_false] at hc
    rcases hc with rfl | rfl | rfl
    · exact dig_small _ (by omega)
    · exact dig_small _ (by omega)
    · exact dig_small _ (by omega)
  · decide
  · have := List.all_eq_true.1 hr c hc
    rintro rfl
    revert this
    decide
theorem put_plain {n : Int} {m t a : List UInt8} (h : putReqF n m t = some a) : (∀ c ∈ a, c ≠ 10) ∧ (n = 0 ∨ n = 1) := by
  unfold putReqF at h
  split at h
  · rename_i hh
    injection h with h
    subst h
    exact ⟨line_plain m t _ hh.2.1 hh.2.2.2.1, by omega⟩
  · cases h
theorem tell_plain {n st : Int} {r b : List UInt8} (h : putStatF n st r = some b) : (∀ c ∈ b, c ≠ 10) ∧ (n = 0 ∨ n = 1) ∧ 100 ≤ st ∧ st ≤ 599 := by
  unfold putStatF at h
  split at h
  · rename_i hh
    injection h with h
    subst h
    exact ⟨line_told _ _ _ (by omega) hh.2.2.2.1, by omega, by omega, by omega⟩
  · cases h
end Go.Proofs.YtemgfppclakdmaaGreatDoor.Sta

namespace Go.Proofs.YtemgfppclakdmaaGreatDoor
open Go.RowKit

def clN9 : List UInt8 := [67, 111, 110, 116, 101, 110, 116, 45, 76, 101, 110, 103, 116, 104]
def isLC (f : Fld) : Bool := sameN lenN f || sameN codN f
def withCL (ls : List Fld) (n : Nat) (length : Bool) : List Fld := if length = true then ls ++ [(clN9, numF 10 n)] else ls
/-- A message's bytes. -/
def putsM (line : List UInt8) (ls : List Fld) (body : List UInt8) (length : Bool) : List UInt8 × Nat :=
  if ls.any isLC = true ∨ mayF ls = false then ([], 1)
  else if 4096 < body.length then ([], 21)
  else if mayF (withCL ls body.length length) = false then ([], 1)
  else if 512 < line.length + 2 ∨ 2048 < line.length + 2 + (linesF (withCL ls body.length length) ++ [13, 10]).length then ([], 21)
  else (line ++ ([13, 10] ++ ((linesF (withCL ls body.length length) ++ [13, 10]) ++ body)), 0)
def putReqM (m t : List UInt8) (n : Int) (ls : List Fld) (body : List UInt8) : List UInt8 × Nat :=
  match Sta.putReqF n m t with
  | none => ([], 1)
  | some line => putsM line ls body (decide (body ≠ []))
def bareM (st : Int) (m : List UInt8) : Bool := !bodyF st m
def putResM (n st : Int) (r : List UInt8) (ls : List Fld) (body m : List UInt8) : List UInt8 × Nat :=
  match Sta.putStatF n st r with
  | none => ([], 1)
  | some line => if bareM st m = true ∧ body ≠ [] then ([], 1) else putsM line ls body (!bareM st m)

theorem listFrom_plain (b : List UInt8) (h : ∀ c ∈ b, c ≠ 34 ∧ c ≠ 44) : ∀ n k, k ≤ b.length → b.length + 2 ≤ n + k → listFrom b n 0 k = (if trimF b = [] then [] else [trimF b])
  | 0, k, h1, h2 => by omega
  | n + 1, k, h1, h2 => by
    rw [listFrom]
    by_cases hk : k < b.length
    · rw [if_pos hk]
      have hm := h b[k] (List.getElem_mem hk)
      rw [List.getElem?_eq_getElem hk, if_neg (by simpa using hm.1), if_neg (by simpa using hm.2)]
      exact listFrom_plain b h n (k + 1) (by omega) (by omega)
    · rw [if_neg hk, if_pos (by omega)]
      rw [List.drop_zero, List.take_of_length_le (by omega)]
theorem dig_byte (c : UInt8) (h : digB 10 c = true) : c ≠ 34 ∧ c ≠ 44 ∧ blankB c = false := by
  have k : ∀ n : Fin 256, digB 10 (UInt8.ofNat n.val) = true → UInt8.ofNat n.val ≠ 34 ∧ UInt8.ofNat n.val ≠ 44 ∧ blankB (UInt8.ofNat n.val) = false := by decide +kernel
  have := k ⟨c.toNat, c.toNat_lt⟩
  simp only [UInt8.ofNat_toNat] at this
  exact this h
theorem num_digs (n : Nat) : ∀ c ∈ numF 10 n, digB 10 c = true := List.all_eq_true.1 (numF_val 10 (by omega) (by omega) n).2
theorem drop_none (l : List UInt8) (h : ∀ c ∈ l, blankB c = false) : l.dropWhile blankB = l := by
  cases l with
  | nil => rfl
  | cons c r => rw [List.dropWhile_cons, h c (by simp)]; rfl
theorem trim_none (l : List UInt8) (h : ∀ c ∈ l, blankB c = false) : trimF l = l := by
  unfold trimF rtrim ltrim
  rw [drop_none l h, drop_none l.reverse (fun c hc => h c (by simpa using hc)), List.reverse_reverse]
theorem list_num (n : Nat) : listF (numF 10 n) = [numF 10 n] := by
  unfold listF
  rw [listFrom_plain _ (fun c hc => ⟨(dig_byte c (num_digs n c hc)).1, (dig_byte c (num_digs n c hc)).2.1⟩) _ 0 (Nat.zero_le _) (by omega)]
  rw [trim_none _ (fun c hc => (dig_byte c (num_digs n c hc)).2.2), if_neg (numF_ne 10 n (by omega))]
theorem read_num (n : Nat) (h : n ≤ 4096) : readF 10 (numF 10 n) = (n, 0) := by
  obtain ⟨h1, h2⟩ := numF_val 10 (by omega) (by omega) n
  rw [readF_ok 10 _ (numF_ne 10 n (by omega)) h2 (by rw [h1]; unfold Most; omega), h1]
theorem lenF_num (n : Nat) (h : n ≤ 4096) : lenF [numF 10 n] = (1, n, 0) := by
  have hr : rdF (numF 10 n) = (n, [], 0) := by
    unfold rdF
    rw [read_num n h]
    rfl
  have hs : sureL [numF 10 n] = true := by
    unfold sureL firstF okL
    simp [hr]
  unfold lenF
  rw [hs]
  have hf : firstF [numF 10 n] = (n, [], 0) := hr
  rw [hf, if_neg (by simp), if_neg (by simp; omega)]
theorem getF_no (ls : List Fld) (nm : List UInt8) (h : ∀ f ∈ ls, sameN nm f = false) : getF ls nm = [] := by
  unfold getF
  rw [List.filter_eq_nil_iff.2 (fun f hf => by rw [h f hf]; simp)]
  rfl
theorem lc_no {ls : List Fld} (h : ls.any isLC = false) : getF ls lenN = [] ∧ getF ls codN = [] := by
  have k : ∀ f ∈ ls, sameN lenN f = false ∧ sameN codN f = false := fun f hf => by
    have := List.any_eq_false.1 h f hf
    unfold isLC at this
    simpa using this
  exact ⟨getF_no ls lenN (fun f hf => (k f hf).1), getF_no ls codN (fun f hf => (k f hf).2)⟩
theorem cl_same : sameN lenN (clN9, []) = true ∧ sameN codN (clN9, []) = false := by decide
/-- What is told of the fields that were put. -/
theorem req_with (n : Int) (ls : List Fld) (k : Nat) (length : Bool) (hn : n = 0 ∨ n = 1) (h : ls.any isLC = false) (hk : k ≤ 4096) : reqK n (withCL ls k length) = if length = true then (1, k, 0) else (0, 0, 0) := by
  obtain ⟨h1, h2⟩ := lc_no h
  unfold withCL
  cases length with
  | false =>
    simp only [Bool.false_eq_true, if_false]
    unfold reqK
    rw [if_neg (by omega), h1, h2]
    rfl
  | true =>
    simp only [if_true]
    have e1 : getF (ls ++ [(clN9, numF 10 k)]) lenN = [numF 10 k] := by
      rw [getF_snoc, h1, if_pos (show sameN lenN (clN9, numF 10 k) = true from cl_same.1)]
      rfl
    have e2 : getF (ls ++ [(clN9, numF 10 k)]) codN = [] := by
      rw [getF_snoc, h2, show sameN codN (clN9, numF 10 k) = false from cl_same.2]
      rfl
    unfold reqK
    rw [if_neg (by omega), e1, e2, if_neg (by simp), if_neg (by simp), if_pos (by simp)]
    rw [show elsF [numF 10 k] = listF (numF 10 k) by simp [elsF], list_num, lenF_num k hk]
theorem first_put (line r : List UInt8) (h : ∀ c ∈ line, c ≠ 10) (hl : line.length + 2 ≤ 512) : firstM (line ++ 13 :: 10 :: r) = (line, line.length + 2, 0) := by
  have hk : lfF 512 (line ++ 13 :: 10 :: r) = some (line.length + 1) := by
    refine lf_of 512 _ _ (by omega) ?_ (fun j hj => ?_)
    · rw [List.getElem?_append_right (by omega), show line.length + 1 - line.length = 1 by omega]
      rfl
    · by_cases hj2 : j < line.length
      · rw [List.getElem?_append_left hj2]
        intro he
        exact h 10 (List.mem_of_getElem? he) rfl
      · obtain rfl : j = line.length := by omega
        rw [List.getElem?_append_right (by omega), Nat.sub_self]
        simp
  unfold firstM
  rw [hk]
  simp only
  rw [if_neg, Nat.add_sub_cancel, List.take_left' rfl]
  rw [Nat.add_sub_cancel, List.getElem?_append_right (by omega), Nat.sub_self]
  simp
section
variable {α : Type} {begin : List UInt8 → Option α} {kind : α → List Fld → Kd}
/-- What was put is read back. -/
theorem puts_back (line : List UInt8) (ls : List Fld) (body : List UInt8) (length : Bool) (b : List UInt8) (a : α) (h : putsM line ls body length = (b, 0)) (hline : ∀ c ∈ line, c ≠ 10) (hb : begin line = some a)
    (hk : kind a (withCL ls body.length length) = if length = true then (1, body.length, 0) else (0, 0, 0)) (hl : length = false → body = []) : msgM begin kind false b = (some (a, withCL ls body.length length, body), b.length, 0) := by
  unfold putsM at h
  split at h
  · cases h
  · split at h
    · cases h
    · split at h
      · cases h
      · next hm =>
        split at h
        · cases h
        · next h3 =>
          injection h with h _
          obtain ⟨all, hall⟩ : ∃ all, withCL ls body.length length = all := ⟨_, rfl⟩
          rw [hall] at h hm h3 hk ⊢
          obtain ⟨P, hP⟩ : ∃ P, linesF all ++ [13, 10] = P := ⟨_, rfl⟩
          rw [hP] at h h3
          have hf : firstM b = (line, line.length + 2, 0) := by
            rw [← h]
            exact first_put line _ hline (by omega)
          have hpre : b = (line ++ [13, 10]) ++ (P ++ body) := by rw [← h]; simp
          have hpl : (line ++ [13, 10]).length = line.length + 2 := by simp
          have hd : (b.take 2048).drop (line.length + 2) = P ++ body.take (2048 - (line.length + 2) - P.length) := by
            rw [hpre, List.take_append, List.take_of_length_le (by omega), List.drop_left' hpl, List.take_append, List.take_of_length_le (by omega), hpl]
          have hq : parseH ((b.take 2048).drop (line.length + 2)) = (all, P.length, 0) := by
            rw [hd, ← hP]
            exact parse_put all _ (by simpa using hm)
          have hg : fieldsM b (line.length + 2) = (all, line.length + 2 + P.length, 0) := by
            unfold fieldsM
            rw [hq, if_neg (by simp), if_neg (by simp)]
          have hbl : b.length = line.length + 2 + P.length + body.length := by rw [hpre]; simp; omega
          have hdb : b.drop (line.length + 2 + P.length) = body := by
            rw [hpre, show (line ++ [13, 10]) ++ (P ++ body) = ((line ++ [13, 10]) ++ P) ++ body by simp]
            exact List.drop_left' (by simp; omega)
          have hbm : bodyM body (kind a all) false = (body, body.length, 0) := by
            rw [hk]
            unfold bodyM
            cases length with
            | true => simp
            | false =>
              rw [hl rfl]
              simp
          have hke : (kind a all).2.2 = 0 := by rw [hk]; split <;> rfl
          unfold msgM lineM
          rw [hf, if_neg (by simp)]
          simp only [hb, hg]
          unfold restM
          rw [if_neg (by simp)]
          simp only
          rw [if_neg (fun h => h hke), hdb, hbm]
          unfold doneM
          rw [if_neg (by simp)]
          simp [hbl]
end
theorem putReq_back {m t : List UInt8} {n : Int} {ls : List Fld} {body b : List UInt8} (h : putReqM m t n ls body = (b, 0)) :
    requestM b = (some ((m, t, n.toNat), withCL ls body.length (decide (body ≠ [])), body), b.length, 0) ∧ (n.toNat : Int) = n ∧ 0 < b.length := by
  unfold putReqM at h
  split at h
  · cases h
  · next line hl =>
    obtain ⟨f1, _, _, _, f5⟩ := Sta.put_facts hl
    obtain ⟨g1, g2⟩ := Sta.put_plain hl
    have hlc : ls.any isLC = false := by
      cases hq : ls.any isLC with
      | false => rfl
      | true => unfold putsM at h; rw [if_pos (.inl hq)] at h; cases h
    have hbl : body.length ≤ 4096 := by
      by_cases hq : 4096 < body.length
      · unfold putsM at h
        split at h
        · cases h
        · first | cases h | (rw [if_pos hq] at h; cases h)
      · omega
    have hb := puts_back (kind := fun a l => reqK ((a.2.2 : Nat) : Int) l) line ls body _ b (m, t, n.toNat) h g1 f1 (req_with _ ls body.length _ (show ((n.toNat : Nat) : Int) = 0 ∨ ((n.toNat : Nat) : Int) = 1 by omega) hlc hbl) (fun hd => by simpa using hd)
    refine ⟨hb, f5, ?_⟩
    rcases request_range b with ⟨_, _, _, _, _, _, _⟩ | ⟨q, _, _⟩
    · by_cases hb0 : b.length = 0
      · have hb1 : b = [] := List.eq_nil_of_length_eq_zero hb0
        subst hb1
        have : requestM [] = (none, 0, 8) := rfl
        unfold requestM at this
        rw [hb] at this
        cases this
      · omega
    · unfold requestM at q
      rw [hb] at q
      exact absurd rfl q
theorem putRes_back {n st : Int} {r m : List UInt8} {ls : List Fld} {body b : List UInt8} (h : putResM n st r ls body m = (b, 0)) :
    responseM b m false = (some ((n.toNat, st.toNat, r), withCL ls body.length (!bareM st m), body), b.length, 0) ∧ (n.toNat : Int) = n ∧ (st.toNat : Int) = st ∧ 0 < b.length := by
  unfold putResM at h
  split at h
  · cases h
  · next line hl =>
    obtain ⟨f1, _, _, f4, f5⟩ := Sta.tell_facts hl
    obtain ⟨g1, g2, g3, g4⟩ := Sta.tell_plain hl
    split at h
    · cases h
    · next hbare =>
      have hlc : ls.any isLC = false := by
        cases hq : ls.any isLC with
        | false => rfl
        | true => unfold putsM at h; rw [if_pos (.inl hq)] at h; cases h
      have hbl : body.length ≤ 4096 := by
        by_cases hq : 4096 < body.length
        · unfold putsM at h
          split at h
          · cases h
          · first | cases h | (rw [if_pos hq] at h; cases h)
        · omega
      have hk : resK ((st.toNat : Nat) : Int) m (reqK ((n.toNat : Nat) : Int) (withCL ls body.length (!bareM st m))) = if (!bareM st m) = true then (1, body.length, 0) else (0, 0, 0) := by
        rw [req_with _ ls body.length _ (by omega) hlc hbl, f5]
        unfold resK
        rw [if_neg (by omega)]
        unfold bareM
        cases hq : bodyF st m with
        | true => simp
        | false => simp
      obtain ⟨a, ha⟩ : ∃ a : RsM, (n.toNat, st.toNat, r) = a := ⟨_, rfl⟩
      have hk2 : resK (a.2.1 : Int) m (reqK (a.1 : Int) (withCL ls body.length (!bareM st m))) = if (!bareM st m) = true then (1, body.length, 0) else (0, 0, 0) := by rw [← ha]; exact hk
      rw [ha] at f1 ⊢
      have hb := puts_back (begin := Sta.statF) (kind := fun a l => resK (a.2.1 : Int) m (reqK (a.1 : Int) l)) line ls body (!bareM st m) b a h g1 f1 hk2 (fun hd => by
        by_cases hb0 : body = []
        · exact hb0
        · exact absurd ⟨by simpa using hd, hb0⟩ hbare)
      refine ⟨hb, f4, f5, ?_⟩
      by_cases hb0 : b.length = 0
      · have hb1 : b = [] := List.eq_nil_of_length_eq_zero hb0
        subst hb1
        have : responseM [] m false = (none, 0, 8) := rfl
        unfold responseM at this
        rw [hb] at this
        cases this
      · omega
end Go.Proofs.YtemgfppclakdmaaGreatDoor
