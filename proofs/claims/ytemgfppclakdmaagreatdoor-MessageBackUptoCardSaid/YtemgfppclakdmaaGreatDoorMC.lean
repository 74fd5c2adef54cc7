/-
  Plain mathematics: fields that are read of bytes are few and short.
  Conditions: none.
-/
import Derived.Test.YtemgfppclakdmaaGreatDoorMB
import Derived.Test.YtemgfppclakdmaaGreatDoorFM
namespace Go.Proofs.YtemgfppclakdmaaGreatDoor
open Go.RowKit

theorem trim_short (l : List UInt8) : (trimF l).length ≤ l.length := by
  unfold trimF rtrim ltrim
  rw [List.length_reverse]
  have h1 := (List.dropWhile_sublist blankB (l := (l.dropWhile blankB).reverse)).length_le
  have h2 := (List.dropWhile_sublist blankB (l := l)).length_le
  rw [List.length_reverse] at h1
  omega
def Sm9 (at0 : Nat) (nm v : List UInt8) (l : List Fld) : Prop := nm.length ≤ at0 ∧ v.length ≤ at0 ∧ ∀ f ∈ l, f.1.length ≤ 2048 ∧ f.2.length ≤ 2048
theorem Sm9.step {at0 part long part' long' : Nat} {nm v nm' v' : List UInt8} {l l' : List Fld} {c : UInt8} (h : Sm9 at0 nm v l) (hs : stepF at0 c part long nm v l = .go part' long' nm' v' l') : Sm9 (at0 + 1) nm' v' l' := by
  obtain ⟨h1, h2, h3⟩ := h
  unfold stepF at hs
  repeat' split at hs
  all_goals
    first
      | (cases hs; done)
      | (injection hs with e1 e2 e3 e4 e5
         subst e1 e2 e3 e4 e5
         refine ⟨?_, ?_, ?_⟩ <;> first
           | omega
           | exact h3
           | (rw [List.length_append, List.length_singleton]; omega)
           | (simp; done)
           | (intro f hf
              rw [List.mem_append, List.mem_singleton] at hf
              rcases hf with hf | rfl
              · exact h3 f hf
              · have := trim_short v
                exact ⟨by show nm.length ≤ 2048; omega, by show (trimF v).length ≤ 2048; omega⟩))
theorem run_small : ∀ (b : List UInt8) (at0 part long : Nat) (nm v : List UInt8) (l : List Fld), Sm9 at0 nm v l → ∀ f ∈ (runF at0 part long nm v l b).1, f.1.length ≤ 2048 ∧ f.2.length ≤ 2048
  | [], _, _, _, _, _, _, _ => by simp [runF]
  | c :: b, at0, part, long, nm, v, l, hS => by
    cases hs : stepF at0 c part long nm v l with
    | stop l2 n2 e2 =>
      rw [runF_stop hs]
      have : l2 = [] ∨ l2 = l := by
        unfold stepF at hs
        repeat' split at hs
        all_goals
          first
            | (cases hs; done)
            | (injection hs with e1 _ _; exact .inl e1.symm)
            | (injection hs with e1 _ _; exact .inr e1.symm)
      rcases this with rfl | rfl
      · simp
      · exact hS.2.2
    | go part' long' nm' v' l2 =>
      rw [runF_go hs]
      exact run_small b _ _ _ _ _ _ (hS.step hs)
theorem bulk_few (ls : List Fld) (h : ∀ f ∈ ls, f.1.length ≤ 2048 ∧ f.2.length ≤ 2048) : bulkF ls ≤ ls.length * 4099 := by
  induction ls with
  | nil => simp [bulkF]
  | cons f r ih =>
    have h1 := h f (by simp)
    have h2 := ih (fun g hg => h g (by simp [hg]))
    rw [bulkF_cons, List.length_cons]
    omega
theorem parse_bulk (b : List UInt8) (l : List Fld) (n : Nat) (h : parseH b = (l, n, 0)) : bulkF l ≤ 1000000 := by
  have h1 := (parse_fine b l n h).2
  have h2 := run_small b 0 0 0 [] [] [] ⟨by simp, by simp, fun _ h => by cases h⟩
  have h3 : runF 0 0 0 [] [] [] b = (l, n, 0) := h
  rw [h3] at h2
  have := bulk_few l h2
  omega
theorem fieldsM_bulk (b : List UInt8) (at0 : Nat) : bulkF (fieldsM b at0).1 ≤ 1000000 := by
  obtain ⟨l, u, e, hq⟩ : ∃ l u e, parseH ((b.take 2048).drop at0) = (l, u, e) := ⟨_, _, _, rfl⟩
  unfold fieldsM
  rw [hq]
  simp only
  split
  · simp [bulkF]
  · split
    · simp [bulkF]
    · next h0 =>
      have he : e = 0 := by simpa using h0
      rw [he] at hq
      exact parse_bulk _ l u hq
end Go.Proofs.YtemgfppclakdmaaGreatDoor
