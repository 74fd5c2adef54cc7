/-
  First lines: versions and targets: plain mathematics.
  Conditions: those that each theorem names.
-/
import Derived.Test.YteggdakbebnjfaaDoorPA
namespace Go.Proofs.YteggdakbebnjfaaDoor
open Go.RowKit

/-- The version with this minor; the minor of a version; what may be a target. -/
def versL (n : Nat) : List UInt8 := [72, 84, 84, 80, 47, 49, 46, if n = 0 then 48 else 49]
def minorF (l : List UInt8) : Option Nat := if l = versL 0 then some 0 else if l = versL 1 then some 1 else none
def targB (c : UInt8) : Bool := decide (33 ≤ c.toNat) && decide (c.toNat ≤ 126)
def targF (l : List UInt8) : Bool := !l.isEmpty && l.all targB
def minI (r : Option Nat) : Int := match r with | none => -1 | some n => (n : Int)
theorem minor_vers (n : Nat) (h : n ≤ 1) : minorF (versL n) = some n := by
  rcases (show n = 0 ∨ n = 1 by omega) with rfl | rfl <;> decide
theorem minor_some {l : List UInt8} {n : Nat} (h : minorF l = some n) : l = versL n ∧ n ≤ 1 := by
  unfold minorF at h
  split at h
  · rename_i h1
    injection h with h
    subst h
    exact ⟨h1, by omega⟩
  · split at h
    · rename_i h1
      injection h with h
      subst h
      exact ⟨h1, by omega⟩
    · cases h
theorem targ_mem {l : List UInt8} (h : targF l = true) : l ≠ [] ∧ ∀ c ∈ l, targB c = true := by
  unfold targF at h
  simp only [Bool.and_eq_true, Bool.not_eq_true', List.all_eq_true] at h
  exact ⟨by intro e; rw [e] at h; simp at h, h.2⟩
theorem eq_str {s : ByteArray} {l : List UInt8} : (s.toList == l) = decide (bl s = l) := by
  rw [Lib.toList_data]
  show (bl s == l) = _
  by_cases h : bl s = l
  · rw [h]; simp
  · rw [decide_eq_false h]; exact beq_false_of_ne h

theorem targ_no (l : List UInt8) (k : Nat) (c : UInt8) (h : l[k]? = some c) (hc : targB c = false) : targF l = false := by
  have : l.all targB = false := by
    rw [Bool.eq_false_iff]
    intro hall
    rw [List.all_eq_true.1 hall c (List.mem_of_getElem? h)] at hc
    cases hc
  unfold targF
  rw [this]
  simp
end Go.Proofs.YteggdakbebnjfaaDoor
