/-
  What the reference's May answers.
  Conditions: those that each theorem names.
-/
import Derived.Test.YtbkpiadbgpnhlaaDoorHA
import Derived.Deep.RegionHeld3
import Derived.WalkSmall
import Derived.IntWalk
namespace Go.Proofs.YtbkpiadbgpnhlaaDoor
open Go.RowKit

/-- The length of a field's plain line; whether it may be; the length of all. -/
def lineL (f : Fld) : Nat := f.1.length + 2 + f.2.length
def lineOk (f : Fld) : Bool := decide (lineL f ≤ 512) && (tokF f.1 && (visF f.2 && (trimF f.2 == f.2)))
def sumL (ls : List Fld) : Nat := 2 + (ls.map fun f => lineL f + 2).sum
def mayF (ls : List Fld) : Bool := decide (ls.length ≤ 32) && (ls.all lineOk && decide (sumL ls ≤ 2048))
/-- Texts that Go can hold. -/
def Slim (ls : List Fld) : Prop := ∀ f ∈ ls, f.1.length ≤ 140737488351232 ∧ f.2.length ≤ 140737488351232
theorem sumL_snoc (ls : List Fld) (f : Fld) : sumL (ls ++ [f]) = sumL ls + (lineL f + 2) := by
  simp [sumL]
  omega
theorem sumL_take (ls : List Fld) (k : Nat) : sumL (ls.take k) ≤ sumL ls := by
  have e : ls.map (fun f => lineL f + 2) = (ls.take k).map (fun f => lineL f + 2) ++ (ls.drop k).map (fun f => lineL f + 2) := by rw [← List.map_append, List.take_append_drop]
  unfold sumL
  rw [e, List.sum_append]
  omega
theorem take_snoc {α : Type} (ls : List α) (k : Nat) (f : α) (h : ls[k]? = some f) : ls.take (k + 1) = ls.take k ++ [f] := by
  rw [List.take_add_one, h]
  rfl
theorem may_line (ls : List Fld) (k : Nat) (f : Fld) (h : ls[k]? = some f) (hn : lineOk f = false) : mayF ls = false := by
  have : ls.all lineOk = false := by
    rw [← Bool.not_eq_true, List.all_eq_true]
    intro hall
    rw [hall f (List.mem_of_getElem? h)] at hn
    cases hn
  simp [mayF, this]
theorem may_sum (ls : List Fld) (k : Nat) (h : 2048 < sumL (ls.take k)) : mayF ls = false := by
  have := sumL_take ls k
  simp [mayF]
  intro _ _
  omega
theorem beq_no2 {t s : ByteArray} (h : ¬ t = s) : (t.toList == s.toList) = false := by
  rw [Lib.toList_data, Lib.toList_data]
  refine beq_false_of_ne fun e => h ?_
  rw [← mk_bl t, ← mk_bl s]
  unfold bl
  rw [e]
theorem still {f : FuncId} {args : Array Value} {v : Value} {X : World} (h : Calls Tryd.prog f args X fun e w' => e = .returned v ∧ X = w') : Calls Tryd.prog f args X fun e w' => e = .returned v ∧ w' = X :=
  h.mono fun _ _ h => ⟨h.1, h.2.symm⟩
theorem add_next (ad : Addr) (i : Nat) : (⟨(ad.add (i * 2)).block, (ad.add (i * 2)).off + 1, none⟩ : Addr) = ad.add (i * 2 + 1) := by
  unfold Addr.add
  rw [if_neg (show ¬ i * 2 + 1 = 0 by omega)]
  split
  · rename_i h
    rw [h]
  · rfl

end Go.Proofs.YtbkpiadbgpnhlaaDoor
