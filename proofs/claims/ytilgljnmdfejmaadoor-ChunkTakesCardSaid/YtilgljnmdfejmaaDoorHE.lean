/-
  What the reference's Drop and With answer.
  Conditions: those that each theorem names.
-/
import Derived.Test.YtilgljnmdfejmaaDoorHD
namespace Go.Proofs.YtilgljnmdfejmaaDoor
open Go.RowKit

/-- Is a field of one of these names? The fields without them. -/
def goneF (names : List (List UInt8)) (f : Fld) : Bool := names.any fun nm => lowF f.1 == lowF nm
def dropF (ls : List Fld) (names : List (List UInt8)) : List Fld := ls.filter fun f => !goneF names f
def withF (ls : List Fld) (nm v : List UInt8) : List Fld := dropF ls [nm] ++ [(nm, v)]
/-- Fields are told, in a slice of the call's own; nothing that was there has turned. -/
def GotF (ls : List Fld) (w : World) (e : Ending) (w' : World) : Prop := ∃ v o, e = .returned v ∧ OwnF w' v o ls ∧ (∀ b, o = some b → w.heap.size ≤ b) ∧ Below w.heap.size w w'
def SlimS (ls : List (List UInt8)) : Prop := ∀ x ∈ ls, x.length ≤ 140737488351232
theorem dropF_snoc (ls : List Fld) (f : Fld) (names : List (List UInt8)) : dropF (ls ++ [f]) names = dropF ls names ++ (if goneF names f = true then [] else [f]) := by
  unfold dropF
  rw [List.filter_append]
  congr 1
  cases h : goneF names f <;> simp [h]
theorem dropF_length (ls : List Fld) (names : List (List UInt8)) : (dropF ls names).length ≤ ls.length := List.length_filter_le _ _
theorem gone_snoc (names : List (List UInt8)) (nm : List UInt8) (f : Fld) : goneF (names ++ [nm]) f = (goneF names f || (lowF f.1 == lowF nm)) := by simp [goneF]

end Go.Proofs.YtilgljnmdfejmaaDoor
