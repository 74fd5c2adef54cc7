/-
  What the reference's Get answers.
  Conditions: those that each theorem names.
-/
import Derived.Test.YtbkpiadbgpnhlaaDoorHC
namespace Go.Proofs.YtbkpiadbgpnhlaaDoor
open Go.RowKit

/-- The values of a name's fields. -/
def sameN (nm : List UInt8) (f : Fld) : Bool := lowF f.1 == lowF nm
def getF (ls : List Fld) (nm : List UInt8) : List (List UInt8) := (ls.filter (sameN nm)).map (·.2)
/-- Texts are told, in a slice of the call's own; nothing that was there has turned. -/
def GotS (ls : List (List UInt8)) (w : World) (e : Ending) (w' : World) : Prop := ∃ v o, e = .returned v ∧ OwnS w' v o ls ∧ (∀ b, o = some b → w.heap.size ≤ b) ∧ Below w.heap.size w w'
theorem getF_snoc (ls : List Fld) (f : Fld) (nm : List UInt8) : getF (ls ++ [f]) nm = getF ls nm ++ (if sameN nm f = true then [f.2] else []) := by
  unfold getF
  rw [List.filter_append, List.map_append]
  congr 1
  cases h : sameN nm f <;> simp [h]
theorem getF_length (ls : List Fld) (nm : List UInt8) : (getF ls nm).length ≤ ls.length := by
  unfold getF
  rw [List.length_map]
  exact List.length_filter_le _ _
theorem own_turn {W wr w' : World} {o o' : Option Nat} (hB : Below W.heap.size W wr) (ho : ∀ b, o = some b → W.heap.size ≤ b) (ht : Turn (fun b => o = some b) wr w') (ho' : ∀ b, o' = some b → o = some b ∨ wr.heap.size ≤ b) :
    Below W.heap.size W w' ∧ ∀ b, o' = some b → W.heap.size ≤ b := by
  have := hB.size
  refine ⟨hB.trans ⟨ht.os, ht.tape, ht.output, ht.size, fun b hb => ht.block b (by omega) (fun h => by have := ho b h; omega)⟩, fun b hb => ?_⟩
  rcases ho' b hb with h | h
  · exact ho b h
  · omega

end Go.Proofs.YtbkpiadbgpnhlaaDoor
