/-
  What the reference's Drop and With answer.
  Conditions: those that each theorem names.
-/
import Derived.Test.YtemgfppclakdmaaGreatDoorHC
namespace Go.Proofs.YtemgfppclakdmaaGreatDoor
open Go.RowKit

/-- The values of a name's fields. -/
def sameN (nm : List UInt8) (f : Fld) : Bool := lowF f.1 == lowF nm
def getF (ls : List Fld) (nm : List UInt8) : List (List UInt8) := (ls.filter (sameN nm)).map (·.2)
/-- Texts are told, in a slice of the call's own; nothing that was there has turned. -/
def GotS (ls : List (List UInt8)) (w : World) (e : Ending) (w' : World) : Prop := ∃ v o, e = .returned v ∧ OwnS w' v o ls ∧ (∀ b, o = some b → w.heap.size ≤ b) ∧ Below w.heap.size w w'
theorem getF_snoc (ls : List Fld) (f : Fld) (nm : List UInt8) : getF (ls ++ [f]) nm = getF ls nm ++ (if sameN nm f = true then [f.2] else []) := by
  unfold getF
  rw [List.filter_append, List.map_append]
  congr 1
  cases h : sameN nm f <;> simp [h]
theorem getF_length (ls : List Fld) (nm : List UInt8) : (getF ls nm).length ≤ ls.length := by
  unfold getF
  rw [List.length_map]
  exact List.length_filter_le _ _
theorem own_turn {W wr w' : World} {o o' : Option Nat} (hB : Below W.heap.size W wr) (ho : ∀ b, o = some b → W.heap.size ≤ b) (ht : Turn (fun b => o = some b) wr w') (ho' : ∀ b, o' = some b → o = some b ∨ wr.heap.size ≤ b) :
    Below W.heap.size W w' ∧ ∀ b, o' = some b → W.heap.size ≤ b := by
  have := hB.size
  refine ⟨hB.trans ⟨ht.os, ht.tape, ht.output, ht.size, fun b hb => ht.block b (by omega) (fun h => by have := ho b h; omega)⟩, fun b hb => ?_⟩
  rcases ho' b hb with h | h
  · exact ho b h
  · omega

end Go.Proofs.YtemgfppclakdmaaGreatDoor

namespace Go.Proofs.YtemgfppclakdmaaGreatDoor
open Go.RowKit

/-- Is a field of one of these names? The fields without them. -/
def goneF (names : List (List UInt8)) (f : Fld) : Bool := names.any fun nm => lowF f.1 == lowF nm
def dropF (ls : List Fld) (names : List (List UInt8)) : List Fld := ls.filter fun f => !goneF names f
def withF (ls : List Fld) (nm v : List UInt8) : List Fld := dropF ls [nm] ++ [(nm, v)]
/-- Fields are told, in a slice of the call's own; nothing that was there has turned. -/
def GotF (ls : List Fld) (w : World) (e : Ending) (w' : World) : Prop := ∃ v o, e = .returned v ∧ OwnF w' v o ls ∧ (∀ b, o = some b → w.heap.size ≤ b) ∧ Below w.heap.size w w'
def SlimS (ls : List (List UInt8)) : Prop := ∀ x ∈ ls, x.length ≤ 140737488351232
theorem dropF_snoc (ls : List Fld) (f : Fld) (names : List (List UInt8)) : dropF (ls ++ [f]) names = dropF ls names ++ (if goneF names f = true then [] else [f]) := by
  unfold dropF
  rw [List.filter_append]
  congr 1
  cases h : goneF names f <;> simp [h]
theorem dropF_length (ls : List Fld) (names : List (List UInt8)) : (dropF ls names).length ≤ ls.length := List.length_filter_le _ _
theorem gone_snoc (names : List (List UInt8)) (nm : List UInt8) (f : Fld) : goneF (names ++ [nm]) f = (goneF names f || (lowF f.1 == lowF nm)) := by simp [goneF]
/-- What the k-th element of a list of texts reads, in any later world. -/
theorem SrcS.at {P : Nat → Prop} {w wr : World} {A : Option Addr} {ls : List (List UInt8)} {n c k : Nat} (h : SrcS w P A ls) (hn : ls.length = n) (hlt : k < n) (hB : Below w.heap.size w wr) :
    ∃ (p : Addr) (x : List UInt8), ls[k]? = some x ∧ (∀ Wx, (Instr.indexAt 114 (.slice A n c) (.int .i64 (k : Int))).run Tryz.prog Wx = .ok (.pointer (some p)) Wx) ∧
      wr.cell? p = some (.string ⟨x.toArray⟩) ∧ P p.block ∧ p.block < w.heap.size := by
  obtain ⟨ad, hA, hP, hadb, hc⟩ := h (by omega)
  obtain ⟨x, hx⟩ : ∃ x, ls[k]? = some x := ⟨ls[k]'(by omega), List.getElem?_eq_getElem _⟩
  have c1 := hc k x hx
  have hblk : (ad.add k).block = ad.block := by unfold Addr.add; split <;> rfl
  refine ⟨ad.add k, x, hx, fun Wx => ?_, (hB.cell (Lib.lt_of_cell c1)).trans c1, by rw [hblk]; exact hP, by rw [hblk]; exact hadb⟩
  rw [hA]
  exact run_at 114 9 Tryz.underlying114 strSize ad n c k hlt Wx

end Go.Proofs.YtemgfppclakdmaaGreatDoor
