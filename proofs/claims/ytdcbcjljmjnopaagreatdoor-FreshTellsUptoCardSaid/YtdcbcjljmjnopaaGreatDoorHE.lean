/-
  What the reference's Drop and With answer.
  Conditions: those that each theorem names.
-/
import Derived.Test.YtdcbcjljmjnopaaGreatDoorHD
namespace Go.Proofs.YtdcbcjljmjnopaaGreatDoor
open Go.RowKit

/-- Is a field of one of these names? The fields without them. -/
def goneF (names : List (List UInt8)) (f : Fld) : Bool := names.any fun nm => lowF f.1 == lowF nm
def dropF (ls : List Fld) (names : List (List UInt8)) : List Fld := ls.filter fun f => !goneF names f
def withF (ls : List Fld) (nm v : List UInt8) : List Fld := dropF ls [nm] ++ [(nm, v)]
/-- Fields are told, in a slice of the call's own; nothing that was there has turned. -/
def GotF (ls : List Fld) (w : World) (e : Ending) (w' : World) : Prop := ∃ v o, e = .returned v ∧ OwnF w' v o ls ∧ (∀ b, o = some b → w.heap.size ≤ b) ∧ Below w.heap.size w w'
def SlimS (ls : List (List UInt8)) : Prop := ∀ x ∈ ls, x.length ≤ 140737488351232
theorem dropF_snoc (ls : List Fld) (f : Fld) (names : List (List UInt8)) : dropF (ls ++ [f]) names = dropF ls names ++ (if goneF names f = true then [] else [f]) := by
  unfold dropF
  rw [List.filter_append]
  congr 1
  cases h : goneF names f <;> simp [h]
theorem dropF_length (ls : List Fld) (names : List (List UInt8)) : (dropF ls names).length ≤ ls.length := List.length_filter_le _ _
theorem gone_snoc (names : List (List UInt8)) (nm : List UInt8) (f : Fld) : goneF (names ++ [nm]) f = (goneF names f || (lowF f.1 == lowF nm)) := by simp [goneF]
/-- What the k-th element of a list of texts reads, in any later world. -/
theorem SrcS.at {P : Nat → Prop} {w wr : World} {A : Option Addr} {ls : List (List UInt8)} {n c k : Nat} (h : SrcS w P A ls) (hn : ls.length = n) (hlt : k < n) (hB : Below w.heap.size w wr) :
    ∃ (p : Addr) (x : List UInt8), ls[k]? = some x ∧ (∀ Wx, (Instr.indexAt 48 (.slice A n c) (.int .i64 (k : Int))).run Tryz.prog Wx = .ok (.pointer (some p)) Wx) ∧
      wr.cell? p = some (.string ⟨x.toArray⟩) ∧ P p.block ∧ p.block < w.heap.size := by
  obtain ⟨ad, hA, hP, hadb, hc⟩ := h (by omega)
  obtain ⟨x, hx⟩ : ∃ x, ls[k]? = some x := ⟨ls[k]'(by omega), List.getElem?_eq_getElem _⟩
  have c1 := hc k x hx
  have hblk : (ad.add k).block = ad.block := by unfold Addr.add; split <;> rfl
  refine ⟨ad.add k, x, hx, fun Wx => ?_, (hB.cell (Lib.lt_of_cell c1)).trans c1, by rw [hblk]; exact hP, by rw [hblk]; exact hadb⟩
  rw [hA]
  exact run_at 48 9 Tryz.underlying48 strSize ad n c k hlt Wx
theorem SrcS.below {w w' : World} {P : Nat → Prop} {A : Option Addr} {ls : List (List UInt8)} (h : SrcS w P A ls) (hb : Below w.heap.size w w') : SrcS w' P A ls := fun h0 => by
  obtain ⟨ad, h1, h2, h3, h4⟩ := h h0
  exact ⟨ad, h1, h2, Nat.lt_of_lt_of_le h3 hb.size, fun i f hf => (hb.cell (Lib.lt_of_cell (h4 i f hf))).trans (h4 i f hf)⟩

end Go.Proofs.YtdcbcjljmjnopaaGreatDoor
