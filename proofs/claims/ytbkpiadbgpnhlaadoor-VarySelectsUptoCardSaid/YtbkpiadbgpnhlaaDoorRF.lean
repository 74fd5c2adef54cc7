/-
  What the document's own text functions do (the reference): Pair.
  Conditions: those that each theorem names.
-/
import Derived.Test.YtbkpiadbgpnhlaaDoorRE
namespace Go.Proofs.YtbkpiadbgpnhlaaDoor
open Go.RowKit


/-- Where the first '=' stands; how many bytes there are, if there is none. -/
def eqAt (l : List UInt8) : Nat := l.findIdx (· == 61)
def pairF (l : List UInt8) : Option (List UInt8 × List UInt8) :=
  if tokF (l.take (eqAt l)) = false then none
  else if eqAt l = l.length then some (lowF l, [])
  else if tokF (l.drop (eqAt l + 1)) = true then some (lowF (l.take (eqAt l)), l.drop (eqAt l + 1))
  else (unqF (l.drop (eqAt l + 1))).map fun x => (lowF (l.take (eqAt l)), x)
/-- Three results: two texts, and whether there are any. -/
def Pairs (r : Option (List UInt8 × List UInt8)) (w : World) (e : Ending) (w' : World) : Prop :=
  e = .returned (.tuple #[.string ⟨((r.map (·.1)).getD []).toArray⟩, .string ⟨((r.map (·.2)).getD []).toArray⟩, .bool r.isSome]) ∧ Below w.heap.size w w'

theorem eq61 (c : UInt8) : c = 61 ↔ (c.toNat : Int) = 61 := u8_eq c 61 (by omega)
theorem eqAt_none (l : List UInt8) (k : Nat) (h : ∀ j c, j < k → l[j]? = some c → c ≠ 61) (hk : k = l.length) : eqAt l = l.length := by
  unfold eqAt
  rw [List.findIdx_eq_length]
  intro x hx
  obtain ⟨j, hj, rfl⟩ := List.mem_iff_getElem.1 hx
  simpa using h j _ (by omega) (List.getElem?_eq_getElem hj)
theorem eqAt_some (l : List UInt8) (k : Nat) (c : UInt8) (h : ∀ j c, j < k → l[j]? = some c → c ≠ 61) (hk : l[k]? = some c) (hc : c = 61) : eqAt l = k := by
  unfold eqAt
  have hlt : k < l.length := (List.getElem?_eq_some_iff.1 hk).1
  rw [List.findIdx_eq hlt]
  refine ⟨?_, fun j hj => ?_⟩
  · have := (List.getElem?_eq_some_iff.1 hk).2
    rw [this, hc]
    rfl
  · have := h j _ hj (List.getElem?_eq_getElem (by omega))
    simpa using this

def PairRel (s : ByteArray) (w : World) (i : Value) (wx : World) : Prop := ∃ k : Nat, k ≤ s.size ∧ i = .int .i64 (k : Int) ∧ (∀ j c, j < k → (bl s)[j]? = some c → c ≠ 61) ∧ w = wx

end Go.Proofs.YtbkpiadbgpnhlaaDoor
