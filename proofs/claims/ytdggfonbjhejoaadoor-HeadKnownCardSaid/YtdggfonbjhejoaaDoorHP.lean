/-
  What package head's calls should answer, as one word; and the law's rows.
  Conditions: that word.
-/
import Derived.Test.YtdggfonbjhejoaaDoorHI
import Derived.Test.YtdggfonbjhejoaaDoorHO
import Derived.Test.YtdggfonbjhejoaaDoorKA
namespace Go.Proofs.YtdggfonbjhejoaaDoor
open Go.RowKit

theorem SrcS.below {w w' : World} {P : Nat → Prop} {A : Option Addr} {ls : List (List UInt8)} (h : SrcS w P A ls) (hb : Below w.heap.size w w') : SrcS w' P A ls := fun h0 => by
  obtain ⟨ad, h1, h2, h3, h4⟩ := h h0
  exact ⟨ad, h1, h2, Nat.lt_of_lt_of_le h3 hb.size, fun i f hf => (hb.cell (Lib.lt_of_cell (h4 i f hf))).trans (h4 i f hf)⟩
/-- What Put tells: bytes, or none and ErrArg. -/
def PutOf (r : Option (List UInt8)) (w : World) (e : Ending) (w' : World) : Prop :=
  ∃ A c, e = .returned (.tuple #[.slice A (r.getD []).length c, .int .i64 (if r.isSome = true then 0 else 1)]) ∧ (r.getD []).length ≤ c ∧ Src w' (fun b => w.heap.size ≤ b) A (r.getD []) ∧ Below w.heap.size w w'
/-- What package head's calls answer. -/
structure HeadC : Prop where
  may : ∀ {P : Nat → Prop} (w : World) (A : Option Addr) (ls : List Fld) (n c : Nat), ls.length = n → n * 32 ≤ 140737488351232 + 32 → SrcF w P A ls → Slim ls → Calls Tryd.prog 16 #[.slice A n c] w fun e w' => e = .returned (.bool (mayF ls)) ∧ Below w.heap.size w w'
  put : ∀ {P : Nat → Prop} (w : World) (A : Option Addr) (ls : List Fld) (n c : Nat), ls.length = n → n * 32 ≤ 140737488351232 + 32 → SrcF w P A ls → Slim ls → Calls Tryd.prog 14 #[.slice A n c] w (PutOf (putF ls) w)
  parse : ∀ {P : Nat → Prop} (w : World) (A : Option Addr) (bs : List UInt8) (n c : Nat), bs.length = n → n ≤ c → n ≤ 140737488355328 → Src w P A bs → Calls Tryd.prog 9 #[.slice A n c] w (HeadGot (parseH bs) w)
  get : ∀ {P : Nat → Prop} (w : World) (A : Option Addr) (ls : List Fld) (n c : Nat), ls.length = n → n * 32 ≤ 140737488351232 + 32 → SrcF w P A ls → Slim ls → ∀ nm : ByteArray, nm.size ≤ 140737488351232 → Calls Tryd.prog 19 #[.slice A n c, .string nm] w (GotS (getF ls (bl nm)) w)
  drop : ∀ {P P' : Nat → Prop} (w : World) (A A' : Option Addr) (ls : List Fld) (names : List (List UInt8)) (n c q c' : Nat), ls.length = n → names.length = q → n * 32 ≤ 140737488351232 + 32 → q ≤ 140737488351232 → SrcF w P A ls → SrcS w P' A' names → Slim ls → SlimS names →
    Calls Tryd.prog 21 #[.slice A n c, .slice A' q c'] w (GotF (dropF ls names) w)
  with_ : ∀ {P : Nat → Prop} (w : World) (A : Option Addr) (ls : List Fld) (n c : Nat), ls.length = n → n * 32 ≤ 140737488351232 → SrcF w P A ls → Slim ls → ∀ nm v : List UInt8, nm.length ≤ 140737488351232 → v.length ≤ 140737488351232 →
    Calls Tryd.prog 22 #[.slice A n c, .string ⟨nm.toArray⟩, .string ⟨v.toArray⟩] w (GotF (withF ls nm v) w)

theorem src_lit (w : World) (bs : List UInt8) (fz : Nat × Nat) : Src (w.alloc (.cells (vals bs).toArray 5 fz)) (fun _ => True) (some ⟨w.heap.size, 0, none⟩) bs := fun _ => by
  refine ⟨_, rfl, trivial, by simp, fun i v hv => ?_⟩
  rw [add_at, Nat.zero_add, cell_of_row _ w.heap.size i (vals bs).toArray 5 fz (heap_alloc_new w _)]
  have : (vals bs).toArray[i]? = some v := by simpa using hv
  exact this
/-- A row of Parse's, at bytes that a call lays down. -/
theorem parse_row (HC : HeadC) (w w0 X : World) (bs : List UInt8) (R : List Fld × Nat × Nat) (fz : Nat × Nat) (hX : X = w0.alloc (.cells (vals bs).toArray 5 fz)) (hR : parseH bs = R) (c : Nat) (hB : Below w.heap.size w w0) (hl : bs.length ≤ 140737488351232) (hlc : bs.length ≤ c) :
    Calls Tryd.prog 9 #[.slice (some ⟨w0.heap.size, 0, none⟩) bs.length c] X (HeadGot R w) := by
  subst hX
  rw [← hR]
  refine (HC.parse _ _ bs bs.length c rfl hlc (by omega) (src_lit w0 bs fz)).mono ?_
  rintro e w' ⟨v, o, h1, h2, h3, h4⟩
  have hB1 : Below w.heap.size w (w0.alloc (.cells (vals bs).toArray 5 fz)) := hB.alloc hB.size _
  exact ⟨v, o, h1, h2, fun b hb => Nat.le_trans hB1.size (h3 b hb), hB1.trans (h4.mono hB1.size)⟩
end Go.Proofs.YtdggfonbjhejoaaDoor
