/-
  slices.IndexFunc, ContainsFunc, DeleteFunc over lists of texts, at whatever function value that lays blocks of its own alone.
  Conditions: those that each theorem names.
-/
import Derived.Test.YtbkpiadbgpnhlaaDoorVB
import Derived.Shelf.Abstract
import Derived.Deep.DeepMust
namespace Go.Proofs.YtbkpiadbgpnhlaaDoor.Hop
open Go.RowKit

/-- Where the first one of which p holds stands; -1: none. -/
def Hit {α : Type} (p : α → Bool) (l : List α) (i : Int) : Prop := (i = -1 ∧ l.any p = false) ∨ ∃ (k : Nat) (x : α), i = (k : Int) ∧ l[k]? = some x ∧ p x = true ∧ (l.take k).any p = false
theorem Hit.any {α : Type} {p : α → Bool} {l : List α} {i : Int} (h : Hit p l i) : decide (0 ≤ i) = l.any p := by
  rcases h with ⟨rfl, h⟩ | ⟨k, x, rfl, hx, hp, _⟩
  · rw [h]; rfl
  · have h1 : l.any p = true := List.any_eq_true.2 ⟨x, List.mem_of_getElem? hx, hp⟩
    rw [h1]
    simp
/-- What is asked of a function value: an answer, and blocks of its own alone. -/
def Asks {α : Type} (g : Nat) (lb : Array Value) (enc : α → Value) (p : α → Bool) (ls : List α) (S : Nat → Prop) (w : World) : Prop :=
  ∀ x ∈ ls, ∀ X : World, Turn S w X → Calls Tryd.prog g (#[enc x] ++ lb) X fun e w' => e = .returned (.bool (p x)) ∧ Below X.heap.size X w'
theorem Asks.mono {α : Type} {g : Nat} {lb : Array Value} {enc : α → Value} {p : α → Bool} {ls : List α} {S S' : Nat → Prop} {w w' : World} (h : Asks g lb enc p ls S w) (ht : Turn S w w') (hs : ∀ b, b < w.heap.size → S' b → S b) : Asks g lb enc p ls S' w' :=
  fun x hx X hX => h x hx X (ht.trans hX (fun b hb hS => hs b hb hS))


def keepB {α : Type} (p : α → Bool) (x : α) : Bool := !p x
theorem keep_all {α : Type} {p : α → Bool} {l : List α} (h : l.any p = false) : l.filter (keepB p) = l := by
  apply List.filter_eq_self.2
  intro x hx
  have := List.any_eq_false.1 h x hx
  simpa [keepB] using this
theorem keep_snoc {α : Type} (p : α → Bool) (l : List α) (k : Nat) (x : α) (h : l[k]? = some x) : (l.take (k + 1)).filter (keepB p) = (l.take k).filter (keepB p) ++ (if p x = true then [] else [x]) := by
  rw [take_snoc l k x h, List.filter_append]
  congr 1
  cases hp : p x <;> simp [keepB, hp]
theorem at_row (t e : TypeId) (sz : Nat) (ht : Tryd.prog.underlying t = some (.slice e)) (hsz : (Tryd.prog.info? e).map (·.size) = some sz) (g n c k : Nat) (hk : k < n) (W : World) :
    (Instr.indexAt t (.slice (some ⟨g, 0, none⟩) n c) (.int .i64 (k : Int))).run Tryd.prog W = .ok (.pointer (some ⟨g, k * sz, none⟩)) W := by
  have := run_at_size t e sz ht hsz ⟨g, 0, none⟩ n c k hk W
  rwa [add_at, Nat.zero_add] at this
theorem strs_app (a b : List (List UInt8)) : strs (a ++ b) = strs a ++ strs b := by simp [strs]
theorem zero_str (w : World) : (zeroValue 9).run Tryd.prog w = .ok (.string ⟨#[]⟩) w := by kernel_rfl

end Go.Proofs.YtbkpiadbgpnhlaaDoor.Hop
