/-
  slices.IndexFunc, ContainsFunc, DeleteFunc over lists of texts, at whatever function value that lays blocks of its own alone.
  Conditions: those that each theorem names.
-/
import Derived.Test.YtkccmjeabkfmdaaDoorVB
import Derived.Shelf.Abstract
import Derived.Deep.DeepMust
namespace Go.Proofs.YtkccmjeabkfmdaaDoor.Hop
open Go.RowKit

/-- Where the first one of which p holds stands; -1: none. -/
def Hit {α : Type} (p : α → Bool) (l : List α) (i : Int) : Prop := (i = -1 ∧ l.any p = false) ∨ ∃ (k : Nat) (x : α), i = (k : Int) ∧ l[k]? = some x ∧ p x = true ∧ (l.take k).any p = false
theorem Hit.any {α : Type} {p : α → Bool} {l : List α} {i : Int} (h : Hit p l i) : decide (0 ≤ i) = l.any p := by
  rcases h with ⟨rfl, h⟩ | ⟨k, x, rfl, hx, hp, _⟩
  · rw [h]; rfl
  · have h1 : l.any p = true := List.any_eq_true.2 ⟨x, List.mem_of_getElem? hx, hp⟩
    rw [h1]
    simp
/-- What is asked of a function value: an answer, and blocks of its own alone. -/
def Asks {α : Type} (g : Nat) (lb : Array Value) (enc : α → Value) (p : α → Bool) (ls : List α) (S : Nat → Prop) (w : World) : Prop :=
  ∀ x ∈ ls, ∀ X : World, Turn S w X → Calls Tryd.prog g (#[enc x] ++ lb) X fun e w' => e = .returned (.bool (p x)) ∧ Below X.heap.size X w'
theorem Asks.mono {α : Type} {g : Nat} {lb : Array Value} {enc : α → Value} {p : α → Bool} {ls : List α} {S S' : Nat → Prop} {w w' : World} (h : Asks g lb enc p ls S w) (ht : Turn S w w') (hs : ∀ b, b < w.heap.size → S' b → S b) : Asks g lb enc p ls S' w' :=
  fun x hx X hX => h x hx X (ht.trans hX (fun b hb hS => hs b hb hS))

set_option maxHeartbeats 4000000 in
set_option maxRecDepth 100000 in
theorem idxS_any {P : Nat → Prop} {S : Nat → Prop} (g : Nat) (lb : Array Value) (eg : ∀ args w, (callFunc g args).run Tryd.prog w = .ok (.enter g args) w) (p : List UInt8 → Bool) (w : World) (A : Option Addr) (ls : List (List UInt8)) (n c : Nat) (hn : ls.length = n) (hmax : n ≤ 140737488351232) (h : SrcS w P A ls) (ha : Asks g lb strV p ls S w) :
    Calls Tryd.prog 54 #[.slice A n c, .func (.func g) #[] lb] w fun e w' => ∃ i : Int, e = .returned (.int .i64 i) ∧ Hit p ls i ∧ Below w.heap.size w w' := by
  have HN := Lib.hid hn
  have H := Lib.hid h
  have HA := Lib.hid ha
  clear hn h ha
  go_enter Tryd.func54, Tryd.ntmps54
  go_wp2_with fail
  go_loopw [8] (fun vi wr => ∃ k : Nat, vi = .int .i64 (k : Int) ∧ k ≤ n ∧ Hid ((ls.take k).any p = false) ∧ Hid (Below w.heap.size w wr)) (fun vi _ => n - (intOf vi).toNat)
  case atStart => exact ⟨0, rfl, Nat.zero_le _, Lib.hid rfl, Lib.hid (Below.refl _ _)⟩
  case round =>
    obtain ⟨k, rfl, hk, HE, HB⟩ := hrel
    by_cases hlt : k < n
    · obtain ⟨pa, x, hx, hat, y2, _, _⟩ := H.out.at (c := c) HN.out hlt HB.out
      have HTK := Lib.hid (show (ls.take (k + 1)).any p = p x by rw [take_snoc ls k x hx, List.any_append, HE.out]; simp)
      have HX := Lib.hid hx
      have CD := HA.out x (List.mem_of_getElem? hx) wr (Turn.of_below HB.out)
      unfold strV at CD
      clear hx
      cases hb : p x with
      | false =>
        rw [hb] at CD HTK
        clear hb
        go_wp2_with (go_at_fn g; go_must (refine CD.mono ?_; rintro e w5 ⟨rfl, b5⟩))
        have B5 := Lib.hid (HB.out.trans (b5.mono HB.out.size))
        clear b5
        go_roundw
        case rel => exact ⟨k + 1, by go_num, hlt, HTK, B5⟩
        case measure => simp [intOf]; omega
      | true =>
        rw [hb] at CD
        have HP := Lib.hid hb
        clear hb
        go_wp2_with (go_at_fn g; go_must (refine CD.mono ?_; rintro e w5 ⟨rfl, b5⟩))
        go_ret
        exact ⟨(k : Int), rfl, .inr ⟨k, x, rfl, HX.out, HP.out, HE.out⟩, HB.out.trans (b5.mono HB.out.size)⟩
    · have HN := Lib.hid (show ls.any p = false by rw [← HE.out, List.take_of_length_le (by rw [HN.out]; omega)])
      go_wp2_with fail
      go_ret
      exact ⟨-1, rfl, .inl ⟨rfl, HN.out⟩, HB.out⟩
theorem enters_idxS : ∀ args w, (callFunc 54 args).run Tryd.prog w = .ok (.enter 54 args) w := enters_of Tryd.func54 (by kernel_rfl) rfl
theorem hasS_any {P : Nat → Prop} {S : Nat → Prop} (g : Nat) (lb : Array Value) (eg : ∀ args w, (callFunc g args).run Tryd.prog w = .ok (.enter g args) w) (p : List UInt8 → Bool) (w : World) (A : Option Addr) (ls : List (List UInt8)) (n c : Nat) (hn : ls.length = n) (hmax : n ≤ 140737488351232) (h : SrcS w P A ls) (ha : Asks g lb strV p ls S w) :
    Calls Tryd.prog 37 #[.slice A n c, .func (.func g) #[] lb] w fun e w' => e = .returned (.bool (ls.any p)) ∧ Below w.heap.size w w' := by
  have CI := Lib.hid (idxS_any g lb eg p w A ls n c hn hmax h ha)
  clear hn hmax h ha
  go_enter Tryd.func37, Tryd.ntmps37
  go_wp2_with fail
  refine CI.out.mono ?_
  rintro e w' ⟨i, rfl, hi, b'⟩
  have hh := hi.any
  clear hi
  go_wp2_with fail
  go_ret
  exact ⟨by rw [← hh]; rfl, b'⟩

def keepB {α : Type} (p : α → Bool) (x : α) : Bool := !p x
theorem keep_all {α : Type} {p : α → Bool} {l : List α} (h : l.any p = false) : l.filter (keepB p) = l := by
  apply List.filter_eq_self.2
  intro x hx
  have := List.any_eq_false.1 h x hx
  simpa [keepB] using this
theorem keep_snoc {α : Type} (p : α → Bool) (l : List α) (k : Nat) (x : α) (h : l[k]? = some x) : (l.take (k + 1)).filter (keepB p) = (l.take k).filter (keepB p) ++ (if p x = true then [] else [x]) := by
  rw [take_snoc l k x h, List.filter_append]
  congr 1
  cases hp : p x <;> simp [keepB, hp]
theorem at_row (t e : TypeId) (sz : Nat) (ht : Tryd.prog.underlying t = some (.slice e)) (hsz : (Tryd.prog.info? e).map (·.size) = some sz) (g n c k : Nat) (hk : k < n) (W : World) :
    (Instr.indexAt t (.slice (some ⟨g, 0, none⟩) n c) (.int .i64 (k : Int))).run Tryd.prog W = .ok (.pointer (some ⟨g, k * sz, none⟩)) W := by
  have := run_at_size t e sz ht hsz ⟨g, 0, none⟩ n c k hk W
  rwa [add_at, Nat.zero_add] at this
theorem strs_app (a b : List (List UInt8)) : strs (a ++ b) = strs a ++ strs b := by simp [strs]
theorem zero_str (w : World) : (zeroValue 9).run Tryd.prog w = .ok (.string ⟨#[]⟩) w := by kernel_rfl

end Go.Proofs.YtkccmjeabkfmdaaDoor.Hop
