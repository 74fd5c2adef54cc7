/-
  slices.IndexFunc, ContainsFunc over lists of texts and of rules, at whatever function value that lays blocks of its own alone.
  Conditions: those that each theorem names.
-/
import Derived.Test.YtopanahgeeolbaaGreatDoorAA
import Derived.Shelf.Abstract
import Derived.Deep.DeepMust
import Derived.Great.Walk
import Derived.Lib.Walk
namespace Go.Proofs.YtopanahgeeolbaaGreatDoor.Acl
open Go.RowKit

theorem take_snoc {α : Type} (l : List α) (k : Nat) (x : α) (h : l[k]? = some x) : l.take (k + 1) = l.take k ++ [x] := by
  rw [List.take_add_one, h]; rfl
theorem srcs_at {P : Nat → Prop} {w wr : World} {A : Option Addr} {ls : List (List UInt8)} {n c k : Nat} (h : SrcS w P A ls) (hn : ls.length = n) (hlt : k < n) (hB : Below w.heap.size w wr) :
    ∃ (p : Addr) (x : List UInt8), ls[k]? = some x ∧ (∀ Wx, (Instr.indexAt 49 (.slice A n c) (.int .i64 (k : Int))).run Tryz.prog Wx = .ok (.pointer (some p)) Wx) ∧ wr.cell? p = some (.string ⟨x.toArray⟩) := by
  obtain ⟨ad, hA, hP, hadb, hc⟩ := h (by omega)
  obtain ⟨x, hx⟩ : ∃ x, ls[k]? = some x := ⟨ls[k]'(by omega), List.getElem?_eq_getElem _⟩
  have c1 := hc k x hx
  refine ⟨ad.add k, x, hx, fun Wx => ?_, (hB.cell (Lib.lt_of_cell c1)).trans c1⟩
  rw [hA]
  exact run_at 49 9 Tryz.underlying49 strSize ad n c k hlt Wx
/-- Where the first one of which p holds stands; -1: none. -/
def Hit {α : Type} (p : α → Bool) (l : List α) (i : Int) : Prop := (i = -1 ∧ l.any p = false) ∨ ∃ (k : Nat) (x : α), i = (k : Int) ∧ l[k]? = some x ∧ p x = true ∧ (l.take k).any p = false
theorem Hit.any {α : Type} {p : α → Bool} {l : List α} {i : Int} (h : Hit p l i) : decide (0 ≤ i) = l.any p := by
  rcases h with ⟨rfl, h⟩ | ⟨k, x, rfl, hx, hp, _⟩
  · rw [h]; rfl
  · have h1 : l.any p = true := List.any_eq_true.2 ⟨x, List.mem_of_getElem? hx, hp⟩
    rw [h1]
    simp
/-- What is asked of a function value: an answer, and blocks of its own alone. -/
def Asks {α : Type} (g : Nat) (lb : Array Value) (enc : α → Value) (p : α → Bool) (ls : List α) (w : World) : Prop :=
  ∀ x ∈ ls, ∀ X : World, Below w.heap.size w X → Calls Tryz.prog g (#[enc x] ++ lb) X fun e w' => e = .returned (.bool (p x)) ∧ Below X.heap.size X w'

set_option maxHeartbeats 4000000 in
set_option maxRecDepth 100000 in
theorem idxS_any {P : Nat → Prop} (g : Nat) (lb : Array Value) (eg : ∀ args w, (callFunc g args).run Tryz.prog w = .ok (.enter g args) w) (p : List UInt8 → Bool) (w : World) (A : Option Addr) (ls : List (List UInt8)) (n c : Nat) (hn : ls.length = n) (hmax : n ≤ 140737488351232) (h : SrcS w P A ls) (ha : Asks g lb strV p ls w) :
    Calls Tryz.prog 64 #[.slice A n c, .func (.func g) #[] lb] w fun e w' => ∃ i : Int, e = .returned (.int .i64 i) ∧ Hit p ls i ∧ Below w.heap.size w w' := by
  have HN := Lib.hid hn
  have H := Lib.hid h
  have HA := Lib.hid ha
  clear hn h ha
  go_enter Tryz.func64, Tryz.ntmps64
  go_wp2_with fail
  go_loopw [8] (fun vi wr => ∃ k : Nat, vi = .int .i64 (k : Int) ∧ k ≤ n ∧ Hid ((ls.take k).any p = false) ∧ Hid (Below w.heap.size w wr)) (fun vi _ => n - (intOf vi).toNat)
  case atStart => exact ⟨0, rfl, Nat.zero_le _, Lib.hid rfl, Lib.hid (Below.refl _ _)⟩
  case round =>
    obtain ⟨k, rfl, hk, HE, HB⟩ := hrel
    by_cases hlt : k < n
    · obtain ⟨pa, x, hx, hat, y2⟩ := srcs_at (c := c) H.out HN.out hlt HB.out
      have HTK := Lib.hid (show (ls.take (k + 1)).any p = p x by rw [take_snoc ls k x hx, List.any_append, HE.out]; simp)
      have HX := Lib.hid hx
      have CD := HA.out x (List.mem_of_getElem? hx) wr HB.out
      unfold strV at CD
      clear hx
      cases hb : p x with
      | false =>
        rw [hb] at CD HTK
        clear hb
        go_wp2_with (go_at_fn g; go_must (refine CD.mono ?_; rintro e w5 ⟨rfl, b5⟩))
        have B5 := Lib.hid (HB.out.trans (b5.mono HB.out.size))
        clear b5
        go_roundw
        case rel => exact ⟨k + 1, by go_num, hlt, HTK, B5⟩
        case measure => simp [intOf]; omega
      | true =>
        rw [hb] at CD
        have HP := Lib.hid hb
        clear hb
        go_wp2_with (go_at_fn g; go_must (refine CD.mono ?_; rintro e w5 ⟨rfl, b5⟩))
        go_ret
        exact ⟨(k : Int), rfl, .inr ⟨k, x, rfl, HX.out, HP.out, HE.out⟩, HB.out.trans (b5.mono HB.out.size)⟩
    · have HN := Lib.hid (show ls.any p = false by rw [← HE.out, List.take_of_length_le (by rw [HN.out]; omega)])
      go_wp2_with fail
      go_ret
      exact ⟨-1, rfl, .inl ⟨rfl, HN.out⟩, HB.out⟩
theorem hasS_any {P : Nat → Prop} (g : Nat) (lb : Array Value) (eg : ∀ args w, (callFunc g args).run Tryz.prog w = .ok (.enter g args) w) (p : List UInt8 → Bool) (w : World) (A : Option Addr) (ls : List (List UInt8)) (n c : Nat) (hn : ls.length = n) (hmax : n ≤ 140737488351232) (h : SrcS w P A ls) (ha : Asks g lb strV p ls w) :
    Calls Tryz.prog 42 #[.slice A n c, .func (.func g) #[] lb] w fun e w' => e = .returned (.bool (ls.any p)) ∧ Below w.heap.size w w' := by
  have CI := Lib.hid (idxS_any g lb eg p w A ls n c hn hmax h ha)
  clear hn hmax h ha
  go_enter Tryz.func42, Tryz.ntmps42
  go_wp2_with fail
  refine CI.out.mono ?_
  rintro e w' ⟨i, rfl, hi, b'⟩
  have hh := hi.any
  clear hi
  go_wp2_with fail
  go_ret
  exact ⟨by rw [← hh]; rfl, b'⟩

set_option maxHeartbeats 4000000 in
set_option maxRecDepth 100000 in
theorem idxU_any {P : Nat → Prop} (g : Nat) (lb : Array Value) (eg : ∀ args w, (callFunc g args).run Tryz.prog w = .ok (.enter g args) w) (p : RuE → Bool) (w : World) (A : Option Addr) (ls : List RuE) (n c : Nat) (hn : ls.length = n) (hmax : n ≤ 140737488351232) (h : SrcU w P A ls) (ha : Asks g lb RuE.val p ls w) :
    Calls Tryz.prog 80 #[.slice A n c, .func (.func g) #[] lb] w fun e w' => ∃ i : Int, e = .returned (.int .i64 i) ∧ Hit p ls i ∧ Below w.heap.size w w' := by
  have HN := Lib.hid hn
  have H := Lib.hid h
  have HA := Lib.hid ha
  clear hn h ha
  go_enter Tryz.func80, Tryz.ntmps80
  go_wp2_with fail
  go_loopw [8] (fun vi wr => ∃ k : Nat, vi = .int .i64 (k : Int) ∧ k ≤ n ∧ Hid ((ls.take k).any p = false) ∧ Hid (Below w.heap.size w wr)) (fun vi _ => n - (intOf vi).toNat)
  case atStart => exact ⟨0, rfl, Nat.zero_le _, Lib.hid rfl, Lib.hid (Below.refl _ _)⟩
  case round =>
    obtain ⟨k, rfl, hk, HE, HB⟩ := hrel
    by_cases hlt : k < n
    · obtain ⟨pa, x, hx, hat, hpb, y0, y1, y2, y3, y4⟩ := SrcU.at (c := c) H.out HN.out hlt HB.out
      have HTK := Lib.hid (show (ls.take (k + 1)).any p = p x by rw [take_snoc ls k x hx, List.any_append, HE.out]; simp)
      have HX := Lib.hid hx
      have CD := HA.out x (List.mem_of_getElem? hx) wr HB.out
      unfold RuE.val at CD
      clear hx hpb
      cases hb : p x with
      | false =>
        rw [hb] at CD HTK
        clear hb
        go_wp2_with (go_at_fn g; go_must (refine CD.mono ?_; rintro e w5 ⟨rfl, b5⟩))
        have B5 := Lib.hid (HB.out.trans (b5.mono HB.out.size))
        clear b5
        go_roundw
        case rel => exact ⟨k + 1, by go_num, hlt, HTK, B5⟩
        case measure => simp [intOf]; omega
      | true =>
        rw [hb] at CD
        have HP := Lib.hid hb
        clear hb
        go_wp2_with (go_at_fn g; go_must (refine CD.mono ?_; rintro e w5 ⟨rfl, b5⟩))
        go_ret
        exact ⟨(k : Int), rfl, .inr ⟨k, x, rfl, HX.out, HP.out, HE.out⟩, HB.out.trans (b5.mono HB.out.size)⟩
    · have HN := Lib.hid (show ls.any p = false by rw [← HE.out, List.take_of_length_le (by rw [HN.out]; omega)])
      go_wp2_with fail
      go_ret
      exact ⟨-1, rfl, .inl ⟨rfl, HN.out⟩, HB.out⟩
theorem hasU_any {P : Nat → Prop} (g : Nat) (lb : Array Value) (eg : ∀ args w, (callFunc g args).run Tryz.prog w = .ok (.enter g args) w) (p : RuE → Bool) (w : World) (A : Option Addr) (ls : List RuE) (n c : Nat) (hn : ls.length = n) (hmax : n ≤ 140737488351232) (h : SrcU w P A ls) (ha : Asks g lb RuE.val p ls w) :
    Calls Tryz.prog 67 #[.slice A n c, .func (.func g) #[] lb] w fun e w' => e = .returned (.bool (ls.any p)) ∧ Below w.heap.size w w' := by
  have CI := Lib.hid (idxU_any g lb eg p w A ls n c hn hmax h ha)
  clear hn hmax h ha
  go_enter Tryz.func67, Tryz.ntmps67
  go_wp2_with fail
  refine CI.out.mono ?_
  rintro e w' ⟨i, rfl, hi, b'⟩
  have hh := hi.any
  clear hi
  go_wp2_with fail
  go_ret
  exact ⟨by rw [← hh]; rfl, b'⟩
end Go.Proofs.YtopanahgeeolbaaGreatDoor.Acl
