/-
  slices.IndexFunc, DeleteFunc over lists of fields, at whatever function value that lays blocks of its own alone.
  Conditions: those that each theorem names.
-/
import Derived.Test.YtkccmjeabkfmdaaDoorVC
import Derived.Test.YtkccmjeabkfmdaaDoorKF
namespace Go.Proofs.YtkccmjeabkfmdaaDoor.Hop
open Go.RowKit

theorem flds_take : ∀ (ls : List Fld) (k : Nat), (flds ls).take (k * 2) = flds (ls.take k)
  | [], k => by simp [flds]
  | f :: r, 0 => by simp [flds]
  | f :: r, k + 1 => by
    show ([strV f.1, strV f.2] ++ flds r).take ((k + 1) * 2) = [strV f.1, strV f.2] ++ flds (r.take k)
    rw [show (k + 1) * 2 = k * 2 + 1 + 1 by omega, ← flds_take r k]
    rfl
theorem set_two (l : List Value) (k : Nat) (a b : Value) (h : k * 2 + 1 < l.length) : ((l.set (k * 2) a).set (k * 2 + 1) b).take ((k + 1) * 2) = l.take (k * 2) ++ [a, b] := by
  rw [show (k + 1) * 2 = k * 2 + 1 + 1 by omega, List.take_add_one, List.take_set_of_le (Nat.le_refl _), List.take_add_one, List.take_set_of_le (Nat.le_refl _)]
  rw [List.getElem?_set_self (by omega), List.getElem?_set_self (by rw [List.length_set]; omega)]
  simp
theorem zero_fld (w : World) : (zeroValue 33).run Tryd.prog w = .ok (.agg #[.string ⟨#[]⟩, .string ⟨#[]⟩]) w := by kernel_rfl

set_option maxHeartbeats 4000000 in
set_option maxRecDepth 100000 in
theorem idxF_any {P : Nat → Prop} {S : Nat → Prop} (g : Nat) (lb : Array Value) (eg : ∀ args w, (callFunc g args).run Tryd.prog w = .ok (.enter g args) w) (p : Fld → Bool) (w : World) (A : Option Addr) (ls : List Fld) (n c : Nat) (hn : ls.length = n) (hmax : n ≤ 140737488351232) (h : SrcF w P A ls) (ha : Asks g lb fldA p ls S w) :
    Calls Tryd.prog 55 #[.slice A n c, .func (.func g) #[] lb] w fun e w' => ∃ i : Int, e = .returned (.int .i64 i) ∧ Hit p ls i ∧ Below w.heap.size w w' := by
  have HN := Lib.hid hn
  have H := Lib.hid h
  have HA := Lib.hid ha
  clear hn h ha
  go_enter Tryd.func55, Tryd.ntmps55
  go_wp2_with fail
  go_loopw [8] (fun vi wr => ∃ k : Nat, vi = .int .i64 (k : Int) ∧ k ≤ n ∧ Hid ((ls.take k).any p = false) ∧ Hid (Below w.heap.size w wr)) (fun vi _ => n - (intOf vi).toNat)
  case atStart => exact ⟨0, rfl, Nat.zero_le _, Lib.hid rfl, Lib.hid (Below.refl _ _)⟩
  case round =>
    obtain ⟨k, rfl, hk, HE, HB⟩ := hrel
    by_cases hlt : k < n
    · obtain ⟨pa, x, hx, hat, y2, y3, _, _⟩ := H.out.at (c := c) HN.out hlt HB.out
      have HTK := Lib.hid (show (ls.take (k + 1)).any p = p x by rw [take_snoc ls k x hx, List.any_append, HE.out]; simp)
      have HX := Lib.hid hx
      have CD := HA.out x (List.mem_of_getElem? hx) wr (Turn.of_below HB.out)
      unfold fldA at CD
      clear hx
      cases hb : p x with
      | false =>
        rw [hb] at CD HTK
        clear hb
        go_wp2_with (go_at_fn g; go_must (refine CD.mono ?_; rintro e w5 ⟨rfl, b5⟩))
        have B5 := Lib.hid (HB.out.trans (b5.mono HB.out.size))
        clear b5
        go_roundw
        case rel => exact ⟨k + 1, by go_num, hlt, HTK, B5⟩
        case measure => simp [intOf]; omega
      | true =>
        rw [hb] at CD
        have HP := Lib.hid hb
        clear hb
        go_wp2_with (go_at_fn g; go_must (refine CD.mono ?_; rintro e w5 ⟨rfl, b5⟩))
        go_ret
        exact ⟨(k : Int), rfl, .inr ⟨k, x, rfl, HX.out, HP.out, HE.out⟩, HB.out.trans (b5.mono HB.out.size)⟩
    · have HN := Lib.hid (show ls.any p = false by rw [← HE.out, List.take_of_length_le (by rw [HN.out]; omega)])
      go_wp2_with fail
      go_ret
      exact ⟨-1, rfl, .inl ⟨rfl, HN.out⟩, HB.out⟩

end Go.Proofs.YtkccmjeabkfmdaaDoor.Hop
