/-
  Package hop's set of names, and what asks it.
  Conditions: those that each theorem names.
-/
import Derived.Test.YtinibacmhmmcdaaDoorVJ
import Derived.Test.YtinibacmhmmcdaaDoorVF
import Derived.Test.YtinibacmhmmcdaaDoorVD
import Derived.Maps.Own
import Derived.Maps.OwnSet
import Derived.Maps.Views
import Derived.Carry
import Derived.StringKeys
namespace Go.Proofs.YtinibacmhmmcdaaDoor.Hop
open Go.RowKit Go.Maps

theorem keyLaw : Keyed Tryd.prog 9 := string_keyed Tryd.underlying9
/-- A map's keys are the names, with small letters. -/
def HasAll (D : DataW Unit) (names : List (List UInt8)) : Prop := ∀ key, Maps.has D (.string key) = names.any fun x => lowF x == key
theorem has_put (D : DataW Unit) (hD : IsMap D) (a k : List UInt8) (d : DataW Unit) : Maps.has (D.put (.string a) d) (.string k) = (Maps.has D (.string k) || a == k) := by
  by_cases h : k = a
  · subst h
    rw [Maps.has_put_same hD (by simp [WideAt.IsKeyLit])]
    simp
  · rw [Maps.has_put_other (by simpa using h)]
    have : (a == k) = false := by simpa using fun e => h e.symm
    rw [this, Bool.or_false]
theorem HasAll.snoc {D : DataW Unit} {names : List (List UInt8)} {k : Nat} {x : List UInt8} (h : HasAll D (names.take k)) (hD : IsMap D) (hx : names[k]? = some x) (d : DataW Unit) : HasAll (D.put (.string (lowF x)) d) (names.take (k + 1)) := fun key => by
  rw [has_put D hD, h key, take_snoc names k x hx, List.any_append]
  simp
theorem below_grown {w a b : World} {g : Nat} (h : Below w.heap.size w a) (hg : a.grownBy b (some g)) (hn : w.heap.size ≤ g) : Below w.heap.size w b :=
  h.grown hg h.size (fun k hk => by injection hk with hk; omega)
theorem owns_below {w w' : World} {b n : Nat} {D : DataW Unit} (h : w.ownsMap Tryd.prog 9 unitElem b n D) (hb : Below w.heap.size w w') : w'.ownsMap Tryd.prog 9 unitElem b n D := by
  obtain ⟨es, clock, h1, h2⟩ := h
  have hlt : b < w.heap.size := (Array.getElem?_eq_some_iff.1 h1).1
  exact ⟨es, clock, (hb.block b hlt).trans h1, h2⟩

set_option maxHeartbeats 4000000 in
set_option maxRecDepth 100000 in
theorem set_any {P : Nat → Prop} (w : World) (A : Option Addr) (names : List (List UInt8)) (q c : Nat) (hq : names.length = q) (hmax : q ≤ 2000000000) (hs : ∀ x ∈ names, x.length ≤ 2000000000) (h : SrcS w P A names) :
    Calls Tryd.prog 28 #[.slice A q c] w fun e w' => ∃ b n D, e = .returned (.map (some b)) ∧ w'.ownsMap Tryd.prog 9 unitElem b n D ∧ HasAll D names ∧ w.heap.size ≤ b ∧ Below w.heap.size w w' := by
  have HQ := Lib.hid hq
  have H := Lib.hid h
  have HS := Lib.hid hs
  clear hq h hs
  have o0 := World.ownsMap_made w Tryd.prog 9 (unitElem (H := Unit))
  have b0 : Below w.heap.size w (w.alloc (.map #[] 0)) := (Below.refl _ _).alloc (Nat.le_refl _) _
  obtain ⟨w0, hw0⟩ : ∃ w0, w.alloc (.map #[] 0) = w0 := ⟨_, rfl⟩
  have hmm : (Instr.makeMap 41 none).run Tryd.prog w = .ok (.map (some w.heap.size)) w0 := by rw [← hw0]; rfl
  rw [hw0] at o0 b0
  clear hw0
  obtain ⟨b, hb⟩ : ∃ b, w.heap.size = b := ⟨_, rfl⟩
  rw [hb] at o0 hmm
  have HB := Lib.hid hb
  have O0 := Lib.hid o0
  have B0 := Lib.hid b0
  clear hb o0 b0
  go_enter Tryd.func28, Tryd.ntmps28
  go_wp2_with fail
  go_loopw [9] (fun vi wr => ∃ (k : Nat) (D : DataW Unit), vi = .int .i64 (k : Int) ∧ k ≤ q ∧ Hid (wr.ownsMap Tryd.prog 9 unitElem b k D) ∧ Hid (HasAll D (names.take k)) ∧ Hid (Below w.heap.size w wr)) (fun vi _ => q - (intOf vi).toNat)
  case atStart => exact ⟨0, .map [], rfl, Nat.zero_le _, O0, Lib.hid (fun key => rfl), B0⟩
  case round =>
    obtain ⟨k, D, rfl, hk, HO, HD, HX⟩ := hrel
    by_cases hlt : k < q
    · obtain ⟨p, x, hx, hat, y0, _, _⟩ := H.out.at (c := c) HQ.out hlt HX.out
      have sx := HS.out x (List.mem_of_getElem? hx)
      have HXX := Lib.hid hx
      obtain ⟨Xs, hXs⟩ : ∃ Xs : ByteArray, Xs = ⟨x.toArray⟩ := ⟨_, rfl⟩
      have hbx : bl Xs = x := by rw [hXs, bl_mk]
      have CL := Lib.hid (fun W : World => ty_lower Xs W)
      unfold Text at CL
      rw [hbx] at CL
      rw [← hXs] at y0
      obtain ⟨L, hL⟩ : ∃ L : ByteArray, L = ⟨(lowF x).toArray⟩ := ⟨_, rfl⟩
      have HLS := Lib.hid (show L.size ≤ 2000000000 by rw [← bl_length, hL, bl_mk, lowF_length]; exact sx)
      have HLB := Lib.hid (show L.data.toList = lowF x by rw [hL])
      rw [← hL] at CL
      clear hXs hbx hL sx hx
      go_wp2_with fail
      refine (CL.out _).mono ?_
      rintro e w2 ⟨rfl, b2⟩
      have O2 := owns_below HO.out b2
      obtain ⟨w3, hrun, o3, g3⟩ := O2.update keyLaw Tryd.underlying41 (by unfold maxLen; omega) (WideMaps.keyOf_string_mk Tryd.underlying9 (s := L) (by have := HLS.out; unfold maxLen; omega)) (unitElem_mk (H := Unit))
      rw [HLB.out] at o3
      have D3 := Lib.hid (HD.out.snoc O2.isMap HXX.out (.agg []))
      have O3 := Lib.hid o3
      have B3 := Lib.hid (below_grown (HX.out.trans (b2.mono HX.out.size)) g3 (by rw [HB.out]; exact Nat.le_refl _))
      clear o3 g3 O2 b2
      go_wp2_with fail
      go_roundw
      case rel => exact ⟨k + 1, _, by go_num, hlt, O3, D3, B3⟩
      case measure => simp [intOf]; omega
    · have HF := Lib.hid (show HasAll D names by
        have := HD.out
        rw [List.take_of_length_le (by rw [HQ.out]; omega)] at this
        exact this)
      go_wp2_with fail
      go_ret
      exact ⟨b, k, D, rfl, HO.out, HF.out, by rw [HB.out]; exact Nat.le_refl _, HX.out⟩
theorem unit_zero (w : World) : (zeroValue 44).run Tryd.prog w = .ok (.agg #[]) w := by kernel_rfl
/-- The look-up, in any later world. -/
theorem look_any {w W : World} {b n : Nat} {D : DataW Unit} {names : List (List UInt8)} (h : w.ownsMap Tryd.prog 9 unitElem b n D) (hD : HasAll D names) (hB : Below w.heap.size w W) (L : ByteArray) (l : List UInt8) (hL : L.data.toList = l) (hs : L.size ≤ maxLen) :
    (Instr.lookup 41 (.map (some b)) (.string L) true).run Tryd.prog W = .ok (.tuple #[.agg #[], .bool (names.any fun x => lowF x == l)]) W := by
  obtain ⟨v, ps, hr, hv⟩ := (owns_below h hB).look_ok keyLaw Tryd.underlying41 (unit_zero _) (unitElem_mk (H := Unit)) (WideMaps.keyOf_string_mk Tryd.underlying9 (s := L) hs)
  obtain ⟨rfl, _⟩ := unitElem_inv hv
  rw [hL, hD l] at hr
  exact hr
end Go.Proofs.YtinibacmhmmcdaaDoor.Hop
