/-
  What the document's own Admits, May, All answer.
  Conditions: those that each theorem names.
-/
import Derived.Test.YtcmnnidjamdmeaaDoorAF
import Derived.Test.YtcmnnidjamdmeaaDoorYU
namespace Go.Proofs.YtcmnnidjamdmeaaDoor.Acl
open Go.RowKit

/-- What the document's own walks ask of a rule's size. -/
structure RuE.Small (r : RuE) : Prop where
  h : r.h.size ≤ 4000000
  n : r.n ≤ 4000000
  ms : ∀ x ∈ r.ms, x.length ≤ 4000000
set_option maxHeartbeats 4000000 in
set_option maxRecDepth 100000 in
theorem radmits_any {P : Nat → Prop} (w : World) (A : Option Addr) (L : List RuE) (n c : Nat) (hn : L.length = n) (hmax : n ≤ 4000000) (hs : SrcU w P A L) (hok : ∀ r ∈ L, r.Ok w) (h : ByteArray) (p : Int) (m : ByteArray) (hz1 : ∀ r ∈ L, r.Small) (hz2 : h.size ≤ 4000000) :
    Calls Tryd.prog 15 #[.slice A n c, .string h, .int .i64 p, .string m] w fun e w' => e = .returned (.bool (admitF L (bl h) p (bl m))) ∧ Below w.heap.size w w' := by
  have HN := Lib.hid hn
  have H := Lib.hid hs
  have HO := Lib.hid hok
  have CM := Lib.hid (fun (r : RuE) (hr : r.Small) (W : World) (hW : r.Ok W) => rmatches_any r h p m W hW hr.h hz2 hr.n)
  have HZ := Lib.hid hz1
  clear hn hs hok hz2 hz1
  go_enter Tryd.func15, Tryd.ntmps15
  go_wp2_with fail
  go_loopw [9] (fun vi wr => ∃ k : Nat, vi = .int .i64 (k : Int) ∧ k ≤ n ∧ Hid ((L.take k).any (matchF (bl h) p (bl m)) = false) ∧ Hid (Below w.heap.size w wr)) (fun vi _ => n - (intOf vi).toNat)
  case atStart => exact ⟨0, rfl, Nat.zero_le _, Lib.hid rfl, Lib.hid (Below.refl _ _)⟩
  case round =>
    obtain ⟨k, rfl, hk, HE, HB⟩ := hrel
    by_cases hlt : k < n
    · obtain ⟨pa, r, hx, hat, hpb, y0, y1, y2, y3, y4⟩ := SrcU.at (c := c) H.out HN.out hlt HB.out
      have HTK := Lib.hid (show (L.take (k + 1)).any (matchF (bl h) p (bl m)) = matchF (bl h) p (bl m) r by rw [take_snoc L k r hx, List.any_append, HE.out]; simp)
      have HX := Lib.hid hx
      have hin := List.mem_of_getElem? hx
      have C := CM.out r (HZ.out r hin) wr ((HO.out r hin).below HB.out)
      have Y0 := Lib.hid y0
      have HPB := Lib.hid (show pa.block < wr.heap.size by have := HB.out.size; omega)
      clear hx hpb hin
      cases hm : matchF (bl h) p (bl m) r with
      | false =>
        rw [hm] at C HTK
        have C := Lib.hid C
        clear hm
        go_wp2_with fail
        refine C.out.mono ?_
        rintro e w5 ⟨rfl, b5⟩
        have B5 := Lib.hid (HB.out.trans (b5.mono HB.out.size))
        clear b5
        go_wp2_with fail
        go_roundw
        case rel => exact ⟨k + 1, by go_num, hlt, HTK, B5⟩
        case measure => simp [intOf]; omega
      | true =>
        have HF := Lib.hid (admit_hit HE.out HX.out hm)
        rw [hm] at C
        have C := Lib.hid C
        clear hm
        go_wp2_with fail
        refine C.out.mono ?_
        rintro e w5 ⟨rfl, b5⟩
        have z0 := (b5.cell HPB.out).trans Y0.out
        have B5 := Lib.hid (HB.out.trans (b5.mono HB.out.size))
        clear b5 C HTK HX Y0 y0
        generalize r.al = b at *
        go_wp2_with fail
        go_ret
        exact ⟨ret_bool HF.out.symm, B5.out⟩
    · have HA := Lib.hid (admit_none (show L.any (matchF (bl h) p (bl m)) = false by rw [← HE.out, List.take_of_length_le (by rw [HN.out]; omega)]))
      go_wp2_with fail
      go_ret
      exact ⟨ret_bool HA.out.symm, HB.out⟩
end Go.Proofs.YtcmnnidjamdmeaaDoor.Acl
