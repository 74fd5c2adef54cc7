/-
  Package head's May.
  Conditions: those that each theorem names.
-/
import Derived.Test.YtdggfonbjhejoaaDoorKB
import Derived.Test.YtdggfonbjhejoaaDoorHG
namespace Go.Proofs.YtdggfonbjhejoaaDoor
open Go.RowKit

theorem lineOk_stands (f : Fld) : lineOk f = (decide (lineL f ≤ 512) && standsF f) := rfl
theorem stands_at (f : Fld) (h2 : f.2.length ≤ 140737488351232) (X : World) : Calls Tryd.prog 34 #[.agg #[.string ⟨f.1.toArray⟩, .string ⟨f.2.toArray⟩]] X fun e w' => e = .returned (.bool (standsF f)) ∧ Below X.heap.size X w' := by
  have := stands_any X ⟨f.1.toArray⟩ ⟨f.2.toArray⟩ (by rw [← bl_length, bl_mk]; exact h2)
  rwa [bl_mk, bl_mk] at this

set_option maxHeartbeats 8000000 in
set_option maxRecDepth 100000 in
theorem may_any {P : Nat → Prop} (w : World) (A : Option Addr) (ls : List Fld) (n c : Nat) (hn : ls.length = n) (_hmax : n * 32 ≤ 140737488355328) (h : SrcF w P A ls) (hs : Slim ls) :
    Calls Tryd.prog 16 #[.slice A n c] w fun e w' => e = .returned (.bool (mayF ls)) ∧ Below w.heap.size w w' := by
  have HN := Lib.hid hn
  have H := Lib.hid h
  have HS := Lib.hid hs
  by_cases h32 : 32 < n
  · have HQ := Lib.hid (show mayF ls = false by unfold mayF; rw [hn, decide_eq_false (by omega)]; rfl)
    clear hn h hs
    go_enter Tryd.func16, Tryd.ntmps16
    go_wp2_with fail
    go_ret
    exact ⟨ret_bool HQ.out.symm, Below.refl _ _⟩
  clear hn h hs
  go_enter Tryd.func16, Tryd.ntmps16
  go_wp2_with fail
  go_loopw [3, 12] (fun vs vi wr => ∃ k m : Nat, vs = .int .i64 (m : Int) ∧ vi = .int .i64 (k : Int) ∧ k ≤ n ∧ m ≤ 2 + 514 * k ∧ Hid (sumL (ls.take k) = m ∧ (ls.take k).all lineOk = true) ∧ Hid (Below w.heap.size w wr)) (fun _ vi _ => n - (intOf vi).toNat)
  case atStart => exact ⟨0, 2, rfl, rfl, Nat.zero_le _, by omega, Lib.hid ⟨rfl, rfl⟩, Lib.hid (Below.refl _ _)⟩
  case round =>
    obtain ⟨k, m, rfl, rfl, hk, hm, HI, HB⟩ := hrel
    by_cases hlt : k < n
    · obtain ⟨p, f, hf, hat, y0, y1, _, _⟩ := H.out.at (c := c) HN.out hlt HB.out
      obtain ⟨s1, s2⟩ := HS.out f (List.mem_of_getElem? hf)
      have HSN := Lib.hid (sumL_snoc (ls.take k) f)
      have HTK := Lib.hid (take_snoc ls k f hf)
      have HLB := Lib.hid (may_line ls k f hf)
      have HLL := Lib.hid (show lineL f = f.1.length + 2 + f.2.length from rfl)
      have HLO := Lib.hid (lineOk_stands f)
      have CS := Lib.hid (fun X : World => stands_at f s2 X)
      have hz1 : (⟨f.1.toArray⟩ : ByteArray).size = f.1.length := by rw [← bl_length, bl_mk]
      have hz2 : (⟨f.2.toArray⟩ : ByteArray).size = f.2.length := by rw [← bl_length, bl_mk]
      clear hf
      by_cases t1 : 512 < f.1.length + 2 + f.2.length
      · have HQ := Lib.hid (HLB.out (by rw [HLO.out, decide_eq_false (by rw [HLL.out]; omega), Bool.false_and]))
        have d1 : decide ((512 : Int) < (f.1.length : Int) + 2 + (f.2.length : Int)) = true := by simp; omega
        clear HLB HLO HSN HTK HI
        generalize f.1 = nm at *
        generalize f.2 = v at *
        go_wp2_with fail
        go_ret
        exact ⟨ret_bool HQ.out.symm, HB.out.alloc HB.out.size _⟩
      · have d1 : decide ((512 : Int) < (f.1.length : Int) + 2 + (f.2.length : Int)) = false := by simp; omega
        have HL5 := Lib.hid (show decide (lineL f ≤ 512) = true from decide_eq_true (by rw [HLL.out]; omega))
        by_cases hst : standsF f = true
        · have HOK := Lib.hid (show lineOk f = true by rw [HLO.out, HL5.out, hst]; rfl)
          rw [hst] at CS
          clear HLB HLO HL5 hst
          generalize f.1 = nm at *
          generalize f.2 = v at *
          go_wp2_with fail
          refine (CS.out _).mono ?_
          rintro e w5 ⟨rfl, b5⟩
          have B5 := Lib.hid ((HB.out.alloc HB.out.size _).trans (b5.mono (HB.out.alloc HB.out.size _).size))
          clear b5
          go_wp2_with fail
          go_roundw
          case rel =>
            refine ⟨k + 1, m + (lineL f + 2), by rw [HLL.out]; go_num, by go_num, hlt, by rw [HLL.out]; omega, Lib.hid ?_, B5⟩
            rw [HTK.out, HSN.out, HI.out.1, List.all_append, HI.out.2]
            exact ⟨rfl, by simp [HOK.out]⟩
          case measure => simp [intOf]; omega
        · rw [Bool.not_eq_true] at hst
          have HQ := Lib.hid (HLB.out (by rw [HLO.out, hst]; simp))
          rw [hst] at CS
          clear HLB HLO HSN HTK HI hst HL5
          generalize f.1 = nm at *
          generalize f.2 = v at *
          go_wp2_with fail
          refine (CS.out _).mono ?_
          rintro e w5 ⟨rfl, b5⟩
          have B5 := Lib.hid ((HB.out.alloc HB.out.size _).trans (b5.mono (HB.out.alloc HB.out.size _).size))
          clear b5
          go_wp2_with fail
          go_ret
          exact ⟨ret_bool HQ.out.symm, B5.out⟩
    · have HQ : Hid (mayF ls = decide (m ≤ 2048)) := Lib.hid (by
        obtain ⟨h1, h2⟩ := HI.out
        have e : ls.take k = ls := List.take_of_length_le (by rw [HN.out]; omega)
        rw [e] at h1 h2
        unfold mayF
        rw [HN.out, h2, h1, decide_eq_true (show n ≤ 32 by omega)]
        simp)
      go_wp2_with fail
      go_ret
      exact ⟨ret_bool (by rw [HQ.out, decide_eq_decide]; omega), HB.out⟩
end Go.Proofs.YtdggfonbjhejoaaDoor
