/-
  The document's own ForAll.
  Conditions: a text of at most 140737488351232 bytes.
-/
import Derived.Test.YtinibacmhmmcdaaDoorVF
import Derived.Great.BuildSlice
import Derived.Great.Walk
import Derived.Deep.WholeRow
namespace Go.Proofs.YtinibacmhmmcdaaDoor.Hop
open Go.RowKit

theorem below_drew {B : Nat} {a w : World} (h : Below B a w) : Below B a w.drew := ⟨h.os, h.tape, h.output, h.size, h.block⟩
def zeros22 : Array Value := (List.replicate 22 (Value.string ⟨#[]⟩)).toArray
/-- The array of the names for all. -/
def AllAt (w : World) (g : Nat) : Prop := Is w g 51 (strs allN)
theorem all_made (w : World) : AllAt (w.alloc (.cells allV 51)) w.heap.size := Is.made w 51 (strs allN)
theorem AllAt.below {w w' : World} {g : Nat} (h : AllAt w g) (hb : Below w.heap.size w w') : AllAt w' g := h.kept (Turn.of_below (S := fun _ => False) hb) (fun h => h)

set_option maxHeartbeats 4000000 in
set_option maxRecDepth 100000 in
theorem rforall_any (s : ByteArray) (w : World) (hs : s.size ≤ 140737488351232) : Calls Tryd.prog 17 #[.string s] w fun e w' => e = .returned (.bool (forF (bl s))) ∧ Below w.heap.size w w' := by
  have CL := Lib.hid (fun W : World => lower_any s W hs)
  have HF := Lib.hid (show forF (bl s) = allN.any (fun x => x == lowF (bl s)) from rfl)
  obtain ⟨L, hL⟩ : ∃ L : ByteArray, L = ⟨(lowF (bl s)).toArray⟩ := ⟨_, rfl⟩
  have hbl : bl L = lowF (bl s) := by rw [hL, bl_mk]
  unfold Text at CL
  rw [← hL] at CL
  rw [← hbl] at HF
  have HTL := Lib.hid (show L.toList = bl L by rw [Lib.toList_data]; rfl)
  clear hbl hL hs
  generalize forF (bl s) = q at *
  go_enter Tryd.func17, Tryd.ntmps17
  go_upto_region 1 with fail
  rename_i hK
  refine wp_region_lit ?_
  refine wpList_buildTo rfl _ _ rfl (some 5) rfl allV (by as_aux_lemma => kernel_rfl) ?_
  refine Great.wpList_allocTo rfl (some 3) rfl (.pointer (some ⟨w.heap.size, 0, none⟩)) (.cells zeros22 51) (by as_aux_lemma => kernel_rfl) ?_
  refine wpList_store_rowTo rfl _ (.tmp 3) (.tmp 5) rfl rfl w.heap.size allV (by as_aux_lemma => kernel_rfl) (by as_aux_lemma => kernel_rfl) _ _ (heap_alloc_last w _) (by as_aux_lemma => kernel_rfl) (by as_aux_lemma => kernel_rfl) (by as_aux_lemma => kernel_rfl) ?_
  rw [World.setRow_alloc_new]
  refine wpList_nil ?_
  have A0 := Lib.hid (all_made w)
  have B0 := Lib.hid ((Below.refl w.heap.size w).alloc (Nat.le_refl _) (.cells allV 51))
  generalize w.alloc (.cells allV 51) = w1 at *
  obtain ⟨g, hg⟩ : ∃ g, w.heap.size = g := ⟨_, rfl⟩
  rw [hg] at A0 ⊢
  clear hg
  refine hK _ _ ?_
  show Code.wp _ _ _ { tmps := #[.string s, undef, .bool false, .pointer (some ⟨g, 0, none⟩), undef, .agg allV, undef, undef, undef, undef, undef, undef, undef, undef, undef, undef], defers := [] } _
  generalize Value.agg allV = ag at *
  clear hK
  go_wp2_with fail
  go_loopw [4] (fun vi wr => ∃ k : Nat, vi = .int .i64 (k : Int) ∧ k ≤ 22 ∧ Hid ((allN.take k).any (fun x => x == bl L) = false) ∧ Hid (Below w1.heap.size w1 wr)) (fun vi _ => 22 - (intOf vi).toNat)
  case atStart => exact ⟨0, rfl, Nat.zero_le _, Lib.hid rfl, Lib.hid (Below.refl _ _)⟩
  case round =>
    obtain ⟨k, rfl, hk, HE, HB⟩ := hrel
    by_cases hlt : k < 22
    · obtain ⟨x, hx⟩ : ∃ x, allN[k]? = some x := ⟨allN[k]'hlt, List.getElem?_eq_getElem _⟩
      have HTK := Lib.hid (show (allN.take (k + 1)).any (fun x => x == bl L) = (x == bl L) by rw [take_snoc allN k x hx, List.any_append, HE.out]; simp)
      obtain ⟨Xs, hXs⟩ : ∃ Xs : ByteArray, Xs = ⟨x.toArray⟩ := ⟨_, rfl⟩
      have hbx : x = bl Xs := by rw [hXs, bl_mk]
      have y2 : wr.cell? ⟨g, k, none⟩ = some (.string Xs) := by
        rw [(A0.out.below HB.out).cell, hXs]
        simp [strs, hx, strV]
      have HX := Lib.hid hx
      have e1 : L.toList = bl L := HTL.out
      have e2 : Xs.toList = x := by rw [Lib.toList_data, hbx]; rfl
      have BD : Hid (Below w1.heap.size w1 wr.drew) := Lib.hid (below_drew HB.out)
      clear hXs hbx hx
      cases hb : (x == bl L) with
      | false =>
        have e3 : (Xs.toList == L.toList) = false := by rw [e1, e2, ← hb]
        rw [hb] at HTK
        clear hb e1 e2
        go_wp2_with fail
        go_region_held3 (fun w' => w'.cell? ⟨g, k, none⟩ = some (.string Xs)) (first | exact y2 | exact z2 | go_keep)
          (first | (go_at_call 38; (with_reducible refine (CL.out wr.drew).mono ?_); rintro e w5 ⟨rfl, b5⟩; have z2 : w5.cell? ⟨g, k, none⟩ = some (.string Xs) := (b5.cell (Lib.lt_of_cell (w := wr.drew) y2)).trans y2; have B5 := Lib.hid (BD.out.trans (b5.mono BD.out.size)); clear b5))
        all_goals
          go_wp2_with fail
          go_roundw
          case rel => exact ⟨k + 1, by go_num, hlt, HTK, B5⟩
          case measure => simp [intOf]; omega
      | true =>
        have e3 : (Xs.toList == L.toList) = true := by rw [e1, e2, ← hb]
        have HY := Lib.hid (show allN.any (fun x => x == bl L) = true from List.any_eq_true.2 ⟨x, List.mem_of_getElem? HX.out, hb⟩)
        clear hb e1 e2
        go_wp2_with fail
        go_region_held3 (fun w' => w'.cell? ⟨g, k, none⟩ = some (.string Xs)) (first | exact y2 | exact z2 | go_keep)
          (first | (go_at_call 38; (with_reducible refine (CL.out wr.drew).mono ?_); rintro e w5 ⟨rfl, b5⟩; have z2 : w5.cell? ⟨g, k, none⟩ = some (.string Xs) := (b5.cell (Lib.lt_of_cell (w := wr.drew) y2)).trans y2; have B5 := Lib.hid (BD.out.trans (b5.mono BD.out.size)); clear b5))
        all_goals
          go_wp2_with fail
          go_ret
          exact ⟨ret_bool (by rw [HF.out, HY.out]), B0.out.trans (B5.out.mono B0.out.size)⟩
    · have HN := Lib.hid (show allN.any (fun x => x == bl L) = false by rw [← HE.out, List.take_of_length_le (show allN.length ≤ k by rw [show allN.length = 22 from rfl]; omega)])
      go_wp2_with fail
      go_ret
      exact ⟨ret_bool (by rw [HF.out, HN.out]), B0.out.trans (HB.out.mono B0.out.size)⟩
end Go.Proofs.YtinibacmhmmcdaaDoor.Hop
