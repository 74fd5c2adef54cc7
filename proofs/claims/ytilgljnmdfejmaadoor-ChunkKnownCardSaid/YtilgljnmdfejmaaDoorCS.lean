/-
  What bytes.Repeat answers to one byte '0', 61 times.
  Conditions: those that each theorem names.
-/
import Derived.Test.YtilgljnmdfejmaaDoorCP
import Derived.Test.YtilgljnmdfejmaaDoorCJ
namespace Go.Proofs.YtilgljnmdfejmaaDoor
open Go.RowKit

set_option maxHeartbeats 1000000 in
set_option maxRecDepth 100000 in
theorem mul64_any (w : World) : Calls Tryd.prog 41 #[.int .u64 1, .int .u64 61] w fun e w' => e = .returned (.tuple #[.int .u64 0, .int .u64 61]) ∧ w = w' := by
  have h1 : bits .and .u64 1 4294967295 = 1 := by decide
  have h2 : bits .and .u64 61 4294967295 = 61 := by decide
  have h3 : bits .and .u64 0 4294967295 = 0 := by decide
  go_enter Tryd.func41, Tryd.ntmps41
  go_wp2_with fail
  go_ret2
  exact ⟨rfl, rfl⟩
theorem mul_any (w : World) : Calls Tryd.prog 24 #[.int .u64 1, .int .u64 61] w fun e w' => e = .returned (.tuple #[.int .u64 0, .int .u64 61]) ∧ w = w' := by
  have C := Lib.hid (mul64_any w)
  go_enter Tryd.func24, Tryd.ntmps24
  go_wp2_with fail
  refine C.out.mono ?_
  rintro e w' ⟨rfl, rfl⟩
  go_wp2_with fail
  go_ret2
  exact ⟨rfl, rfl⟩

def noughts (k : Nat) : List UInt8 := List.replicate k 48
/-- A block that begins with k noughts. -/
def Begun (w : World) (g N k : Nat) : Prop := ∃ cur : List Value, Is w g 5 cur ∧ cur.length = N ∧ cur.take k = vals (noughts k)
theorem noughts_add (k j : Nat) : noughts (k + j) = noughts k ++ noughts j := by unfold noughts; rw [List.replicate_append_replicate]
theorem Begun.src {w : World} {g N k : Nat} (h : Begun w g N k) : Src w (fun _ => True) (some ⟨g, 0, none⟩) (noughts k) := by
  obtain ⟨cur, h1, h2, h3⟩ := h
  intro _
  refine ⟨_, rfl, trivial, h1.lt, fun i v hv => ?_⟩
  rw [add_at, Nat.zero_add, h1.cell]
  rw [← h3, List.getElem?_take] at hv
  split at hv
  · exact hv
  · cases hv
theorem Begun.copy {P : Nat → Prop} {w : World} {g N k : Nat} (h : Begun w g N k) (j dLen dCap sLen sCap : Nat) (A : Option Addr) (hj : j = Nat.min sLen dLen) (hs : Src w P A (noughts j)) (hfit : k + j ≤ N) :
    ∃ w', (Builtin.copy_ #[22, 22] 3 #[.slice (some ⟨g, k, none⟩) dLen dCap, .slice A sLen sCap]).run Tryd.prog w = .ok (.int .i64 (j : Int)) w' ∧ Begun w' g N (k + j) ∧ Turn (· = g) w w' := by
  obtain ⟨cur, h1, h2, h3⟩ := h
  obtain ⟨w', hrun, his, ht, _⟩ := run_copy_in (P := Tryd.prog) w 22 22 3 5 Tryd.underlying22 byteSize (some ⟨g, k, none⟩) A dLen dCap sLen sCap j g k cur 5 h1 (vals (noughts j)) (by rw [vals_length]; simp [noughts])
    hj (fun h0 => by
      obtain ⟨ad, hA, _, _, hc⟩ := hs (by simpa [noughts] using h0)
      exact ⟨rfl, ad, hA, hc⟩) (by omega) (vals_one _)
  have hl : (vals (noughts j)).length = j := by rw [vals_length]; simp [noughts]
  refine ⟨w', hrun, ⟨_, his, by rw [length_splice _ _ _ (by rw [hl]; omega)]; exact h2, ?_⟩, ht⟩
  unfold splice
  rw [h3, ← List.append_assoc, ← vals_append, ← noughts_add, List.take_left']
  rw [vals_length]; simp [noughts]

set_option maxHeartbeats 4000000 in
set_option maxRecDepth 100000 in
theorem repeat_any {P : Nat → Prop} (w : World) (A : Option Addr) (c : Nat) (h : Src w P A [48]) :
    Calls Tryd.prog 15 #[.slice A 1 c, .int .i64 61] w fun e w' => ∃ g, e = .returned (.slice (some ⟨g, 0, none⟩) 61 61) ∧ Src w' (fun _ => True) (some ⟨g, 0, none⟩) (noughts 61) ∧ Below w.heap.size w w' := by
  have CM := Lib.hid (mul_any w)
  obtain ⟨cs, hrun, hn⟩ := made_bytes w 61 (by omega)
  have H := Lib.hid h
  have hb0 : Below w.heap.size w (w.drew.drew.alloc (.cells cs 5)) := (below_drewN (Below.refl w.heap.size w) 2).alloc (Nat.le_refl _) _
  have hi0 : Begun (w.drew.drew.alloc (.cells cs 5)) w.heap.size cs.size 0 := ⟨cs.toList, by have := Is.made w.drew.drew 5 cs.toList; simpa using this, by simp, rfl⟩
  obtain ⟨w1, hr1, bg1, t1⟩ := hi0.copy 1 61 61 1 c A rfl (h.kept (Turn.of_below (S := fun _ => False) hb0) (fun _ _ h => h)) (by omega)
  have B1 : Hid (Below w.heap.size w w1) := Lib.hid (hb0.trans ⟨t1.os, t1.tape, t1.output, t1.size, fun b hb => t1.block b (by have := hb0.size; omega) (by omega)⟩)
  have R0 := Lib.hid (show (callFunc 23 #[.int .i64 61]).run Tryd.prog w = .ok (.value (.slice (some ⟨w.heap.size, 0, none⟩) 61 cs.size)) (w.drew.drew.alloc (.cells cs 5)) from hrun)
  have R1 := Lib.hid hr1
  have G1 := Lib.hid bg1
  have hcut : ∀ (j : Nat), j < 61 → ∀ X : World, (Instr.slice 22 (.slice (some ⟨w.heap.size, 0, none⟩) 61 61) (some (.int .i64 (j : Int))) none none).run Tryd.prog X = .ok (.slice (some ⟨w.heap.size, j, none⟩) (61 - j) (61 - j)) X := fun j hj X => by
    obtain ⟨A', h1, h2⟩ := run_cut (some ⟨w.heap.size, 0, none⟩) 61 61 j (by omega) (Nat.le_refl _)
    rw [h1 X, h2 (by omega)]
    simp only [Option.map_some, add_at, Nat.zero_add]
  have HCUT := Lib.hid hcut
  clear h hrun hb0 hi0 hr1 bg1 t1 hcut
  go_enter Tryd.func15, Tryd.ntmps15
  go_wp2_with fail
  refine CM.out.mono ?_
  rintro e w0 ⟨rfl, rfl⟩
  go_wp2_with fail
  rw [R0.out]
  rw [Oper.upon_value]
  have h61 : (61 : Int) ≤ (cs.size : Int) := by omega
  have hs8 : ∀ X : World, (Instr.slice 22 (.slice (some ⟨w.heap.size, 0, none⟩) 61 cs.size) none (some (.int .i64 61)) (some (.int .i64 61))).run Tryd.prog X = .ok (.slice (some ⟨w.heap.size, 0, none⟩) 61 61) X := fun X => by
    simp [Instr.slice, run_underlying Tryd.underlying22, Instr.sliceBounds, Instr.sliceBound, asIntOf, h61, add_at]
  clear h61
  go_wp2_with (refine copy_by rfl (.tmp 58) (.tmp 59) 22 22 rfl _ _ _ w1 rfl rfl R1.out ?_)
  go_loopw [10] (fun vb wr => ∃ k : Nat, vb = .int .i64 (k : Int) ∧ 1 ≤ k ∧ k ≤ 61 ∧ Hid (Begun wr w.heap.size cs.size k) ∧ Hid (Below w.heap.size w wr)) (fun vb _ => 61 - (intOf vb).toNat)
  case atStart => exact ⟨1, rfl, Nat.le_refl _, by omega, G1, B1⟩
  case round =>
    obtain ⟨k, rfl, hk1, hk, HG, HB⟩ := hrel
    by_cases hlt : k < 61
    · obtain ⟨j, hj⟩ : ∃ j, Nat.min k (61 - k) = j := ⟨_, rfl⟩
      have hj0 : 0 < j ∧ k + j ≤ 61 ∧ j ≤ k := by rw [← hj]; simp only [Nat.min_def]; split <;> omega
      obtain ⟨hj1, hj2, hj3⟩ := hj0
      have BD : Hid (Below wr.heap.size wr wr.drew) := Lib.hid (below_drewN (Below.refl _ _) 1)
      have hgd : Begun wr.drew w.heap.size cs.size k := HG.out
      have hsj : Src wr.drew (fun _ => True) (some ⟨w.heap.size, 0, none⟩) (noughts j) := by
        intro h0
        have hx : noughts k = noughts j ++ noughts (k - j) := by rw [← noughts_add]; congr 1; omega
        obtain ⟨ad, hA, hP, hl, hc⟩ := hgd.src (by rw [hx, List.length_append]; omega)
        refine ⟨ad, hA, hP, hl, fun i v hv => hc i v ?_⟩
        rw [hx, vals_append, List.getElem?_append_left (List.getElem?_eq_some_iff.1 hv).1]
        exact hv
      obtain ⟨w9, hrun9, hg9, t9⟩ := hgd.copy j (61 - k) (61 - k) k 61 (some ⟨w.heap.size, 0, none⟩) hj.symm hsj (by omega)
      have B9 : Hid (Below w.heap.size w w9) := Lib.hid ((HB.out.trans (BD.out.mono HB.out.size)).trans ⟨t9.os, t9.tape, t9.output, t9.size, fun b hb => t9.block b (by have := HB.out.size; have := BD.out.size; omega) (by omega)⟩)
      have R9 := Lib.hid hrun9
      have G9 := Lib.hid hg9
      have hc1 := HCUT.out k hlt
      have hc2 : ∀ X : World, (Instr.slice 22 (.slice (some ⟨w.heap.size, 0, none⟩) 61 61) none (some (.int .i64 (k : Int))) none).run Tryd.prog X = .ok (.slice (some ⟨w.heap.size, 0, none⟩) k 61) X := fun X => by
        simp [Instr.slice, run_underlying Tryd.underlying22, Instr.sliceBounds, Instr.sliceBound, asIntOf, hk, add_at]
      have hmin : min (k : Int) 61 = (k : Int) := by omega
      have wr9 : IntKind.i64.wrap ((k : Int) + (j : Int)) = (k : Int) + (j : Int) := by rw [IntKind.wrap_i64]; omega
      clear hgd hsj hrun9 hg9 t9 hj
      go_wp2_with fail
      go_region_held3 (fun _ => True) (trivial)
        (first
          | (refine step_copy_by rfl (.tmp 70) (.tmp 73) 22 22 rfl _ _ _ w9 rfl rfl R9.out ?_))
      go_wp2_with fail
      go_roundw
      case rel => exact ⟨k + j, by go_num, by omega, hj2, G9, B9⟩
      case measure => simp [intOf]; omega
    · obtain rfl : k = 61 := by omega
      have S1 := Lib.hid HG.out.src
      go_wp2_with fail
      go_ret
      exact ⟨w.heap.size, rfl, S1.out, HB.out⟩
end Go.Proofs.YtilgljnmdfejmaaDoor
