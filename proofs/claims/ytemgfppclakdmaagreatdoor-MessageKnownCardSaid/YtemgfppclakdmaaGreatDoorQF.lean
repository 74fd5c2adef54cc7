/-
  The law MessageKnown: walk.
  Conditions: the landed code's contracts; Go's table of powers of ten.
-/
import Derived.Test.YtemgfppclakdmaaGreatDoorCP
import Derived.Lib.MakeNoZero
import Derived.Deep.RegionHeld3
import Derived.Test.YtemgfppclakdmaaGreatDoorML
import Derived.Test.YtemgfppclakdmaaGreatDoorOC
import Derived.Deep.RegionLaw
import Derived.Deep.CutRange
import Derived.Lib.AppendZerosOnto
namespace Go.Proofs.YtemgfppclakdmaaGreatDoor
open Go.RowKit

theorem made_bytes (w : World) (T : Nat) (hT : T ≤ 4096) : ∃ cs : Array Value, (callFunc 48 #[.int .i64 (T : Int)]).run Tryz.prog w = .ok (.value (.slice (some ⟨w.heap.size, 0, none⟩) T cs.size)) (w.drew.drew.alloc (.cells cs 5)) ∧ T ≤ cs.size := by
  obtain ⟨cs, hrun, hle, _⟩ := Lib.run_makeNoZero (P := Tryz.prog) w #[3] 22 5 Tryz.underlying22 T (by omega)
  refine ⟨cs, ?_, hle⟩
  rw [run_callFunc_extern Tryz.func48 (by kernel_rfl) (by kernel_rfl) (by kernel_rfl) (e := Extern.BytealgMakeNoZero.makeNoZero #[3] #[22]) (by kernel_rfl), hrun]
  rfl


def manyA (k : Nat) : List UInt8 := List.replicate k 97
/-- A block that begins with k manyA. -/
def Begun (w : World) (g N k : Nat) : Prop := ∃ cur : List Value, Is w g 5 cur ∧ cur.length = N ∧ cur.take k = vals (manyA k)
theorem manyA_add (k j : Nat) : manyA (k + j) = manyA k ++ manyA j := by unfold manyA; rw [List.replicate_append_replicate]
theorem Begun.src {w : World} {g N k : Nat} (h : Begun w g N k) : Src w (fun _ => True) (some ⟨g, 0, none⟩) (manyA k) := by
  obtain ⟨cur, h1, h2, h3⟩ := h
  intro _
  refine ⟨_, rfl, trivial, h1.lt, fun i v hv => ?_⟩
  rw [add_at, Nat.zero_add, h1.cell]
  rw [← h3, List.getElem?_take] at hv
  split at hv
  · exact hv
  · cases hv
theorem Begun.copy {P : Nat → Prop} {w : World} {g N k : Nat} (h : Begun w g N k) (j dLen dCap sLen sCap : Nat) (A : Option Addr) (hj : j = Nat.min sLen dLen) (hs : Src w P A (manyA j)) (hfit : k + j ≤ N) :
    ∃ w', (Builtin.copy_ #[22, 22] 3 #[.slice (some ⟨g, k, none⟩) dLen dCap, .slice A sLen sCap]).run Tryz.prog w = .ok (.int .i64 (j : Int)) w' ∧ Begun w' g N (k + j) ∧ Turn (· = g) w w' := by
  obtain ⟨cur, h1, h2, h3⟩ := h
  obtain ⟨w', hrun, his, ht, _⟩ := run_copy_in (P := Tryz.prog) w 22 22 3 5 Tryz.underlying22 byteSize (some ⟨g, k, none⟩) A dLen dCap sLen sCap j g k cur 5 h1 (vals (manyA j)) (by rw [vals_length]; simp [manyA])
    hj (fun h0 => by
      obtain ⟨ad, hA, _, _, hc⟩ := hs (by simpa [manyA] using h0)
      exact ⟨rfl, ad, hA, hc⟩) (by omega) (vals_one _)
  have hl : (vals (manyA j)).length = j := by rw [vals_length]; simp [manyA]
  refine ⟨w', hrun, ⟨_, his, by rw [length_splice _ _ _ (by rw [hl]; omega)]; exact h2, ?_⟩, ht⟩
  unfold splice
  rw [h3, ← List.append_assoc, ← vals_append, ← manyA_add, List.take_left']
  rw [vals_length]; simp [manyA]

set_option maxHeartbeats 1000000 in
set_option maxRecDepth 100000 in
theorem mul64_511 (w : World) : Calls Tryz.prog 79 #[.int .u64 1, .int .u64 511] w fun e w' => e = .returned (.tuple #[.int .u64 0, .int .u64 511]) ∧ w = w' := by
  have h1 : bits .and .u64 1 4294967295 = 1 := by decide
  have h2 : bits .and .u64 511 4294967295 = 511 := by decide
  have h3 : bits .and .u64 0 4294967295 = 0 := by decide
  go_enter Tryz.func79, Tryz.ntmps79
  go_wp2_with fail
  go_ret2
  exact ⟨rfl, rfl⟩
theorem mul_511 (w : World) : Calls Tryz.prog 47 #[.int .u64 1, .int .u64 511] w fun e w' => e = .returned (.tuple #[.int .u64 0, .int .u64 511]) ∧ w = w' := by
  have C := Lib.hid (mul64_511 w)
  go_enter Tryz.func47, Tryz.ntmps47
  go_wp2_with fail
  refine C.out.mono ?_
  rintro e w' ⟨rfl, rfl⟩
  go_wp2_with fail
  go_ret2
  exact ⟨rfl, rfl⟩

set_option maxHeartbeats 4000000 in
set_option maxRecDepth 100000 in
theorem repeat_511 {P : Nat → Prop} (w : World) (A : Option Addr) (c : Nat) (h : Src w P A [97]) :
    Calls Tryz.prog 22 #[.slice A 1 c, .int .i64 511] w fun e w' => ∃ g, Hid (w.heap.size ≤ g) ∧ e = .returned (.slice (some ⟨g, 0, none⟩) 511 511) ∧ Src w' (fun _ => True) (some ⟨g, 0, none⟩) (manyA 511) ∧ Below w.heap.size w w' := by
  have CM := Lib.hid (mul_511 w)
  obtain ⟨cs, hrun, hn⟩ := made_bytes w 511 (by omega)
  have H := Lib.hid h
  have hb0 : Below w.heap.size w (w.drew.drew.alloc (.cells cs 5)) := (below_drewN (Below.refl w.heap.size w) 2).alloc (Nat.le_refl _) _
  have hi0 : Begun (w.drew.drew.alloc (.cells cs 5)) w.heap.size cs.size 0 := ⟨cs.toList, by have := Is.made w.drew.drew 5 cs.toList; simpa using this, by simp, rfl⟩
  obtain ⟨w1, hr1, bg1, t1⟩ := hi0.copy 1 511 511 1 c A rfl (h.kept (Turn.of_below (S := fun _ => False) hb0) (fun _ _ h => h)) (by omega)
  have B1 : Hid (Below w.heap.size w w1) := Lib.hid (hb0.trans ⟨t1.os, t1.tape, t1.output, t1.size, fun b hb => t1.block b (by have := hb0.size; omega) (by omega)⟩)
  have R0 := Lib.hid (show (callFunc 48 #[.int .i64 511]).run Tryz.prog w = .ok (.value (.slice (some ⟨w.heap.size, 0, none⟩) 511 cs.size)) (w.drew.drew.alloc (.cells cs 5)) from hrun)
  have R1 := Lib.hid hr1
  have G1 := Lib.hid bg1
  have hcut : ∀ (j : Nat), j < 511 → ∀ X : World, (Instr.slice 22 (.slice (some ⟨w.heap.size, 0, none⟩) 511 511) (some (.int .i64 (j : Int))) none none).run Tryz.prog X = .ok (.slice (some ⟨w.heap.size, j, none⟩) (511 - j) (511 - j)) X := fun j hj X => by
    obtain ⟨A', h1, h2⟩ := run_cut (some ⟨w.heap.size, 0, none⟩) 511 511 j (by omega) (Nat.le_refl _)
    rw [h1 X, h2 (by omega)]
    simp only [Option.map_some, add_at, Nat.zero_add]
  have HCUT := Lib.hid hcut
  clear h hrun hb0 hi0 hr1 bg1 t1 hcut
  go_enter Tryz.func22, Tryz.ntmps22
  go_wp2_with fail
  refine CM.out.mono ?_
  rintro e w0 ⟨rfl, rfl⟩
  go_wp2_with fail
  rw [R0.out]
  rw [Oper.upon_value]
  have h511 : (511 : Int) ≤ (cs.size : Int) := by omega
  have hs8 : ∀ X : World, (Instr.slice 22 (.slice (some ⟨w.heap.size, 0, none⟩) 511 cs.size) none (some (.int .i64 511)) (some (.int .i64 511))).run Tryz.prog X = .ok (.slice (some ⟨w.heap.size, 0, none⟩) 511 511) X := fun X => by
    simp [Instr.slice, run_underlying Tryz.underlying22, Instr.sliceBounds, Instr.sliceBound, asIntOf, h511, add_at]
  clear h511
  go_wp2_with (refine copy_by rfl (.tmp 58) (.tmp 59) 22 22 rfl _ _ _ w1 rfl rfl R1.out ?_)
  go_loopw [10] (fun vb wr => ∃ k : Nat, vb = .int .i64 (k : Int) ∧ 1 ≤ k ∧ k ≤ 511 ∧ Hid (Begun wr w.heap.size cs.size k) ∧ Hid (Below w.heap.size w wr)) (fun vb _ => 511 - (intOf vb).toNat)
  case atStart => exact ⟨1, rfl, Nat.le_refl _, by omega, G1, B1⟩
  case round =>
    obtain ⟨k, rfl, hk1, hk, HG, HB⟩ := hrel
    by_cases hlt : k < 511
    · obtain ⟨j, hj⟩ : ∃ j, Nat.min k (511 - k) = j := ⟨_, rfl⟩
      have hj0 : 0 < j ∧ k + j ≤ 511 ∧ j ≤ k := by rw [← hj]; simp only [Nat.min_def]; split <;> omega
      obtain ⟨hj1, hj2, hj3⟩ := hj0
      have BD : Hid (Below wr.heap.size wr wr.drew) := Lib.hid (below_drewN (Below.refl _ _) 1)
      have hgd : Begun wr.drew w.heap.size cs.size k := HG.out
      have hsj : Src wr.drew (fun _ => True) (some ⟨w.heap.size, 0, none⟩) (manyA j) := by
        intro h0
        have hx : manyA k = manyA j ++ manyA (k - j) := by rw [← manyA_add]; congr 1; omega
        obtain ⟨ad, hA, hP, hl, hc⟩ := hgd.src (by rw [hx, List.length_append]; omega)
        refine ⟨ad, hA, hP, hl, fun i v hv => hc i v ?_⟩
        rw [hx, vals_append, List.getElem?_append_left (List.getElem?_eq_some_iff.1 hv).1]
        exact hv
      obtain ⟨w9, hrun9, hg9, t9⟩ := hgd.copy j (511 - k) (511 - k) k 511 (some ⟨w.heap.size, 0, none⟩) hj.symm hsj (by omega)
      have B9 : Hid (Below w.heap.size w w9) := Lib.hid ((HB.out.trans (BD.out.mono HB.out.size)).trans ⟨t9.os, t9.tape, t9.output, t9.size, fun b hb => t9.block b (by have := HB.out.size; have := BD.out.size; omega) (by omega)⟩)
      have R9 := Lib.hid hrun9
      have G9 := Lib.hid hg9
      have hc1 := HCUT.out k hlt
      have hc2 : ∀ X : World, (Instr.slice 22 (.slice (some ⟨w.heap.size, 0, none⟩) 511 511) none (some (.int .i64 (k : Int))) none).run Tryz.prog X = .ok (.slice (some ⟨w.heap.size, 0, none⟩) k 511) X := fun X => by
        simp [Instr.slice, run_underlying Tryz.underlying22, Instr.sliceBounds, Instr.sliceBound, asIntOf, hk, add_at]
      have hmin : min (k : Int) 511 = (k : Int) := by omega
      have wr9 : IntKind.i64.wrap ((k : Int) + (j : Int)) = (k : Int) + (j : Int) := by rw [IntKind.wrap_i64]; omega
      clear hgd hsj hrun9 hg9 t9 hj
      go_wp2_with fail
      go_region_held3 (fun _ => True) (trivial)
        (first
          | (refine step_copy_by rfl (.tmp 70) (.tmp 73) 22 22 rfl _ _ _ w9 rfl rfl R9.out ?_))
      go_wp2_with fail
      go_roundw
      case rel => exact ⟨k + j, by go_num, by omega, hj2, G9, B9⟩
      case measure => simp [intOf]; omega
    · obtain rfl : k = 511 := by omega
      have S1 := Lib.hid HG.out.src
      go_wp2_with fail
      go_ret
      exact ⟨w.heap.size, Lib.hid (Nat.le_refl _), rfl, S1.out, HB.out⟩
set_option maxHeartbeats 1000000 in
set_option maxRecDepth 100000 in
theorem mul64_512 (w : World) : Calls Tryz.prog 79 #[.int .u64 1, .int .u64 512] w fun e w' => e = .returned (.tuple #[.int .u64 0, .int .u64 512]) ∧ w = w' := by
  have h1 : bits .and .u64 1 4294967295 = 1 := by decide
  have h2 : bits .and .u64 512 4294967295 = 512 := by decide
  have h3 : bits .and .u64 0 4294967295 = 0 := by decide
  go_enter Tryz.func79, Tryz.ntmps79
  go_wp2_with fail
  go_ret2
  exact ⟨rfl, rfl⟩
theorem mul_512 (w : World) : Calls Tryz.prog 47 #[.int .u64 1, .int .u64 512] w fun e w' => e = .returned (.tuple #[.int .u64 0, .int .u64 512]) ∧ w = w' := by
  have C := Lib.hid (mul64_512 w)
  go_enter Tryz.func47, Tryz.ntmps47
  go_wp2_with fail
  refine C.out.mono ?_
  rintro e w' ⟨rfl, rfl⟩
  go_wp2_with fail
  go_ret2
  exact ⟨rfl, rfl⟩

set_option maxHeartbeats 4000000 in
set_option maxRecDepth 100000 in
theorem repeat_512 {P : Nat → Prop} (w : World) (A : Option Addr) (c : Nat) (h : Src w P A [97]) :
    Calls Tryz.prog 22 #[.slice A 1 c, .int .i64 512] w fun e w' => ∃ g, Hid (w.heap.size ≤ g) ∧ e = .returned (.slice (some ⟨g, 0, none⟩) 512 512) ∧ Src w' (fun _ => True) (some ⟨g, 0, none⟩) (manyA 512) ∧ Below w.heap.size w w' := by
  have CM := Lib.hid (mul_512 w)
  obtain ⟨cs, hrun, hn⟩ := made_bytes w 512 (by omega)
  have H := Lib.hid h
  have hb0 : Below w.heap.size w (w.drew.drew.alloc (.cells cs 5)) := (below_drewN (Below.refl w.heap.size w) 2).alloc (Nat.le_refl _) _
  have hi0 : Begun (w.drew.drew.alloc (.cells cs 5)) w.heap.size cs.size 0 := ⟨cs.toList, by have := Is.made w.drew.drew 5 cs.toList; simpa using this, by simp, rfl⟩
  obtain ⟨w1, hr1, bg1, t1⟩ := hi0.copy 1 512 512 1 c A rfl (h.kept (Turn.of_below (S := fun _ => False) hb0) (fun _ _ h => h)) (by omega)
  have B1 : Hid (Below w.heap.size w w1) := Lib.hid (hb0.trans ⟨t1.os, t1.tape, t1.output, t1.size, fun b hb => t1.block b (by have := hb0.size; omega) (by omega)⟩)
  have R0 := Lib.hid (show (callFunc 48 #[.int .i64 512]).run Tryz.prog w = .ok (.value (.slice (some ⟨w.heap.size, 0, none⟩) 512 cs.size)) (w.drew.drew.alloc (.cells cs 5)) from hrun)
  have R1 := Lib.hid hr1
  have G1 := Lib.hid bg1
  have hcut : ∀ (j : Nat), j < 512 → ∀ X : World, (Instr.slice 22 (.slice (some ⟨w.heap.size, 0, none⟩) 512 512) (some (.int .i64 (j : Int))) none none).run Tryz.prog X = .ok (.slice (some ⟨w.heap.size, j, none⟩) (512 - j) (512 - j)) X := fun j hj X => by
    obtain ⟨A', h1, h2⟩ := run_cut (some ⟨w.heap.size, 0, none⟩) 512 512 j (by omega) (Nat.le_refl _)
    rw [h1 X, h2 (by omega)]
    simp only [Option.map_some, add_at, Nat.zero_add]
  have HCUT := Lib.hid hcut
  clear h hrun hb0 hi0 hr1 bg1 t1 hcut
  go_enter Tryz.func22, Tryz.ntmps22
  go_wp2_with fail
  refine CM.out.mono ?_
  rintro e w0 ⟨rfl, rfl⟩
  go_wp2_with fail
  rw [R0.out]
  rw [Oper.upon_value]
  have h512 : (512 : Int) ≤ (cs.size : Int) := by omega
  have hs8 : ∀ X : World, (Instr.slice 22 (.slice (some ⟨w.heap.size, 0, none⟩) 512 cs.size) none (some (.int .i64 512)) (some (.int .i64 512))).run Tryz.prog X = .ok (.slice (some ⟨w.heap.size, 0, none⟩) 512 512) X := fun X => by
    simp [Instr.slice, run_underlying Tryz.underlying22, Instr.sliceBounds, Instr.sliceBound, asIntOf, h512, add_at]
  clear h512
  go_wp2_with (refine copy_by rfl (.tmp 58) (.tmp 59) 22 22 rfl _ _ _ w1 rfl rfl R1.out ?_)
  go_loopw [10] (fun vb wr => ∃ k : Nat, vb = .int .i64 (k : Int) ∧ 1 ≤ k ∧ k ≤ 512 ∧ Hid (Begun wr w.heap.size cs.size k) ∧ Hid (Below w.heap.size w wr)) (fun vb _ => 512 - (intOf vb).toNat)
  case atStart => exact ⟨1, rfl, Nat.le_refl _, by omega, G1, B1⟩
  case round =>
    obtain ⟨k, rfl, hk1, hk, HG, HB⟩ := hrel
    by_cases hlt : k < 512
    · obtain ⟨j, hj⟩ : ∃ j, Nat.min k (512 - k) = j := ⟨_, rfl⟩
      have hj0 : 0 < j ∧ k + j ≤ 512 ∧ j ≤ k := by rw [← hj]; simp only [Nat.min_def]; split <;> omega
      obtain ⟨hj1, hj2, hj3⟩ := hj0
      have BD : Hid (Below wr.heap.size wr wr.drew) := Lib.hid (below_drewN (Below.refl _ _) 1)
      have hgd : Begun wr.drew w.heap.size cs.size k := HG.out
      have hsj : Src wr.drew (fun _ => True) (some ⟨w.heap.size, 0, none⟩) (manyA j) := by
        intro h0
        have hx : manyA k = manyA j ++ manyA (k - j) := by rw [← manyA_add]; congr 1; omega
        obtain ⟨ad, hA, hP, hl, hc⟩ := hgd.src (by rw [hx, List.length_append]; omega)
        refine ⟨ad, hA, hP, hl, fun i v hv => hc i v ?_⟩
        rw [hx, vals_append, List.getElem?_append_left (List.getElem?_eq_some_iff.1 hv).1]
        exact hv
      obtain ⟨w9, hrun9, hg9, t9⟩ := hgd.copy j (512 - k) (512 - k) k 512 (some ⟨w.heap.size, 0, none⟩) hj.symm hsj (by omega)
      have B9 : Hid (Below w.heap.size w w9) := Lib.hid ((HB.out.trans (BD.out.mono HB.out.size)).trans ⟨t9.os, t9.tape, t9.output, t9.size, fun b hb => t9.block b (by have := HB.out.size; have := BD.out.size; omega) (by omega)⟩)
      have R9 := Lib.hid hrun9
      have G9 := Lib.hid hg9
      have hc1 := HCUT.out k hlt
      have hc2 : ∀ X : World, (Instr.slice 22 (.slice (some ⟨w.heap.size, 0, none⟩) 512 512) none (some (.int .i64 (k : Int))) none).run Tryz.prog X = .ok (.slice (some ⟨w.heap.size, 0, none⟩) k 512) X := fun X => by
        simp [Instr.slice, run_underlying Tryz.underlying22, Instr.sliceBounds, Instr.sliceBound, asIntOf, hk, add_at]
      have hmin : min (k : Int) 512 = (k : Int) := by omega
      have wr9 : IntKind.i64.wrap ((k : Int) + (j : Int)) = (k : Int) + (j : Int) := by rw [IntKind.wrap_i64]; omega
      clear hgd hsj hrun9 hg9 t9 hj
      go_wp2_with fail
      go_region_held3 (fun _ => True) (trivial)
        (first
          | (refine step_copy_by rfl (.tmp 70) (.tmp 73) 22 22 rfl _ _ _ w9 rfl rfl R9.out ?_))
      go_wp2_with fail
      go_roundw
      case rel => exact ⟨k + j, by go_num, by omega, hj2, G9, B9⟩
      case measure => simp [intOf]; omega
    · obtain rfl : k = 512 := by omega
      have S1 := Lib.hid HG.out.src
      go_wp2_with fail
      go_ret
      exact ⟨w.heap.size, Lib.hid (Nat.le_refl _), rfl, S1.out, HB.out⟩
end Go.Proofs.YtemgfppclakdmaaGreatDoor

namespace Go.Proofs.YtemgfppclakdmaaGreatDoor
open Go.RowKit

theorem srcf_nil9 (w : World) (P : Nat → Prop) (A : Option Addr) : SrcF w P A [] := fun h => absurd h (by simp)
/-- A block of bytes of a constant, marked. -/
theorem run_mark (X : World) (g : Nat) (hg : Is X g 5 [.int .u8 97]) : ∃ X', (convert 22 22 (.slice (some ⟨g, 0, none⟩) 1 1)).run Tryz.prog X = .ok (.slice (some ⟨g, 0, none⟩) 1 1) X' ∧ Turn (· = g) X X' ∧ Src X' (fun _ => True) (some ⟨g, 0, none⟩) [97] ∧ X'.heap.size = X.heap.size := by
  unfold Is at hg
  have hsh : X.shape? g = some (5, 1) := by unfold World.shape?; rw [hg]; rfl
  have hlt : g < X.heap.size := (Array.getElem?_eq_some_iff.1 hg).1
  refine ⟨X.freeze ⟨g, 1, none⟩ 1, ?_, ⟨rfl, rfl, rfl, ?_, fun k hk hn => ?_⟩, fun _ => ⟨_, rfl, trivial, ?_, fun i v hv => ?_⟩, ?_⟩
  · simp [convert, run_underlying Tryz.underlying22, run_underlying Tryz.underlying5, markStringish, hsh]
  · simp [World.freeze]
  · have hn' : ¬ g = k := fun e => hn e.symm
    simp [World.freeze, Array.getElem?_modify, hn']
  · simpa [World.freeze] using hlt
  · have hi : i < 1 := by
      have := (List.getElem?_eq_some_iff.1 hv).1
      rwa [vals_length] at this
    obtain rfl : i = 0 := by omega
    obtain rfl : v = .int .u8 97 := by simpa [vals, B] using hv.symm
    have h2 : (X.freeze ⟨g, 1, none⟩ 1).heap[g]? = some (.cells #[.int .u8 97] 5 (1, 2)) := by simp [World.freeze, Array.getElem?_modify, hg]
    rw [add_at]
    exact cell_of_row _ g 0 _ _ _ h2
  · simp [World.freeze]
theorem src_one (X : World) (g : Nat) (h : Is X g 5 [.int .u8 97]) : Src X (fun _ => True) (some ⟨g, 0, none⟩) [97] := Is.src (bs := [97]) h (fun _ => True) trivial
/-- string(b) of what was told. -/
theorem txt_many (X : World) (g N : Nat) (h : Src X (fun _ => True) (some ⟨g, 0, none⟩) (manyA N)) : (convert 22 9 (.slice (some ⟨g, 0, none⟩) N N)).run Tryz.prog X = .ok (.string ⟨(manyA N).toArray⟩) X :=
  run_text X _ (manyA N) N N (by simp [manyA]) h
/-- A row of the law's table. -/
abbrev Rm := ByteArray × Nat
def rmV (r : Rm) : List Value := [.string r.1, .int .i64 (r.2 : Int)]
def RmOk (r : Rm) : Prop := (requestM (bl r.1)).2.2 = r.2 ∧ r.1.size ≤ 1000
def rms (l : List Rm) : List Value := l.flatMap rmV
theorem rms_get : ∀ (l : List Rm) (k j : Nat) (r : Rm), l[k]? = some r → j < 2 → (rms l)[k * 2 + j]? = (rmV r)[j]?
  | [], k, j, r, h, _ => by simp at h
  | x :: t, 0, j, r, h, hj => by
    obtain rfl : x = r := by simpa using h
    show (rmV x ++ rms t)[0 * 2 + j]? = _
    rw [List.getElem?_append_left (by show 0 * 2 + j < 2; omega)]
    congr 1
    omega
  | x :: t, k + 1, j, r, h, hj => by
    have := rms_get t k j r (by simpa using h) hj
    show (rmV x ++ rms t)[(k + 1) * 2 + j]? = _
    rw [List.getElem?_append_right (by show 2 ≤ _; omega), ← this]
    congr 1
    show (k + 1) * 2 + j - 2 = _
    omega
theorem rmSize : (Tryz.prog.info? 54).map (·.size) = some 2 := by kernel_rfl
theorem rm_at (T : List Rm) {w16 wr : World} {g : Nat} (hl : T.length = 10) (hi : Is w16 g 54 (rms T)) (hok : ∀ r ∈ T, RmOk r) (k : Nat) (hk : k < 10) (hb : Below w16.heap.size w16 wr) :
    ∃ (p : Addr) (r : Rm), RmOk r ∧ (∀ X, (Instr.indexAt 56 (.slice (some ⟨g, 0, none⟩) 10 10) (.int .i64 (k : Int))).run Tryz.prog X = .ok (.pointer (some p)) X) ∧
      wr.cell? p = some (.string r.1) ∧ wr.cell? ⟨p.block, p.off + 1, none⟩ = some (.int .i64 (r.2 : Int)) := by
  obtain ⟨r, hr⟩ : ∃ r, T[k]? = some r := ⟨T[k]'(by omega), List.getElem?_eq_getElem _⟩
  have hj : Is wr g 54 (rms T) := hi.kept (Turn.of_below (S := fun _ => False) hb) (fun h => h)
  refine ⟨⟨g, k * 2, none⟩, r, hok r (List.mem_of_getElem? hr), fun X => ?_, ?_, ?_⟩
  · have := run_at_size 56 54 2 Tryz.underlying56 rmSize ⟨g, 0, none⟩ 10 10 k hk X
    rw [add_at, Nat.zero_add] at this
    exact this
  · exact (hj.cell (k * 2)).trans (rms_get T k 0 r hr (by omega))
  · exact (hj.cell (k * 2 + 1)).trans (rms_get T k 1 r hr (by omega))
/-- []byte(s), its capacity told. -/
theorem run_to_bytes10 (w : World) (s : ByteArray) : ∃ (cap : Nat) (w1 : World), (convert 9 22 (.string s)).run Tryz.prog w = .ok (.slice (some ⟨w.heap.size, 0, none⟩) s.size cap) w1 ∧ Row w1 w.heap.size (bl s) ∧ Below w.heap.size w w1 ∧ s.size ≤ cap := by
  obtain ⟨cap, w1, h1, h2, h3, _⟩ := run_to_bytes w s
  refine ⟨cap, w1, h1, h2, h3, ?_⟩
  have h5 := Lib.run_convert_string_bytes (P := Tryz.prog) w 9 22 5 s Tryz.underlying9 Tryz.underlying22 Tryz.underlying5
  rw [h1] at h5
  injection h5 with h5 _
  injection h5 with _ _ h5
  rw [h5]
  exact grownCap_ge w s.size 0 5

theorem mrow0 : (requestM []).2.2 = 8 := by decide +kernel
theorem mrow1 : (requestM [71, 69, 84, 32, 47, 32, 72, 84, 84, 80, 47, 49, 46, 49, 10, 10]).2.2 = 20 := by decide +kernel
theorem mrow2 : (requestM [13, 10]).2.2 = 20 := by decide +kernel
theorem mrow3 : (requestM [71, 69, 84, 32, 47, 32, 72, 84, 84, 80, 47, 49, 46, 49, 13, 10, 67, 111, 110, 116, 101, 110, 116, 45, 76, 101, 110, 103, 116, 104, 58, 32, 49, 13, 10, 67, 111, 110, 116, 101, 110, 116, 45, 76, 101, 110, 103, 116, 104, 58, 32, 50, 13, 10, 13, 10, 97]).2.2 = 22 := by decide +kernel
theorem mrow4 : (requestM [71, 69, 84, 32, 47, 32, 72, 84, 84, 80, 47, 49, 46, 49, 13, 10, 67, 111, 110, 116, 101, 110, 116, 45, 76, 101, 110, 103, 116, 104, 58, 32, 52, 48, 57, 55, 13, 10, 13, 10]).2.2 = 21 := by decide +kernel
theorem mrow5 : (requestM [71, 69, 84, 32, 47, 32, 72, 84, 84, 80, 47, 49, 46, 49, 13, 10, 84, 114, 97, 110, 115, 102, 101, 114, 45, 69, 110, 99, 111, 100, 105, 110, 103, 58, 32, 99, 104, 117, 110, 107, 101, 100, 13, 10, 13, 10, 49, 13, 10, 97, 13, 10, 48, 13, 10, 13, 10]).2.2 = 0 := by decide +kernel
theorem mrow6 : (requestM [71, 69, 84, 32, 47, 32, 72, 84, 84, 80, 47, 49, 46, 49, 13, 10, 84, 114, 97, 110, 115, 102, 101, 114, 45, 69, 110, 99, 111, 100, 105, 110, 103, 58, 32, 99, 104, 117, 110, 107, 101, 100, 13, 10, 13, 10, 120, 13, 10]).2.2 = 20 := by decide +kernel
theorem mrow7 : (requestM [71, 69, 84, 32, 47, 32, 72, 84, 84, 80, 47, 49, 46, 49, 13, 10, 88, 58, 32, 121, 13, 10]).2.2 = 8 := by decide +kernel
theorem mrow8 : (requestM (manyA 511)).2.2 = 8 := by decide +kernel
theorem mrow9 : (requestM (manyA 512)).2.2 = 21 := by decide +kernel
def tabM (T1 T2 : ByteArray) : List Rm := [(⟨#[]⟩, 8), (⟨#[71, 69, 84, 32, 47, 32, 72, 84, 84, 80, 47, 49, 46, 49, 10, 10]⟩, 20), (⟨#[13, 10]⟩, 20), (⟨#[71, 69, 84, 32, 47, 32, 72, 84, 84, 80, 47, 49, 46, 49, 13, 10, 67, 111, 110, 116, 101, 110, 116, 45, 76, 101, 110, 103, 116, 104, 58, 32, 49, 13, 10, 67, 111, 110, 116, 101, 110, 116, 45, 76, 101, 110, 103, 116, 104, 58, 32, 50, 13, 10, 13, 10, 97]⟩, 22), (⟨#[71, 69, 84, 32, 47, 32, 72, 84, 84, 80, 47, 49, 46, 49, 13, 10, 67, 111, 110, 116, 101, 110, 116, 45, 76, 101, 110, 103, 116, 104, 58, 32, 52, 48, 57, 55, 13, 10, 13, 10]⟩, 21), (⟨#[71, 69, 84, 32, 47, 32, 72, 84, 84, 80, 47, 49, 46, 49, 13, 10, 84, 114, 97, 110, 115, 102, 101, 114, 45, 69, 110, 99, 111, 100, 105, 110, 103, 58, 32, 99, 104, 117, 110, 107, 101, 100, 13, 10, 13, 10, 49, 13, 10, 97, 13, 10, 48, 13, 10, 13, 10]⟩, 0), (⟨#[71, 69, 84, 32, 47, 32, 72, 84, 84, 80, 47, 49, 46, 49, 13, 10, 84, 114, 97, 110, 115, 102, 101, 114, 45, 69, 110, 99, 111, 100, 105, 110, 103, 58, 32, 99, 104, 117, 110, 107, 101, 100, 13, 10, 13, 10, 120, 13, 10]⟩, 20), (⟨#[71, 69, 84, 32, 47, 32, 72, 84, 84, 80, 47, 49, 46, 49, 13, 10, 88, 58, 32, 121, 13, 10]⟩, 8), (T1, 8), (T2, 21)]
theorem tabM_ok (T1 T2 : ByteArray) (h1 : T1 = ⟨(manyA 511).toArray⟩) (h2 : T2 = ⟨(manyA 512).toArray⟩) : ∀ r ∈ tabM T1 T2, RmOk r := by
  unfold tabM
  intro r hr
  simp only [List.mem_cons, List.not_mem_nil, or_false] at hr
  rcases hr with rfl | rfl | rfl | rfl | rfl | rfl | rfl | rfl | rfl | rfl
  · exact ⟨mrow0, by decide⟩
  · exact ⟨mrow1, by decide⟩
  · exact ⟨mrow2, by decide⟩
  · exact ⟨mrow3, by decide⟩
  · exact ⟨mrow4, by decide⟩
  · exact ⟨mrow5, by decide⟩
  · exact ⟨mrow6, by decide⟩
  · exact ⟨mrow7, by decide⟩
  · exact ⟨by rw [h1, bl_mk]; exact mrow8, by rw [← bl_length, h1, bl_mk, manyA, List.length_replicate]; omega⟩
  · exact ⟨by rw [h2, bl_mk]; exact mrow9, by rw [← bl_length, h2, bl_mk, manyA, List.length_replicate]; omega⟩
def resA : List UInt8 := [72, 84, 84, 80, 47, 49, 46, 49, 32, 50, 48, 48, 32, 79, 75, 13, 10, 13, 10] ++ List.replicate 4097 0
theorem told_a : responseM resA [71, 69, 84] true = (none, 0, 21) := msg_none (by decide +kernel) (by decide +kernel)
def resB : List UInt8 := [72, 84, 84, 80, 47, 49, 46, 49, 32, 51, 48, 52, 32, 13, 10, 67, 111, 110, 116, 101, 110, 116, 45, 76, 101, 110, 103, 116, 104, 58, 32, 57, 13, 10, 13, 10, 114, 101, 115, 116]
theorem told_b : responseM resB [71, 69, 84] false = (some ((1, 304, []), [(clN9, [57])], []), 36, 0) := msg_eq (by decide +kernel) (by decide +kernel) (by decide +kernel) (by decide +kernel)
theorem told_d : putResM 1 204 [] [] [120] [71, 69, 84] = ([], 1) := by decide +kernel
def resE : List UInt8 := [72, 84, 84, 80, 47, 49, 46, 49, 32, 50, 48, 48, 32, 79, 75, 13, 10, 67, 111, 110, 116, 101, 110, 116, 45, 76, 101, 110, 103, 116, 104, 58, 32, 48, 13, 10, 13, 10]
theorem told_e : putResM 1 200 [79, 75] [] [] [71, 69, 84] = (resE, 0) := by decide +kernel
theorem told_g : putReqM [71, 69, 84] [47] 1 [([99, 111, 110, 116, 101, 110, 116, 45, 108, 101, 110, 103, 116, 104], [48])] [] = ([], 1) := by decide +kernel
theorem told_h : putReqM [71, 69, 84] [47] 1 [] (List.replicate 4097 0) = ([], 21) := by decide +kernel
theorem told_i : putReqM [71, 32, 84] [47] 1 [] [] = ([], 1) := by decide +kernel
/-- An append whose run is known, at its place in a walk. -/
theorem append_by9 {P : Program} {w : World} {ops : Array Oper} {rest : List Oper} {o : Oper} {a : Act} {Q : Exit → Act → World → Prop} (hgd : o.guard = none) (s x : Operand) (t u : TypeId)
    (ho : o.op = .call { callee := .builtin .append, args := #[s, x], argTypes := #[t, u] }) (v xv v' : Value) (w' : World) (hs : a.eval s = v) (hx : a.eval x = xv)
    (hrun : (Builtin.append_ #[t, u] o.type #[v, xv]).run P w = .ok v' w') (h : wpList P ops Q rest (a.put o.dst v') w') : wpList P ops Q (o :: rest) a w := by
  refine wpList_plain hgd fun K hK => ?_
  unfold Oper.wp execOp
  simp only [ho, resolve, invoke, builtin, Sem.run_bind, Sem.run_pure, Result.andThen_ok, List.map_toArray, List.map_cons, List.map_nil, hs, hx, hrun]
  exact hK _ _ h
/-- append([]byte("..."), make([]byte, 4097)...). -/
theorem run_onto (X : World) : ∃ (v : Nat) (X' : World), (Builtin.append_ #[22, 3] 22 #[.slice (some ⟨X.heap.size, 0, none⟩) 19 19, .int .i64 4097]).run Tryz.prog (X.alloc (.cells #[.int .u8 72, .int .u8 84, .int .u8 84, .int .u8 80, .int .u8 47, .int .u8 49, .int .u8 46, .int .u8 49, .int .u8 32, .int .u8 50, .int .u8 48, .int .u8 48, .int .u8 32, .int .u8 79, .int .u8 75, .int .u8 13, .int .u8 10, .int .u8 13, .int .u8 10] 5 (19, 20))) = .ok (.slice (some ⟨X.heap.size + 1, 0, none⟩) 4116 v) X' ∧ 4116 ≤ v ∧ Src X' (fun _ => True) (some ⟨X.heap.size + 1, 0, none⟩) resA ∧ Below X.heap.size X X' := by
  obtain ⟨Y, hY⟩ : ∃ Y, X.alloc (.cells #[.int .u8 72, .int .u8 84, .int .u8 84, .int .u8 80, .int .u8 47, .int .u8 49, .int .u8 46, .int .u8 49, .int .u8 32, .int .u8 50, .int .u8 48, .int .u8 48, .int .u8 32, .int .u8 79, .int .u8 75, .int .u8 13, .int .u8 10, .int .u8 13, .int .u8 10] 5 (19, 20)) = Y := ⟨_, rfl⟩
  have hz0 : Y.heap.size = X.heap.size + 1 := by rw [← hY]; simp
  have hb : Below X.heap.size X Y := by rw [← hY]; exact (Below.refl _ _).alloc (Nat.le_refl _) _
  have hs : Src Y (fun _ => True) (some ⟨X.heap.size, 0, none⟩) [72, 84, 84, 80, 47, 49, 46, 49, 32, 50, 48, 48, 32, 79, 75, 13, 10, 13, 10] := by rw [← hY]; exact src_marked X [72, 84, 84, 80, 47, 49, 46, 49, 32, 50, 48, 48, 32, 79, 75, 13, 10, 13, 10] _ rfl _
  rw [hY]
  clear hY
  obtain ⟨L0, hL0⟩ : ∃ L0 : List UInt8, [72, 84, 84, 80, 47, 49, 46, 49, 32, 50, 48, 48, 32, 79, 75, 13, 10, 13, 10] = L0 := ⟨_, rfl⟩
  have hl0 : L0.length = 19 := by rw [← hL0]; rfl
  obtain ⟨Zs, hZs⟩ : ∃ Zs : List UInt8, List.replicate 4097 0 = Zs := ⟨_, rfl⟩
  have hA : resA = L0 ++ Zs := by unfold resA; rw [hL0, hZs]
  rw [hL0] at hs
  rw [hA]
  clear hA hL0
  obtain ⟨i, hi, hz, hsz, hby⟩ := byteParts
  have hold : (Builtin.firstCells i.size 19 (.slice (some ⟨X.heap.size, 0, none⟩) 19 19)).run Tryz.prog Y.drew = .ok (vals L0).toArray Y.drew := by
    refine run_firstCells_some Y.drew i.size 19 _ 19 19 (vals L0) (by rw [vals_length, hl0, hsz]) (fun j v hv => ?_)
    obtain ⟨ad, hA, _, _, hc⟩ := hs (by omega)
    obtain rfl := Option.some.inj hA
    exact hc j v hv
  obtain ⟨n, hn⟩ : ∃ n, n = 4097 := ⟨_, rfl⟩
  have hrz := Lib.run_append_grow_zeros (P := Tryz.prog) Y 22 3 22 5 i (.int .u8 0) .i64 .i64 Tryz.underlying22 Tryz.underlying3 hi hz (some ⟨X.heap.size, 0, none⟩) 19 19 (vals L0) hold n (by omega) (by omega) (by omega) (by omega) (by rw [hby]; omega) (growslice_fits (by omega) (by rw [hby]; omega))
  have hge := grownCap_ge Y (19 + n) 19 5
  obtain ⟨G, hG⟩ : ∃ G, grownCap Y (19 + n) 19 5 = G := ⟨_, rfl⟩
  rw [hG] at hrz hge
  obtain ⟨rest, hrest⟩ : ∃ rest, Builtin.zeroCells (Value.int .u8 0).cells (G - (19 + n)) = rest := ⟨_, rfl⟩
  rw [hrest, hz0] at hrz
  have hzc : Builtin.zeroCells (Value.int .u8 0).cells n = (vals Zs).toArray := by
    have h1 : (Builtin.zeroCells (Value.int .u8 0).cells n).toList = vals Zs := by
      rw [← hZs, ← hn]
      apply List.ext_getElem
      · simp [Builtin.zeroCells, vals, Value.cells]
      · intro k h1 h2
        simp [Builtin.zeroCells, vals, B, Value.cells, Nat.mod_one]
    rw [← h1]
  have hpart : ((vals L0).toArray ++ (vals Zs).toArray ++ rest) = (vals (L0 ++ Zs) ++ rest.toList).toArray := by
    apply Array.ext'
    simp [vals_append]
  rw [hzc, hpart] at hrz
  subst hn
  refine ⟨G, _, hrz, by omega, fun _ => ?_, hb.trans ((((Below.refl Y.heap.size Y).drew).alloc (Nat.le_refl _) _).mono hb.size)⟩
  have hh := Is.made Y.drew 5 (vals (L0 ++ Zs) ++ rest.toList)
  rw [show Y.drew.heap.size = X.heap.size + 1 from hz0] at hh
  refine ⟨_, rfl, trivial, hh.lt, fun j v hv => ?_⟩
  rw [add_at, Nat.zero_add, hh.cell, List.getElem?_append_left (List.getElem?_eq_some_iff.1 hv).1]
  exact hv
set_option maxHeartbeats 40000000 in
set_option maxRecDepth 100000 in
theorem known9_law (HC : MsgC) (w : World) (hp : Sta.PowT w) : Calls Tryz.prog 8 #[] w fun e w' => e = .returned (.bool true) ∧ Below w.heap.size w w' := by
  have HP := Lib.hid hp
  have CW := Lib.hid (awake9_any HC w hp)
  clear hp
  go_enter Tryz.func8, Tryz.ntmps8
  go_wp2_with fail
  refine CW.out.mono ?_
  rintro e w0 ⟨rfl, b0⟩
  have B0 := Lib.hid b0
  clear b0 CW
  obtain ⟨T1, hT1⟩ : ∃ T : ByteArray, T = ⟨(manyA 511).toArray⟩ := ⟨_, rfl⟩
  obtain ⟨T2, hT2⟩ : ∃ T : ByteArray, T = ⟨(manyA 512).toArray⟩ := ⟨_, rfl⟩
  have HTM := Lib.hid (tabM_ok T1 T2 hT1 hT2)
  have TX1 := fun (X : World) (g : Nat) (h : Src X (fun _ => True) (some ⟨g, 0, none⟩) (manyA 511)) => txt_many X g 511 h
  have TX2 := fun (X : World) (g : Nat) (h : Src X (fun _ => True) (some ⟨g, 0, none⟩) (manyA 512)) => txt_many X g 512 h
  rw [← hT1] at TX1
  rw [← hT2] at TX2
  have HX1 := Lib.hid TX1
  have HX2 := Lib.hid TX2
  clear TX1 TX2 hT1 hT2
  go_upto_region 3 with fail
  go_cut [44, 45, 46] from 26 to 46 (fun s44 s45 s46 wx => ∃ g : Nat, s44 = .slice (some ⟨g, 0, none⟩) 10 10 ∧ s45 = .int .i64 10 ∧ s46 = .int .i64 0 ∧ Hid (Below w0.heap.size w0 wx) ∧ Hid (Is wx g 54 [.string ⟨#[]⟩, .int .i64 8, .string ⟨#[71, 69, 84, 32, 47, 32, 72, 84, 84, 80, 47, 49, 46, 49, 10, 10]⟩, .int .i64 20, .string ⟨#[13, 10]⟩, .int .i64 20, .string ⟨#[71, 69, 84, 32, 47, 32, 72, 84, 84, 80, 47, 49, 46, 49, 13, 10, 67, 111, 110, 116, 101, 110, 116, 45, 76, 101, 110, 103, 116, 104, 58, 32, 49, 13, 10, 67, 111, 110, 116, 101, 110, 116, 45, 76, 101, 110, 103, 116, 104, 58, 32, 50, 13, 10, 13, 10, 97]⟩, .int .i64 22, .string ⟨#[71, 69, 84, 32, 47, 32, 72, 84, 84, 80, 47, 49, 46, 49, 13, 10, 67, 111, 110, 116, 101, 110, 116, 45, 76, 101, 110, 103, 116, 104, 58, 32, 52, 48, 57, 55, 13, 10, 13, 10]⟩, .int .i64 21, .string ⟨#[71, 69, 84, 32, 47, 32, 72, 84, 84, 80, 47, 49, 46, 49, 13, 10, 84, 114, 97, 110, 115, 102, 101, 114, 45, 69, 110, 99, 111, 100, 105, 110, 103, 58, 32, 99, 104, 117, 110, 107, 101, 100, 13, 10, 13, 10, 49, 13, 10, 97, 13, 10, 48, 13, 10, 13, 10]⟩, .int .i64 0, .string ⟨#[71, 69, 84, 32, 47, 32, 72, 84, 84, 80, 47, 49, 46, 49, 13, 10, 84, 114, 97, 110, 115, 102, 101, 114, 45, 69, 110, 99, 111, 100, 105, 110, 103, 58, 32, 99, 104, 117, 110, 107, 101, 100, 13, 10, 13, 10, 120, 13, 10]⟩, .int .i64 20, .string ⟨#[71, 69, 84, 32, 47, 32, 72, 84, 84, 80, 47, 49, 46, 49, 13, 10, 88, 58, 32, 121, 13, 10]⟩, .int .i64 8, .string T1, .int .i64 8, .string T2, .int .i64 21]))
  case first =>
    have TX1 := HX1.out
    have TX2 := HX2.out
    have CR1 := fun (X : World) (g : Nat) (h : Src X (fun _ => True) (some ⟨g, 0, none⟩) [97]) => repeat_511 X (some ⟨g, 0, none⟩) 1 h
    have CR2 := fun (X : World) (g : Nat) (h : Src X (fun _ => True) (some ⟨g, 0, none⟩) [97]) => repeat_512 X (some ⟨g, 0, none⟩) 1 h
    have hUP := fun {X X' : World} {g : Nat} {bs : List UInt8} (h : Src X (fun _ => True) (some ⟨g, 0, none⟩) bs) (hb : Below X.heap.size X X') => h.kept (Turn.of_below (S := fun _ => False) hb) (fun _ _ h => h)
    have iA0 : Is (w0.alloc (.cells #[.int .u8 97] 5)).drew w0.heap.size 5 [.int .u8 97] := (Is.made w0 5 [.int .u8 97]).drew
    have zA : (w0.alloc (.cells #[.int .u8 97] 5)).drew.heap.size = w0.heap.size + 1 := by simp [World.drew]
    have bA : Below w0.heap.size w0 (w0.alloc (.cells #[.int .u8 97] 5)).drew := below_drewN ((Below.refl _ _).alloc (Nat.le_refl _) _) 1
    have bAA : Below w0.heap.size w0 ((w0.alloc (.cells #[.int .u8 97] 5)).alloc (.cells #[.int .u8 97] 5)).drew := below_drewN (((Below.refl _ _).alloc (Nat.le_refl _) _).alloc (by simp) _) 1
    have iAA0 : Is ((w0.alloc (.cells #[.int .u8 97] 5)).alloc (.cells #[.int .u8 97] 5)).drew w0.heap.size 5 [.int .u8 97] := ((Is.made w0 5 [.int .u8 97]).alloc _).drew
    have iAA1 : Is ((w0.alloc (.cells #[.int .u8 97] 5)).alloc (.cells #[.int .u8 97] 5)).drew (w0.heap.size + 1) 5 [.int .u8 97] := by
      have := (Is.made (w0.alloc (.cells #[.int .u8 97] 5)) 5 [.int .u8 97]).drew
      rw [show (w0.alloc (.cells #[.int .u8 97] 5)).heap.size = w0.heap.size + 1 from by simp] at this
      exact this
    have zAA : ((w0.alloc (.cells #[.int .u8 97] 5)).alloc (.cells #[.int .u8 97] 5)).drew.heap.size = w0.heap.size + 2 := by simp [World.drew]
    obtain ⟨MA, rMA, tMA, sMA, zMA⟩ := run_mark _ w0.heap.size iA0
    obtain ⟨MB, rMB, tMB, sMB, zMB⟩ := run_mark _ (w0.heap.size + 1) iAA1
    obtain ⟨MC, rMC, tMC, sMC, zMC⟩ := run_mark _ w0.heap.size iAA0
    have low : ∀ {X X' : World} {g : Nat}, Below w0.heap.size w0 X → Turn (· = g) X X' → w0.heap.size ≤ g → Below w0.heap.size w0 X' := fun {X X' g} hb ht hg => ⟨ht.os.trans hb.os, ht.tape.trans hb.tape, ht.output.trans hb.output, Nat.le_trans hb.size ht.size, fun k hk => (ht.block k (Nat.lt_of_lt_of_le hk hb.size) (by show ¬ k = g; omega)).trans (hb.block k hk)⟩
    have bMA := low bA tMA (Nat.le_refl _)
    have bMB := low bAA tMB (by omega)
    have bMC := low bAA tMC (Nat.le_refl _)
    have lMA : MA.heap.size = w0.heap.size + 1 := zMA.trans zA
    have lMB : MB.heap.size = w0.heap.size + 2 := zMB.trans zAA
    have lMC : MC.heap.size = w0.heap.size + 2 := zMC.trans zAA
    have bMS : Below MA.heap.size MA (MA.alloc (.cells #[.int .u8 97] 5)) := (Below.refl _ _).alloc (Nat.le_refl _) _
    have b0MS : Below w0.heap.size w0 (MA.alloc (.cells #[.int .u8 97] 5)) := bMA.trans (bMS.mono bMA.size)
    have iMS : Is (MA.alloc (.cells #[.int .u8 97] 5)) MA.heap.size 5 [.int .u8 97] := Is.made MA 5 [.int .u8 97]
    have sMS := hUP sMA bMS
    obtain ⟨MD, rMD, tMD, sMD, zMD⟩ := run_mark _ MA.heap.size iMS
    have iMC1 := iAA1.kept tMC (by show ¬ w0.heap.size + 1 = w0.heap.size; omega)
    have iMB0 := iAA0.kept tMB (by show ¬ w0.heap.size = w0.heap.size + 1; omega)
    obtain ⟨ME, rME, tME, sME, zME⟩ := run_mark _ (w0.heap.size + 1) iMC1
    obtain ⟨MF, rMF, tMF, sMF, zMF⟩ := run_mark _ w0.heap.size iMB0
    have bMD := low b0MS tMD (by omega)
    have bME := low bMC tME (by omega)
    have bMF := low bMB tMF (Nat.le_refl _)
    have far : ∀ {X X' : World} {g h : Nat} {bs : List UInt8}, Src X (fun _ => True) (some ⟨g, 0, none⟩) bs → Turn (· = h) X X' → ¬ g = h → Src X' (fun _ => True) (some ⟨g, 0, none⟩) bs := fun {X X' g h bs} hs ht hne h0 => by
      obtain ⟨ad, h1, h2, h3, h4⟩ := hs h0
      injection h1 with h1
      subst h1
      refine ⟨_, rfl, trivial, Nat.lt_of_lt_of_le h3 ht.size, fun i v hv => ?_⟩
      have hb : ((⟨g, 0, none⟩ : Addr).add i).block = g := by unfold Addr.add; split <;> rfl
      exact (ht.cell (p := (⟨g, 0, none⟩ : Addr).add i) (by rw [hb]; exact h3) (by rw [hb]; exact hne)).trans (h4 i v hv)
    have sMD0 := far sMS tMD (by omega)
    have sME0 := far sMC tME (by omega)
    have sMF1 := far sMB tMF (by omega)
    have geMA : w0.heap.size ≤ MA.heap.size := bMA.size
    clear lMA lMB lMC zMA zMB zMC zMD zME zMF zA zAA tMA tMB tMC tMD tME tMF
    go_region_law
      (go_simp; go_at_call 22; first
        | (skip
           (with_reducible refine (CR1 MA _ sMA).mono ?_)
           rintro e Y ⟨gY, hgY, rfl, sY, bY0⟩
           have bY : Below w0.heap.size w0 Y := bMA.trans (bY0.mono bMA.size)
           have cY : (convert 22 9 (.slice (some ⟨gY, 0, none⟩) 511 511)).run Tryz.prog Y = .ok (.string T1) Y := TX1 _ _ sY
           have bYS : Below Y.heap.size Y (Y.alloc (.cells #[.int .u8 97] 5)) := (Below.refl _ _).alloc (Nat.le_refl _) _
           have sYS := hUP sY bYS
           have cYS : (convert 22 9 (.slice (some ⟨gY, 0, none⟩) 511 511)).run Tryz.prog (Y.alloc (.cells #[.int .u8 97] 5)) = .ok (.string T1) (Y.alloc (.cells #[.int .u8 97] 5)) := TX1 _ _ sYS
           have hlY : gY < Y.heap.size := by
             obtain ⟨ad, h1, _, h3, _⟩ := sY (by simp [manyA])
             injection h1 with h1
             rw [← h1] at h3
             exact h3
           obtain ⟨N, rN, tN, q2, zN⟩ := run_mark (Y.alloc (.cells #[.int .u8 97] 5)) Y.heap.size (Is.made Y 5 [.int .u8 97])
           have bN : Below w0.heap.size w0 N := low (bY.trans (bYS.mono bY.size)) tN bY.size
           have sN := far sYS tN (by omega)
           have cN : (convert 22 9 (.slice (some ⟨gY, 0, none⟩) 511 511)).run Tryz.prog N = .ok (.string T1) N := TX1 _ _ sN)
        | (skip
           (with_reducible refine (CR1 MB _ sMB).mono ?_)
           rintro e Y ⟨gY, hgY, rfl, sY, bY0⟩
           have bY : Below w0.heap.size w0 Y := bMB.trans (bY0.mono bMB.size)
           have cY : (convert 22 9 (.slice (some ⟨gY, 0, none⟩) 511 511)).run Tryz.prog Y = .ok (.string T1) Y := TX1 _ _ sY
           have hne : ¬ gY = w0.heap.size := by have h1 := hgY.out; have h2 := iMB0.lt; omega
           have i2Y := iMB0.kept (Turn.of_below (S := fun _ => False) bY0) (fun h => h)
           obtain ⟨N, rN, tN, q2, zN⟩ := run_mark Y w0.heap.size i2Y
           have bN : Below w0.heap.size w0 N := low bY tN (by omega)
           have sN := far sY tN hne
           have cN : (convert 22 9 (.slice (some ⟨gY, 0, none⟩) 511 511)).run Tryz.prog N = .ok (.string T1) N := TX1 _ _ sN)
        | (skip
           (with_reducible refine (CR1 MC _ sMC).mono ?_)
           rintro e Y ⟨gY, hgY, rfl, sY, bY0⟩
           have bY : Below w0.heap.size w0 Y := bMC.trans (bY0.mono bMC.size)
           have cY : (convert 22 9 (.slice (some ⟨gY, 0, none⟩) 511 511)).run Tryz.prog Y = .ok (.string T1) Y := TX1 _ _ sY
           have hne : ¬ gY = (w0.heap.size + 1) := by have h1 := hgY.out; have h2 := iMC1.lt; omega
           have i2Y := iMC1.kept (Turn.of_below (S := fun _ => False) bY0) (fun h => h)
           obtain ⟨N, rN, tN, q2, zN⟩ := run_mark Y (w0.heap.size + 1) i2Y
           have bN : Below w0.heap.size w0 N := low bY tN (by omega)
           have sN := far sY tN hne
           have cN : (convert 22 9 (.slice (some ⟨gY, 0, none⟩) 511 511)).run Tryz.prog N = .ok (.string T1) N := TX1 _ _ sN)
        | (skip
           (with_reducible refine (CR1 (MA.alloc (.cells #[.int .u8 97] 5)) _ sMS).mono ?_)
           rintro e Y ⟨gY, hgY, rfl, sY, bY0⟩
           have bY : Below w0.heap.size w0 Y := b0MS.trans (bY0.mono b0MS.size)
           have cY : (convert 22 9 (.slice (some ⟨gY, 0, none⟩) 511 511)).run Tryz.prog Y = .ok (.string T1) Y := TX1 _ _ sY
           have hne : ¬ gY = MA.heap.size := by have h1 := hgY.out; have h2 := iMS.lt; omega
           have i2Y := iMS.kept (Turn.of_below (S := fun _ => False) bY0) (fun h => h)
           obtain ⟨N, rN, tN, q2, zN⟩ := run_mark Y MA.heap.size i2Y
           have bN : Below w0.heap.size w0 N := low bY tN (by omega)
           have sN := far sY tN hne
           have cN : (convert 22 9 (.slice (some ⟨gY, 0, none⟩) 511 511)).run Tryz.prog N = .ok (.string T1) N := TX1 _ _ sN)
        | (skip
           (with_reducible refine (CR1 MD _ sMD0).mono ?_)
           rintro e Y ⟨gY, hgY, rfl, sY, bY0⟩
           have bY : Below w0.heap.size w0 Y := bMD.trans (bY0.mono bMD.size)
           have cY : (convert 22 9 (.slice (some ⟨gY, 0, none⟩) 511 511)).run Tryz.prog Y = .ok (.string T1) Y := TX1 _ _ sY
           have q2 := hUP sMD bY0
           have bN := bY
           have sN := sY)
        | (skip
           (with_reducible refine (CR1 ME _ sME0).mono ?_)
           rintro e Y ⟨gY, hgY, rfl, sY, bY0⟩
           have bY : Below w0.heap.size w0 Y := bME.trans (bY0.mono bME.size)
           have cY : (convert 22 9 (.slice (some ⟨gY, 0, none⟩) 511 511)).run Tryz.prog Y = .ok (.string T1) Y := TX1 _ _ sY
           have q2 := hUP sME bY0
           have bN := bY
           have sN := sY)
        | (skip
           (with_reducible refine (CR1 MF _ sMF).mono ?_)
           rintro e Y ⟨gY, hgY, rfl, sY, bY0⟩
           have bY : Below w0.heap.size w0 Y := bMF.trans (bY0.mono bMF.size)
           have cY : (convert 22 9 (.slice (some ⟨gY, 0, none⟩) 511 511)).run Tryz.prog Y = .ok (.string T1) Y := TX1 _ _ sY
           have q2 := hUP sMF1 bY0
           have bN := bY
           have sN := sY)
        | (skip
           (with_reducible refine (CR1 ME _ sME).mono ?_)
           rintro e Y ⟨gY, hgY, rfl, sY, bY0⟩
           have bY : Below w0.heap.size w0 Y := bME.trans (bY0.mono bME.size)
           have cY : (convert 22 9 (.slice (some ⟨gY, 0, none⟩) 511 511)).run Tryz.prog Y = .ok (.string T1) Y := TX1 _ _ sY
           have q2 := hUP sME0 bY0
           have bN := bY
           have sN := sY)
        | (skip
           (with_reducible refine (CR1 MF _ sMF1).mono ?_)
           rintro e Y ⟨gY, hgY, rfl, sY, bY0⟩
           have bY : Below w0.heap.size w0 Y := bMF.trans (bY0.mono bMF.size)
           have cY : (convert 22 9 (.slice (some ⟨gY, 0, none⟩) 511 511)).run Tryz.prog Y = .ok (.string T1) Y := TX1 _ _ sY
           have q2 := hUP sMF bY0
           have bN := bY
           have sN := sY)
        | (skip
           (with_reducible refine (CR1 MD _ sMD).mono ?_)
           rintro e Y ⟨gY, hgY, rfl, sY, bY0⟩
           have bY : Below w0.heap.size w0 Y := bMD.trans (bY0.mono bMD.size)
           have cY : (convert 22 9 (.slice (some ⟨gY, 0, none⟩) 511 511)).run Tryz.prog Y = .ok (.string T1) Y := TX1 _ _ sY
           have q2 := hUP sMD0 bY0
           have bN := bY
           have sN := sY)
        | (skip
           (with_reducible refine (CR2 _ _ q2).mono ?_)
           rintro e Z ⟨gZ, _, rfl, sZ, bZ0⟩
           have bZ : Below w0.heap.size w0 Z := bN.trans (bZ0.mono bN.size)
           have cZ1 : (convert 22 9 (.slice (some ⟨gY, 0, none⟩) 511 511)).run Tryz.prog Z = .ok (.string T1) Z := TX1 _ _ (hUP sN bZ0)
           have cZ2 : (convert 22 9 (.slice (some ⟨gZ, 0, none⟩) 512 512)).run Tryz.prog Z = .ok (.string T2) Z := TX2 _ _ sZ))
    all_goals
      go_wp2_with fail
      go_meet
      exact ⟨Z.heap.size, rfl, rfl, rfl, Lib.hid (bZ.alloc bZ.size _), Lib.hid (Is.made Z 54 _)⟩
  case rest =>
    obtain ⟨g, rfl, rfl, rfl, BX, IT0⟩ := hcut
    have IT : Hid (Is wc g 54 (rms (tabM T1 T2))) := Lib.hid IT0.out
    clear IT0
    go_wp2_with fail
    go_loopw [2, 3, 4, 5, 46] (fun v2 v3 v4 v5 vi wr => ∃ k : Nat, vi = .int .i64 (k : Int) ∧ k ≤ 10 ∧ Hid (Below wc.heap.size wc wr)) (fun _ _ _ _ vi _ => 10 - (intOf vi).toNat)
    case atStart => exact ⟨0, rfl, Nat.zero_le _, Lib.hid (Below.refl _ _)⟩
    case round =>
      obtain ⟨k, rfl, hk, HB⟩ := hrel
      have BR := Lib.hid (B0.out.trans ((BX.out.trans (HB.out.mono BX.out.size)).mono B0.out.size))
      by_cases hlt : k < 10
      · obtain ⟨p, ⟨s, e⟩, ⟨hr1, hr2⟩, hat, y0, y1⟩ := rm_at (tabM T1 T2) rfl (by exact IT.out) HTM.out k hlt HB.out
        simp only at hr1 hr2 y0 y1
        have bz : Below wr.heap.size wr (wr.alloc (.cells #[.string s, .int .i64 (e : Int)] 54)) := (Below.refl _ _).alloc (Nat.le_refl _) _
        have I1 := Lib.hid (Is.made wr 54 [.string s, .int .i64 (e : Int)])
        have BZ := Lib.hid bz
        have HR1 := Lib.hid hr1
        clear bz hr1
        go_upto_region 6 with fail
        clear y0 y1
        generalize wr.alloc _ = X1 at *
        generalize hg2 : wr.heap.size = g2 at *
        have HG2 := Lib.hid hg2
        clear hg2
        obtain ⟨cap, w1, hcv, row, b1, hcap⟩ := run_to_bytes10 X1 s
        have B01 := Lib.hid (BR.out.trans ((by rw [HG2.out]; exact BZ.out : Below wr.heap.size wr X1).mono BR.out.size))
        have B02 := Lib.hid (B01.out.trans (b1.mono B01.out.size))
        have CQ := Lib.hid ((HC.request w1 (some ⟨X1.heap.size, 0, none⟩) (bl s) s.size cap (bl_length s) hcap (by omega) row.src (HP.out.below B02.out)).mono (fun _ _ h => h.told))
        rw [HR1.out] at CQ
        generalize (requestM (bl s)).1.getD rqZ = a at CQ
        generalize (requestM (bl s)).2.1 = u at CQ
        obtain ⟨⟨am, at_, an⟩, fl, x⟩ := a
        unfold RqTold at CQ
        simp only at CQ
        generalize fl.length = nf at CQ
        generalize x.length = nx at CQ
        have z0 : X1.cell? ⟨g2, 0, none⟩ = some (.string s) := I1.out.cell 0
        have HRW := Lib.hid row
        have BB1 := Lib.hid b1
        clear row b1 hcap
        go_wp2_with fail
        refine CQ.out.mono ?_
        rintro e' y5 ⟨Af, cf, Ab, cb, rfl, _, _, b5⟩
        have b5' := b5.alloc b5.size (.cells #[.string ⟨am.toArray⟩, .string ⟨at_.toArray⟩, .int .i64 (an : Int), .slice Af nf cf, .slice Ab nx cb] 25)
        have I5 := Lib.hid ((I1.out.kept (Turn.of_below (S := fun _ => False) BB1.out) (fun h => h)).kept (Turn.of_below (S := fun _ => False) b5') (fun h => h))
        have HBZ : Below wr.heap.size wr X1 := by rw [HG2.out]; exact BZ.out
        have H6 := Lib.hid (HB.out.trans ((HBZ.trans ((BB1.out.trans (b5'.mono BB1.out.size)).mono HBZ.size)).mono HB.out.size))
        clear b5 b5' HBZ CQ z0 hcv
        go_upto_region 7 with fail
        generalize y5.alloc _ = X5 at *
        have z1 : X5.cell? ⟨g2, 1, none⟩ = some (.int .i64 (e : Int)) := I5.out.cell 1
        have e1 : ((e : Int) != (e : Int)) = false := by simp
        go_wp2_with fail
        go_roundw
        case rel => exact ⟨k + 1, by go_num, hlt, H6⟩
        case measure => simp [intOf]; omega
      · obtain ⟨wo, rfl⟩ : ∃ wo, wo = wr := ⟨_, rfl⟩
        have B1 := BR
        clear BR HB IT HTM BX
        have K1 := const_any #[.int .u8 72, .int .u8 84, .int .u8 84, .int .u8 80, .int .u8 47, .int .u8 49, .int .u8 46, .int .u8 49, .int .u8 32, .int .u8 50, .int .u8 48, .int .u8 48, .int .u8 32, .int .u8 79, .int .u8 75, .int .u8 13, .int .u8 10, .int .u8 13, .int .u8 10] 19 rfl wo _ rfl
        obtain ⟨v, X1, rA, hv, sA, bA⟩ := run_onto wo
        have RA := Lib.hid rA
        have B2 := Lib.hid (B1.out.trans (bA.mono B1.out.size))
        have CA := Lib.hid ((HC.response X1 (some ⟨wo.heap.size + 1, 0, none⟩) resA 4116 v ⟨#[71, 69, 84]⟩ true (by decide) hv (by omega) (by decide) sA (HP.out.below B2.out)).mono (fun _ _ h => h.told))
        rw [show bl ⟨#[71, 69, 84]⟩ = [71, 69, 84] from rfl, told_a] at CA
        unfold RsTold rsZ at CA
        simp only [Option.getD_none, List.length_nil] at CA
        clear rA sA bA hv
        go_wp2_with (at_builtin; refine append_by9 rfl (.tmp 65) (.const (.int .i64 4097)) 22 3 rfl _ _ _ X1 rfl rfl RA.out ?_)
        refine CA.out.mono ?_
        rintro e y1 ⟨Af1, cf1, Ab1, cb1, rfl, _, _, b1⟩
        have B3 := Lib.hid (B2.out.trans ((b1.alloc b1.size (.cells #[.int .i64 0, .string ⟨#[]⟩, .int .i64 0, .slice Af1 0 cf1, .slice Ab1 0 cb1] 32)).mono B2.out.size))
        clear b1 CA RA K1
        go_upto_region 11 with fail
        generalize y1.alloc _ = X2 at *
        have K2 := const_any #[.int .u8 72, .int .u8 84, .int .u8 84, .int .u8 80, .int .u8 47, .int .u8 49, .int .u8 46, .int .u8 49, .int .u8 32, .int .u8 51, .int .u8 48, .int .u8 52, .int .u8 32, .int .u8 13, .int .u8 10, .int .u8 67, .int .u8 111, .int .u8 110, .int .u8 116, .int .u8 101, .int .u8 110, .int .u8 116, .int .u8 45, .int .u8 76, .int .u8 101, .int .u8 110, .int .u8 103, .int .u8 116, .int .u8 104, .int .u8 58, .int .u8 32, .int .u8 57, .int .u8 13, .int .u8 10, .int .u8 13, .int .u8 10, .int .u8 114, .int .u8 101, .int .u8 115, .int .u8 116] 40 rfl X2 _ rfl
        have CB := Lib.hid (res_lit HC resB ⟨#[71, 69, 84]⟩ false (by decide) _ 36 0 (.inl told_b) #[.int .u8 72, .int .u8 84, .int .u8 84, .int .u8 80, .int .u8 47, .int .u8 49, .int .u8 46, .int .u8 49, .int .u8 32, .int .u8 51, .int .u8 48, .int .u8 52, .int .u8 32, .int .u8 13, .int .u8 10, .int .u8 67, .int .u8 111, .int .u8 110, .int .u8 116, .int .u8 101, .int .u8 110, .int .u8 116, .int .u8 45, .int .u8 76, .int .u8 101, .int .u8 110, .int .u8 103, .int .u8 116, .int .u8 104, .int .u8 58, .int .u8 32, .int .u8 57, .int .u8 13, .int .u8 10, .int .u8 13, .int .u8 10, .int .u8 114, .int .u8 101, .int .u8 115, .int .u8 116] rfl 40 rfl (by omega) X2 (HP.out.below B3.out))
        unfold RsTold at CB
        simp only [List.length_cons, List.length_nil, Nat.zero_add] at CB
        go_wp2_with fail
        refine CB.out.mono ?_
        rintro e y2 ⟨Af2, cf2, Ab2, cb2, rfl, _, _, b2⟩
        have B4 := Lib.hid (B3.out.trans ((b2.alloc b2.size (.cells #[.int .i64 304, .string ⟨#[]⟩, .int .i64 1, .slice Af2 1 cf2, .slice Ab2 0 cb2] 32)).mono B3.out.size))
        have I4 := Lib.hid (Is.made y2 32 [.int .i64 304, .string ⟨#[]⟩, .int .i64 1, .slice Af2 1 cf2, .slice Ab2 0 cb2])
        clear b2 CB K2
        go_upto_region 12 with fail
        generalize y2.alloc _ = X3 at *
        generalize y2.heap.size = g9 at *
        have K3 := const_any #[.int .u8 120] 1 rfl X3 _ rfl
        have bm : Below X3.heap.size X3 (X3.alloc (.cells #[.int .u8 120] 5 (1, 2))) := (Below.refl _ _).alloc (Nat.le_refl _) _
        have B5 := Lib.hid (B4.out.trans (bm.mono B4.out.size))
        have I5 := Lib.hid (I4.out.kept (Turn.of_below (S := fun _ => False) bm) (fun h => h))
        have CD := Lib.hid (HC.putResponse (X3.alloc (.cells #[.int .u8 120] 5 (1, 2))) 204 ⟨#[]⟩ ⟨#[71, 69, 84]⟩ 1 none (some ⟨X3.heap.size, 0, none⟩) [] [120] 0 0 1 1 rfl rfl (by decide) (by decide) ⟨by decide, by decide⟩ ⟨by decide, by decide⟩ (by decide) (by omega) (srcf_nil9 _ _ _) (src_marked X3 [120] _ rfl _) (HP.out.below B5.out))
        rw [show bl ⟨#[71, 69, 84]⟩ = [71, 69, 84] from rfl, show bl ⟨#[]⟩ = [] from rfl, told_d] at CD
        unfold PutGot9 at CD
        simp only [List.length_nil] at CD
        clear bm B4 I4
        go_wp2_with fail
        refine CD.out.mono ?_
        rintro e X4 ⟨A4, c4, rfl, _, _, b4⟩
        have B6 := Lib.hid (B5.out.trans (b4.mono B5.out.size))
        have I6 := Lib.hid (I5.out.kept (Turn.of_below (S := fun _ => False) b4) (fun h => h))
        clear b4 CD K3 B5 I5
        have CE := Lib.hid (HC.putResponse X4 200 ⟨#[79, 75]⟩ ⟨#[71, 69, 84]⟩ 1 none none [] [] 0 0 0 0 rfl rfl (by decide) (by decide) ⟨by decide, by decide⟩ ⟨by decide, by decide⟩ (by decide) (by omega) (srcf_nil9 _ _ _) (fun h => absurd h (by simp)) (HP.out.below B6.out))
        rw [show bl ⟨#[71, 69, 84]⟩ = [71, 69, 84] from rfl, show bl ⟨#[79, 75]⟩ = [79, 75] from rfl, told_e] at CE
        unfold PutGot9 at CE
        rw [show resE.length = 38 from rfl] at CE
        simp only at CE
        go_wp2_with fail
        refine CE.out.mono ?_
        rintro e X5 ⟨A5, c5, rfl, _, s5, b5⟩
        have B7 := Lib.hid (B6.out.trans (b5.mono B6.out.size))
        have I7 := Lib.hid (I6.out.kept (Turn.of_below (S := fun _ => False) b5) (fun h => h))
        have S7 := Lib.hid s5
        clear b5 CE s5 B6 I6
        have bx : Below X5.heap.size X5 (X5.alloc (.cells #[.string ⟨#[99, 111, 110, 116, 101, 110, 116, 45, 108, 101, 110, 103, 116, 104]⟩, .string ⟨#[48]⟩] 58)) := (Below.refl _ _).alloc (Nat.le_refl _) _
        have B8 := Lib.hid (B7.out.trans (bx.mono B7.out.size))
        have I8 := Lib.hid (I7.out.kept (Turn.of_below (S := fun _ => False) bx) (fun h => h))
        have S8 := Lib.hid (S7.out.kept (Turn.of_below (S := fun _ => False) bx) (fun _ _ h => h))
        have CG := Lib.hid (HC.putRequest (X5.alloc (.cells #[.string ⟨#[99, 111, 110, 116, 101, 110, 116, 45, 108, 101, 110, 103, 116, 104]⟩, .string ⟨#[48]⟩] 58)) ⟨#[71, 69, 84]⟩ ⟨#[47]⟩ 1 (some ⟨X5.heap.size, 0, none⟩) none [([99, 111, 110, 116, 101, 110, 116, 45, 108, 101, 110, 103, 116, 104], [48])] [] 1 1 0 0 rfl rfl (by decide) (by decide) ⟨by decide, by decide⟩ (by decide) (by omega) (srcf_one X5 _ _ _ rfl) (fun h => absurd h (by simp)) (HP.out.below B8.out))
        rw [show bl ⟨#[71, 69, 84]⟩ = [71, 69, 84] from rfl, show bl ⟨#[47]⟩ = [47] from rfl, told_g] at CG
        unfold PutGot9 at CG
        simp only [List.length_nil] at CG
        clear bx
        go_wp2_with fail
        refine CG.out.mono ?_
        rintro e X6 ⟨A6, c6, rfl, _, _, b6⟩
        have B9 := Lib.hid (B8.out.trans (b6.mono B8.out.size))
        have I9 := Lib.hid (I8.out.kept (Turn.of_below (S := fun _ => False) b6) (fun h => h))
        have S9 := Lib.hid (S8.out.kept (Turn.of_below (S := fun _ => False) b6) (fun _ _ h => h))
        clear b6 CG B7 I7 S7 B8 I8 S8
        obtain ⟨X7, rm, im, tm, _⟩ := run_make_bytes 4097 (by omega) X6
        have bm : Below X6.heap.size X6 X7 := tm.below (fun _ _ h => h)
        have RM := Lib.hid (show (Instr.makeSlice 22 (.int .i64 4097) (.int .i64 4097)).run Tryz.prog X6 = _ from rm)
        have B10 := Lib.hid (B9.out.trans (bm.mono B9.out.size))
        have I10 := Lib.hid (I9.out.kept (Turn.of_below (S := fun _ => False) bm) (fun h => h))
        have S10 := Lib.hid (S9.out.kept (Turn.of_below (S := fun _ => False) bm) (fun _ _ h => h))
        have CH := Lib.hid (HC.putRequest X7 ⟨#[71, 69, 84]⟩ ⟨#[47]⟩ 1 none (some ⟨X6.heap.size, 0, none⟩) [] (List.replicate 4097 0) 0 0 4097 4097 rfl (List.length_replicate) (by decide) (by decide) ⟨by decide, by decide⟩ (by decide) (by omega) (srcf_nil9 _ _ _) (im.src _ trivial) (HP.out.below B10.out))
        rw [show bl ⟨#[71, 69, 84]⟩ = [71, 69, 84] from rfl, show bl ⟨#[47]⟩ = [47] from rfl, told_h] at CH
        unfold PutGot9 at CH
        simp only [List.length_nil] at CH
        clear im tm bm rm
        have rm := RM.out
        go_wp2_with fail
        refine CH.out.mono ?_
        rintro e X8 ⟨A8, c8, rfl, _, _, b8⟩
        have B11 := Lib.hid (B10.out.trans (b8.mono B10.out.size))
        have I11 := Lib.hid (I10.out.kept (Turn.of_below (S := fun _ => False) b8) (fun h => h))
        have S11 := Lib.hid (S10.out.kept (Turn.of_below (S := fun _ => False) b8) (fun _ _ h => h))
        clear b8 CH rm RM B9 I9 S9 B10 I10 S10
        have CI := Lib.hid (HC.putRequest X8 ⟨#[71, 32, 84]⟩ ⟨#[47]⟩ 1 none none [] [] 0 0 0 0 rfl rfl (by decide) (by decide) ⟨by decide, by decide⟩ (by decide) (by omega) (srcf_nil9 _ _ _) (fun h => absurd h (by simp)) (HP.out.below B11.out))
        rw [show bl ⟨#[71, 32, 84]⟩ = [71, 32, 84] from rfl, show bl ⟨#[47]⟩ = [47] from rfl, told_i] at CI
        unfold PutGot9 at CI
        simp only [List.length_nil] at CI
        go_wp2_with fail
        refine CI.out.mono ?_
        rintro e X9 ⟨A9, c9, rfl, _, _, b9⟩
        have B12 := Lib.hid (B11.out.trans (b9.mono B11.out.size))
        have I12 := Lib.hid (I11.out.kept (Turn.of_below (S := fun _ => False) b9) (fun h => h))
        have S12 := Lib.hid (S11.out.kept (Turn.of_below (S := fun _ => False) b9) (fun _ _ h => h))
        clear b9 CI B11 I11 S11
        have x4 : X9.cell? ⟨g9, 4, none⟩ = some (.slice Ab2 0 cb2) := I12.out.cell 4
        have r3 : (convert 22 9 (.slice A5 38 c5)).run Tryz.prog X9 = .ok (.string ⟨#[72, 84, 84, 80, 47, 49, 46, 49, 32, 50, 48, 48, 32, 79, 75, 13, 10, 67, 111, 110, 116, 101, 110, 116, 45, 76, 101, 110, 103, 116, 104, 58, 32, 48, 13, 10, 13, 10]⟩) X9 := run_text X9 A5 resE 38 c5 rfl S12.out
        go_wp2_with fail
        go_ret
        exact ⟨rfl, B12.out⟩
end Go.Proofs.YtemgfppclakdmaaGreatDoor
