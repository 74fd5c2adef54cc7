/-
  The law DateKnown: walk.
  Conditions: the tables and the variable that are read hold what their texts lay.
-/
import Derived.Test.YtcnfobjmddncgaaDoorDK
namespace Go.Proofs.YtcnfobjmddncgaaDoor
open Go.RowKit

/-- The texts that are no moment's lie in block g. -/
def BadAt (W : World) (g : Nat) : Prop := ∀ j, j < 16 → ∃ s : ByteArray, W.cell? ⟨g, j, none⟩ = some (.string s) ∧ parseF s = (0, 5)
set_option maxHeartbeats 16000000 in
set_option maxRecDepth 100000 in
theorem known_true (w : World) (ht : DTabs w) : Calls Tryd.prog 7 #[] w fun e w' => e = .returned (.bool true) ∧ Below w.heap.size w w' := by
  have HT := Lib.hid ht
  clear ht
  go_enter Tryd.func7, Tryd.ntmps7
  go_wp2_with fail
  generalize hW : World.alloc w _ = W0
  have HB0 : Hid (Below w.heap.size w W0) := Lib.hid (by rw [← hW]; exact (Below.refl _ _).alloc (Nat.le_refl _) _)
  have HBAD : Hid (BadAt W0 w.heap.size) := Lib.hid (by
    intro j hj
    rw [← hW, World.cell?_alloc_new]
    rcases (show j = 0 ∨ j = 1 ∨ j = 2 ∨ j = 3 ∨ j = 4 ∨ j = 5 ∨ j = 6 ∨ j = 7 ∨ j = 8 ∨ j = 9 ∨ j = 10 ∨ j = 11 ∨ j = 12 ∨ j = 13 ∨ j = 14 ∨ j = 15 by omega) with rfl | rfl | rfl | rfl | rfl | rfl | rfl | rfl | rfl | rfl | rfl | rfl | rfl | rfl | rfl | rfl
    all_goals exact ⟨_, rfl, by decide +kernel⟩)
  clear hW
  generalize Value.agg _ = ag
  go_loopw [2] (fun vi wr => ∃ k : Nat, vi = .int .i64 (k : Int) ∧ k ≤ 16 ∧ Hid (Below W0.heap.size W0 wr)) (fun vi _ => 16 - (intOf vi).toNat)
  case atStart => exact ⟨0, rfl, Nat.zero_le _, Lib.hid (Below.refl _ _)⟩
  case round =>
    obtain ⟨k, rfl, hk, HB⟩ := hrel
    have HBW : Hid (Below w.heap.size w wr) := Lib.hid (HB0.out.trans (HB.out.mono HB0.out.size))
    by_cases hlt : k < 16
    · obtain ⟨s, hc0, hp⟩ := HBAD.out k hlt
      have hc : wr.cell? ⟨w.heap.size, k, none⟩ = some (.string s) := (HB.out.cell (Lib.lt_of_cell hc0)).trans hc0
      have CP := Lib.hid (fun (X : World) hX => parse_at s 0 5 (by rw [hp]; exact ⟨rfl, rfl⟩) X hX)
      have i1 : (0 : Int) ≤ (k : Int) := by omega
      have i2 : (k : Int) < 16 := by omega
      clear hc0 hp
      go_wp2_with fail
      refine (CP.out _ (HT.out.below HBW.out)).mono ?_
      rintro e v0 ⟨rfl, b0⟩
      have BR : Hid (Below W0.heap.size W0 v0) := Lib.hid (HB.out.trans (b0.mono HB.out.size))
      clear b0 HB HBW
      go_wp2_with fail
      go_roundw
      case rel => exact ⟨k + 1, by go_num, hlt, BR⟩
      case measure => simp [intOf]; omega
    · obtain rfl : k = 16 := by omega
      have B0 := HBW
      clear HB HBW HBAD HB0 hk hlt
      go_wp2_with fail
      refine (text_at _ 253402300799 rfl ⟨#[70, 114, 105, 44, 32, 51, 49, 32, 68, 101, 99, 32, 57, 57, 57, 57, 32, 50, 51, 58, 53, 57, 58, 53, 57, 32, 71, 77, 84]⟩ 0 (by decide +kernel) _ (HT.out.below B0.out)).mono ?_
      rintro e v1 ⟨rfl, b1⟩
      have B1 := Lib.hid (B0.out.trans (b1.mono B0.out.size))
      clear b1 B0
      go_wp2_with fail
      refine (text_at _ 253402300800 rfl ⟨#[]⟩ 3 (by decide +kernel) _ (HT.out.below B1.out)).mono ?_
      rintro e v2 ⟨rfl, b2⟩
      have B2 := Lib.hid (B1.out.trans (b2.mono B1.out.size))
      clear b2 B1
      go_wp2_with fail
      refine (text_at _ 18446744073709551615 rfl ⟨#[]⟩ 3 (by decide +kernel) _ (HT.out.below B2.out)).mono ?_
      rintro e v3 ⟨rfl, b3⟩
      have B3 := Lib.hid (B2.out.trans (b3.mono B2.out.size))
      clear b3 B2
      go_wp2_with fail
      refine (parse_at _ 951782400 0 (by decide +kernel) _ (HT.out.below B3.out)).mono ?_
      rintro e v4 ⟨rfl, b4⟩
      have B4 := Lib.hid (B3.out.trans (b4.mono B3.out.size))
      clear b4 B3
      go_wp2_with fail
      refine (parse_at _ 4107542400 0 (by decide +kernel) _ (HT.out.below B4.out)).mono ?_
      rintro e v5 ⟨rfl, b5⟩
      have B5 := Lib.hid (B4.out.trans (b5.mono B4.out.size))
      clear b5 B4
      go_wp2_with fail
      refine (parse_at _ 0 5 (by decide +kernel) _ (HT.out.below B5.out)).mono ?_
      rintro e v6 ⟨rfl, b6⟩
      have B6 := Lib.hid (B5.out.trans (b6.mono B5.out.size))
      clear b6 B5
      go_wp2_with fail
      refine (wakes_any _ (HT.out.below B6.out)).mono ?_
      rintro e v7 ⟨rfl, b7⟩
      have B7 := Lib.hid (B6.out.trans (b7.mono B6.out.size))
      clear b7 B6
      go_wp2_with fail
      go_ret
      exact ⟨rfl, B7.out⟩
end Go.Proofs.YtcnfobjmddncgaaDoor
