/-
  The laws DateTexts, DateParses, DateBack, DateKnown: walks.
  Conditions: the tables and the variable that are read hold what their texts lay.
-/
import Derived.Test.YtcnfobjmddncgaaDoorDW
namespace Go.Proofs.YtcnfobjmddncgaaDoor
open Go.RowKit

theorem text_at (n : Int) (k : Nat) (hn : n = k) (s : ByteArray) (b : Int) (h : (⟨(textF k).1.toArray⟩ : ByteArray) = s ∧ ((textF k).2 : Int) = b) (w : World) (ht : DTabs w) : Calls Tryd.prog 8 #[.int .u64 n] w fun e w' => e = .returned (.tuple #[.string s, .int .i64 b]) ∧ Below w.heap.size w w' := by
  subst hn
  rw [← h.1, ← h.2]
  exact text_any k w ht
theorem parse_at (s : ByteArray) (a b : Int) (h : ((parseF s).1 : Int) = a ∧ ((parseF s).2 : Int) = b) (w : World) (ht : DTabs w) : Calls Tryd.prog 11 #[.string s] w fun e w' => e = .returned (.tuple #[.int .u64 a, .int .i64 b]) ∧ Below w.heap.size w w' := by
  rw [← h.1, ← h.2]
  exact parse_any s w ht

set_option maxHeartbeats 4000000 in
set_option maxRecDepth 100000 in
theorem wakes_any (w : World) (ht : DTabs w) : Calls Tryd.prog 10 #[] w fun e w' => e = .returned (.bool true) ∧ Below w.heap.size w w' := by
  have HT := Lib.hid ht
  clear ht
  go_enter Tryd.func10, Tryd.ntmps10
  go_wp2_with fail
  refine (text_at _ 784111777 rfl ⟨#[83, 117, 110, 44, 32, 48, 54, 32, 78, 111, 118, 32, 49, 57, 57, 52, 32, 48, 56, 58, 52, 57, 58, 51, 55, 32, 71, 77, 84]⟩ 0 (by decide +kernel) _ HT.out).mono ?_
  rintro e w1 ⟨rfl, b1⟩
  have B1 := Lib.hid b1
  clear b1
  go_wp2_with fail
  refine (parse_at _ 784111777 0 (by decide +kernel) _ (HT.out.below B1.out)).mono ?_
  rintro e w2 ⟨rfl, b2⟩
  have B2 := Lib.hid (B1.out.trans (b2.mono B1.out.size))
  clear b2 B1
  go_wp2_with fail
  refine (parse_at _ 0 5 (by decide +kernel) _ (HT.out.below B2.out)).mono ?_
  rintro e w3 ⟨rfl, b3⟩
  have B3 := Lib.hid (B2.out.trans (b3.mono B2.out.size))
  clear b3 B2
  go_wp2_with fail
  refine (text_at _ 0 rfl ⟨#[84, 104, 117, 44, 32, 48, 49, 32, 74, 97, 110, 32, 49, 57, 55, 48, 32, 48, 48, 58, 48, 48, 58, 48, 48, 32, 71, 77, 84]⟩ 0 (by decide +kernel) _ (HT.out.below B3.out)).mono ?_
  rintro e w4 ⟨rfl, b4⟩
  have B4 := Lib.hid (B3.out.trans (b4.mono B3.out.size))
  clear b4 B3
  go_wp2_with fail
  go_ret
  exact ⟨rfl, B4.out⟩

set_option maxHeartbeats 4000000 in
theorem texts_true (n : Nat) (w : World) (ht : DTabs w) : Calls Tryd.prog 3 #[.int .u64 (n : Int)] w fun e w' => e = .returned (.bool true) ∧ Below w.heap.size w w' := by
  have HT := Lib.hid ht
  clear ht
  have C1 := Lib.hid (fun (W : World) h => text_any n W h)
  have C2 := Lib.hid (fun W : World => rtext_any n W)
  generalize textF n = p at *
  obtain ⟨p1, p2⟩ := p
  unfold TextTold at C1 C2
  simp only at C1 C2
  generalize (⟨p1.toArray⟩ : ByteArray) = ps at *
  go_enter Tryd.func3, Tryd.ntmps3
  go_wp2_with fail
  refine (C1.out _ HT.out).mono ?_
  rintro e w1 ⟨rfl, b1⟩
  have B1 := Lib.hid b1
  clear b1
  go_wp2_with fail
  refine (C2.out _).mono ?_
  rintro e w2 ⟨rfl, b2⟩
  have B2 := Lib.hid (B1.out.trans (b2.mono B1.out.size))
  clear b2 B1
  go_wp2_with fail
  refine (wakes_any _ (HT.out.below B2.out)).mono ?_
  rintro e w3 ⟨rfl, b3⟩
  have B3 := Lib.hid (B2.out.trans (b3.mono B2.out.size))
  clear b3 B2
  go_wp2_with fail
  go_ret
  exact ⟨rfl, B3.out⟩

set_option maxHeartbeats 4000000 in
theorem parses_true (s : ByteArray) (w : World) (ht : DTabs w) : Calls Tryd.prog 4 #[.string s] w fun e w' => e = .returned (.bool true) ∧ Below w.heap.size w w' := by
  have HT := Lib.hid ht
  clear ht
  have C1 := Lib.hid (fun (W : World) h => parse_any s W h)
  have C2 := Lib.hid (fun W : World => rparse_any s W)
  generalize parseF s = p at *
  obtain ⟨p1, p2⟩ := p
  unfold ParseTold at C1 C2
  simp only at C1 C2
  go_enter Tryd.func4, Tryd.ntmps4
  go_wp2_with fail
  refine (C1.out _ HT.out).mono ?_
  rintro e w1 ⟨rfl, b1⟩
  have B1 := Lib.hid b1
  clear b1
  go_wp2_with fail
  refine (C2.out _).mono ?_
  rintro e w2 ⟨rfl, b2⟩
  have B2 := Lib.hid (B1.out.trans (b2.mono B1.out.size))
  clear b2 B1
  go_wp2_with fail
  refine (wakes_any _ (HT.out.below B2.out)).mono ?_
  rintro e w3 ⟨rfl, b3⟩
  have B3 := Lib.hid (B2.out.trans (b3.mono B2.out.size))
  clear b3 B2
  go_wp2_with fail
  go_ret
  exact ⟨rfl, B3.out⟩
end Go.Proofs.YtcnfobjmddncgaaDoor
