/-
  BucketKnown: the document's examples, its ends, none.
  Conditions: none.
-/
import Derived.Test.YtfkpihilcngbnaaIG
namespace Go.Proofs.Ytfkpihilcngbnaa.Buc
open Go.RowKit

/-- The great bucket behind k Takes at 0. -/
def uk (k : Nat) : Bk := ⟨1000, 1000, 1000000 - 1000 * k, 0⟩
theorem uk_ok (k : Nat) : (uk k).Ok := by
  constructor <;> simp only [uk] <;> omega
theorem uk_has (k : Nat) (hk : k < 1000) : (uk k).has 0 = true := by
  unfold Bk.has Bk.look uk
  simp only [Nat.le_refl, if_true]
  exact decide_eq_true (by omega)
theorem uk_take (k : Nat) (hk : k < 1000) : (uk k).take 0 = uk (k + 1) := by
  unfold Bk.take
  rw [uk_has k hk, if_pos rfl]
  unfold Bk.less Bk.look uk
  simp only [Nat.le_refl, if_true]
  have e : 1000000 - 1000 * k - 1000 = 1000000 - 1000 * (k + 1) := by omega
  rw [e]

/-- What a round of the loop finds. -/
def KRel (w : World) (g : Nat) (vi : Value) (wr : World) : Prop :=
  ∃ k : Nat, vi = .int .i64 (k : Int) ∧ k ≤ 1000 ∧ At wr g (uk k) ∧ Turn (fun _ => False) w wr

set_option maxHeartbeats 4000000 in
set_option maxRecDepth 100000 in
theorem known_true (w : World) : Calls Try.prog 6 #[] w fun e w' => e = .returned (.bool true) ∧ Turn (fun _ => False) w w' := by
  have K0 := Lib.hid (new_bad 0 1 0 (by decide) w)
  have K1 := Lib.hid (new_bad 1 1001 0 (by decide) w)
  have K2 := Lib.hid (new_bad 1001 1 0 (by decide) w)
  have K3 := Lib.hid (new_bad 1 0 0 (by decide) w)
  have K4 := Lib.hid (new_bad 1 1 4503599627370497 (by decide) w)
  have K5 := Lib.hid (new_any 1000 1000 0 (by omega) (by omega) (by omega) (by omega) (by omega) w)
  unfold New1 at K5
  rw [show fresh 1000 1000 0 = uk 0 from rfl] at K5
  go_enter Try.func6, Try.ntmps6
  go_wp2_with fail
  refine K0.out.mono ?_
  rintro e w' ⟨rfl, rfl⟩
  clear K0
  go_wp2_with fail
  refine K1.out.mono ?_
  rintro e w' ⟨rfl, rfl⟩
  clear K1
  go_wp2_with fail
  refine K2.out.mono ?_
  rintro e w' ⟨rfl, rfl⟩
  clear K2
  go_wp2_with fail
  refine K3.out.mono ?_
  rintro e w' ⟨rfl, rfl⟩
  clear K3
  go_wp2_with fail
  refine K4.out.mono ?_
  rintro e w' ⟨rfl, rfl⟩
  clear K4
  go_wp2_with fail
  refine K5.out.mono ?_
  rintro e w1 ⟨rfl, g1, t1, z1⟩
  have A1 := Lib.hid (awake_any w1)
  have GL := Lib.hid g1.lt
  have G1 := Lib.hid g1
  have T1 := Lib.hid t1
  clear g1 t1 z1 K5
  go_wp2_with fail
  refine A1.out.mono ?_
  rintro e w2 ⟨rfl, t2⟩
  have G2 := Lib.hid (G1.out.kept t2 (fun h => h))
  have T2 := Lib.hid (T1.out.trans (S := fun _ => False) t2 (fun _ _ h => h))
  clear G1 T1 t2 A1 GL
  have HW := Lib.hid (Nat.le_refl w.heap.size)
  generalize hg : w.heap.size = g at *
  go_wp2_with fail
  go_loopw [60] (fun vi wr => KRel w g vi wr) (fun vi _ => 1000 - (intOf vi).toNat)
  case atStart => exact ⟨0, rfl, by omega, G2.out, T2.out⟩
  case round =>
    obtain ⟨k, rfl, hk, ga, ta⟩ := hrel
    clear G2 T2
    by_cases hlt : k < 1000
    · have C := Lib.hid (take_to g 0 (uk k) (uk (k + 1)) true (uk_ok k) (by omega) (uk_has k hlt) (uk_take k hlt) wr ga)
      have TA := Lib.hid ta
      clear ga ta
      go_wp2_with fail
      refine C.out.mono ?_
      rintro e w3 ⟨rfl, g3, t3, z3⟩
      have T3 := Lib.hid (TA.out.trans (S := fun _ => False) t3 (fun k hk h => Nat.lt_irrefl k (by rw [h] at hk ⊢; omega)))
      have G3 := Lib.hid g3
      clear g3 t3 z3 C TA
      go_wp2_with fail
      go_roundw
      case rel => exact ⟨k + 1, by go_num, by omega, G3.out, T3.out⟩
      case measure => simp [intOf]; omega
    · obtain rfl : k = 1000 := by omega
      clear hlt hk
      rw [show uk 1000 = ⟨1000, 1000, 0, 0⟩ from rfl] at ga
      have C3 := Lib.hid (take_to g 0 ⟨1000, 1000, 0, 0⟩ ⟨1000, 1000, 0, 0⟩ false (ok_of _ _ _ _ (by decide)) (by omega) (by kernel_rfl) (by kernel_rfl) wr ga)
      have D3 := Lib.hid ta
      clear ga ta
      go_wp2_with fail
      refine C3.out.mono ?_
      rintro e w3 ⟨rfl, g3, t3, z3⟩
      have t3 := D3.out.trans (S := fun _ => False) t3 (fun k hk h => Nat.lt_irrefl k (by rw [h] at hk ⊢; omega))
      clear C3 D3 z3
      have L0 := Lib.hid (left_to g 999 999 ⟨1000, 1000, 0, 0⟩ (ok_of _ _ _ _ (by decide)) (by omega) (by kernel_rfl) w3 g3)
      have HG0 := Lib.hid g3
      have HT0 := Lib.hid t3
      clear g3 t3
      go_wp2_with fail
      refine L0.out.mono ?_
      rintro e w' ⟨rfl, rfl⟩
      have g3 := HG0.out
      have t3 := HT0.out
      clear L0 HG0 HT0
      have L1 := Lib.hid (take_late g 4503599627370497 1000 (by omega) (by omega) w3 g3.c0)
      have HG1 := Lib.hid g3
      have HT1 := Lib.hid t3
      clear g3 t3
      go_wp2_with fail
      refine L1.out.mono ?_
      rintro e w' ⟨rfl, rfl⟩
      have g3 := HG1.out
      have t3 := HT1.out
      clear L1 HG1 HT1
      have L2 := Lib.hid (left_to g 4503599627370496 1000 ⟨1000, 1000, 0, 0⟩ (ok_of _ _ _ _ (by decide)) (by omega) (by kernel_rfl) w3 g3)
      have HG2 := Lib.hid g3
      have HT2 := Lib.hid t3
      clear g3 t3
      go_wp2_with fail
      refine L2.out.mono ?_
      rintro e w' ⟨rfl, rfl⟩
      have g3 := HG2.out
      have t3 := HT2.out
      clear L2 HG2 HT2
      have C4 := Lib.hid (take_to g 4503599627370496 ⟨1000, 1000, 0, 0⟩ ⟨1000, 1000, 999000, 4503599627370496⟩ true (ok_of _ _ _ _ (by decide)) (by omega) (by kernel_rfl) (by kernel_rfl) w3 g3)
      have D4 := Lib.hid t3
      clear g3 t3
      go_wp2_with fail
      refine C4.out.mono ?_
      rintro e w4 ⟨rfl, g4, t4, z4⟩
      have t4 := D4.out.trans (S := fun _ => False) t4 (fun k hk h => Nat.lt_irrefl k (by rw [h] at hk ⊢; omega))
      clear C4 D4 z4
      have C5 := Lib.hid (take_to g 5 ⟨1000, 1000, 999000, 4503599627370496⟩ ⟨1000, 1000, 998000, 4503599627370496⟩ true (ok_of _ _ _ _ (by decide)) (by omega) (by kernel_rfl) (by kernel_rfl) w4 g4)
      have D5 := Lib.hid t4
      clear g4 t4
      go_wp2_with fail
      refine C5.out.mono ?_
      rintro e w5 ⟨rfl, g5, t5, z5⟩
      have t5 := D5.out.trans (S := fun _ => False) t5 (fun k hk h => Nat.lt_irrefl k (by rw [h] at hk ⊢; omega))
      clear C5 D5 z5
      have N1 := Lib.hid (take_nil 0 w5)
      have L1 : Hid (Calls Try.prog 10 #[.pointer (some ⟨g, 0, none⟩), .int .u64 0] w5 fun e w' => e = .returned (.int .i64 998) ∧ w5 = w') := Lib.hid (left_to g 0 998 ⟨1000, 1000, 998000, 4503599627370496⟩ (ok_of _ _ _ _ (by decide)) (by omega) (by kernel_rfl) w5 g5)
      have L2 : Hid (Calls Try.prog 10 #[.pointer (some ⟨g, 0, none⟩), .int .u64 4503599627370497] w5 fun e w' => e = .returned (.int .i64 0) ∧ w5 = w') := Lib.hid (left_late g 4503599627370497 1000 (by omega) (by omega) w5 g5.c0)
      have L3 : Hid (Calls Try.prog 10 #[.pointer none, .int .u64 0] w5 fun e w' => e = .returned (.int .i64 0) ∧ w5 = w') := Lib.hid (left_nil 0 w5)
      have TT := Lib.hid t5
      clear g5 t5
      go_wp2_with fail
      refine N1.out.mono ?_
      rintro e w' ⟨rfl, rfl⟩
      clear N1
      go_wp2_with (first | (go_at_call 10; first | (with_reducible refine L1.out.mono ?_; rintro e w' ⟨rfl, rfl⟩) | (with_reducible refine L2.out.mono ?_; rintro e w' ⟨rfl, rfl⟩) | (with_reducible refine L3.out.mono ?_; rintro e w' ⟨rfl, rfl⟩)) | (go_at_call 12; refine (copy_nil _).mono ?_; rintro e w' ⟨rfl, rfl⟩))
      go_ret
      exact ⟨rfl, TT.out⟩
end Go.Proofs.Ytfkpihilcngbnaa.Buc
