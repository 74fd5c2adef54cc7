/-
  What the laws ask first: the document's example, one bucket, four Takes at 0, two more, Left.
  Conditions: those that each theorem names.
-/
import Derived.Test.YtfkpihilcngbnaaIF
import Derived.LoopTactic
namespace Go.Proofs.Ytfkpihilcngbnaa.Buc
open Go.RowKit

theorem take_to (g now : Nat) (x y : Bk) (q : Bool) (hx : x.Ok) (hn : now ≤ 4503599627370496) (hq : x.has now = q) (hy : x.take now = y) (w : World) (hg : At w g x) : Calls Try.prog 13 #[.pointer (some ⟨g, 0, none⟩), .int .u64 now] w fun e w' =>
    e = .returned (.tuple #[.bool q, .int .i64 0]) ∧ At w' g y ∧ Turn (· = g) w w' ∧ w'.heap.size = w.heap.size := by
  subst hq hy
  exact take_any g now x hx hn w hg

theorem left_to (g now n : Nat) (x : Bk) (hx : x.Ok) (hn : now ≤ 4503599627370496) (hq : x.left now = n) (w : World) (hg : At w g x) : Calls Try.prog 10 #[.pointer (some ⟨g, 0, none⟩), .int .u64 now] w fun e w' => e = .returned (.int .i64 n) ∧ w = w' := by
  subst hq
  exact left_any g now x hx hn w hg

theorem ok_of (r b l t : Nat) (h : (decide (1 ≤ r) && decide (r ≤ 1000) && decide (1 ≤ b) && decide (b ≤ 1000) && decide (l ≤ 1000 * b) && decide (t ≤ 4503599627370496)) = true) : (⟨r, b, l, t⟩ : Bk).Ok := by
  simp only [Bool.and_eq_true, decide_eq_true_eq] at h
  obtain ⟨⟨⟨⟨⟨h1, h2⟩, h3⟩, h4⟩, h5⟩, h6⟩ := h
  exact ⟨h1, h2, h3, h4, h5, h6⟩

/-- The bucket behind k Takes at 0. -/
def sk (k : Nat) : Bk := ⟨2, 3, 3000 - 1000 * k, 0⟩

/-- What a round of the example's loop finds. -/
def ARel (w : World) (g L : Nat) (vi : Value) (wr : World) : Prop :=
  ∃ k : Nat, vi = .int .i64 (k : Int) ∧ k ≤ 4 ∧ At wr g (sk k) ∧ Is wr L 4 [.bool true, .bool true, .bool true, .bool false] ∧ Turn (fun _ => False) w wr

set_option maxHeartbeats 2000000 in
theorem awake_any (w : World) : Calls Try.prog 7 #[] w fun e w' => e = .returned (.bool true) ∧ Turn (fun _ => False) w w' := by
  have C0 := Lib.hid (new_any 2 3 0 (by omega) (by omega) (by omega) (by omega) (by omega) w)
  unfold New1 at C0
  rw [show fresh 2 3 0 = sk 0 from rfl] at C0
  go_enter Try.func7, Try.ntmps7
  go_wp2_with fail
  refine C0.out.mono ?_
  rintro e w1 ⟨rfl, g1, t1, z1⟩
  have hL : w.heap.size ≠ w1.heap.size := by omega
  have HL := Lib.hid hL
  have G1 := Lib.hid (Is.alloc g1 (.cells [Value.bool true, .bool true, .bool true, .bool false].toArray 4))
  have L1 := Lib.hid (Is.made w1 4 [.bool true, .bool true, .bool true, .bool false])
  have T1 := Lib.hid (t1.alloc (.cells [Value.bool true, .bool true, .bool true, .bool false].toArray 4))
  have HW := Lib.hid (Nat.le_refl w.heap.size)
  clear g1 t1 z1 C0 hL
  generalize hg : w.heap.size = g at *
  go_wp2_with fail
  go_loopw [19] (fun vi wr => ARel w g w1.heap.size vi wr) (fun vi _ => 4 - (intOf vi).toNat)
  case atStart => exact ⟨0, rfl, by omega, G1.out, L1.out, T1.out⟩
  case round =>
    obtain ⟨k, rfl, hk, ga, la, ta⟩ := hrel
    clear G1 L1 T1
    rcases (show k = 0 ∨ k = 1 ∨ k = 2 ∨ k = 3 ∨ k = 4 by omega) with rfl | rfl | rfl | rfl | rfl
    · have C := Lib.hid (take_to g 0 (sk 0) (sk 1) true (ok_of _ _ _ _ (by decide)) (by omega) (by kernel_rfl) (by kernel_rfl) wr ga)
      have c4 : wr.cell? ⟨w1.heap.size, 0, none⟩ = some (.bool true) := la.cell 0
      have LA := Lib.hid la
      have TA := Lib.hid ta
      clear ga la ta
      go_wp2_with fail
      refine C.out.mono ?_
      rintro e w2 ⟨rfl, g2, t2, z2⟩
      have L2 := Lib.hid (LA.out.kept t2 (fun h => HL.out h.symm))
      have T2 := Lib.hid (TA.out.trans (S := fun _ => False) t2 (fun k hk h => Nat.lt_irrefl k (by rw [h] at hk ⊢; omega)))
      have G2 := Lib.hid g2
      clear g2 t2 z2 C LA TA c4
      go_wp2_with fail
      go_roundw
      case rel => exact ⟨1, by go_num, by omega, G2.out, L2.out, T2.out⟩
      case measure => simp [intOf]
    · have C := Lib.hid (take_to g 0 (sk 1) (sk 2) true (ok_of _ _ _ _ (by decide)) (by omega) (by kernel_rfl) (by kernel_rfl) wr ga)
      have c4 : wr.cell? ⟨w1.heap.size, 1, none⟩ = some (.bool true) := la.cell 1
      have LA := Lib.hid la
      have TA := Lib.hid ta
      clear ga la ta
      go_wp2_with fail
      refine C.out.mono ?_
      rintro e w2 ⟨rfl, g2, t2, z2⟩
      have L2 := Lib.hid (LA.out.kept t2 (fun h => HL.out h.symm))
      have T2 := Lib.hid (TA.out.trans (S := fun _ => False) t2 (fun k hk h => Nat.lt_irrefl k (by rw [h] at hk ⊢; omega)))
      have G2 := Lib.hid g2
      clear g2 t2 z2 C LA TA c4
      go_wp2_with fail
      go_roundw
      case rel => exact ⟨2, by go_num, by omega, G2.out, L2.out, T2.out⟩
      case measure => simp [intOf]
    · have C := Lib.hid (take_to g 0 (sk 2) (sk 3) true (ok_of _ _ _ _ (by decide)) (by omega) (by kernel_rfl) (by kernel_rfl) wr ga)
      have c4 : wr.cell? ⟨w1.heap.size, 2, none⟩ = some (.bool true) := la.cell 2
      have LA := Lib.hid la
      have TA := Lib.hid ta
      clear ga la ta
      go_wp2_with fail
      refine C.out.mono ?_
      rintro e w2 ⟨rfl, g2, t2, z2⟩
      have L2 := Lib.hid (LA.out.kept t2 (fun h => HL.out h.symm))
      have T2 := Lib.hid (TA.out.trans (S := fun _ => False) t2 (fun k hk h => Nat.lt_irrefl k (by rw [h] at hk ⊢; omega)))
      have G2 := Lib.hid g2
      clear g2 t2 z2 C LA TA c4
      go_wp2_with fail
      go_roundw
      case rel => exact ⟨3, by go_num, by omega, G2.out, L2.out, T2.out⟩
      case measure => simp [intOf]
    · have C := Lib.hid (take_to g 0 (sk 3) (sk 4) false (ok_of _ _ _ _ (by decide)) (by omega) (by kernel_rfl) (by kernel_rfl) wr ga)
      have c4 : wr.cell? ⟨w1.heap.size, 3, none⟩ = some (.bool false) := la.cell 3
      have LA := Lib.hid la
      have TA := Lib.hid ta
      clear ga la ta
      go_wp2_with fail
      refine C.out.mono ?_
      rintro e w2 ⟨rfl, g2, t2, z2⟩
      have L2 := Lib.hid (LA.out.kept t2 (fun h => HL.out h.symm))
      have T2 := Lib.hid (TA.out.trans (S := fun _ => False) t2 (fun k hk h => Nat.lt_irrefl k (by rw [h] at hk ⊢; omega)))
      have G2 := Lib.hid g2
      clear g2 t2 z2 C LA TA c4
      go_wp2_with fail
      go_roundw
      case rel => exact ⟨4, by go_num, by omega, G2.out, L2.out, T2.out⟩
      case measure => simp [intOf]
    · have C := Lib.hid (take_to g 499 (sk 4) ⟨2, 3, 998, 499⟩ false (ok_of _ _ _ _ (by decide)) (by omega) (by kernel_rfl) (by kernel_rfl) wr ga)
      have TA := Lib.hid ta
      clear ga la ta
      go_wp2_with fail
      refine C.out.mono ?_
      rintro e w2 ⟨rfl, g2, t2, z2⟩
      have T2 := Lib.hid (TA.out.trans (S := fun _ => False) t2 (fun k hk h => Nat.lt_irrefl k (by rw [h] at hk ⊢; omega)))
      have C2 := Lib.hid (take_to g 500 ⟨2, 3, 998, 499⟩ ⟨2, 3, 0, 500⟩ true (ok_of _ _ _ _ (by decide)) (by omega) (by kernel_rfl) (by kernel_rfl) w2 g2)
      clear g2 t2 z2 C TA
      go_wp2_with fail
      refine C2.out.mono ?_
      rintro e w3 ⟨rfl, g3, t3, z3⟩
      have T3 := Lib.hid (T2.out.trans (S := fun _ => False) t3 (fun k hk h => Nat.lt_irrefl k (by rw [h] at hk ⊢; omega)))
      have C3 := Lib.hid (left_to g 1500 2 ⟨2, 3, 0, 500⟩ (ok_of _ _ _ _ (by decide)) (by omega) (by kernel_rfl) w3 g3)
      clear g3 t3 z3 C2 T2
      go_wp2_with (go_at_call 10; refine C3.out.mono ?_; rintro e w' ⟨rfl, rfl⟩)
      go_ret
      exact ⟨rfl, T3.out⟩
end Go.Proofs.Ytfkpihilcngbnaa.Buc
