/-
  What byLengths' closure does.
  Conditions: those that each theorem names.
-/
import Derived.Test.YtcpohdejdiljnaaDoorFB
import Derived.Deep.CutBlock
namespace Go.Proofs.YtcpohdejdiljnaaDoor
open Go.RowKit

theorem sd_beq (rn pn re pe : Nat) (rt pt : List UInt8) : ((rn, rt, re) == (pn, pt, pe)) = ((rn : Int) == (pn : Int) && ((⟨rt.toArray⟩ : ByteArray).toList == (⟨pt.toArray⟩ : ByteArray).toList && (re : Int) == (pe : Int))) := by
  rw [Lib.toList_data, Lib.toList_data, Bool.eq_iff_iff]
  simp only [beq_iff_eq, Prod.mk.injEq, Bool.and_eq_true, Int.natCast_inj]

set_option maxHeartbeats 8000000 in
set_option maxRecDepth 100000 in
theorem len1_in (x : ByteArray) (gc gf gs n rn re pn pe : Nat) (rt pt : ByteArray) (b q : Bool) (X : World) (Ic : Is X gc 3 [.int .i64 (n : Int)]) (If : Is X gf 77 [.int .u64 (pn : Int), .string pt, .int .i64 (pe : Int)]) (Ib : Is X gs 4 [.bool b]) (hn : n ≤ 1000000000000)
    (hC : ∀ W : World, Calls Tryd.prog 46 #[.string x] W fun e w' => e = .returned (.agg #[.int .u64 (rn : Int), .string rt, .int .i64 (re : Int)]) ∧ Below W.heap.size W w')
    (HS : ∀ W : World, (binOp .eql 77 (.agg #[.int .u64 (rn : Int), .string rt, .int .i64 (re : Int)]) (.agg #[.int .u64 (pn : Int), .string pt, .int .i64 (pe : Int)])).run Tryd.prog W = .ok (.bool q) W)
    (HT : ∀ W : World, (binOp .eql 77 (.agg #[.int .u64 (rn : Int), .string rt, .int .i64 (re : Int)]) (.agg #[.int .u64 (rn : Int), .string rt, .int .i64 (re : Int)])).run Tryd.prog W = .ok (.bool true) W) :
    Calls Tryd.prog 45 #[.string x, .pointer (some ⟨gc, 0, none⟩), .pointer (some ⟨gf, 0, none⟩), .pointer (some ⟨gs, 0, none⟩)] X fun e w' =>
      e = .returned (.tuple #[]) ∧ Is w' gc 3 [.int .i64 ((n : Int) + 1)] ∧ Is w' gf 77 (if n = 0 then [.int .u64 (rn : Int), .string rt, .int .i64 (re : Int)] else [.int .u64 (pn : Int), .string pt, .int .i64 (pe : Int)]) ∧
        Is w' gs 4 [.bool (b && ((if n = 0 then true else q) && ((re : Int) != 5)))] ∧ Turn (fun k => k = gc ∨ k = gf ∨ k = gs) X w' := by
  have ncf : gc ≠ gf := Ic.ne If (by decide)
  have nbc : gs ≠ gc := Ib.ne Ic (by decide)
  have nbf : gs ≠ gf := Ib.ne If (by decide)
  have C := Lib.hid hC
  clear hC
  by_cases h0 : n = 0
  · rw [if_pos h0, if_pos h0]
    have e0 : ((n : Int) == 0) = true := by simpa using h0
    clear h0 HS
    cases b
    · rw [show (false && (true && ((re : Int) != 5))) = false from rfl]
      go_enter Tryd.func45, Tryd.ntmps45
      go_wp2_with fail
      refine (C.out _).mono ?_
      rintro e w1 ⟨rfl, b1⟩
      have T2 := Lib.hid ((Turn.of_below (S := fun k => k = gc ∨ k = gf ∨ k = gs) b1).alloc (.cells #[.int .u64 (rn : Int), .string rt, .int .i64 (re : Int)] 77))
      have Kc2 := Lib.hid ((Ic.kept (Turn.of_below (S := fun _ => False) b1) (fun h => h)).alloc (.cells #[.int .u64 (rn : Int), .string rt, .int .i64 (re : Int)] 77))
      have Kf2 := Lib.hid ((If.kept (Turn.of_below (S := fun _ => False) b1) (fun h => h)).alloc (.cells #[.int .u64 (rn : Int), .string rt, .int .i64 (re : Int)] 77))
      have Kb2 := Lib.hid ((Ib.kept (Turn.of_below (S := fun _ => False) b1) (fun h => h)).alloc (.cells #[.int .u64 (rn : Int), .string rt, .int .i64 (re : Int)] 77))
      have Kg2 := Lib.hid (Is.made w1 77 [.int .u64 (rn : Int), .string rt, .int .i64 (re : Int)])
      have nc : gc ≠ w1.heap.size := fun e => by have := (Ic.kept (Turn.of_below (S := fun _ => False) b1) (fun h => h)).lt; omega
      have nf : gf ≠ w1.heap.size := fun e => by have := (If.kept (Turn.of_below (S := fun _ => False) b1) (fun h => h)).lt; omega
      have nb : gs ≠ w1.heap.size := fun e => by have := (Ib.kept (Turn.of_below (S := fun _ => False) b1) (fun h => h)).lt; omega
      clear b1 Ic If Ib
      go_upto_region 1 with fail
      generalize w1.alloc (.cells #[.int .u64 (rn : Int), .string rt, .int .i64 (re : Int)] 77) = w2 at *
      generalize w1.heap.size = g at *
      have cc20 : w2.cell? ⟨gc, 0, none⟩ = some (.int .i64 (n : Int)) := Kc2.out.cell 0
      have cf20 : w2.cell? ⟨gf, 0, none⟩ = some (.int .u64 (pn : Int)) := Kf2.out.cell 0
      have ff20 : w2.frozen? ⟨gf, 0, none⟩ = false := Kf2.out.free 0
      have cf21 : w2.cell? ⟨gf, 1, none⟩ = some (.string pt) := Kf2.out.cell 1
      have ff21 : w2.frozen? ⟨gf, 1, none⟩ = false := Kf2.out.free 1
      have cf22 : w2.cell? ⟨gf, 2, none⟩ = some (.int .i64 (pe : Int)) := Kf2.out.cell 2
      have ff22 : w2.frozen? ⟨gf, 2, none⟩ = false := Kf2.out.free 2
      have cg20 : w2.cell? ⟨g, 0, none⟩ = some (.int .u64 (rn : Int)) := Kg2.out.cell 0
      have cg21 : w2.cell? ⟨g, 1, none⟩ = some (.string rt) := Kg2.out.cell 1
      have cg22 : w2.cell? ⟨g, 2, none⟩ = some (.int .i64 (re : Int)) := Kg2.out.cell 2
      go_upto_region 3 with fail
      have Kc3 := Lib.hid ((((Kc2.out).far (p := ⟨gf, 0, none⟩) ncf (.int .u64 (rn : Int))).far (p := ⟨gf, 1, none⟩) ncf (.string rt)).far (p := ⟨gf, 2, none⟩) ncf (.int .i64 (re : Int)))
      have Kb3 := Lib.hid ((((Kb2.out).far (p := ⟨gf, 0, none⟩) nbf (.int .u64 (rn : Int))).far (p := ⟨gf, 1, none⟩) nbf (.string rt)).far (p := ⟨gf, 2, none⟩) nbf (.int .i64 (re : Int)))
      have Kg3 := Lib.hid ((((Kg2.out).far (p := ⟨gf, 0, none⟩) (Ne.symm nf) (.int .u64 (rn : Int))).far (p := ⟨gf, 1, none⟩) (Ne.symm nf) (.string rt)).far (p := ⟨gf, 2, none⟩) (Ne.symm nf) (.int .i64 (re : Int)))
      have Kf3 := Lib.hid ((((Kf2.out).set 0 (.int .u64 (rn : Int))).set 1 (.string rt)).set 2 (.int .i64 (re : Int)))
      have T3 := Lib.hid (((T2.out.setCell (p := ⟨gf, 0, none⟩) (fun _ => .inr (.inl rfl)) (.int .u64 (rn : Int))).setCell (p := ⟨gf, 1, none⟩) (fun _ => .inr (.inl rfl)) (.string rt)).setCell (p := ⟨gf, 2, none⟩) (fun _ => .inr (.inl rfl)) (.int .i64 (re : Int)))
      clear Kc2 Kb2 Kg2 Kf2 T2 cc20 cf20 ff20 cf21 ff21 cf22 ff22 cg20 cg21 cg22
      generalize (((w2.setCell ⟨gf, 0, none⟩ (.int .u64 (rn : Int))).setCell ⟨gf, 1, none⟩ (.string rt)).setCell ⟨gf, 2, none⟩ (.int .i64 (re : Int))) = w3 at *
      simp only [List.set_cons_zero, List.set_cons_succ] at Kf3
      have cc30 : w3.cell? ⟨gc, 0, none⟩ = some (.int .i64 (n : Int)) := Kc3.out.cell 0
      have fc30 : w3.frozen? ⟨gc, 0, none⟩ = false := Kc3.out.free 0
      go_upto_region 4 with fail
      have Kc4 := Lib.hid (Kc3.out.set 0 (.int .i64 ((n : Int) + 1)))
      have Kf4 := Lib.hid (Kf3.out.far (p := ⟨gc, 0, none⟩) (Ne.symm ncf) (.int .i64 ((n : Int) + 1)))
      have Kb4 := Lib.hid (Kb3.out.far (p := ⟨gc, 0, none⟩) nbc (.int .i64 ((n : Int) + 1)))
      have Kg4 := Lib.hid (Kg3.out.far (p := ⟨gc, 0, none⟩) (Ne.symm nc) (.int .i64 ((n : Int) + 1)))
      have T4 := Lib.hid (T3.out.setCell (p := ⟨gc, 0, none⟩) (fun _ => .inl rfl) (.int .i64 ((n : Int) + 1)))
      clear Kc3 Kf3 Kb3 Kg3 T3 cc30 fc30
      generalize w3.setCell ⟨gc, 0, none⟩ (.int .i64 ((n : Int) + 1)) = w4 at *
      have cb40 : w4.cell? ⟨gs, 0, none⟩ = some (.bool false) := Kb4.out.cell 0
      have fb40 : w4.frozen? ⟨gs, 0, none⟩ = false := Kb4.out.free 0
      go_wp2_with fail
      go_end0
      exact ⟨rfl, Kc4.out.far (p := ⟨gs, 0, none⟩) (Ne.symm nbc) _, Kf4.out.far (p := ⟨gs, 0, none⟩) (Ne.symm nbf) _, Kb4.out.set 0 _, T4.out.setCell (p := ⟨gs, 0, none⟩) (fun _ => .inr (.inr rfl)) _⟩
    · rw [show (true && (true && ((re : Int) != 5))) = ((re : Int) != 5) from rfl]
      go_enter Tryd.func45, Tryd.ntmps45
      go_wp2_with fail
      refine (C.out _).mono ?_
      rintro e w1 ⟨rfl, b1⟩
      have T2 := Lib.hid ((Turn.of_below (S := fun k => k = gc ∨ k = gf ∨ k = gs) b1).alloc (.cells #[.int .u64 (rn : Int), .string rt, .int .i64 (re : Int)] 77))
      have Kc2 := Lib.hid ((Ic.kept (Turn.of_below (S := fun _ => False) b1) (fun h => h)).alloc (.cells #[.int .u64 (rn : Int), .string rt, .int .i64 (re : Int)] 77))
      have Kf2 := Lib.hid ((If.kept (Turn.of_below (S := fun _ => False) b1) (fun h => h)).alloc (.cells #[.int .u64 (rn : Int), .string rt, .int .i64 (re : Int)] 77))
      have Kb2 := Lib.hid ((Ib.kept (Turn.of_below (S := fun _ => False) b1) (fun h => h)).alloc (.cells #[.int .u64 (rn : Int), .string rt, .int .i64 (re : Int)] 77))
      have Kg2 := Lib.hid (Is.made w1 77 [.int .u64 (rn : Int), .string rt, .int .i64 (re : Int)])
      have nc : gc ≠ w1.heap.size := fun e => by have := (Ic.kept (Turn.of_below (S := fun _ => False) b1) (fun h => h)).lt; omega
      have nf : gf ≠ w1.heap.size := fun e => by have := (If.kept (Turn.of_below (S := fun _ => False) b1) (fun h => h)).lt; omega
      have nb : gs ≠ w1.heap.size := fun e => by have := (Ib.kept (Turn.of_below (S := fun _ => False) b1) (fun h => h)).lt; omega
      clear b1 Ic If Ib
      go_upto_region 1 with fail
      generalize w1.alloc (.cells #[.int .u64 (rn : Int), .string rt, .int .i64 (re : Int)] 77) = w2 at *
      generalize w1.heap.size = g at *
      have cc20 : w2.cell? ⟨gc, 0, none⟩ = some (.int .i64 (n : Int)) := Kc2.out.cell 0
      have cf20 : w2.cell? ⟨gf, 0, none⟩ = some (.int .u64 (pn : Int)) := Kf2.out.cell 0
      have ff20 : w2.frozen? ⟨gf, 0, none⟩ = false := Kf2.out.free 0
      have cf21 : w2.cell? ⟨gf, 1, none⟩ = some (.string pt) := Kf2.out.cell 1
      have ff21 : w2.frozen? ⟨gf, 1, none⟩ = false := Kf2.out.free 1
      have cf22 : w2.cell? ⟨gf, 2, none⟩ = some (.int .i64 (pe : Int)) := Kf2.out.cell 2
      have ff22 : w2.frozen? ⟨gf, 2, none⟩ = false := Kf2.out.free 2
      have cg20 : w2.cell? ⟨g, 0, none⟩ = some (.int .u64 (rn : Int)) := Kg2.out.cell 0
      have cg21 : w2.cell? ⟨g, 1, none⟩ = some (.string rt) := Kg2.out.cell 1
      have cg22 : w2.cell? ⟨g, 2, none⟩ = some (.int .i64 (re : Int)) := Kg2.out.cell 2
      go_upto_region 3 with fail
      have Kc3 := Lib.hid ((((Kc2.out).far (p := ⟨gf, 0, none⟩) ncf (.int .u64 (rn : Int))).far (p := ⟨gf, 1, none⟩) ncf (.string rt)).far (p := ⟨gf, 2, none⟩) ncf (.int .i64 (re : Int)))
      have Kb3 := Lib.hid ((((Kb2.out).far (p := ⟨gf, 0, none⟩) nbf (.int .u64 (rn : Int))).far (p := ⟨gf, 1, none⟩) nbf (.string rt)).far (p := ⟨gf, 2, none⟩) nbf (.int .i64 (re : Int)))
      have Kg3 := Lib.hid ((((Kg2.out).far (p := ⟨gf, 0, none⟩) (Ne.symm nf) (.int .u64 (rn : Int))).far (p := ⟨gf, 1, none⟩) (Ne.symm nf) (.string rt)).far (p := ⟨gf, 2, none⟩) (Ne.symm nf) (.int .i64 (re : Int)))
      have Kf3 := Lib.hid ((((Kf2.out).set 0 (.int .u64 (rn : Int))).set 1 (.string rt)).set 2 (.int .i64 (re : Int)))
      have T3 := Lib.hid (((T2.out.setCell (p := ⟨gf, 0, none⟩) (fun _ => .inr (.inl rfl)) (.int .u64 (rn : Int))).setCell (p := ⟨gf, 1, none⟩) (fun _ => .inr (.inl rfl)) (.string rt)).setCell (p := ⟨gf, 2, none⟩) (fun _ => .inr (.inl rfl)) (.int .i64 (re : Int)))
      clear Kc2 Kb2 Kg2 Kf2 T2 cc20 cf20 ff20 cf21 ff21 cf22 ff22 cg20 cg21 cg22
      generalize (((w2.setCell ⟨gf, 0, none⟩ (.int .u64 (rn : Int))).setCell ⟨gf, 1, none⟩ (.string rt)).setCell ⟨gf, 2, none⟩ (.int .i64 (re : Int))) = w3 at *
      simp only [List.set_cons_zero, List.set_cons_succ] at Kf3
      have cc30 : w3.cell? ⟨gc, 0, none⟩ = some (.int .i64 (n : Int)) := Kc3.out.cell 0
      have fc30 : w3.frozen? ⟨gc, 0, none⟩ = false := Kc3.out.free 0
      go_upto_region 4 with fail
      have Kc4 := Lib.hid (Kc3.out.set 0 (.int .i64 ((n : Int) + 1)))
      have Kf4 := Lib.hid (Kf3.out.far (p := ⟨gc, 0, none⟩) (Ne.symm ncf) (.int .i64 ((n : Int) + 1)))
      have Kb4 := Lib.hid (Kb3.out.far (p := ⟨gc, 0, none⟩) nbc (.int .i64 ((n : Int) + 1)))
      have Kg4 := Lib.hid (Kg3.out.far (p := ⟨gc, 0, none⟩) (Ne.symm nc) (.int .i64 ((n : Int) + 1)))
      have T4 := Lib.hid (T3.out.setCell (p := ⟨gc, 0, none⟩) (fun _ => .inl rfl) (.int .i64 ((n : Int) + 1)))
      clear Kc3 Kf3 Kb3 Kg3 T3 cc30 fc30
      generalize w3.setCell ⟨gc, 0, none⟩ (.int .i64 ((n : Int) + 1)) = w4 at *
      have cb40 : w4.cell? ⟨gs, 0, none⟩ = some (.bool true) := Kb4.out.cell 0
      have fb40 : w4.frozen? ⟨gs, 0, none⟩ = false := Kb4.out.free 0
      have cf40 : w4.cell? ⟨gf, 0, none⟩ = some (.int .u64 (rn : Int)) := Kf4.out.cell 0
      have cf41 : w4.cell? ⟨gf, 1, none⟩ = some (.string rt) := Kf4.out.cell 1
      have cf42 : w4.cell? ⟨gf, 2, none⟩ = some (.int .i64 (re : Int)) := Kf4.out.cell 2
      have cg40 : w4.cell? ⟨g, 0, none⟩ = some (.int .u64 (rn : Int)) := Kg4.out.cell 0
      have cg41 : w4.cell? ⟨g, 1, none⟩ = some (.string rt) := Kg4.out.cell 1
      have cg42 : w4.cell? ⟨g, 2, none⟩ = some (.int .i64 (re : Int)) := Kg4.out.cell 2
      go_wp2_with fail
      go_end0
      exact ⟨rfl, Kc4.out.far (p := ⟨gs, 0, none⟩) (Ne.symm nbc) _, Kf4.out.far (p := ⟨gs, 0, none⟩) (Ne.symm nbf) _, Kb4.out.set 0 _, T4.out.setCell (p := ⟨gs, 0, none⟩) (fun _ => .inr (.inr rfl)) _⟩
  · rw [if_neg h0, if_neg h0]
    have e0 : ((n : Int) == 0) = false := by simpa using h0
    clear h0 HT
    cases b
    · rw [show (false && (q && ((re : Int) != 5))) = false from rfl]
      go_enter Tryd.func45, Tryd.ntmps45
      go_wp2_with fail
      refine (C.out _).mono ?_
      rintro e w1 ⟨rfl, b1⟩
      have T2 := Lib.hid ((Turn.of_below (S := fun k => k = gc ∨ k = gf ∨ k = gs) b1).alloc (.cells #[.int .u64 (rn : Int), .string rt, .int .i64 (re : Int)] 77))
      have Kc2 := Lib.hid ((Ic.kept (Turn.of_below (S := fun _ => False) b1) (fun h => h)).alloc (.cells #[.int .u64 (rn : Int), .string rt, .int .i64 (re : Int)] 77))
      have Kf2 := Lib.hid ((If.kept (Turn.of_below (S := fun _ => False) b1) (fun h => h)).alloc (.cells #[.int .u64 (rn : Int), .string rt, .int .i64 (re : Int)] 77))
      have Kb2 := Lib.hid ((Ib.kept (Turn.of_below (S := fun _ => False) b1) (fun h => h)).alloc (.cells #[.int .u64 (rn : Int), .string rt, .int .i64 (re : Int)] 77))
      have Kg2 := Lib.hid (Is.made w1 77 [.int .u64 (rn : Int), .string rt, .int .i64 (re : Int)])
      have nc : gc ≠ w1.heap.size := fun e => by have := (Ic.kept (Turn.of_below (S := fun _ => False) b1) (fun h => h)).lt; omega
      have nf : gf ≠ w1.heap.size := fun e => by have := (If.kept (Turn.of_below (S := fun _ => False) b1) (fun h => h)).lt; omega
      have nb : gs ≠ w1.heap.size := fun e => by have := (Ib.kept (Turn.of_below (S := fun _ => False) b1) (fun h => h)).lt; omega
      clear b1 Ic If Ib
      go_upto_region 1 with fail
      generalize w1.alloc (.cells #[.int .u64 (rn : Int), .string rt, .int .i64 (re : Int)] 77) = w2 at *
      generalize w1.heap.size = g at *
      have cc20 : w2.cell? ⟨gc, 0, none⟩ = some (.int .i64 (n : Int)) := Kc2.out.cell 0
      have fc20 : w2.frozen? ⟨gc, 0, none⟩ = false := Kc2.out.free 0
      have cf20 : w2.cell? ⟨gf, 0, none⟩ = some (.int .u64 (pn : Int)) := Kf2.out.cell 0
      have cf21 : w2.cell? ⟨gf, 1, none⟩ = some (.string pt) := Kf2.out.cell 1
      have cf22 : w2.cell? ⟨gf, 2, none⟩ = some (.int .i64 (pe : Int)) := Kf2.out.cell 2
      have cg20 : w2.cell? ⟨g, 0, none⟩ = some (.int .u64 (rn : Int)) := Kg2.out.cell 0
      have cg21 : w2.cell? ⟨g, 1, none⟩ = some (.string rt) := Kg2.out.cell 1
      have cg22 : w2.cell? ⟨g, 2, none⟩ = some (.int .i64 (re : Int)) := Kg2.out.cell 2
      go_upto_region 3 with fail
      have Kc3 := Kc2
      have Kf3 := Kf2
      have Kb3 := Kb2
      have Kg3 := Kg2
      have T3 := T2
      clear Kc2 Kb2 Kg2 Kf2 T2 cf20 cf21 cf22 cg20 cg21 cg22
      go_upto_region 4 with fail
      have Kc4 := Lib.hid (Kc3.out.set 0 (.int .i64 ((n : Int) + 1)))
      have Kf4 := Lib.hid (Kf3.out.far (p := ⟨gc, 0, none⟩) (Ne.symm ncf) (.int .i64 ((n : Int) + 1)))
      have Kb4 := Lib.hid (Kb3.out.far (p := ⟨gc, 0, none⟩) nbc (.int .i64 ((n : Int) + 1)))
      have Kg4 := Lib.hid (Kg3.out.far (p := ⟨gc, 0, none⟩) (Ne.symm nc) (.int .i64 ((n : Int) + 1)))
      have T4 := Lib.hid (T3.out.setCell (p := ⟨gc, 0, none⟩) (fun _ => .inl rfl) (.int .i64 ((n : Int) + 1)))
      clear Kc3 Kf3 Kb3 Kg3 T3 cc20 fc20
      generalize w2.setCell ⟨gc, 0, none⟩ (.int .i64 ((n : Int) + 1)) = w4 at *
      have cb40 : w4.cell? ⟨gs, 0, none⟩ = some (.bool false) := Kb4.out.cell 0
      have fb40 : w4.frozen? ⟨gs, 0, none⟩ = false := Kb4.out.free 0
      go_wp2_with fail
      go_end0
      exact ⟨rfl, Kc4.out.far (p := ⟨gs, 0, none⟩) (Ne.symm nbc) _, Kf4.out.far (p := ⟨gs, 0, none⟩) (Ne.symm nbf) _, Kb4.out.set 0 _, T4.out.setCell (p := ⟨gs, 0, none⟩) (fun _ => .inr (.inr rfl)) _⟩
    cases q
    · rw [show (true && (false && ((re : Int) != 5))) = false from rfl]
      go_enter Tryd.func45, Tryd.ntmps45
      go_wp2_with fail
      refine (C.out _).mono ?_
      rintro e w1 ⟨rfl, b1⟩
      have T2 := Lib.hid ((Turn.of_below (S := fun k => k = gc ∨ k = gf ∨ k = gs) b1).alloc (.cells #[.int .u64 (rn : Int), .string rt, .int .i64 (re : Int)] 77))
      have Kc2 := Lib.hid ((Ic.kept (Turn.of_below (S := fun _ => False) b1) (fun h => h)).alloc (.cells #[.int .u64 (rn : Int), .string rt, .int .i64 (re : Int)] 77))
      have Kf2 := Lib.hid ((If.kept (Turn.of_below (S := fun _ => False) b1) (fun h => h)).alloc (.cells #[.int .u64 (rn : Int), .string rt, .int .i64 (re : Int)] 77))
      have Kb2 := Lib.hid ((Ib.kept (Turn.of_below (S := fun _ => False) b1) (fun h => h)).alloc (.cells #[.int .u64 (rn : Int), .string rt, .int .i64 (re : Int)] 77))
      have Kg2 := Lib.hid (Is.made w1 77 [.int .u64 (rn : Int), .string rt, .int .i64 (re : Int)])
      have nc : gc ≠ w1.heap.size := fun e => by have := (Ic.kept (Turn.of_below (S := fun _ => False) b1) (fun h => h)).lt; omega
      have nf : gf ≠ w1.heap.size := fun e => by have := (If.kept (Turn.of_below (S := fun _ => False) b1) (fun h => h)).lt; omega
      have nb : gs ≠ w1.heap.size := fun e => by have := (Ib.kept (Turn.of_below (S := fun _ => False) b1) (fun h => h)).lt; omega
      clear b1 Ic If Ib
      go_upto_region 1 with fail
      generalize w1.alloc (.cells #[.int .u64 (rn : Int), .string rt, .int .i64 (re : Int)] 77) = w2 at *
      generalize w1.heap.size = g at *
      have cc20 : w2.cell? ⟨gc, 0, none⟩ = some (.int .i64 (n : Int)) := Kc2.out.cell 0
      have fc20 : w2.frozen? ⟨gc, 0, none⟩ = false := Kc2.out.free 0
      have cf20 : w2.cell? ⟨gf, 0, none⟩ = some (.int .u64 (pn : Int)) := Kf2.out.cell 0
      have cf21 : w2.cell? ⟨gf, 1, none⟩ = some (.string pt) := Kf2.out.cell 1
      have cf22 : w2.cell? ⟨gf, 2, none⟩ = some (.int .i64 (pe : Int)) := Kf2.out.cell 2
      have cg20 : w2.cell? ⟨g, 0, none⟩ = some (.int .u64 (rn : Int)) := Kg2.out.cell 0
      have cg21 : w2.cell? ⟨g, 1, none⟩ = some (.string rt) := Kg2.out.cell 1
      have cg22 : w2.cell? ⟨g, 2, none⟩ = some (.int .i64 (re : Int)) := Kg2.out.cell 2
      go_upto_region 3 with fail
      have Kc3 := Kc2
      have Kf3 := Kf2
      have Kb3 := Kb2
      have Kg3 := Kg2
      have T3 := T2
      clear Kc2 Kb2 Kg2 Kf2 T2 cf20 cf21 cf22 cg20 cg21 cg22
      go_upto_region 4 with fail
      have Kc4 := Lib.hid (Kc3.out.set 0 (.int .i64 ((n : Int) + 1)))
      have Kf4 := Lib.hid (Kf3.out.far (p := ⟨gc, 0, none⟩) (Ne.symm ncf) (.int .i64 ((n : Int) + 1)))
      have Kb4 := Lib.hid (Kb3.out.far (p := ⟨gc, 0, none⟩) nbc (.int .i64 ((n : Int) + 1)))
      have Kg4 := Lib.hid (Kg3.out.far (p := ⟨gc, 0, none⟩) (Ne.symm nc) (.int .i64 ((n : Int) + 1)))
      have T4 := Lib.hid (T3.out.setCell (p := ⟨gc, 0, none⟩) (fun _ => .inl rfl) (.int .i64 ((n : Int) + 1)))
      clear Kc3 Kf3 Kb3 Kg3 T3 cc20 fc20
      generalize w2.setCell ⟨gc, 0, none⟩ (.int .i64 ((n : Int) + 1)) = w4 at *
      have cb40 : w4.cell? ⟨gs, 0, none⟩ = some (.bool true) := Kb4.out.cell 0
      have fb40 : w4.frozen? ⟨gs, 0, none⟩ = false := Kb4.out.free 0
      have cf40 : w4.cell? ⟨gf, 0, none⟩ = some (.int .u64 (pn : Int)) := Kf4.out.cell 0
      have cf41 : w4.cell? ⟨gf, 1, none⟩ = some (.string pt) := Kf4.out.cell 1
      have cf42 : w4.cell? ⟨gf, 2, none⟩ = some (.int .i64 (pe : Int)) := Kf4.out.cell 2
      have cg40 : w4.cell? ⟨g, 0, none⟩ = some (.int .u64 (rn : Int)) := Kg4.out.cell 0
      have cg41 : w4.cell? ⟨g, 1, none⟩ = some (.string rt) := Kg4.out.cell 1
      have cg42 : w4.cell? ⟨g, 2, none⟩ = some (.int .i64 (re : Int)) := Kg4.out.cell 2
      go_wp2_with fail
      go_end0
      exact ⟨rfl, Kc4.out.far (p := ⟨gs, 0, none⟩) (Ne.symm nbc) _, Kf4.out.far (p := ⟨gs, 0, none⟩) (Ne.symm nbf) _, Kb4.out.set 0 _, T4.out.setCell (p := ⟨gs, 0, none⟩) (fun _ => .inr (.inr rfl)) _⟩
    · rw [show (true && (true && ((re : Int) != 5))) = ((re : Int) != 5) from rfl]
      go_enter Tryd.func45, Tryd.ntmps45
      go_wp2_with fail
      refine (C.out _).mono ?_
      rintro e w1 ⟨rfl, b1⟩
      have T2 := Lib.hid ((Turn.of_below (S := fun k => k = gc ∨ k = gf ∨ k = gs) b1).alloc (.cells #[.int .u64 (rn : Int), .string rt, .int .i64 (re : Int)] 77))
      have Kc2 := Lib.hid ((Ic.kept (Turn.of_below (S := fun _ => False) b1) (fun h => h)).alloc (.cells #[.int .u64 (rn : Int), .string rt, .int .i64 (re : Int)] 77))
      have Kf2 := Lib.hid ((If.kept (Turn.of_below (S := fun _ => False) b1) (fun h => h)).alloc (.cells #[.int .u64 (rn : Int), .string rt, .int .i64 (re : Int)] 77))
      have Kb2 := Lib.hid ((Ib.kept (Turn.of_below (S := fun _ => False) b1) (fun h => h)).alloc (.cells #[.int .u64 (rn : Int), .string rt, .int .i64 (re : Int)] 77))
      have Kg2 := Lib.hid (Is.made w1 77 [.int .u64 (rn : Int), .string rt, .int .i64 (re : Int)])
      have nc : gc ≠ w1.heap.size := fun e => by have := (Ic.kept (Turn.of_below (S := fun _ => False) b1) (fun h => h)).lt; omega
      have nf : gf ≠ w1.heap.size := fun e => by have := (If.kept (Turn.of_below (S := fun _ => False) b1) (fun h => h)).lt; omega
      have nb : gs ≠ w1.heap.size := fun e => by have := (Ib.kept (Turn.of_below (S := fun _ => False) b1) (fun h => h)).lt; omega
      clear b1 Ic If Ib
      go_upto_region 1 with fail
      generalize w1.alloc (.cells #[.int .u64 (rn : Int), .string rt, .int .i64 (re : Int)] 77) = w2 at *
      generalize w1.heap.size = g at *
      have cc20 : w2.cell? ⟨gc, 0, none⟩ = some (.int .i64 (n : Int)) := Kc2.out.cell 0
      have fc20 : w2.frozen? ⟨gc, 0, none⟩ = false := Kc2.out.free 0
      have cf20 : w2.cell? ⟨gf, 0, none⟩ = some (.int .u64 (pn : Int)) := Kf2.out.cell 0
      have cf21 : w2.cell? ⟨gf, 1, none⟩ = some (.string pt) := Kf2.out.cell 1
      have cf22 : w2.cell? ⟨gf, 2, none⟩ = some (.int .i64 (pe : Int)) := Kf2.out.cell 2
      have cg20 : w2.cell? ⟨g, 0, none⟩ = some (.int .u64 (rn : Int)) := Kg2.out.cell 0
      have cg21 : w2.cell? ⟨g, 1, none⟩ = some (.string rt) := Kg2.out.cell 1
      have cg22 : w2.cell? ⟨g, 2, none⟩ = some (.int .i64 (re : Int)) := Kg2.out.cell 2
      go_upto_region 3 with fail
      have Kc3 := Kc2
      have Kf3 := Kf2
      have Kb3 := Kb2
      have Kg3 := Kg2
      have T3 := T2
      clear Kc2 Kb2 Kg2 Kf2 T2 cf20 cf21 cf22 cg20 cg21 cg22
      go_upto_region 4 with fail
      have Kc4 := Lib.hid (Kc3.out.set 0 (.int .i64 ((n : Int) + 1)))
      have Kf4 := Lib.hid (Kf3.out.far (p := ⟨gc, 0, none⟩) (Ne.symm ncf) (.int .i64 ((n : Int) + 1)))
      have Kb4 := Lib.hid (Kb3.out.far (p := ⟨gc, 0, none⟩) nbc (.int .i64 ((n : Int) + 1)))
      have Kg4 := Lib.hid (Kg3.out.far (p := ⟨gc, 0, none⟩) (Ne.symm nc) (.int .i64 ((n : Int) + 1)))
      have T4 := Lib.hid (T3.out.setCell (p := ⟨gc, 0, none⟩) (fun _ => .inl rfl) (.int .i64 ((n : Int) + 1)))
      clear Kc3 Kf3 Kb3 Kg3 T3 cc20 fc20
      generalize w2.setCell ⟨gc, 0, none⟩ (.int .i64 ((n : Int) + 1)) = w4 at *
      have cb40 : w4.cell? ⟨gs, 0, none⟩ = some (.bool true) := Kb4.out.cell 0
      have fb40 : w4.frozen? ⟨gs, 0, none⟩ = false := Kb4.out.free 0
      have cf40 : w4.cell? ⟨gf, 0, none⟩ = some (.int .u64 (pn : Int)) := Kf4.out.cell 0
      have cf41 : w4.cell? ⟨gf, 1, none⟩ = some (.string pt) := Kf4.out.cell 1
      have cf42 : w4.cell? ⟨gf, 2, none⟩ = some (.int .i64 (pe : Int)) := Kf4.out.cell 2
      have cg40 : w4.cell? ⟨g, 0, none⟩ = some (.int .u64 (rn : Int)) := Kg4.out.cell 0
      have cg41 : w4.cell? ⟨g, 1, none⟩ = some (.string rt) := Kg4.out.cell 1
      have cg42 : w4.cell? ⟨g, 2, none⟩ = some (.int .i64 (re : Int)) := Kg4.out.cell 2
      go_wp2_with fail
      go_end0
      exact ⟨rfl, Kc4.out.far (p := ⟨gs, 0, none⟩) (Ne.symm nbc) _, Kf4.out.far (p := ⟨gs, 0, none⟩) (Ne.symm nbf) _, Kb4.out.set 0 _, T4.out.setCell (p := ⟨gs, 0, none⟩) (fun _ => .inr (.inr rfl)) _⟩
/-- What stands in first, behind one more length. -/
def nextF (n : Nat) (p r : Sd) : Sd := if n = 0 then r else p
theorem sd_same (p r : Sd) : (r == p) = ((r.1 : Int) == (p.1 : Int) && ((⟨r.2.1.toArray⟩ : ByteArray).toList == (⟨p.2.1.toArray⟩ : ByteArray).toList && (r.2.2 : Int) == (p.2.2 : Int))) := sd_beq r.1 p.1 r.2.2 p.2.2 r.2.1 p.2.1
/-- One more length. -/
theorem len1_any (x : ByteArray) (gc gf gs n : Nat) (p : Sd) (b : Bool) (X : World) (Ic : Is X gc 3 [.int .i64 (n : Int)]) (If : Is X gf 77 (saidL p)) (Ib : Is X gs 4 [.bool b]) (hn : n ≤ 1000000000000) :
    Calls Tryd.prog 45 #[.string x, .pointer (some ⟨gc, 0, none⟩), .pointer (some ⟨gf, 0, none⟩), .pointer (some ⟨gs, 0, none⟩)] X fun e w' =>
      e = .returned (.tuple #[]) ∧ Is w' gc 3 [.int .i64 ((n + 1 : Nat) : Int)] ∧ Is w' gf 77 (saidL (nextF n p (rdF (bl x)))) ∧ Is w' gs 4 [.bool (b && okL (nextF n p (rdF (bl x))) (bl x))] ∧ Turn (fun k => k = gc ∨ k = gf ∨ k = gs) X w' := by
  have C := fun W : World => read_any x W
  have HO : ∀ p', okL p' (bl x) = (rdF (bl x) == p' && (((rdF (bl x)).2.2 : Int) != 5)) := fun p' => by
    unfold okL
    rw [show (((rdF (bl x)).2.2 : Int) != 5) = ((rdF (bl x)).2.2 != 5) from by rw [Bool.eq_iff_iff]; simp only [bne_iff_ne]; omega]
  generalize rdF (bl x) = r at *
  refine (len1_in x gc gf gs n r.1 r.2.2 p.1 p.2.2 ⟨r.2.1.toArray⟩ ⟨p.2.1.toArray⟩ b (r == p) X Ic If Ib hn C (fun W => by rw [run_eql_said, sd_same]) (fun W => by rw [run_eql_said]; simp)).mono ?_
  rintro e w' ⟨rfl, h1, h2, h3, h4⟩
  refine ⟨rfl, by simpa using h1, ?_, ?_, h4⟩
  · unfold nextF saidL
    split <;> rename_i h0
    · rw [if_pos h0] at h2; exact h2
    · rw [if_neg h0] at h2; exact h2
  · rw [HO]
    unfold nextF
    split <;> rename_i h0
    · rw [if_pos h0] at h3; simpa using h3
    · rw [if_neg h0] at h3; exact h3
end Go.Proofs.YtcpohdejdiljnaaDoor
