/-
  The law AclWide, walked, for whatever texts arguments may be.
  Conditions: a rule whose Methods lie in memory; texts of at most 140737488351232 bytes; Go's table of powers of ten is as its text lays it.
-/
import Derived.Test.YtcmnnidjamdmeaaDoorAM
namespace Go.Proofs.YtcmnnidjamdmeaaDoor.Acl
open Go.RowKit

set_option maxHeartbeats 8000000 in
set_option maxRecDepth 100000 in
theorem wide_big (r : RuE) (h : ByteArray) (p : Int) (m : ByteArray) (w : World) (hr : r.Ok w) (hz1 : r.h.size ≤ 140737488351232) (hz2 : h.size ≤ 140737488351232) (hp : PowTab w) :
    Calls Tryd.prog 6 #[.agg #[.bool r.al, .string r.h, .int .i64 r.lo, .int .i64 r.hi, .slice r.A r.n r.c], .string h, .int .i64 p, .string m] w fun e w' => e = .returned (.bool true) ∧ Below w.heap.size w w' := by
  have HP := Lib.hid hp
  have HR := Lib.hid hr
  have CR := Lib.hid (fun (W : World) (hW : r.Ok W) => matches_any r h p m W hW (by omega))
  have CALL := Lib.hid (fun W : World => matches_any allR h p m W (ok_none _ _ _ _ _) (by omega))
  obtain ⟨w1, hw1⟩ : ∃ w1, w1 = (w.alloc (.cells #[.bool r.al, .string r.h, .int .i64 r.lo, .int .i64 r.hi, .slice r.A r.n r.c] 25)).alloc (.cells #[.bool false, .string ⟨#[42]⟩, .int .i64 1, .int .i64 65535, .slice none 0 0] 25) := ⟨_, rfl⟩
  have I1 := Lib.hid (show Is w1 w.heap.size 25 r.cells by rw [hw1]; exact Is.alloc Ok.box _)
  have B1 := Lib.hid (show Below w.heap.size w w1 by rw [hw1]; exact ((Below.refl _ w).alloc (Nat.le_refl _) _).alloc (by simp) _)
  rw [all_match] at CALL
  have HX0 := Lib.hid (fun hh : matchF (bl h) p (bl m) r = true => wide_match hh)
  have HX1 := Lib.hid (fun hh : matchF (bl h) p (bl m) r = true => match_parts hh)
  have CW := Lib.hid (fun (W : World) => matches_any (wideR r) h p m W (ok_none _ _ _ _ _) (by omega))
  have CV := Lib.hid (fun (W : World) => matches_any (wideR r) h r.lo ⟨#[]⟩ W (ok_none _ _ _ _ _) (by omega))
  have CX := Lib.hid (fun (W : World) (hW : r.Ok W) => matches_any r (⟨#[120]⟩ ++ h) p m W hW (by rw [ByteArray.size_append, show (⟨#[120]⟩ : ByteArray).size = 1 from rfl]; omega))
  have CY := Lib.hid (fun (W : World) (hW : r.Ok W) => matches_any r (⟨#[120]⟩ ++ r.h) p m W hW (by rw [ByteArray.size_append, show (⟨#[120]⟩ : ByteArray).size = 1 from rfl]; omega))
  have CZ := Lib.hid (fun (W : World) (hW : r.Ok W) => matches_any r r.h p m W hW (by omega))
  have CU := Lib.hid (fun (W : World) (hW : r.Ok W) => matches_any r (h ++ ⟨#[120]⟩) p m W hW (by rw [ByteArray.size_append, show (⟨#[120]⟩ : ByteArray).size = 1 from rfl]; omega))
  have q1 : (r.h.toList == [42]) = (bl r.h == [42]) := by rw [Lib.toList_data]; rfl
  have BX := Lib.hid (show bl (⟨#[120]⟩ ++ h) = 120 :: bl h by unfold bl; simp [ByteArray.data_append])
  have BY := Lib.hid (show bl (⟨#[120]⟩ ++ r.h) = 120 :: bl r.h by unfold bl; simp [ByteArray.data_append])
  have BU := Lib.hid (show bl (h ++ ⟨#[120]⟩) = bl h ++ [120] by unfold bl; simp [ByteArray.data_append])
  clear hp hr
  by_cases h1 : 1 ≤ p
  · by_cases h2 : p ≤ 65535
    · rw [decide_eq_true h1, decide_eq_true h2, Bool.and_self] at CALL
      cases hm : matchF (bl h) p (bl m) r with
      | false =>
        rw [hm] at CR
        go_enter Tryd.func6, Tryd.ntmps6
        go_wp2_with fail
        rw [← hw1]
        clear hw1
        refine (CALL.out _).mono ?_
        rintro e w2 ⟨rfl, b2⟩
        have I2 := Lib.hid (is_below I1.out b2)
        have B2 := Lib.hid (B1.out.trans (b2.mono B1.out.size))
        obtain ⟨y0, y1, y2, y3, y4⟩ := cells5 I2.out
        clear b2 I1 B1
        go_wp2_with fail
        refine (CR.out _ (HR.out.below B2.out)).mono ?_
        rintro e w3 ⟨rfl, b3⟩
        have I3 := Lib.hid (is_below I2.out b3)
        have B3 := Lib.hid (B2.out.trans (b3.mono B2.out.size))
        clear b3 I2 B2 y0 y1 y2 y3 y4
        go_wp2_with fail
        refine (wakes_any w3 (HP.out.below B3.out)).mono ?_
        rintro e w4 ⟨rfl, b4⟩
        go_wp2_with fail
        go_ret
        exact ⟨rfl, B3.out.trans (b4.mono B3.out.size)⟩
      | true =>
        rw [hm] at CR
        have hmw := HX0.out hm
        rw [hmw.1] at CW
        rw [show bl ⟨#[]⟩ = ([] : List UInt8) from rfl, hmw.2] at CV
        clear hmw HX0
        go_enter Tryd.func6, Tryd.ntmps6
        go_wp2_with fail
        rw [← hw1]
        clear hw1
        refine (CALL.out _).mono ?_
        rintro e w2 ⟨rfl, b2⟩
        have I2 := Lib.hid (is_below I1.out b2)
        have B2 := Lib.hid (B1.out.trans (b2.mono B1.out.size))
        obtain ⟨y0, y1, y2, y3, y4⟩ := cells5 I2.out
        clear b2 I1 B1
        go_wp2_with fail
        refine (CR.out _ (HR.out.below B2.out)).mono ?_
        rintro e w3 ⟨rfl, b3⟩
        have I3 := Lib.hid (is_below I2.out b3)
        have B3 := Lib.hid (B2.out.trans (b3.mono B2.out.size))
        clear b3 I2 B2 y0 y1 y2 y3 y4
        obtain ⟨y0, y1, y2, y3, y4⟩ := cells5 I3.out
        go_wp2_with fail
        have hb4 : Below w3.heap.size w3 (w3.alloc (.cells #[.bool r.al, .string r.h, .int .i64 r.lo, .int .i64 r.hi, .slice r.A r.n r.c] 25)) := (Below.refl _ _).alloc (Nat.le_refl _) _
        have I4 := Lib.hid (is_below I3.out hb4)
        have W4 := Lib.hid (Ok.box (w := w3) (r := r))
        have B4 := Lib.hid (B3.out.trans (hb4.mono B3.out.size))
        have hne : w3.heap.size ≠ w.heap.size := by have := I3.out.lt; omega
        have hgl : w.heap.size ≤ w3.heap.size := B3.out.size
        generalize w3.alloc (.cells #[.bool r.al, .string r.h, .int .i64 r.lo, .int .i64 r.hi, .slice r.A r.n r.c] 25) = w4 at *
        generalize w3.heap.size = g at *
        clear hb4 y0 y1 y2 y3 y4 I3 B3
        obtain ⟨y0, y1, y2, y3, y4⟩ := cells5 I4.out
        obtain ⟨z0, z1, z2, z3, z4⟩ := cells5 W4.out
        have f2 := W4.out.free 2
        have f3 := W4.out.free 3
        have f4 := W4.out.free 4
        have hset : ∀ (W : World) (x : Value) (j k : Nat), (W.setCell ⟨g, j, none⟩ x).cell? ⟨w.heap.size, k, none⟩ = W.cell? ⟨w.heap.size, k, none⟩ := fun W x j k => World.cell?_of_block (Below.heap_setCell W _ _ _ (by simpa using hne.symm))
        have W5 := Lib.hid (show Is (((w4.setCell ⟨g, 2, none⟩ (.int .i64 (min r.lo 1))).setCell ⟨g, 3, none⟩ (.int .i64 (max r.hi 65535))).setCell ⟨g, 4, none⟩ (.slice none 0 0)).drew g 25 (wideR r).cells from (((W4.out.set 2 _).set 3 _).set 4 _).drew)
        have I5 := Lib.hid (show Is (((w4.setCell ⟨g, 2, none⟩ (.int .i64 (min r.lo 1))).setCell ⟨g, 3, none⟩ (.int .i64 (max r.hi 65535))).setCell ⟨g, 4, none⟩ (.slice none 0 0)).drew w.heap.size 25 r.cells from (((I4.out.far hne.symm _).far hne.symm _).far hne.symm _).drew)
        have B5 := Lib.hid (show Below w.heap.size w (((w4.setCell ⟨g, 2, none⟩ (.int .i64 (min r.lo 1))).setCell ⟨g, 3, none⟩ (.int .i64 (max r.hi 65535))).setCell ⟨g, 4, none⟩ (.slice none 0 0)).drew from
          Turn.below (S := fun _ => False) ((((Turn.of_below (S := fun _ => False) B4.out).setCell (p := ⟨g, 2, none⟩) (fun h => by simp at h; omega) _).setCell (p := ⟨g, 3, none⟩) (fun h => by simp at h; omega) _).setCell (p := ⟨g, 4, none⟩) (fun h => by simp at h; omega) _).drew (fun _ _ h => h))
        go_region
        generalize (((w4.setCell ⟨g, 2, none⟩ (.int .i64 (min r.lo 1))).setCell ⟨g, 3, none⟩ (.int .i64 (max r.hi 65535))).setCell ⟨g, 4, none⟩ (.slice none 0 0)).drew = w5 at *
        clear y0 y1 y2 y3 y4 z0 z1 z2 z3 z4 f2 f3 f4 hset I4 W4 B4
        obtain ⟨y0, y1, y2, y3, y4⟩ := cells5 I5.out
        obtain ⟨z0, z1, z2, z3, z4⟩ := cells5 W5.out
        simp only [wideR] at z0 z1 z2 z3 z4
        go_wp2_with fail
        refine (CW.out w5).mono ?_
        rintro e w6 ⟨rfl, b6⟩
        have I6 := Lib.hid (is_below I5.out b6)
        have B6 := Lib.hid (B5.out.trans (b6.mono B5.out.size))
        have W6 := Lib.hid (is_below W5.out b6)
        clear b6 I5 B5 W5 z0 z1 z2 z3 z4
        clear y0 y1 y2 y3 y4
        obtain ⟨y0, y1, y2, y3, y4⟩ := cells5 I6.out
        obtain ⟨z0, z1, z2, z3, z4⟩ := cells5 W6.out
        simp only [wideR] at z0 z1 z2 z3 z4
        go_wp2_with fail
        refine (CV.out w6).mono ?_
        rintro e w7 ⟨rfl, b7⟩
        have I7 := Lib.hid (is_below I6.out b7)
        have B7 := Lib.hid (B6.out.trans (b7.mono B6.out.size))
        clear b7 I6 B6
        clear y0 y1 y2 y3 y4
        obtain ⟨y0, y1, y2, y3, y4⟩ := cells5 I7.out
        by_cases h0 : 0 < r.h.size
        · have hd := head_byte7 r.h h0
          have h0' : (0 : Int) < (r.h.size : Int) := by omega
          cases hq : ((r.h[0].toNat : Int) == 46) with
          | true =>
            have HC := Lib.hid (covers_x (nm := bl r.h) (h := bl h) (of_decide_eq_true (by rw [hd, hq])) (HX1.out hm).1)
            have h1' := (HX1.out hm).2.1
            have h2' := (HX1.out hm).2.2.1
            have h3' := (HX1.out hm).2.2.2
            rw [match_with h1' h2' h3', BX.out, HC.out.1] at CX
            rw [match_with h1' h2' h3', BY.out, HC.out.2.1] at CY
            rw [match_with h1' h2' h3', HC.out.2.2] at CZ
            clear h1' h2' h3' hd HX1 HC
            have hadd1 : ∀ W : World, (Op.stringOp .add ⟨#[120]⟩ h).run Tryd.prog W = .ok (.string (⟨#[120]⟩ ++ h)) W := fun W => run_string_add_sum W _ h (by rw [show (⟨#[120]⟩ : ByteArray).size = 1 from rfl]; omega)
            have hadd2 : ∀ W : World, (Op.stringOp .add ⟨#[120]⟩ r.h).run Tryd.prog W = .ok (.string (⟨#[120]⟩ ++ r.h)) W := fun W => run_string_add_sum W _ r.h (by rw [show (⟨#[120]⟩ : ByteArray).size = 1 from rfl]; omega)
            go_wp2_with fail
            refine (CX.out _ (HR.out.below B7.out)).mono ?_
            rintro e w8 ⟨rfl, b8⟩
            have I8 := Lib.hid (is_below I7.out b8)
            have B8 := Lib.hid (B7.out.trans (b8.mono B7.out.size))
            clear b8 I7 B7
            clear y0 y1 y2 y3 y4
            obtain ⟨y0, y1, y2, y3, y4⟩ := cells5 I8.out
            go_wp2_with fail
            refine (CY.out _ (HR.out.below B8.out)).mono ?_
            rintro e w9 ⟨rfl, b9⟩
            have I9 := Lib.hid (is_below I8.out b9)
            have B9 := Lib.hid (B8.out.trans (b9.mono B8.out.size))
            clear b9 I8 B8
            clear y0 y1 y2 y3 y4
            obtain ⟨y0, y1, y2, y3, y4⟩ := cells5 I9.out
            go_wp2_with fail
            refine (CZ.out _ (HR.out.below B9.out)).mono ?_
            rintro e w10 ⟨rfl, b10⟩
            have I10 := Lib.hid (is_below I9.out b10)
            have B10 := Lib.hid (B9.out.trans (b10.mono B9.out.size))
            clear b10 I9 B9
            clear y0 y1 y2 y3 y4
            obtain ⟨y0, y1, y2, y3, y4⟩ := cells5 I10.out
            go_wp2_with fail
            refine (wakes_any w10 (HP.out.below B10.out)).mono ?_
            rintro e w11 ⟨rfl, b11⟩
            go_wp2_with fail
            go_ret
            exact ⟨rfl, B10.out.trans (b11.mono B10.out.size)⟩
          | false =>
            have hn : ¬ (bl r.h).head? = some 46 := fun hh => by rw [decide_eq_true hh, hq] at hd; cases hd
            clear hd
            have HC := Lib.hid (covers_y (nm := bl r.h) (h := bl h) hn (HX1.out hm).1)
            have h1' := (HX1.out hm).2.1
            have h2' := (HX1.out hm).2.2.1
            have h3' := (HX1.out hm).2.2.2
            rw [match_with h1' h2' h3', BU.out, HC.out] at CU
            clear h1' h2' h3' HX1 HC
            have BD : Hid (Below w.heap.size w w7.drew) := Lib.hid (below_drew7 B7.out)
            have x0 := cells5 I7.out
            have ID : Hid (Is w7.drew w.heap.size 25 r.cells) := Lib.hid (I7.out.drew)
            have CU1 := CU.out w7.drew (HR.out.below BD.out)
            cases hb : bl r.h == [42] with
            | true =>
              have p1 : r.h.toList = [42] := by rw [hb] at q1; exact beq_iff_eq.1 q1
              rw [hb] at q1 CU1
              clear hb
              have CU1 := Lib.hid CU1
              have hadd : ∀ W : World, (Op.stringOp .add h ⟨#[120]⟩).run Tryd.prog W = .ok (.string (h ++ ⟨#[120]⟩)) W := fun W => run_string_add_sum W h _ (by rw [show (⟨#[120]⟩ : ByteArray).size = 1 from rfl]; omega)
              clear CU
              go_wp2_with fail
              go_region_held3 (fun w' => w'.cell? ⟨w.heap.size, 0, none⟩ = some (.bool r.al) ∧ w'.cell? ⟨w.heap.size, 1, none⟩ = some (.string r.h) ∧ w'.cell? ⟨w.heap.size, 2, none⟩ = some (.int .i64 r.lo) ∧ w'.cell? ⟨w.heap.size, 3, none⟩ = some (.int .i64 r.hi) ∧ w'.cell? ⟨w.heap.size, 4, none⟩ = some (.slice r.A r.n r.c)) (first | exact x0 | exact x1 | exact x2 | go_keep)
                (first | (go_at_call 12; (with_reducible refine CU1.out.mono ?_); rintro e w8 ⟨rfl, b8⟩; have I8 := Lib.hid (is_below ID.out b8); have x1 := cells5 I8.out; have B8 := Lib.hid (BD.out.trans (b8.mono BD.out.size)); clear b8) | (go_at_call 16; (with_reducible refine (wakes_any w8 (HP.out.below B8.out)).mono ?_); rintro e w9 ⟨rfl, b9⟩; have x2 := cells5 (is_below I8.out b9); have B9 := Lib.hid (B8.out.trans (b9.mono B8.out.size)); clear b9))
              all_goals
                go_wp2_with fail
                go_ret
                exact ⟨rfl, B9.out⟩
            | false =>
              have p1 : ¬ r.h.toList = [42] := by rw [hb] at q1; exact beq_eq_false_iff_ne.1 q1
              rw [hb] at q1 CU1
              clear hb
              have CU1 := Lib.hid CU1
              have hadd : ∀ W : World, (Op.stringOp .add h ⟨#[120]⟩).run Tryd.prog W = .ok (.string (h ++ ⟨#[120]⟩)) W := fun W => run_string_add_sum W h _ (by rw [show (⟨#[120]⟩ : ByteArray).size = 1 from rfl]; omega)
              clear CU
              go_wp2_with fail
              go_region_held3 (fun w' => w'.cell? ⟨w.heap.size, 0, none⟩ = some (.bool r.al) ∧ w'.cell? ⟨w.heap.size, 1, none⟩ = some (.string r.h) ∧ w'.cell? ⟨w.heap.size, 2, none⟩ = some (.int .i64 r.lo) ∧ w'.cell? ⟨w.heap.size, 3, none⟩ = some (.int .i64 r.hi) ∧ w'.cell? ⟨w.heap.size, 4, none⟩ = some (.slice r.A r.n r.c)) (first | exact x0 | exact x1 | exact x2 | go_keep)
                (first | (go_at_call 12; (with_reducible refine CU1.out.mono ?_); rintro e w8 ⟨rfl, b8⟩; have I8 := Lib.hid (is_below ID.out b8); have x1 := cells5 I8.out; have B8 := Lib.hid (BD.out.trans (b8.mono BD.out.size)); clear b8) | (go_at_call 16; (with_reducible refine (wakes_any w8 (HP.out.below B8.out)).mono ?_); rintro e w9 ⟨rfl, b9⟩; have x2 := cells5 (is_below I8.out b9); have B9 := Lib.hid (B8.out.trans (b9.mono B8.out.size)); clear b9))
              all_goals
                go_wp2_with fail
                go_ret
                exact ⟨rfl, B9.out⟩
        · have h0' : ¬ (0 : Int) < (r.h.size : Int) := by omega
          have hn : ¬ (bl r.h).head? = some 46 := fun hh => by rw [head_nil7 r.h h0] at hh; cases hh
          have HC := Lib.hid (covers_y (nm := bl r.h) (h := bl h) hn (HX1.out hm).1)
          have h1' := (HX1.out hm).2.1
          have h2' := (HX1.out hm).2.2.1
          have h3' := (HX1.out hm).2.2.2
          rw [match_with h1' h2' h3', BU.out, HC.out] at CU
          clear h1' h2' h3' HX1 HC
          have BD : Hid (Below w.heap.size w w7.drew) := Lib.hid (below_drew7 B7.out)
          have x0 := cells5 I7.out
          have ID : Hid (Is w7.drew w.heap.size 25 r.cells) := Lib.hid (I7.out.drew)
          have CU1 := CU.out w7.drew (HR.out.below BD.out)
          cases hb : bl r.h == [42] with
          | true =>
            have p1 : r.h.toList = [42] := by rw [hb] at q1; exact beq_iff_eq.1 q1
            rw [hb] at q1 CU1
            clear hb
            have CU1 := Lib.hid CU1
            have hadd : ∀ W : World, (Op.stringOp .add h ⟨#[120]⟩).run Tryd.prog W = .ok (.string (h ++ ⟨#[120]⟩)) W := fun W => run_string_add_sum W h _ (by rw [show (⟨#[120]⟩ : ByteArray).size = 1 from rfl]; omega)
            clear CU
            go_wp2_with fail
            go_region_held3 (fun w' => w'.cell? ⟨w.heap.size, 0, none⟩ = some (.bool r.al) ∧ w'.cell? ⟨w.heap.size, 1, none⟩ = some (.string r.h) ∧ w'.cell? ⟨w.heap.size, 2, none⟩ = some (.int .i64 r.lo) ∧ w'.cell? ⟨w.heap.size, 3, none⟩ = some (.int .i64 r.hi) ∧ w'.cell? ⟨w.heap.size, 4, none⟩ = some (.slice r.A r.n r.c)) (first | exact x0 | exact x1 | exact x2 | go_keep)
              (first | (go_at_call 12; (with_reducible refine CU1.out.mono ?_); rintro e w8 ⟨rfl, b8⟩; have I8 := Lib.hid (is_below ID.out b8); have x1 := cells5 I8.out; have B8 := Lib.hid (BD.out.trans (b8.mono BD.out.size)); clear b8) | (go_at_call 16; (with_reducible refine (wakes_any w8 (HP.out.below B8.out)).mono ?_); rintro e w9 ⟨rfl, b9⟩; have x2 := cells5 (is_below I8.out b9); have B9 := Lib.hid (B8.out.trans (b9.mono B8.out.size)); clear b9))
            all_goals
              go_wp2_with fail
              go_ret
              exact ⟨rfl, B9.out⟩
          | false =>
            have p1 : ¬ r.h.toList = [42] := by rw [hb] at q1; exact beq_eq_false_iff_ne.1 q1
            rw [hb] at q1 CU1
            clear hb
            have CU1 := Lib.hid CU1
            have hadd : ∀ W : World, (Op.stringOp .add h ⟨#[120]⟩).run Tryd.prog W = .ok (.string (h ++ ⟨#[120]⟩)) W := fun W => run_string_add_sum W h _ (by rw [show (⟨#[120]⟩ : ByteArray).size = 1 from rfl]; omega)
            clear CU
            go_wp2_with fail
            go_region_held3 (fun w' => w'.cell? ⟨w.heap.size, 0, none⟩ = some (.bool r.al) ∧ w'.cell? ⟨w.heap.size, 1, none⟩ = some (.string r.h) ∧ w'.cell? ⟨w.heap.size, 2, none⟩ = some (.int .i64 r.lo) ∧ w'.cell? ⟨w.heap.size, 3, none⟩ = some (.int .i64 r.hi) ∧ w'.cell? ⟨w.heap.size, 4, none⟩ = some (.slice r.A r.n r.c)) (first | exact x0 | exact x1 | exact x2 | go_keep)
              (first | (go_at_call 12; (with_reducible refine CU1.out.mono ?_); rintro e w8 ⟨rfl, b8⟩; have I8 := Lib.hid (is_below ID.out b8); have x1 := cells5 I8.out; have B8 := Lib.hid (BD.out.trans (b8.mono BD.out.size)); clear b8) | (go_at_call 16; (with_reducible refine (wakes_any w8 (HP.out.below B8.out)).mono ?_); rintro e w9 ⟨rfl, b9⟩; have x2 := cells5 (is_below I8.out b9); have B9 := Lib.hid (B8.out.trans (b9.mono B8.out.size)); clear b9))
            all_goals
              go_wp2_with fail
              go_ret
              exact ⟨rfl, B9.out⟩
    · rw [decide_eq_false h2, Bool.and_false] at CALL
      cases hm : matchF (bl h) p (bl m) r with
      | false =>
        rw [hm] at CR
        go_enter Tryd.func6, Tryd.ntmps6
        go_wp2_with fail
        rw [← hw1]
        clear hw1
        refine (CALL.out _).mono ?_
        rintro e w2 ⟨rfl, b2⟩
        have I2 := Lib.hid (is_below I1.out b2)
        have B2 := Lib.hid (B1.out.trans (b2.mono B1.out.size))
        obtain ⟨y0, y1, y2, y3, y4⟩ := cells5 I2.out
        clear b2 I1 B1
        go_wp2_with fail
        refine (CR.out _ (HR.out.below B2.out)).mono ?_
        rintro e w3 ⟨rfl, b3⟩
        have I3 := Lib.hid (is_below I2.out b3)
        have B3 := Lib.hid (B2.out.trans (b3.mono B2.out.size))
        clear b3 I2 B2 y0 y1 y2 y3 y4
        go_wp2_with fail
        refine (wakes_any w3 (HP.out.below B3.out)).mono ?_
        rintro e w4 ⟨rfl, b4⟩
        go_wp2_with fail
        go_ret
        exact ⟨rfl, B3.out.trans (b4.mono B3.out.size)⟩
      | true =>
        rw [hm] at CR
        have hmw := HX0.out hm
        rw [hmw.1] at CW
        rw [show bl ⟨#[]⟩ = ([] : List UInt8) from rfl, hmw.2] at CV
        clear hmw HX0
        go_enter Tryd.func6, Tryd.ntmps6
        go_wp2_with fail
        rw [← hw1]
        clear hw1
        refine (CALL.out _).mono ?_
        rintro e w2 ⟨rfl, b2⟩
        have I2 := Lib.hid (is_below I1.out b2)
        have B2 := Lib.hid (B1.out.trans (b2.mono B1.out.size))
        obtain ⟨y0, y1, y2, y3, y4⟩ := cells5 I2.out
        clear b2 I1 B1
        go_wp2_with fail
        refine (CR.out _ (HR.out.below B2.out)).mono ?_
        rintro e w3 ⟨rfl, b3⟩
        have I3 := Lib.hid (is_below I2.out b3)
        have B3 := Lib.hid (B2.out.trans (b3.mono B2.out.size))
        clear b3 I2 B2 y0 y1 y2 y3 y4
        obtain ⟨y0, y1, y2, y3, y4⟩ := cells5 I3.out
        go_wp2_with fail
        have hb4 : Below w3.heap.size w3 (w3.alloc (.cells #[.bool r.al, .string r.h, .int .i64 r.lo, .int .i64 r.hi, .slice r.A r.n r.c] 25)) := (Below.refl _ _).alloc (Nat.le_refl _) _
        have I4 := Lib.hid (is_below I3.out hb4)
        have W4 := Lib.hid (Ok.box (w := w3) (r := r))
        have B4 := Lib.hid (B3.out.trans (hb4.mono B3.out.size))
        have hne : w3.heap.size ≠ w.heap.size := by have := I3.out.lt; omega
        have hgl : w.heap.size ≤ w3.heap.size := B3.out.size
        generalize w3.alloc (.cells #[.bool r.al, .string r.h, .int .i64 r.lo, .int .i64 r.hi, .slice r.A r.n r.c] 25) = w4 at *
        generalize w3.heap.size = g at *
        clear hb4 y0 y1 y2 y3 y4 I3 B3
        obtain ⟨y0, y1, y2, y3, y4⟩ := cells5 I4.out
        obtain ⟨z0, z1, z2, z3, z4⟩ := cells5 W4.out
        have f2 := W4.out.free 2
        have f3 := W4.out.free 3
        have f4 := W4.out.free 4
        have hset : ∀ (W : World) (x : Value) (j k : Nat), (W.setCell ⟨g, j, none⟩ x).cell? ⟨w.heap.size, k, none⟩ = W.cell? ⟨w.heap.size, k, none⟩ := fun W x j k => World.cell?_of_block (Below.heap_setCell W _ _ _ (by simpa using hne.symm))
        have W5 := Lib.hid (show Is (((w4.setCell ⟨g, 2, none⟩ (.int .i64 (min r.lo 1))).setCell ⟨g, 3, none⟩ (.int .i64 (max r.hi 65535))).setCell ⟨g, 4, none⟩ (.slice none 0 0)).drew g 25 (wideR r).cells from (((W4.out.set 2 _).set 3 _).set 4 _).drew)
        have I5 := Lib.hid (show Is (((w4.setCell ⟨g, 2, none⟩ (.int .i64 (min r.lo 1))).setCell ⟨g, 3, none⟩ (.int .i64 (max r.hi 65535))).setCell ⟨g, 4, none⟩ (.slice none 0 0)).drew w.heap.size 25 r.cells from (((I4.out.far hne.symm _).far hne.symm _).far hne.symm _).drew)
        have B5 := Lib.hid (show Below w.heap.size w (((w4.setCell ⟨g, 2, none⟩ (.int .i64 (min r.lo 1))).setCell ⟨g, 3, none⟩ (.int .i64 (max r.hi 65535))).setCell ⟨g, 4, none⟩ (.slice none 0 0)).drew from
          Turn.below (S := fun _ => False) ((((Turn.of_below (S := fun _ => False) B4.out).setCell (p := ⟨g, 2, none⟩) (fun h => by simp at h; omega) _).setCell (p := ⟨g, 3, none⟩) (fun h => by simp at h; omega) _).setCell (p := ⟨g, 4, none⟩) (fun h => by simp at h; omega) _).drew (fun _ _ h => h))
        go_region
        generalize (((w4.setCell ⟨g, 2, none⟩ (.int .i64 (min r.lo 1))).setCell ⟨g, 3, none⟩ (.int .i64 (max r.hi 65535))).setCell ⟨g, 4, none⟩ (.slice none 0 0)).drew = w5 at *
        clear y0 y1 y2 y3 y4 z0 z1 z2 z3 z4 f2 f3 f4 hset I4 W4 B4
        obtain ⟨y0, y1, y2, y3, y4⟩ := cells5 I5.out
        obtain ⟨z0, z1, z2, z3, z4⟩ := cells5 W5.out
        simp only [wideR] at z0 z1 z2 z3 z4
        go_wp2_with fail
        refine (CW.out w5).mono ?_
        rintro e w6 ⟨rfl, b6⟩
        have I6 := Lib.hid (is_below I5.out b6)
        have B6 := Lib.hid (B5.out.trans (b6.mono B5.out.size))
        have W6 := Lib.hid (is_below W5.out b6)
        clear b6 I5 B5 W5 z0 z1 z2 z3 z4
        clear y0 y1 y2 y3 y4
        obtain ⟨y0, y1, y2, y3, y4⟩ := cells5 I6.out
        obtain ⟨z0, z1, z2, z3, z4⟩ := cells5 W6.out
        simp only [wideR] at z0 z1 z2 z3 z4
        go_wp2_with fail
        refine (CV.out w6).mono ?_
        rintro e w7 ⟨rfl, b7⟩
        have I7 := Lib.hid (is_below I6.out b7)
        have B7 := Lib.hid (B6.out.trans (b7.mono B6.out.size))
        clear b7 I6 B6
        clear y0 y1 y2 y3 y4
        obtain ⟨y0, y1, y2, y3, y4⟩ := cells5 I7.out
        by_cases h0 : 0 < r.h.size
        · have hd := head_byte7 r.h h0
          have h0' : (0 : Int) < (r.h.size : Int) := by omega
          cases hq : ((r.h[0].toNat : Int) == 46) with
          | true =>
            have HC := Lib.hid (covers_x (nm := bl r.h) (h := bl h) (of_decide_eq_true (by rw [hd, hq])) (HX1.out hm).1)
            have h1' := (HX1.out hm).2.1
            have h2' := (HX1.out hm).2.2.1
            have h3' := (HX1.out hm).2.2.2
            rw [match_with h1' h2' h3', BX.out, HC.out.1] at CX
            rw [match_with h1' h2' h3', BY.out, HC.out.2.1] at CY
            rw [match_with h1' h2' h3', HC.out.2.2] at CZ
            clear h1' h2' h3' hd HX1 HC
            have hadd1 : ∀ W : World, (Op.stringOp .add ⟨#[120]⟩ h).run Tryd.prog W = .ok (.string (⟨#[120]⟩ ++ h)) W := fun W => run_string_add_sum W _ h (by rw [show (⟨#[120]⟩ : ByteArray).size = 1 from rfl]; omega)
            have hadd2 : ∀ W : World, (Op.stringOp .add ⟨#[120]⟩ r.h).run Tryd.prog W = .ok (.string (⟨#[120]⟩ ++ r.h)) W := fun W => run_string_add_sum W _ r.h (by rw [show (⟨#[120]⟩ : ByteArray).size = 1 from rfl]; omega)
            go_wp2_with fail
            refine (CX.out _ (HR.out.below B7.out)).mono ?_
            rintro e w8 ⟨rfl, b8⟩
            have I8 := Lib.hid (is_below I7.out b8)
            have B8 := Lib.hid (B7.out.trans (b8.mono B7.out.size))
            clear b8 I7 B7
            clear y0 y1 y2 y3 y4
            obtain ⟨y0, y1, y2, y3, y4⟩ := cells5 I8.out
            go_wp2_with fail
            refine (CY.out _ (HR.out.below B8.out)).mono ?_
            rintro e w9 ⟨rfl, b9⟩
            have I9 := Lib.hid (is_below I8.out b9)
            have B9 := Lib.hid (B8.out.trans (b9.mono B8.out.size))
            clear b9 I8 B8
            clear y0 y1 y2 y3 y4
            obtain ⟨y0, y1, y2, y3, y4⟩ := cells5 I9.out
            go_wp2_with fail
            refine (CZ.out _ (HR.out.below B9.out)).mono ?_
            rintro e w10 ⟨rfl, b10⟩
            have I10 := Lib.hid (is_below I9.out b10)
            have B10 := Lib.hid (B9.out.trans (b10.mono B9.out.size))
            clear b10 I9 B9
            clear y0 y1 y2 y3 y4
            obtain ⟨y0, y1, y2, y3, y4⟩ := cells5 I10.out
            go_wp2_with fail
            refine (wakes_any w10 (HP.out.below B10.out)).mono ?_
            rintro e w11 ⟨rfl, b11⟩
            go_wp2_with fail
            go_ret
            exact ⟨rfl, B10.out.trans (b11.mono B10.out.size)⟩
          | false =>
            have hn : ¬ (bl r.h).head? = some 46 := fun hh => by rw [decide_eq_true hh, hq] at hd; cases hd
            clear hd
            have HC := Lib.hid (covers_y (nm := bl r.h) (h := bl h) hn (HX1.out hm).1)
            have h1' := (HX1.out hm).2.1
            have h2' := (HX1.out hm).2.2.1
            have h3' := (HX1.out hm).2.2.2
            rw [match_with h1' h2' h3', BU.out, HC.out] at CU
            clear h1' h2' h3' HX1 HC
            have BD : Hid (Below w.heap.size w w7.drew) := Lib.hid (below_drew7 B7.out)
            have x0 := cells5 I7.out
            have ID : Hid (Is w7.drew w.heap.size 25 r.cells) := Lib.hid (I7.out.drew)
            have CU1 := CU.out w7.drew (HR.out.below BD.out)
            cases hb : bl r.h == [42] with
            | true =>
              have p1 : r.h.toList = [42] := by rw [hb] at q1; exact beq_iff_eq.1 q1
              rw [hb] at q1 CU1
              clear hb
              have CU1 := Lib.hid CU1
              have hadd : ∀ W : World, (Op.stringOp .add h ⟨#[120]⟩).run Tryd.prog W = .ok (.string (h ++ ⟨#[120]⟩)) W := fun W => run_string_add_sum W h _ (by rw [show (⟨#[120]⟩ : ByteArray).size = 1 from rfl]; omega)
              clear CU
              go_wp2_with fail
              go_region_held3 (fun w' => w'.cell? ⟨w.heap.size, 0, none⟩ = some (.bool r.al) ∧ w'.cell? ⟨w.heap.size, 1, none⟩ = some (.string r.h) ∧ w'.cell? ⟨w.heap.size, 2, none⟩ = some (.int .i64 r.lo) ∧ w'.cell? ⟨w.heap.size, 3, none⟩ = some (.int .i64 r.hi) ∧ w'.cell? ⟨w.heap.size, 4, none⟩ = some (.slice r.A r.n r.c)) (first | exact x0 | exact x1 | exact x2 | go_keep)
                (first | (go_at_call 12; (with_reducible refine CU1.out.mono ?_); rintro e w8 ⟨rfl, b8⟩; have I8 := Lib.hid (is_below ID.out b8); have x1 := cells5 I8.out; have B8 := Lib.hid (BD.out.trans (b8.mono BD.out.size)); clear b8) | (go_at_call 16; (with_reducible refine (wakes_any w8 (HP.out.below B8.out)).mono ?_); rintro e w9 ⟨rfl, b9⟩; have x2 := cells5 (is_below I8.out b9); have B9 := Lib.hid (B8.out.trans (b9.mono B8.out.size)); clear b9))
              all_goals
                go_wp2_with fail
                go_ret
                exact ⟨rfl, B9.out⟩
            | false =>
              have p1 : ¬ r.h.toList = [42] := by rw [hb] at q1; exact beq_eq_false_iff_ne.1 q1
              rw [hb] at q1 CU1
              clear hb
              have CU1 := Lib.hid CU1
              have hadd : ∀ W : World, (Op.stringOp .add h ⟨#[120]⟩).run Tryd.prog W = .ok (.string (h ++ ⟨#[120]⟩)) W := fun W => run_string_add_sum W h _ (by rw [show (⟨#[120]⟩ : ByteArray).size = 1 from rfl]; omega)
              clear CU
              go_wp2_with fail
              go_region_held3 (fun w' => w'.cell? ⟨w.heap.size, 0, none⟩ = some (.bool r.al) ∧ w'.cell? ⟨w.heap.size, 1, none⟩ = some (.string r.h) ∧ w'.cell? ⟨w.heap.size, 2, none⟩ = some (.int .i64 r.lo) ∧ w'.cell? ⟨w.heap.size, 3, none⟩ = some (.int .i64 r.hi) ∧ w'.cell? ⟨w.heap.size, 4, none⟩ = some (.slice r.A r.n r.c)) (first | exact x0 | exact x1 | exact x2 | go_keep)
                (first | (go_at_call 12; (with_reducible refine CU1.out.mono ?_); rintro e w8 ⟨rfl, b8⟩; have I8 := Lib.hid (is_below ID.out b8); have x1 := cells5 I8.out; have B8 := Lib.hid (BD.out.trans (b8.mono BD.out.size)); clear b8) | (go_at_call 16; (with_reducible refine (wakes_any w8 (HP.out.below B8.out)).mono ?_); rintro e w9 ⟨rfl, b9⟩; have x2 := cells5 (is_below I8.out b9); have B9 := Lib.hid (B8.out.trans (b9.mono B8.out.size)); clear b9))
              all_goals
                go_wp2_with fail
                go_ret
                exact ⟨rfl, B9.out⟩
        · have h0' : ¬ (0 : Int) < (r.h.size : Int) := by omega
          have hn : ¬ (bl r.h).head? = some 46 := fun hh => by rw [head_nil7 r.h h0] at hh; cases hh
          have HC := Lib.hid (covers_y (nm := bl r.h) (h := bl h) hn (HX1.out hm).1)
          have h1' := (HX1.out hm).2.1
          have h2' := (HX1.out hm).2.2.1
          have h3' := (HX1.out hm).2.2.2
          rw [match_with h1' h2' h3', BU.out, HC.out] at CU
          clear h1' h2' h3' HX1 HC
          have BD : Hid (Below w.heap.size w w7.drew) := Lib.hid (below_drew7 B7.out)
          have x0 := cells5 I7.out
          have ID : Hid (Is w7.drew w.heap.size 25 r.cells) := Lib.hid (I7.out.drew)
          have CU1 := CU.out w7.drew (HR.out.below BD.out)
          cases hb : bl r.h == [42] with
          | true =>
            have p1 : r.h.toList = [42] := by rw [hb] at q1; exact beq_iff_eq.1 q1
            rw [hb] at q1 CU1
            clear hb
            have CU1 := Lib.hid CU1
            have hadd : ∀ W : World, (Op.stringOp .add h ⟨#[120]⟩).run Tryd.prog W = .ok (.string (h ++ ⟨#[120]⟩)) W := fun W => run_string_add_sum W h _ (by rw [show (⟨#[120]⟩ : ByteArray).size = 1 from rfl]; omega)
            clear CU
            go_wp2_with fail
            go_region_held3 (fun w' => w'.cell? ⟨w.heap.size, 0, none⟩ = some (.bool r.al) ∧ w'.cell? ⟨w.heap.size, 1, none⟩ = some (.string r.h) ∧ w'.cell? ⟨w.heap.size, 2, none⟩ = some (.int .i64 r.lo) ∧ w'.cell? ⟨w.heap.size, 3, none⟩ = some (.int .i64 r.hi) ∧ w'.cell? ⟨w.heap.size, 4, none⟩ = some (.slice r.A r.n r.c)) (first | exact x0 | exact x1 | exact x2 | go_keep)
              (first | (go_at_call 12; (with_reducible refine CU1.out.mono ?_); rintro e w8 ⟨rfl, b8⟩; have I8 := Lib.hid (is_below ID.out b8); have x1 := cells5 I8.out; have B8 := Lib.hid (BD.out.trans (b8.mono BD.out.size)); clear b8) | (go_at_call 16; (with_reducible refine (wakes_any w8 (HP.out.below B8.out)).mono ?_); rintro e w9 ⟨rfl, b9⟩; have x2 := cells5 (is_below I8.out b9); have B9 := Lib.hid (B8.out.trans (b9.mono B8.out.size)); clear b9))
            all_goals
              go_wp2_with fail
              go_ret
              exact ⟨rfl, B9.out⟩
          | false =>
            have p1 : ¬ r.h.toList = [42] := by rw [hb] at q1; exact beq_eq_false_iff_ne.1 q1
            rw [hb] at q1 CU1
            clear hb
            have CU1 := Lib.hid CU1
            have hadd : ∀ W : World, (Op.stringOp .add h ⟨#[120]⟩).run Tryd.prog W = .ok (.string (h ++ ⟨#[120]⟩)) W := fun W => run_string_add_sum W h _ (by rw [show (⟨#[120]⟩ : ByteArray).size = 1 from rfl]; omega)
            clear CU
            go_wp2_with fail
            go_region_held3 (fun w' => w'.cell? ⟨w.heap.size, 0, none⟩ = some (.bool r.al) ∧ w'.cell? ⟨w.heap.size, 1, none⟩ = some (.string r.h) ∧ w'.cell? ⟨w.heap.size, 2, none⟩ = some (.int .i64 r.lo) ∧ w'.cell? ⟨w.heap.size, 3, none⟩ = some (.int .i64 r.hi) ∧ w'.cell? ⟨w.heap.size, 4, none⟩ = some (.slice r.A r.n r.c)) (first | exact x0 | exact x1 | exact x2 | go_keep)
              (first | (go_at_call 12; (with_reducible refine CU1.out.mono ?_); rintro e w8 ⟨rfl, b8⟩; have I8 := Lib.hid (is_below ID.out b8); have x1 := cells5 I8.out; have B8 := Lib.hid (BD.out.trans (b8.mono BD.out.size)); clear b8) | (go_at_call 16; (with_reducible refine (wakes_any w8 (HP.out.below B8.out)).mono ?_); rintro e w9 ⟨rfl, b9⟩; have x2 := cells5 (is_below I8.out b9); have B9 := Lib.hid (B8.out.trans (b9.mono B8.out.size)); clear b9))
            all_goals
              go_wp2_with fail
              go_ret
              exact ⟨rfl, B9.out⟩
  · rw [decide_eq_false h1, Bool.false_and] at CALL
    cases hm : matchF (bl h) p (bl m) r with
    | false =>
      rw [hm] at CR
      go_enter Tryd.func6, Tryd.ntmps6
      go_wp2_with fail
      rw [← hw1]
      clear hw1
      refine (CALL.out _).mono ?_
      rintro e w2 ⟨rfl, b2⟩
      have I2 := Lib.hid (is_below I1.out b2)
      have B2 := Lib.hid (B1.out.trans (b2.mono B1.out.size))
      obtain ⟨y0, y1, y2, y3, y4⟩ := cells5 I2.out
      clear b2 I1 B1
      go_wp2_with fail
      refine (CR.out _ (HR.out.below B2.out)).mono ?_
      rintro e w3 ⟨rfl, b3⟩
      have I3 := Lib.hid (is_below I2.out b3)
      have B3 := Lib.hid (B2.out.trans (b3.mono B2.out.size))
      clear b3 I2 B2 y0 y1 y2 y3 y4
      go_wp2_with fail
      refine (wakes_any w3 (HP.out.below B3.out)).mono ?_
      rintro e w4 ⟨rfl, b4⟩
      go_wp2_with fail
      go_ret
      exact ⟨rfl, B3.out.trans (b4.mono B3.out.size)⟩
    | true =>
      rw [hm] at CR
      have hmw := HX0.out hm
      rw [hmw.1] at CW
      rw [show bl ⟨#[]⟩ = ([] : List UInt8) from rfl, hmw.2] at CV
      clear hmw HX0
      go_enter Tryd.func6, Tryd.ntmps6
      go_wp2_with fail
      rw [← hw1]
      clear hw1
      refine (CALL.out _).mono ?_
      rintro e w2 ⟨rfl, b2⟩
      have I2 := Lib.hid (is_below I1.out b2)
      have B2 := Lib.hid (B1.out.trans (b2.mono B1.out.size))
      obtain ⟨y0, y1, y2, y3, y4⟩ := cells5 I2.out
      clear b2 I1 B1
      go_wp2_with fail
      refine (CR.out _ (HR.out.below B2.out)).mono ?_
      rintro e w3 ⟨rfl, b3⟩
      have I3 := Lib.hid (is_below I2.out b3)
      have B3 := Lib.hid (B2.out.trans (b3.mono B2.out.size))
      clear b3 I2 B2 y0 y1 y2 y3 y4
      obtain ⟨y0, y1, y2, y3, y4⟩ := cells5 I3.out
      go_wp2_with fail
      have hb4 : Below w3.heap.size w3 (w3.alloc (.cells #[.bool r.al, .string r.h, .int .i64 r.lo, .int .i64 r.hi, .slice r.A r.n r.c] 25)) := (Below.refl _ _).alloc (Nat.le_refl _) _
      have I4 := Lib.hid (is_below I3.out hb4)
      have W4 := Lib.hid (Ok.box (w := w3) (r := r))
      have B4 := Lib.hid (B3.out.trans (hb4.mono B3.out.size))
      have hne : w3.heap.size ≠ w.heap.size := by have := I3.out.lt; omega
      have hgl : w.heap.size ≤ w3.heap.size := B3.out.size
      generalize w3.alloc (.cells #[.bool r.al, .string r.h, .int .i64 r.lo, .int .i64 r.hi, .slice r.A r.n r.c] 25) = w4 at *
      generalize w3.heap.size = g at *
      clear hb4 y0 y1 y2 y3 y4 I3 B3
      obtain ⟨y0, y1, y2, y3, y4⟩ := cells5 I4.out
      obtain ⟨z0, z1, z2, z3, z4⟩ := cells5 W4.out
      have f2 := W4.out.free 2
      have f3 := W4.out.free 3
      have f4 := W4.out.free 4
      have hset : ∀ (W : World) (x : Value) (j k : Nat), (W.setCell ⟨g, j, none⟩ x).cell? ⟨w.heap.size, k, none⟩ = W.cell? ⟨w.heap.size, k, none⟩ := fun W x j k => World.cell?_of_block (Below.heap_setCell W _ _ _ (by simpa using hne.symm))
      have W5 := Lib.hid (show Is (((w4.setCell ⟨g, 2, none⟩ (.int .i64 (min r.lo 1))).setCell ⟨g, 3, none⟩ (.int .i64 (max r.hi 65535))).setCell ⟨g, 4, none⟩ (.slice none 0 0)).drew g 25 (wideR r).cells from (((W4.out.set 2 _).set 3 _).set 4 _).drew)
      have I5 := Lib.hid (show Is (((w4.setCell ⟨g, 2, none⟩ (.int .i64 (min r.lo 1))).setCell ⟨g, 3, none⟩ (.int .i64 (max r.hi 65535))).setCell ⟨g, 4, none⟩ (.slice none 0 0)).drew w.heap.size 25 r.cells from (((I4.out.far hne.symm _).far hne.symm _).far hne.symm _).drew)
      have B5 := Lib.hid (show Below w.heap.size w (((w4.setCell ⟨g, 2, none⟩ (.int .i64 (min r.lo 1))).setCell ⟨g, 3, none⟩ (.int .i64 (max r.hi 65535))).setCell ⟨g, 4, none⟩ (.slice none 0 0)).drew from
        Turn.below (S := fun _ => False) ((((Turn.of_below (S := fun _ => False) B4.out).setCell (p := ⟨g, 2, none⟩) (fun h => by simp at h; omega) _).setCell (p := ⟨g, 3, none⟩) (fun h => by simp at h; omega) _).setCell (p := ⟨g, 4, none⟩) (fun h => by simp at h; omega) _).drew (fun _ _ h => h))
      go_region
      generalize (((w4.setCell ⟨g, 2, none⟩ (.int .i64 (min r.lo 1))).setCell ⟨g, 3, none⟩ (.int .i64 (max r.hi 65535))).setCell ⟨g, 4, none⟩ (.slice none 0 0)).drew = w5 at *
      clear y0 y1 y2 y3 y4 z0 z1 z2 z3 z4 f2 f3 f4 hset I4 W4 B4
      obtain ⟨y0, y1, y2, y3, y4⟩ := cells5 I5.out
      obtain ⟨z0, z1, z2, z3, z4⟩ := cells5 W5.out
      simp only [wideR] at z0 z1 z2 z3 z4
      go_wp2_with fail
      refine (CW.out w5).mono ?_
      rintro e w6 ⟨rfl, b6⟩
      have I6 := Lib.hid (is_below I5.out b6)
      have B6 := Lib.hid (B5.out.trans (b6.mono B5.out.size))
      have W6 := Lib.hid (is_below W5.out b6)
      clear b6 I5 B5 W5 z0 z1 z2 z3 z4
      clear y0 y1 y2 y3 y4
      obtain ⟨y0, y1, y2, y3, y4⟩ := cells5 I6.out
      obtain ⟨z0, z1, z2, z3, z4⟩ := cells5 W6.out
      simp only [wideR] at z0 z1 z2 z3 z4
      go_wp2_with fail
      refine (CV.out w6).mono ?_
      rintro e w7 ⟨rfl, b7⟩
      have I7 := Lib.hid (is_below I6.out b7)
      have B7 := Lib.hid (B6.out.trans (b7.mono B6.out.size))
      clear b7 I6 B6
      clear y0 y1 y2 y3 y4
      obtain ⟨y0, y1, y2, y3, y4⟩ := cells5 I7.out
      by_cases h0 : 0 < r.h.size
      · have hd := head_byte7 r.h h0
        have h0' : (0 : Int) < (r.h.size : Int) := by omega
        cases hq : ((r.h[0].toNat : Int) == 46) with
        | true =>
          have HC := Lib.hid (covers_x (nm := bl r.h) (h := bl h) (of_decide_eq_true (by rw [hd, hq])) (HX1.out hm).1)
          have h1' := (HX1.out hm).2.1
          have h2' := (HX1.out hm).2.2.1
          have h3' := (HX1.out hm).2.2.2
          rw [match_with h1' h2' h3', BX.out, HC.out.1] at CX
          rw [match_with h1' h2' h3', BY.out, HC.out.2.1] at CY
          rw [match_with h1' h2' h3', HC.out.2.2] at CZ
          clear h1' h2' h3' hd HX1 HC
          have hadd1 : ∀ W : World, (Op.stringOp .add ⟨#[120]⟩ h).run Tryd.prog W = .ok (.string (⟨#[120]⟩ ++ h)) W := fun W => run_string_add_sum W _ h (by rw [show (⟨#[120]⟩ : ByteArray).size = 1 from rfl]; omega)
          have hadd2 : ∀ W : World, (Op.stringOp .add ⟨#[120]⟩ r.h).run Tryd.prog W = .ok (.string (⟨#[120]⟩ ++ r.h)) W := fun W => run_string_add_sum W _ r.h (by rw [show (⟨#[120]⟩ : ByteArray).size = 1 from rfl]; omega)
          go_wp2_with fail
          refine (CX.out _ (HR.out.below B7.out)).mono ?_
          rintro e w8 ⟨rfl, b8⟩
          have I8 := Lib.hid (is_below I7.out b8)
          have B8 := Lib.hid (B7.out.trans (b8.mono B7.out.size))
          clear b8 I7 B7
          clear y0 y1 y2 y3 y4
          obtain ⟨y0, y1, y2, y3, y4⟩ := cells5 I8.out
          go_wp2_with fail
          refine (CY.out _ (HR.out.below B8.out)).mono ?_
          rintro e w9 ⟨rfl, b9⟩
          have I9 := Lib.hid (is_below I8.out b9)
          have B9 := Lib.hid (B8.out.trans (b9.mono B8.out.size))
          clear b9 I8 B8
          clear y0 y1 y2 y3 y4
          obtain ⟨y0, y1, y2, y3, y4⟩ := cells5 I9.out
          go_wp2_with fail
          refine (CZ.out _ (HR.out.below B9.out)).mono ?_
          rintro e w10 ⟨rfl, b10⟩
          have I10 := Lib.hid (is_below I9.out b10)
          have B10 := Lib.hid (B9.out.trans (b10.mono B9.out.size))
          clear b10 I9 B9
          clear y0 y1 y2 y3 y4
          obtain ⟨y0, y1, y2, y3, y4⟩ := cells5 I10.out
          go_wp2_with fail
          refine (wakes_any w10 (HP.out.below B10.out)).mono ?_
          rintro e w11 ⟨rfl, b11⟩
          go_wp2_with fail
          go_ret
          exact ⟨rfl, B10.out.trans (b11.mono B10.out.size)⟩
        | false =>
          have hn : ¬ (bl r.h).head? = some 46 := fun hh => by rw [decide_eq_true hh, hq] at hd; cases hd
          clear hd
          have HC := Lib.hid (covers_y (nm := bl r.h) (h := bl h) hn (HX1.out hm).1)
          have h1' := (HX1.out hm).2.1
          have h2' := (HX1.out hm).2.2.1
          have h3' := (HX1.out hm).2.2.2
          rw [match_with h1' h2' h3', BU.out, HC.out] at CU
          clear h1' h2' h3' HX1 HC
          have BD : Hid (Below w.heap.size w w7.drew) := Lib.hid (below_drew7 B7.out)
          have x0 := cells5 I7.out
          have ID : Hid (Is w7.drew w.heap.size 25 r.cells) := Lib.hid (I7.out.drew)
          have CU1 := CU.out w7.drew (HR.out.below BD.out)
          cases hb : bl r.h == [42] with
          | true =>
            have p1 : r.h.toList = [42] := by rw [hb] at q1; exact beq_iff_eq.1 q1
            rw [hb] at q1 CU1
            clear hb
            have CU1 := Lib.hid CU1
            have hadd : ∀ W : World, (Op.stringOp .add h ⟨#[120]⟩).run Tryd.prog W = .ok (.string (h ++ ⟨#[120]⟩)) W := fun W => run_string_add_sum W h _ (by rw [show (⟨#[120]⟩ : ByteArray).size = 1 from rfl]; omega)
            clear CU
            go_wp2_with fail
            go_region_held3 (fun w' => w'.cell? ⟨w.heap.size, 0, none⟩ = some (.bool r.al) ∧ w'.cell? ⟨w.heap.size, 1, none⟩ = some (.string r.h) ∧ w'.cell? ⟨w.heap.size, 2, none⟩ = some (.int .i64 r.lo) ∧ w'.cell? ⟨w.heap.size, 3, none⟩ = some (.int .i64 r.hi) ∧ w'.cell? ⟨w.heap.size, 4, none⟩ = some (.slice r.A r.n r.c)) (first | exact x0 | exact x1 | exact x2 | go_keep)
              (first | (go_at_call 12; (with_reducible refine CU1.out.mono ?_); rintro e w8 ⟨rfl, b8⟩; have I8 := Lib.hid (is_below ID.out b8); have x1 := cells5 I8.out; have B8 := Lib.hid (BD.out.trans (b8.mono BD.out.size)); clear b8) | (go_at_call 16; (with_reducible refine (wakes_any w8 (HP.out.below B8.out)).mono ?_); rintro e w9 ⟨rfl, b9⟩; have x2 := cells5 (is_below I8.out b9); have B9 := Lib.hid (B8.out.trans (b9.mono B8.out.size)); clear b9))
            all_goals
              go_wp2_with fail
              go_ret
              exact ⟨rfl, B9.out⟩
          | false =>
            have p1 : ¬ r.h.toList = [42] := by rw [hb] at q1; exact beq_eq_false_iff_ne.1 q1
            rw [hb] at q1 CU1
            clear hb
            have CU1 := Lib.hid CU1
            have hadd : ∀ W : World, (Op.stringOp .add h ⟨#[120]⟩).run Tryd.prog W = .ok (.string (h ++ ⟨#[120]⟩)) W := fun W => run_string_add_sum W h _ (by rw [show (⟨#[120]⟩ : ByteArray).size = 1 from rfl]; omega)
            clear CU
            go_wp2_with fail
            go_region_held3 (fun w' => w'.cell? ⟨w.heap.size, 0, none⟩ = some (.bool r.al) ∧ w'.cell? ⟨w.heap.size, 1, none⟩ = some (.string r.h) ∧ w'.cell? ⟨w.heap.size, 2, none⟩ = some (.int .i64 r.lo) ∧ w'.cell? ⟨w.heap.size, 3, none⟩ = some (.int .i64 r.hi) ∧ w'.cell? ⟨w.heap.size, 4, none⟩ = some (.slice r.A r.n r.c)) (first | exact x0 | exact x1 | exact x2 | go_keep)
              (first | (go_at_call 12; (with_reducible refine CU1.out.mono ?_); rintro e w8 ⟨rfl, b8⟩; have I8 := Lib.hid (is_below ID.out b8); have x1 := cells5 I8.out; have B8 := Lib.hid (BD.out.trans (b8.mono BD.out.size)); clear b8) | (go_at_call 16; (with_reducible refine (wakes_any w8 (HP.out.below B8.out)).mono ?_); rintro e w9 ⟨rfl, b9⟩; have x2 := cells5 (is_below I8.out b9); have B9 := Lib.hid (B8.out.trans (b9.mono B8.out.size)); clear b9))
            all_goals
              go_wp2_with fail
              go_ret
              exact ⟨rfl, B9.out⟩
      · have h0' : ¬ (0 : Int) < (r.h.size : Int) := by omega
        have hn : ¬ (bl r.h).head? = some 46 := fun hh => by rw [head_nil7 r.h h0] at hh; cases hh
        have HC := Lib.hid (covers_y (nm := bl r.h) (h := bl h) hn (HX1.out hm).1)
        have h1' := (HX1.out hm).2.1
        have h2' := (HX1.out hm).2.2.1
        have h3' := (HX1.out hm).2.2.2
        rw [match_with h1' h2' h3', BU.out, HC.out] at CU
        clear h1' h2' h3' HX1 HC
        have BD : Hid (Below w.heap.size w w7.drew) := Lib.hid (below_drew7 B7.out)
        have x0 := cells5 I7.out
        have ID : Hid (Is w7.drew w.heap.size 25 r.cells) := Lib.hid (I7.out.drew)
        have CU1 := CU.out w7.drew (HR.out.below BD.out)
        cases hb : bl r.h == [42] with
        | true =>
          have p1 : r.h.toList = [42] := by rw [hb] at q1; exact beq_iff_eq.1 q1
          rw [hb] at q1 CU1
          clear hb
          have CU1 := Lib.hid CU1
          have hadd : ∀ W : World, (Op.stringOp .add h ⟨#[120]⟩).run Tryd.prog W = .ok (.string (h ++ ⟨#[120]⟩)) W := fun W => run_string_add_sum W h _ (by rw [show (⟨#[120]⟩ : ByteArray).size = 1 from rfl]; omega)
          clear CU
          go_wp2_with fail
          go_region_held3 (fun w' => w'.cell? ⟨w.heap.size, 0, none⟩ = some (.bool r.al) ∧ w'.cell? ⟨w.heap.size, 1, none⟩ = some (.string r.h) ∧ w'.cell? ⟨w.heap.size, 2, none⟩ = some (.int .i64 r.lo) ∧ w'.cell? ⟨w.heap.size, 3, none⟩ = some (.int .i64 r.hi) ∧ w'.cell? ⟨w.heap.size, 4, none⟩ = some (.slice r.A r.n r.c)) (first | exact x0 | exact x1 | exact x2 | go_keep)
            (first | (go_at_call 12; (with_reducible refine CU1.out.mono ?_); rintro e w8 ⟨rfl, b8⟩; have I8 := Lib.hid (is_below ID.out b8); have x1 := cells5 I8.out; have B8 := Lib.hid (BD.out.trans (b8.mono BD.out.size)); clear b8) | (go_at_call 16; (with_reducible refine (wakes_any w8 (HP.out.below B8.out)).mono ?_); rintro e w9 ⟨rfl, b9⟩; have x2 := cells5 (is_below I8.out b9); have B9 := Lib.hid (B8.out.trans (b9.mono B8.out.size)); clear b9))
          all_goals
            go_wp2_with fail
            go_ret
            exact ⟨rfl, B9.out⟩
        | false =>
          have p1 : ¬ r.h.toList = [42] := by rw [hb] at q1; exact beq_eq_false_iff_ne.1 q1
          rw [hb] at q1 CU1
          clear hb
          have CU1 := Lib.hid CU1
          have hadd : ∀ W : World, (Op.stringOp .add h ⟨#[120]⟩).run Tryd.prog W = .ok (.string (h ++ ⟨#[120]⟩)) W := fun W => run_string_add_sum W h _ (by rw [show (⟨#[120]⟩ : ByteArray).size = 1 from rfl]; omega)
          clear CU
          go_wp2_with fail
          go_region_held3 (fun w' => w'.cell? ⟨w.heap.size, 0, none⟩ = some (.bool r.al) ∧ w'.cell? ⟨w.heap.size, 1, none⟩ = some (.string r.h) ∧ w'.cell? ⟨w.heap.size, 2, none⟩ = some (.int .i64 r.lo) ∧ w'.cell? ⟨w.heap.size, 3, none⟩ = some (.int .i64 r.hi) ∧ w'.cell? ⟨w.heap.size, 4, none⟩ = some (.slice r.A r.n r.c)) (first | exact x0 | exact x1 | exact x2 | go_keep)
            (first | (go_at_call 12; (with_reducible refine CU1.out.mono ?_); rintro e w8 ⟨rfl, b8⟩; have I8 := Lib.hid (is_below ID.out b8); have x1 := cells5 I8.out; have B8 := Lib.hid (BD.out.trans (b8.mono BD.out.size)); clear b8) | (go_at_call 16; (with_reducible refine (wakes_any w8 (HP.out.below B8.out)).mono ?_); rintro e w9 ⟨rfl, b9⟩; have x2 := cells5 (is_below I8.out b9); have B9 := Lib.hid (B8.out.trans (b9.mono B8.out.size)); clear b9))
          all_goals
            go_wp2_with fail
            go_ret
            exact ⟨rfl, B9.out⟩
end Go.Proofs.YtcmnnidjamdmeaaDoor.Acl
