/-
  What the reference's Join of package uri answers.
  Conditions: those that each theorem names.
-/
import Derived.Test.YthkcniimnaephaaGreatDoorYW
namespace Go.Proofs.YthkcniimnaephaaGreatDoor.Uri
open Go.RowKit

theorem take_two' (q : ByteArray) (h2 : 1 < q.size) : (bl q).take 2 = [q[0], q[1]] := by
  rw [show (2 : Nat) = 1 + 1 from rfl, bl_take q 1 h2, first_is q (by omega)]
  rfl

set_option maxHeartbeats 4000000 in
theorem rjoin_bad (h q ref : ByteArray) (p : Int) (w : World) (hh : h.size ≤ 4000000) (hq : q.size ≤ 140737488351232) (_hr : ref.size ≤ 2000000) (hm : mayF (bl h) p (bl q) = false) : Calls Tryz.prog 5 #[.agg #[.string h, .int .i64 p, .string q], .string ref] w (UrlGot (urlT (joinF (bl h) p (bl q) (bl ref))) w) := by
  have b0 : Below w.heap.size w (w.alloc (.cells #[.string h, .int .i64 p, .string q] 23)) := (Below.refl _ w).alloc (Nat.le_refl _) _
  obtain ⟨g, hg⟩ : ∃ g, w.heap.size + 1 = g := ⟨_, rfl⟩
  have i0 := (Is.made w 23 [.string h, .int .i64 p, .string q]).alloc (.cells #[.string ⟨#[]⟩, .int .i64 0, .string ⟨#[]⟩] 23)
  have r0 := Is.made (w.alloc (.cells #[.string h, .int .i64 p, .string q] 23)) 23 [.string ⟨#[]⟩, .int .i64 0, .string ⟨#[]⟩]
  rw [show (w.alloc (.cells #[.string h, .int .i64 p, .string q] 23)).heap.size = w.heap.size + 1 from by simp, hg] at r0
  have b1 : Below w.heap.size w ((w.alloc (.cells #[.string h, .int .i64 p, .string q] 23)).alloc (.cells #[.string ⟨#[]⟩, .int .i64 0, .string ⟨#[]⟩] 23)) := b0.alloc b0.size _
  have I0 := Lib.hid i0
  have R0 := Lib.hid r0
  have B0 := Lib.hid b1
  have HG := Lib.hid hg
  have CM := Lib.hid (rmay_any h q p ((w.alloc (.cells #[.string h, .int .i64 p, .string q] 23)).alloc (.cells #[.string ⟨#[]⟩, .int .i64 0, .string ⟨#[]⟩] 23)) hh hq)
  rw [hm] at CM
  have HR := Lib.hid (join_no (bl h) (bl q) p (bl ref) hm)
  clear hh hq hg hm b0 b1 i0 r0
  unfold UrlGot
  go_enter Tryz.func5, Tryz.ntmps5
  go_wp2_with fail
  try simp only [HG.out]
  refine CM.out.mono ?_
  rintro e w1 ⟨rfl, b1⟩
  have I1 := Lib.hid (I0.out.kept (Turn.of_below (S := fun _ => False) b1) (fun h => h))
  have R1 := Lib.hid (R0.out.kept (Turn.of_below (S := fun _ => False) b1) (fun h => h))
  have B1 := Lib.hid (B0.out.trans (b1.mono B0.out.size))
  clear b1 I0 R0
  have IR := R1
  have BR := B1
  have c0 : w1.cell? ⟨g, 0, none⟩ = some (.string ⟨#[]⟩) := IR.out.cell 0
  have f0 : w1.frozen? ⟨g, 0, none⟩ = false := IR.out.free 0
  have c1 : w1.cell? ⟨g, 1, none⟩ = some (.int .i64 0) := IR.out.cell 1
  have f1 : w1.frozen? ⟨g, 1, none⟩ = false := IR.out.free 1
  have c2 : w1.cell? ⟨g, 2, none⟩ = some (.string ⟨#[]⟩) := IR.out.cell 2
  have f2 : w1.frozen? ⟨g, 2, none⟩ = false := IR.out.free 2
  have I9 := Lib.hid (put3_is IR.out (.string ⟨#[]⟩) (.int .i64 0) (.string ⟨#[]⟩))
  have B9 := Lib.hid (put3_below BR.out (Nat.le_trans (Nat.le_succ _) (Nat.le_of_eq HG.out)) (.string ⟨#[]⟩) (.int .i64 0) (.string ⟨#[]⟩))
  go_wp2_with fail
  refine bodyPost_ret (results_cell1 rfl _ _ g _ _ _ _ rfl I9.out Tryz.underlying23 rfl (by kernel_rfl)) rfl ?_
  exact ⟨by rw [HR.out]; rfl, B9.out⟩

set_option maxHeartbeats 4000000 in
theorem rjoin_a (h q ref : ByteArray) (p : Int) (w : World) (hh : h.size ≤ 4000000) (hq : q.size ≤ 140737488351232) (hr : ref.size ≤ 2000000) (hm : mayF (bl h) p (bl q) = true) (h0 : ref.size = 0) : Calls Tryz.prog 5 #[.agg #[.string h, .int .i64 p, .string q], .string ref] w (UrlGot (urlT (joinF (bl h) p (bl q) (bl ref))) w) := by
  have b0 : Below w.heap.size w (w.alloc (.cells #[.string h, .int .i64 p, .string q] 23)) := (Below.refl _ w).alloc (Nat.le_refl _) _
  obtain ⟨g, hg⟩ : ∃ g, w.heap.size + 1 = g := ⟨_, rfl⟩
  have i0 := (Is.made w 23 [.string h, .int .i64 p, .string q]).alloc (.cells #[.string ⟨#[]⟩, .int .i64 0, .string ⟨#[]⟩] 23)
  have r0 := Is.made (w.alloc (.cells #[.string h, .int .i64 p, .string q] 23)) 23 [.string ⟨#[]⟩, .int .i64 0, .string ⟨#[]⟩]
  rw [show (w.alloc (.cells #[.string h, .int .i64 p, .string q] 23)).heap.size = w.heap.size + 1 from by simp, hg] at r0
  have b1 : Below w.heap.size w ((w.alloc (.cells #[.string h, .int .i64 p, .string q] 23)).alloc (.cells #[.string ⟨#[]⟩, .int .i64 0, .string ⟨#[]⟩] 23)) := b0.alloc b0.size _
  have I0 := Lib.hid i0
  have R0 := Lib.hid r0
  have B0 := Lib.hid b1
  have HG := Lib.hid hg
  have CM := Lib.hid (rmay_any h q p ((w.alloc (.cells #[.string h, .int .i64 p, .string q] 23)).alloc (.cells #[.string ⟨#[]⟩, .int .i64 0, .string ⟨#[]⟩] 23)) hh hq)
  rw [hm] at CM
  have HJ := join_other (bl h) (bl q) p (bl ref) hm (fun hx => by
    have := hx.1
    rw [show bl ref = [] from List.eq_nil_of_length_eq_zero (by rw [bl_length]; exact h0)] at this
    cases this)
  rw [← HJ]
  have i0' : ¬ (0 : Int) < (ref.size : Int) := by omega
  have CP := Lib.hid (fun X : World => rparse_any ref X (by omega))
  unfold UrlGot at CP
  clear hh hq hr hg hm b0 b1 i0 r0 HJ h0
  generalize urlT (parseF (bl ref)) = x at *
  obtain ⟨x1, x2, x3, x4⟩ := x
  unfold UrlGot
  go_enter Tryz.func5, Tryz.ntmps5
  go_wp2_with fail
  try simp only [HG.out]
  refine CM.out.mono ?_
  rintro e w1 ⟨rfl, b1⟩
  have I1 := Lib.hid (I0.out.kept (Turn.of_below (S := fun _ => False) b1) (fun h => h))
  have R1 := Lib.hid (R0.out.kept (Turn.of_below (S := fun _ => False) b1) (fun h => h))
  have B1 := Lib.hid (B0.out.trans (b1.mono B0.out.size))
  clear b1 I0 R0
  go_wp2_with fail
  refine (CP.out _).mono ?_
  rintro e w4 ⟨rfl, b4⟩
  have IR := Lib.hid (R1.out.kept (Turn.of_below (S := fun _ => False) b4) (fun h => h))
  have BR := Lib.hid (B1.out.trans (b4.mono B1.out.size))
  clear b4 R1 B1
  have c0 : w4.cell? ⟨g, 0, none⟩ = some (.string ⟨#[]⟩) := IR.out.cell 0
  have f0 : w4.frozen? ⟨g, 0, none⟩ = false := IR.out.free 0
  have c1 : w4.cell? ⟨g, 1, none⟩ = some (.int .i64 0) := IR.out.cell 1
  have f1 : w4.frozen? ⟨g, 1, none⟩ = false := IR.out.free 1
  have c2 : w4.cell? ⟨g, 2, none⟩ = some (.string ⟨#[]⟩) := IR.out.cell 2
  have f2 : w4.frozen? ⟨g, 2, none⟩ = false := IR.out.free 2
  have I9 := Lib.hid (put3_is IR.out (.string ⟨x1.toArray⟩) (.int .i64 x2) (.string ⟨x3.toArray⟩))
  have B9 := Lib.hid (put3_below BR.out (Nat.le_trans (Nat.le_succ _) (Nat.le_of_eq HG.out)) (.string ⟨x1.toArray⟩) (.int .i64 x2) (.string ⟨x3.toArray⟩))
  go_wp2_with fail
  refine bodyPost_ret (results_cell1 rfl _ _ g _ _ _ _ rfl I9.out Tryz.underlying23 rfl (by kernel_rfl)) rfl ?_
  exact ⟨rfl, B9.out⟩

set_option maxHeartbeats 4000000 in
theorem rjoin_b (h q ref : ByteArray) (p : Int) (w : World) (hh : h.size ≤ 4000000) (hq : q.size ≤ 140737488351232) (hr : ref.size ≤ 2000000) (hm : mayF (bl h) p (bl q) = true) (l0 : 0 < ref.size) (h1 : ref[0]'l0 ≠ 47) : Calls Tryz.prog 5 #[.agg #[.string h, .int .i64 p, .string q], .string ref] w (UrlGot (urlT (joinF (bl h) p (bl q) (bl ref))) w) := by
  have b0 : Below w.heap.size w (w.alloc (.cells #[.string h, .int .i64 p, .string q] 23)) := (Below.refl _ w).alloc (Nat.le_refl _) _
  obtain ⟨g, hg⟩ : ∃ g, w.heap.size + 1 = g := ⟨_, rfl⟩
  have i0 := (Is.made w 23 [.string h, .int .i64 p, .string q]).alloc (.cells #[.string ⟨#[]⟩, .int .i64 0, .string ⟨#[]⟩] 23)
  have r0 := Is.made (w.alloc (.cells #[.string h, .int .i64 p, .string q] 23)) 23 [.string ⟨#[]⟩, .int .i64 0, .string ⟨#[]⟩]
  rw [show (w.alloc (.cells #[.string h, .int .i64 p, .string q] 23)).heap.size = w.heap.size + 1 from by simp, hg] at r0
  have b1 : Below w.heap.size w ((w.alloc (.cells #[.string h, .int .i64 p, .string q] 23)).alloc (.cells #[.string ⟨#[]⟩, .int .i64 0, .string ⟨#[]⟩] 23)) := b0.alloc b0.size _
  have I0 := Lib.hid i0
  have R0 := Lib.hid r0
  have B0 := Lib.hid b1
  have HG := Lib.hid hg
  have CM := Lib.hid (rmay_any h q p ((w.alloc (.cells #[.string h, .int .i64 p, .string q] 23)).alloc (.cells #[.string ⟨#[]⟩, .int .i64 0, .string ⟨#[]⟩] 23)) hh hq)
  rw [hm] at CM
  have HJ := join_other (bl h) (bl q) p (bl ref) hm (fun hx => by
    have := hx.1
    rw [first_is ref l0] at this
    exact h1 (by simpa using this))
  rw [← HJ]
  have i0' : (0 : Int) < (ref.size : Int) := by omega
  have hb0 := byte_int (ref[0]'l0) 47
  rw [show ((47 : UInt8).toNat : Int) = 47 from rfl, show (ref[0]'l0 == 47) = false from beq_eq_false_iff_ne.2 h1] at hb0
  have CP := Lib.hid (fun X : World => rparse_any ref X (by omega))
  unfold UrlGot at CP
  clear hh hq hr hg hm b0 b1 i0 r0 HJ h1
  generalize urlT (parseF (bl ref)) = x at *
  obtain ⟨x1, x2, x3, x4⟩ := x
  unfold UrlGot
  go_enter Tryz.func5, Tryz.ntmps5
  go_wp2_with fail
  try simp only [HG.out]
  refine CM.out.mono ?_
  rintro e w1 ⟨rfl, b1⟩
  have I1 := Lib.hid (I0.out.kept (Turn.of_below (S := fun _ => False) b1) (fun h => h))
  have R1 := Lib.hid (R0.out.kept (Turn.of_below (S := fun _ => False) b1) (fun h => h))
  have B1 := Lib.hid (B0.out.trans (b1.mono B0.out.size))
  clear b1 I0 R0
  go_wp2_with fail
  refine (CP.out _).mono ?_
  rintro e w4 ⟨rfl, b4⟩
  have IR := Lib.hid (R1.out.kept (Turn.of_below (S := fun _ => False) b4) (fun h => h))
  have BR := Lib.hid (B1.out.trans (b4.mono B1.out.size))
  clear b4 R1 B1
  have c0 : w4.cell? ⟨g, 0, none⟩ = some (.string ⟨#[]⟩) := IR.out.cell 0
  have f0 : w4.frozen? ⟨g, 0, none⟩ = false := IR.out.free 0
  have c1 : w4.cell? ⟨g, 1, none⟩ = some (.int .i64 0) := IR.out.cell 1
  have f1 : w4.frozen? ⟨g, 1, none⟩ = false := IR.out.free 1
  have c2 : w4.cell? ⟨g, 2, none⟩ = some (.string ⟨#[]⟩) := IR.out.cell 2
  have f2 : w4.frozen? ⟨g, 2, none⟩ = false := IR.out.free 2
  have I9 := Lib.hid (put3_is IR.out (.string ⟨x1.toArray⟩) (.int .i64 x2) (.string ⟨x3.toArray⟩))
  have B9 := Lib.hid (put3_below BR.out (Nat.le_trans (Nat.le_succ _) (Nat.le_of_eq HG.out)) (.string ⟨x1.toArray⟩) (.int .i64 x2) (.string ⟨x3.toArray⟩))
  go_wp2_with fail
  refine bodyPost_ret (results_cell1 rfl _ _ g _ _ _ _ rfl I9.out Tryz.underlying23 rfl (by kernel_rfl)) rfl ?_
  exact ⟨rfl, B9.out⟩

set_option maxHeartbeats 4000000 in
theorem rjoin_c (h q ref : ByteArray) (p : Int) (w : World) (hh : h.size ≤ 4000000) (hq : q.size ≤ 140737488351232) (hr : ref.size ≤ 2000000) (hm : mayF (bl h) p (bl q) = true) (l0 : 0 < ref.size) (l1 : 1 < ref.size) (h1 : ref[0]'l0 = 47) (h2 : ref[1]'l1 = 47) : Calls Tryz.prog 5 #[.agg #[.string h, .int .i64 p, .string q], .string ref] w (UrlGot (urlT (joinF (bl h) p (bl q) (bl ref))) w) := by
  have b0 : Below w.heap.size w (w.alloc (.cells #[.string h, .int .i64 p, .string q] 23)) := (Below.refl _ w).alloc (Nat.le_refl _) _
  obtain ⟨g, hg⟩ : ∃ g, w.heap.size + 1 = g := ⟨_, rfl⟩
  have i0 := (Is.made w 23 [.string h, .int .i64 p, .string q]).alloc (.cells #[.string ⟨#[]⟩, .int .i64 0, .string ⟨#[]⟩] 23)
  have r0 := Is.made (w.alloc (.cells #[.string h, .int .i64 p, .string q] 23)) 23 [.string ⟨#[]⟩, .int .i64 0, .string ⟨#[]⟩]
  rw [show (w.alloc (.cells #[.string h, .int .i64 p, .string q] 23)).heap.size = w.heap.size + 1 from by simp, hg] at r0
  have b1 : Below w.heap.size w ((w.alloc (.cells #[.string h, .int .i64 p, .string q] 23)).alloc (.cells #[.string ⟨#[]⟩, .int .i64 0, .string ⟨#[]⟩] 23)) := b0.alloc b0.size _
  have I0 := Lib.hid i0
  have R0 := Lib.hid r0
  have B0 := Lib.hid b1
  have HG := Lib.hid hg
  have CM := Lib.hid (rmay_any h q p ((w.alloc (.cells #[.string h, .int .i64 p, .string q] 23)).alloc (.cells #[.string ⟨#[]⟩, .int .i64 0, .string ⟨#[]⟩] 23)) hh hq)
  rw [hm] at CM
  have HJ := join_other (bl h) (bl q) p (bl ref) hm (fun hx => hx.2 (by rw [take_two' ref l1, h1, h2]))
  rw [← HJ]
  have i0' : (0 : Int) < (ref.size : Int) := by omega
  have i1' : (1 : Int) < (ref.size : Int) := by omega
  have e1' : ((ref.size : Int) == 1) = false := beq_eq_false_iff_ne.2 (by omega)
  have hb0 := byte_int (ref[0]'l0) 47
  rw [show ((47 : UInt8).toNat : Int) = 47 from rfl, show (ref[0]'l0 == 47) = true from beq_iff_eq.2 h1] at hb0
  have hb1 := byte_int (ref[1]'l1) 47
  rw [show ((47 : UInt8).toNat : Int) = 47 from rfl, show (ref[1]'l1 == 47) = true from beq_iff_eq.2 h2] at hb1
  have hn1 : (((ref[1]'l1).toNat : Int) != 47) = false := by rw [bne, hb1]; rfl
  have CP := Lib.hid (fun X : World => rparse_any ref X (by omega))
  unfold UrlGot at CP
  clear hh hq hr hg hm b0 b1 i0 r0 HJ h1 h2
  generalize urlT (parseF (bl ref)) = x at *
  obtain ⟨x1, x2, x3, x4⟩ := x
  unfold UrlGot
  go_enter Tryz.func5, Tryz.ntmps5
  go_wp2_with fail
  try simp only [HG.out]
  refine CM.out.mono ?_
  rintro e w1 ⟨rfl, b1⟩
  have I1 := Lib.hid (I0.out.kept (Turn.of_below (S := fun _ => False) b1) (fun h => h))
  have R1 := Lib.hid (R0.out.kept (Turn.of_below (S := fun _ => False) b1) (fun h => h))
  have B1 := Lib.hid (B0.out.trans (b1.mono B0.out.size))
  clear b1 I0 R0
  go_wp2_with fail
  refine (CP.out _).mono ?_
  rintro e w4 ⟨rfl, b4⟩
  have IR := Lib.hid (R1.out.kept (Turn.of_below (S := fun _ => False) b4) (fun h => h))
  have BR := Lib.hid (B1.out.trans (b4.mono B1.out.size))
  clear b4 R1 B1
  have c0 : w4.cell? ⟨g, 0, none⟩ = some (.string ⟨#[]⟩) := IR.out.cell 0
  have f0 : w4.frozen? ⟨g, 0, none⟩ = false := IR.out.free 0
  have c1 : w4.cell? ⟨g, 1, none⟩ = some (.int .i64 0) := IR.out.cell 1
  have f1 : w4.frozen? ⟨g, 1, none⟩ = false := IR.out.free 1
  have c2 : w4.cell? ⟨g, 2, none⟩ = some (.string ⟨#[]⟩) := IR.out.cell 2
  have f2 : w4.frozen? ⟨g, 2, none⟩ = false := IR.out.free 2
  have I9 := Lib.hid (put3_is IR.out (.string ⟨x1.toArray⟩) (.int .i64 x2) (.string ⟨x3.toArray⟩))
  have B9 := Lib.hid (put3_below BR.out (Nat.le_trans (Nat.le_succ _) (Nat.le_of_eq HG.out)) (.string ⟨x1.toArray⟩) (.int .i64 x2) (.string ⟨x3.toArray⟩))
  go_wp2_with fail
  refine bodyPost_ret (results_cell1 rfl _ _ g _ _ _ _ rfl I9.out Tryz.underlying23 rfl (by kernel_rfl)) rfl ?_
  exact ⟨rfl, B9.out⟩

set_option maxHeartbeats 8000000 in
theorem rjoin_d (h q ref : ByteArray) (p : Int) (w : World) (hh : h.size ≤ 4000000) (hq : q.size ≤ 140737488351232) (_hr : ref.size ≤ 2000000) (hm : mayF (bl h) p (bl q) = true) (l0 : 0 < ref.size) (h0 : ref.size = 1) (h1 : ref[0]'l0 = 47) : Calls Tryz.prog 5 #[.agg #[.string h, .int .i64 p, .string q], .string ref] w (UrlGot (urlT (joinF (bl h) p (bl q) (bl ref))) w) := by
  have b0 : Below w.heap.size w (w.alloc (.cells #[.string h, .int .i64 p, .string q] 23)) := (Below.refl _ w).alloc (Nat.le_refl _) _
  obtain ⟨g, hg⟩ : ∃ g, w.heap.size + 1 = g := ⟨_, rfl⟩
  have i0 := (Is.made w 23 [.string h, .int .i64 p, .string q]).alloc (.cells #[.string ⟨#[]⟩, .int .i64 0, .string ⟨#[]⟩] 23)
  have r0 := Is.made (w.alloc (.cells #[.string h, .int .i64 p, .string q] 23)) 23 [.string ⟨#[]⟩, .int .i64 0, .string ⟨#[]⟩]
  rw [show (w.alloc (.cells #[.string h, .int .i64 p, .string q] 23)).heap.size = w.heap.size + 1 from by simp, hg] at r0
  have b1 : Below w.heap.size w ((w.alloc (.cells #[.string h, .int .i64 p, .string q] 23)).alloc (.cells #[.string ⟨#[]⟩, .int .i64 0, .string ⟨#[]⟩] 23)) := b0.alloc b0.size _
  have I0 := Lib.hid i0
  have R0 := Lib.hid r0
  have B0 := Lib.hid b1
  have HG := Lib.hid hg
  have CM := Lib.hid (rmay_any h q p ((w.alloc (.cells #[.string h, .int .i64 p, .string q] 23)).alloc (.cells #[.string ⟨#[]⟩, .int .i64 0, .string ⟨#[]⟩] 23)) hh hq)
  rw [hm] at CM
  have HJ := join_path (bl h) (bl q) p (bl ref) hm (by rw [first_is ref l0, h1]) (by
    intro e
    have := congrArg List.length e
    rw [List.length_take, bl_length] at this
    simp at this
    omega)
  have i0' : (0 : Int) < (ref.size : Int) := by omega
  have e1' : ((ref.size : Int) == 1) = true := by rw [h0]; rfl
  have hb0 := byte_int (ref[0]'l0) 47
  rw [show ((47 : UInt8).toNat : Int) = 47 from rfl, show (ref[0]'l0 == 47) = true from beq_iff_eq.2 h1] at hb0
  have CU := fun X : World => rmay_any h ref p X hh (by omega)
  obtain ⟨n, hpn, _, _⟩ := may_nat hm
  clear hq _hr hg hm b0 b1 i0 r0 h0 h1
  cases hu : mayF (bl h) p (bl ref) with
  | false =>
    rw [hu] at HJ CU
    have HR := Lib.hid (show joinF (bl h) p (bl q) (bl ref) = none by rw [HJ, if_neg Bool.false_ne_true])
    have CU := Lib.hid CU
    clear HJ hu hpn hh
    unfold UrlGot
    go_enter Tryz.func5, Tryz.ntmps5
    go_wp2_with fail
    try simp only [HG.out]
    refine CM.out.mono ?_
    rintro e w1 ⟨rfl, b1⟩
    have I1 := Lib.hid (I0.out.kept (Turn.of_below (S := fun _ => False) b1) (fun h => h))
    have R1 := Lib.hid (R0.out.kept (Turn.of_below (S := fun _ => False) b1) (fun h => h))
    have B1 := Lib.hid (B0.out.trans (b1.mono B0.out.size))
    clear b1 I0 R0
    have y0 : w1.cell? ⟨w.heap.size, 0, none⟩ = some (.string h) := I1.out.cell 0
    have y1 : w1.cell? ⟨w.heap.size, 1, none⟩ = some (.int .i64 p) := I1.out.cell 1
    have y2 : w1.cell? ⟨w.heap.size, 2, none⟩ = some (.string q) := I1.out.cell 2
    have R5 := Lib.hid (R1.out.alloc (.cells #[.string h, .int .i64 p, .string ref] 23))
    have B5 := Lib.hid (B1.out.alloc B1.out.size (.cells #[.string h, .int .i64 p, .string ref] 23))
    have U5 := Lib.hid (Is.made w1 23 [.string h, .int .i64 p, .string ref])
    go_upto_region 5 with fail
    generalize w1.alloc _ = w5 at *
    obtain ⟨g2, hg2⟩ : ∃ g2, w1.heap.size = g2 := ⟨_, rfl⟩
    simp only [hg2]
    rw [hg2] at U5
    clear hg2 y0 y1 y2 I1 R1 B1
    have y0 : w5.cell? ⟨g2, 0, none⟩ = some (.string h) := U5.out.cell 0
    have y1 : w5.cell? ⟨g2, 1, none⟩ = some (.int .i64 p) := U5.out.cell 1
    have y2 : w5.cell? ⟨g2, 2, none⟩ = some (.string ref) := U5.out.cell 2
    go_wp2_with fail
    refine (CU.out w5).mono ?_
    rintro e w7 ⟨rfl, b7⟩
    have IR := Lib.hid (R5.out.kept (Turn.of_below (S := fun _ => False) b7) (fun h => h))
    have BR := Lib.hid (B5.out.trans (b7.mono B5.out.size))
    have U7 := Lib.hid (U5.out.kept (Turn.of_below (S := fun _ => False) b7) (fun h => h))
    clear y0 y1 y2 b7 R5 B5 U5
    have c0 : w7.cell? ⟨g, 0, none⟩ = some (.string ⟨#[]⟩) := IR.out.cell 0
    have f0 : w7.frozen? ⟨g, 0, none⟩ = false := IR.out.free 0
    have c1 : w7.cell? ⟨g, 1, none⟩ = some (.int .i64 0) := IR.out.cell 1
    have f1 : w7.frozen? ⟨g, 1, none⟩ = false := IR.out.free 1
    have c2 : w7.cell? ⟨g, 2, none⟩ = some (.string ⟨#[]⟩) := IR.out.cell 2
    have f2 : w7.frozen? ⟨g, 2, none⟩ = false := IR.out.free 2
    have I9 := Lib.hid (put3_is IR.out (.string ⟨#[]⟩) (.int .i64 0) (.string ⟨#[]⟩))
    have B9 := Lib.hid (put3_below BR.out (Nat.le_trans (Nat.le_succ _) (Nat.le_of_eq HG.out)) (.string ⟨#[]⟩) (.int .i64 0) (.string ⟨#[]⟩))
    go_wp2_with fail
    refine bodyPost_ret (results_cell1 rfl _ _ g _ _ _ _ rfl I9.out Tryz.underlying23 rfl (by kernel_rfl)) rfl ?_
    exact ⟨by rw [HR.out]; rfl, B9.out⟩
  | true =>
    rw [hu] at HJ CU
    have HR := Lib.hid (show urlT (joinF (bl h) p (bl q) (bl ref)) = (bl h, p, bl ref, 0) by
      rw [HJ, if_pos rfl]
      show (bl h, (p.toNat : Int), bl ref, (0 : Int)) = _
      rw [show (p.toNat : Int) = p by omega])
    have CU := Lib.hid CU
    clear HJ hu hpn hh
    unfold UrlGot
    go_enter Tryz.func5, Tryz.ntmps5
    go_wp2_with fail
    try simp only [HG.out]
    refine CM.out.mono ?_
    rintro e w1 ⟨rfl, b1⟩
    have I1 := Lib.hid (I0.out.kept (Turn.of_below (S := fun _ => False) b1) (fun h => h))
    have R1 := Lib.hid (R0.out.kept (Turn.of_below (S := fun _ => False) b1) (fun h => h))
    have B1 := Lib.hid (B0.out.trans (b1.mono B0.out.size))
    clear b1 I0 R0
    have y0 : w1.cell? ⟨w.heap.size, 0, none⟩ = some (.string h) := I1.out.cell 0
    have y1 : w1.cell? ⟨w.heap.size, 1, none⟩ = some (.int .i64 p) := I1.out.cell 1
    have y2 : w1.cell? ⟨w.heap.size, 2, none⟩ = some (.string q) := I1.out.cell 2
    have R5 := Lib.hid (R1.out.alloc (.cells #[.string h, .int .i64 p, .string ref] 23))
    have B5 := Lib.hid (B1.out.alloc B1.out.size (.cells #[.string h, .int .i64 p, .string ref] 23))
    have U5 := Lib.hid (Is.made w1 23 [.string h, .int .i64 p, .string ref])
    go_upto_region 5 with fail
    generalize w1.alloc _ = w5 at *
    obtain ⟨g2, hg2⟩ : ∃ g2, w1.heap.size = g2 := ⟨_, rfl⟩
    simp only [hg2]
    rw [hg2] at U5
    clear hg2 y0 y1 y2 I1 R1 B1
    have y0 : w5.cell? ⟨g2, 0, none⟩ = some (.string h) := U5.out.cell 0
    have y1 : w5.cell? ⟨g2, 1, none⟩ = some (.int .i64 p) := U5.out.cell 1
    have y2 : w5.cell? ⟨g2, 2, none⟩ = some (.string ref) := U5.out.cell 2
    go_wp2_with fail
    refine (CU.out w5).mono ?_
    rintro e w7 ⟨rfl, b7⟩
    have IR := Lib.hid (R5.out.kept (Turn.of_below (S := fun _ => False) b7) (fun h => h))
    have BR := Lib.hid (B5.out.trans (b7.mono B5.out.size))
    have U7 := Lib.hid (U5.out.kept (Turn.of_below (S := fun _ => False) b7) (fun h => h))
    clear y0 y1 y2 b7 R5 B5 U5
    have c0 : w7.cell? ⟨g, 0, none⟩ = some (.string ⟨#[]⟩) := IR.out.cell 0
    have f0 : w7.frozen? ⟨g, 0, none⟩ = false := IR.out.free 0
    have c1 : w7.cell? ⟨g, 1, none⟩ = some (.int .i64 0) := IR.out.cell 1
    have f1 : w7.frozen? ⟨g, 1, none⟩ = false := IR.out.free 1
    have c2 : w7.cell? ⟨g, 2, none⟩ = some (.string ⟨#[]⟩) := IR.out.cell 2
    have f2 : w7.frozen? ⟨g, 2, none⟩ = false := IR.out.free 2
    have y0 : w7.cell? ⟨g2, 0, none⟩ = some (.string h) := U7.out.cell 0
    have y1 : w7.cell? ⟨g2, 1, none⟩ = some (.int .i64 p) := U7.out.cell 1
    have y2 : w7.cell? ⟨g2, 2, none⟩ = some (.string ref) := U7.out.cell 2
    have I9 := Lib.hid (put3_is IR.out (.string h) (.int .i64 p) (.string ref))
    have B9 := Lib.hid (put3_below BR.out (Nat.le_trans (Nat.le_succ _) (Nat.le_of_eq HG.out)) (.string h) (.int .i64 p) (.string ref))
    go_wp2_with fail
    refine bodyPost_ret (results_cell1 rfl _ _ g _ _ _ _ rfl I9.out Tryz.underlying23 rfl (by kernel_rfl)) rfl ?_
    exact ⟨by rw [HR.out]; simp only [mk_bl]; rfl, B9.out⟩

set_option maxHeartbeats 8000000 in
theorem rjoin_e (h q ref : ByteArray) (p : Int) (w : World) (hh : h.size ≤ 4000000) (hq : q.size ≤ 140737488351232) (hr : ref.size ≤ 2000000) (hm : mayF (bl h) p (bl q) = true) (l0 : 0 < ref.size) (l1 : 1 < ref.size) (h1 : ref[0]'l0 = 47) (h2 : ref[1]'l1 ≠ 47) : Calls Tryz.prog 5 #[.agg #[.string h, .int .i64 p, .string q], .string ref] w (UrlGot (urlT (joinF (bl h) p (bl q) (bl ref))) w) := by
  have b0 : Below w.heap.size w (w.alloc (.cells #[.string h, .int .i64 p, .string q] 23)) := (Below.refl _ w).alloc (Nat.le_refl _) _
  obtain ⟨g, hg⟩ : ∃ g, w.heap.size + 1 = g := ⟨_, rfl⟩
  have i0 := (Is.made w 23 [.string h, .int .i64 p, .string q]).alloc (.cells #[.string ⟨#[]⟩, .int .i64 0, .string ⟨#[]⟩] 23)
  have r0 := Is.made (w.alloc (.cells #[.string h, .int .i64 p, .string q] 23)) 23 [.string ⟨#[]⟩, .int .i64 0, .string ⟨#[]⟩]
  rw [show (w.alloc (.cells #[.string h, .int .i64 p, .string q] 23)).heap.size = w.heap.size + 1 from by simp, hg] at r0
  have b1 : Below w.heap.size w ((w.alloc (.cells #[.string h, .int .i64 p, .string q] 23)).alloc (.cells #[.string ⟨#[]⟩, .int .i64 0, .string ⟨#[]⟩] 23)) := b0.alloc b0.size _
  have I0 := Lib.hid i0
  have R0 := Lib.hid r0
  have B0 := Lib.hid b1
  have HG := Lib.hid hg
  have CM := Lib.hid (rmay_any h q p ((w.alloc (.cells #[.string h, .int .i64 p, .string q] 23)).alloc (.cells #[.string ⟨#[]⟩, .int .i64 0, .string ⟨#[]⟩] 23)) hh hq)
  rw [hm] at CM
  have HJ := join_path (bl h) (bl q) p (bl ref) hm (by rw [first_is ref l0, h1]) (by
    rw [take_two' ref l1, h1]
    intro e
    exact h2 (by simpa using e))
  have i0' : (0 : Int) < (ref.size : Int) := by omega
  have i1' : (1 : Int) < (ref.size : Int) := by omega
  have e1' : ((ref.size : Int) == 1) = false := beq_eq_false_iff_ne.2 (by omega)
  have hb0 := byte_int (ref[0]'l0) 47
  rw [show ((47 : UInt8).toNat : Int) = 47 from rfl, show (ref[0]'l0 == 47) = true from beq_iff_eq.2 h1] at hb0
  have hb1 := byte_int (ref[1]'l1) 47
  rw [show ((47 : UInt8).toNat : Int) = 47 from rfl, show (ref[1]'l1 == 47) = false from beq_eq_false_iff_ne.2 h2] at hb1
  have hn1 : (((ref[1]'l1).toNat : Int) != 47) = true := by rw [bne, hb1]; rfl
  have CU := fun X : World => rmay_any h ref p X hh (by omega)
  obtain ⟨n, hpn, _, _⟩ := may_nat hm
  clear hq hr hg hm b0 b1 i0 r0 h1 h2
  cases hu : mayF (bl h) p (bl ref) with
  | false =>
    rw [hu] at HJ CU
    have HR := Lib.hid (show joinF (bl h) p (bl q) (bl ref) = none by rw [HJ, if_neg Bool.false_ne_true])
    have CU := Lib.hid CU
    clear HJ hu hpn hh
    unfold UrlGot
    go_enter Tryz.func5, Tryz.ntmps5
    go_wp2_with fail
    try simp only [HG.out]
    refine CM.out.mono ?_
    rintro e w1 ⟨rfl, b1⟩
    have I1 := Lib.hid (I0.out.kept (Turn.of_below (S := fun _ => False) b1) (fun h => h))
    have R1 := Lib.hid (R0.out.kept (Turn.of_below (S := fun _ => False) b1) (fun h => h))
    have B1 := Lib.hid (B0.out.trans (b1.mono B0.out.size))
    clear b1 I0 R0
    have y0 : w1.cell? ⟨w.heap.size, 0, none⟩ = some (.string h) := I1.out.cell 0
    have y1 : w1.cell? ⟨w.heap.size, 1, none⟩ = some (.int .i64 p) := I1.out.cell 1
    have y2 : w1.cell? ⟨w.heap.size, 2, none⟩ = some (.string q) := I1.out.cell 2
    have R5 := Lib.hid (R1.out.alloc (.cells #[.string h, .int .i64 p, .string ref] 23))
    have B5 := Lib.hid (B1.out.alloc B1.out.size (.cells #[.string h, .int .i64 p, .string ref] 23))
    have U5 := Lib.hid (Is.made w1 23 [.string h, .int .i64 p, .string ref])
    go_upto_region 5 with fail
    generalize w1.alloc _ = w5 at *
    obtain ⟨g2, hg2⟩ : ∃ g2, w1.heap.size = g2 := ⟨_, rfl⟩
    simp only [hg2]
    rw [hg2] at U5
    clear hg2 y0 y1 y2 I1 R1 B1
    have y0 : w5.cell? ⟨g2, 0, none⟩ = some (.string h) := U5.out.cell 0
    have y1 : w5.cell? ⟨g2, 1, none⟩ = some (.int .i64 p) := U5.out.cell 1
    have y2 : w5.cell? ⟨g2, 2, none⟩ = some (.string ref) := U5.out.cell 2
    go_wp2_with fail
    refine (CU.out w5).mono ?_
    rintro e w7 ⟨rfl, b7⟩
    have IR := Lib.hid (R5.out.kept (Turn.of_below (S := fun _ => False) b7) (fun h => h))
    have BR := Lib.hid (B5.out.trans (b7.mono B5.out.size))
    have U7 := Lib.hid (U5.out.kept (Turn.of_below (S := fun _ => False) b7) (fun h => h))
    clear y0 y1 y2 b7 R5 B5 U5
    have c0 : w7.cell? ⟨g, 0, none⟩ = some (.string ⟨#[]⟩) := IR.out.cell 0
    have f0 : w7.frozen? ⟨g, 0, none⟩ = false := IR.out.free 0
    have c1 : w7.cell? ⟨g, 1, none⟩ = some (.int .i64 0) := IR.out.cell 1
    have f1 : w7.frozen? ⟨g, 1, none⟩ = false := IR.out.free 1
    have c2 : w7.cell? ⟨g, 2, none⟩ = some (.string ⟨#[]⟩) := IR.out.cell 2
    have f2 : w7.frozen? ⟨g, 2, none⟩ = false := IR.out.free 2
    have I9 := Lib.hid (put3_is IR.out (.string ⟨#[]⟩) (.int .i64 0) (.string ⟨#[]⟩))
    have B9 := Lib.hid (put3_below BR.out (Nat.le_trans (Nat.le_succ _) (Nat.le_of_eq HG.out)) (.string ⟨#[]⟩) (.int .i64 0) (.string ⟨#[]⟩))
    go_wp2_with fail
    refine bodyPost_ret (results_cell1 rfl _ _ g _ _ _ _ rfl I9.out Tryz.underlying23 rfl (by kernel_rfl)) rfl ?_
    exact ⟨by rw [HR.out]; rfl, B9.out⟩
  | true =>
    rw [hu] at HJ CU
    have HR := Lib.hid (show urlT (joinF (bl h) p (bl q) (bl ref)) = (bl h, p, bl ref, 0) by
      rw [HJ, if_pos rfl]
      show (bl h, (p.toNat : Int), bl ref, (0 : Int)) = _
      rw [show (p.toNat : Int) = p by omega])
    have CU := Lib.hid CU
    clear HJ hu hpn hh
    unfold UrlGot
    go_enter Tryz.func5, Tryz.ntmps5
    go_wp2_with fail
    try simp only [HG.out]
    refine CM.out.mono ?_
    rintro e w1 ⟨rfl, b1⟩
    have I1 := Lib.hid (I0.out.kept (Turn.of_below (S := fun _ => False) b1) (fun h => h))
    have R1 := Lib.hid (R0.out.kept (Turn.of_below (S := fun _ => False) b1) (fun h => h))
    have B1 := Lib.hid (B0.out.trans (b1.mono B0.out.size))
    clear b1 I0 R0
    have y0 : w1.cell? ⟨w.heap.size, 0, none⟩ = some (.string h) := I1.out.cell 0
    have y1 : w1.cell? ⟨w.heap.size, 1, none⟩ = some (.int .i64 p) := I1.out.cell 1
    have y2 : w1.cell? ⟨w.heap.size, 2, none⟩ = some (.string q) := I1.out.cell 2
    have R5 := Lib.hid (R1.out.alloc (.cells #[.string h, .int .i64 p, .string ref] 23))
    have B5 := Lib.hid (B1.out.alloc B1.out.size (.cells #[.string h, .int .i64 p, .string ref] 23))
    have U5 := Lib.hid (Is.made w1 23 [.string h, .int .i64 p, .string ref])
    go_upto_region 5 with fail
    generalize w1.alloc _ = w5 at *
    obtain ⟨g2, hg2⟩ : ∃ g2, w1.heap.size = g2 := ⟨_, rfl⟩
    simp only [hg2]
    rw [hg2] at U5
    clear hg2 y0 y1 y2 I1 R1 B1
    have y0 : w5.cell? ⟨g2, 0, none⟩ = some (.string h) := U5.out.cell 0
    have y1 : w5.cell? ⟨g2, 1, none⟩ = some (.int .i64 p) := U5.out.cell 1
    have y2 : w5.cell? ⟨g2, 2, none⟩ = some (.string ref) := U5.out.cell 2
    go_wp2_with fail
    refine (CU.out w5).mono ?_
    rintro e w7 ⟨rfl, b7⟩
    have IR := Lib.hid (R5.out.kept (Turn.of_below (S := fun _ => False) b7) (fun h => h))
    have BR := Lib.hid (B5.out.trans (b7.mono B5.out.size))
    have U7 := Lib.hid (U5.out.kept (Turn.of_below (S := fun _ => False) b7) (fun h => h))
    clear y0 y1 y2 b7 R5 B5 U5
    have c0 : w7.cell? ⟨g, 0, none⟩ = some (.string ⟨#[]⟩) := IR.out.cell 0
    have f0 : w7.frozen? ⟨g, 0, none⟩ = false := IR.out.free 0
    have c1 : w7.cell? ⟨g, 1, none⟩ = some (.int .i64 0) := IR.out.cell 1
    have f1 : w7.frozen? ⟨g, 1, none⟩ = false := IR.out.free 1
    have c2 : w7.cell? ⟨g, 2, none⟩ = some (.string ⟨#[]⟩) := IR.out.cell 2
    have f2 : w7.frozen? ⟨g, 2, none⟩ = false := IR.out.free 2
    have y0 : w7.cell? ⟨g2, 0, none⟩ = some (.string h) := U7.out.cell 0
    have y1 : w7.cell? ⟨g2, 1, none⟩ = some (.int .i64 p) := U7.out.cell 1
    have y2 : w7.cell? ⟨g2, 2, none⟩ = some (.string ref) := U7.out.cell 2
    have I9 := Lib.hid (put3_is IR.out (.string h) (.int .i64 p) (.string ref))
    have B9 := Lib.hid (put3_below BR.out (Nat.le_trans (Nat.le_succ _) (Nat.le_of_eq HG.out)) (.string h) (.int .i64 p) (.string ref))
    go_wp2_with fail
    refine bodyPost_ret (results_cell1 rfl _ _ g _ _ _ _ rfl I9.out Tryz.underlying23 rfl (by kernel_rfl)) rfl ?_
    exact ⟨by rw [HR.out]; simp only [mk_bl]; rfl, B9.out⟩

theorem rjoin_any (h q ref : ByteArray) (p : Int) (w : World) (hh : h.size ≤ 4000000) (hq : q.size ≤ 140737488351232) (hr : ref.size ≤ 2000000) : Calls Tryz.prog 5 #[.agg #[.string h, .int .i64 p, .string q], .string ref] w (UrlGot (urlT (joinF (bl h) p (bl q) (bl ref))) w) := by
  cases hm : mayF (bl h) p (bl q) with
  | false => exact rjoin_bad h q ref p w hh hq hr hm
  | true =>
    by_cases h0 : ref.size = 0
    · exact rjoin_a h q ref p w hh hq hr hm h0
    · have l0 : 0 < ref.size := by omega
      by_cases h1 : ref[0]'l0 = 47
      · by_cases h2 : ref.size = 1
        · exact rjoin_d h q ref p w hh hq hr hm l0 h2 h1
        · have l1 : 1 < ref.size := by omega
          by_cases h3 : ref[1]'l1 = 47
          · exact rjoin_c h q ref p w hh hq hr hm l0 l1 h1 h3
          · exact rjoin_e h q ref p w hh hq hr hm l0 l1 h1 h3
      · exact rjoin_b h q ref p w hh hq hr hm l0 h1
end Go.Proofs.YthkcniimnaephaaGreatDoor.Uri
