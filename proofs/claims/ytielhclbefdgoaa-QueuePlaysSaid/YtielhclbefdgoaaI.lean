/-
  What Copy does as a call on a queue.
  Conditions: those that each theorem names.
-/
import Derived.Test.YtielhclbefdgoaaH
import Derived.StillTailTactics
import Derived.RegionTactic
import Derived.BigRegion
namespace Go.Proofs.Ytielhclbefdgoaa
open Go.RowKit

set_option maxHeartbeats 400000 in
theorem copy_nil (w : World) : Calls Try.prog 14 #[.pointer none] w fun e w' => e = .returned (.pointer none) ∧ w = w' := by
  go_enter Try.func14, Try.ntmps14
  go_wp2_with (go_at_call 18; refine (none_nil _).mono ?_; rintro e w' ⟨rfl, rfl⟩)
  go_ret
  exact ⟨rfl, rfl⟩

/-- What Copy makes. -/
def Copied (m : Nat) (xs : List UInt8) (w : World) (e : Ending) (w' : World) : Prop :=
  e = .returned (.pointer (some ⟨w.heap.size + 1, 0, none⟩)) ∧ Queue w' (w.heap.size + 1) w.heap.size m xs ∧ Turn (fun _ => False) w w' ∧ w'.heap.size = w.heap.size + 2

theorem copy_made (m : Nat) (xs : List UInt8) (w : World) (Z : Array Value) (hZ : Z = madeCells #[.int .u8 0] m) (w1 : World)
    (hw : ((w.alloc (Obj.cells Z 5)).alloc (Obj.cells #[Value.bool true, Value.slice (some { block := w.heap.size, off := 0 }) m m, Value.int IntKind.i64 0, Value.int IntKind.i64 ↑xs.length] 51)).drew = w1) :
    Is w1 w.heap.size 5 (vals (List.replicate m 0)) ∧ Is w1 (w.heap.size + 1) 51 [.bool true, .slice (some ⟨w.heap.size, 0, none⟩) m m, .int .i64 0, .int .i64 (xs.length : Nat)] ∧ Turn (fun _ => False) w w1 ∧ w1.heap.size = w.heap.size + 2 := by
  subst hw
  have h : Z = (vals (List.replicate m 0)).toArray := by
    rw [hZ, ← Array.toArray_toList (xs := madeCells #[.int .u8 0] m), toList_madeCells_one]
    simp [vals, B]
  subst h
  refine ⟨((Is.made _ _ _).alloc _).drew, ?_, ((((Turn.refl _ _).alloc _).alloc _).drew), by simp [World.drew]⟩
  have h := Is.made (w.alloc (Obj.cells (vals (List.replicate m 0)).toArray 5)) 51 [.bool true, .slice (some ⟨w.heap.size, 0, none⟩) m m, .int .i64 0, .int .i64 (xs.length : Nat)]
  rw [show (w.alloc (Obj.cells (vals (List.replicate m 0)).toArray 5)).heap.size = w.heap.size + 1 by simp] at h
  exact h.drew

set_option maxHeartbeats 1000000 in
theorem copy_queue (w : World) (g r m : Nat) (xs : List UInt8) (h : Queue w g r m xs) : Calls Try.prog 14 #[.pointer (some ⟨g, 0, none⟩)] w (Copied m xs w) := by
  have hcount := h.count
  have C0 := Lib.hid (none_made g true w h.c0)
  obtain ⟨f, rs, h1, h2⟩ := h
  have c1 := h1.c1
  have c3 := h1.c3
  have hlt := h1.head.lt
  have hm := h1.most
  have H1 := Lib.hid h1
  have H2 := Lib.hid h2
  have hmk := fun (W : World) => run_make_row' (P := Try.prog) 31 5 (.int .u8 0) 1 Try.underlying31 byteInfo rfl .i64 .i64 m (by omega) (by omega) W
  obtain ⟨Z, hZ⟩ : ∃ Z, Z = madeCells #[.int .u8 0] m := ⟨_, rfl⟩
  rw [← hZ] at hmk
  have HZ := Lib.hid hZ
  clear h1 h2 hZ
  go_enter Try.func14, Try.ntmps14
  go_wp2_with fail
  refine C0.out.mono ?_
  rintro e w' ⟨rfl, rfl⟩
  go_wp2_with fail
  go_region
  generalize hw1 : ((w.alloc (Obj.cells Z 5)).alloc (Obj.cells #[Value.bool true, Value.slice (some { block := w.heap.size, off := 0 }) m m, Value.int IntKind.i64 0, Value.int IntKind.i64 ↑xs.length] 51)).drew = w1
  obtain ⟨I0, I1, T1, S1⟩ := copy_made m xs w Z HZ.out w1 hw1
  have R1 := Lib.hid (H1.out.kept T1 (fun h => h) (fun h => h))
  have d1 := R1.out.c1
  have d3 := R1.out.c3
  have e1 := I1.cell 1
  simp only [List.getElem?_cons_succ, List.getElem?_cons_zero] at e1
  have HS1 := Lib.hid S1
  have HW1 := Lib.hid hw1
  clear S1 hw1 c1 c3 hmk
  go_wp2_with fail
  go_still_tail 14, (by kernel_rfl)
  change wpList _ _ _ _ _ w1.drew
  generalize hw2 : w1.drew = w2
  have T2 := Lib.hid ((T1.drew).trans (Turn.refl (fun _ => False) _) (fun _ _ h => h))
  rw [hw2] at T2
  have I0' : Is w2 w.heap.size 5 (vals (List.replicate m 0)) := by rw [← hw2]; exact I0.drew
  have I1' : Is w2 (w.heap.size + 1) 51 [.bool true, .slice (some ⟨w.heap.size, 0, none⟩) m m, .int .i64 0, .int .i64 (xs.length : Nat)] := by rw [← hw2]; exact I1.drew
  have HS2 : Hid (w2.heap.size = w.heap.size + 2) := by rw [← hw2]; exact HS1.out
  have R2 := Lib.hid (H1.out.kept T2.out (fun h => h) (fun h => h))
  have hne : r ≠ w.heap.size := Nat.ne_of_lt H1.out.ring.lt
  have C := Lib.hid (lay_any g r w.heap.size m f xs.length xs.length rs (List.replicate m 0) w2 R2.out.c1 R2.out.c2 R2.out.ring I0' hne H1.out.len hm H1.out.first hcount (Nat.le_refl _) (by simpa using hcount) (by omega))
  rw [H2.out] at C
  clear hw2 T1 I0 I1 d1 d3 e1 HW1
  go_wp2_with fail
  refine C.out.mono ?_
  rintro e w3 ⟨rfl, h3, t3, s3⟩
  have HS3 := Lib.hid s3
  clear s3
  go_wp2_with fail
  go_ret
  have t4 : Turn (fun _ => False) w w3 := T2.out.trans t3 (fun k hk h => Nat.lt_irrefl k (by rw [h] at hk ⊢; exact hk))
  refine ⟨rfl, ⟨0, _, ⟨I1'.kept t3 (by omega), h3, by simp; omega, hm, by omega, hcount⟩, by simp [cont]⟩, t4, HS3.out.trans HS2.out⟩
end Go.Proofs.Ytielhclbefdgoaa
