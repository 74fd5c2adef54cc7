/-
  Package head's small functions: field, stands.
  Conditions: those that each theorem names.
-/
import Derived.Test.YtilgljnmdfejmaaDoorKA
import Derived.Test.YtilgljnmdfejmaaDoorUD
import Derived.Test.YtilgljnmdfejmaaDoorUC
import Derived.Deep.RegionHeld3
namespace Go.Proofs.YtilgljnmdfejmaaDoor
open Go.RowKit

/-- What stands at p. -/
def atCell (w : World) (p : Addr) : Value := (w.cell? p).getD undef
theorem at_cell {w : World} {p : Addr} {v : Value} (h : w.cell? p = some v) : w.cell? p = some (atCell w p) := by
  unfold atCell
  rw [h]
  rfl
set_option maxHeartbeats 4000000 in
set_option maxRecDepth 100000 in
theorem field_any {P P' : Nat → Prop} (w : World) (A A' : Option Addr) (nm v : List UInt8) (n n' c c' : Nat) (hn : nm.length = n) (hn' : v.length = n') (hmax : n' ≤ 140737488351232) (h : Src w P A nm) (h' : Src w P' A' v) :
    Calls Tryd.prog 32 #[.slice A n c, .slice A' n' c'] w fun e w' => e = .returned (.agg #[.string ⟨nm.toArray⟩, .string ⟨(trimF v).toArray⟩]) ∧ Below w.heap.size w w' := by
  have K1 := Lib.hid (fun (W : World) (hB : Below w.heap.size w W) => run_text W A nm n c hn (h.kept (Turn.of_below (S := fun _ => False) hB) (fun _ _ h => h)))
  have K2 := Lib.hid (fun (W : World) (hB : Below w.heap.size w W) => run_text W A' v n' c' hn' (h'.kept (Turn.of_below (S := fun _ => False) hB) (fun _ _ h => h)))
  obtain ⟨Nm, hNm⟩ : ∃ Nm : ByteArray, Nm = ⟨nm.toArray⟩ := ⟨_, rfl⟩
  obtain ⟨Vl, hVl⟩ : ∃ Vl : ByteArray, Vl = ⟨v.toArray⟩ := ⟨_, rfl⟩
  have CT := Lib.hid (fun X : World => ty_trim Vl X (by rw [hVl, ← bl_length, bl_mk]; omega))
  rw [show bl Vl = v by rw [hVl, bl_mk]] at CT
  rw [← hNm] at K1 ⊢
  rw [← hVl] at K2
  obtain ⟨Tr, hTr⟩ : ∃ Tr : ByteArray, Tr = ⟨(trimF v).toArray⟩ := ⟨_, rfl⟩
  unfold Text at CT
  rw [← hTr] at CT ⊢
  clear h h' hn hn' hNm hVl hTr hmax
  go_enter Tryd.func32, Tryd.ntmps32
  go_wp2_with fail
  have B0 : Hid (Below w.heap.size w (w.alloc (.cells #[.string ⟨#[]⟩, .string ⟨#[]⟩] 73))) := Lib.hid ((Below.refl _ _).alloc (Nat.le_refl _) _)
  have I0 : Hid (Is (w.alloc (.cells #[.string ⟨#[]⟩, .string ⟨#[]⟩] 73)) w.heap.size 73 [.string ⟨#[]⟩, .string ⟨#[]⟩]) := Lib.hid (Is.made w 73 [.string ⟨#[]⟩, .string ⟨#[]⟩])
  obtain ⟨g, hg⟩ : ∃ g, w.heap.size = g := ⟨_, rfl⟩
  generalize hw0 : w.alloc (.cells #[.string ⟨#[]⟩, .string ⟨#[]⟩] 73) = w0 at *
  rw [hg] at I0 ⊢
  have HG := Lib.hid hg
  have B1 : Hid (Below w.heap.size w w0.drew) := Lib.hid (below_drewN B0.out 1)
  have c0 := at_cell (I0.out.cell 0)
  have c1 := at_cell (I0.out.cell 1)
  have f0 : w0.frozen? ⟨g, 0, none⟩ = false := I0.out.free 0
  have f1 : w0.frozen? ⟨g, 1, none⟩ = false := I0.out.free 1
  have k1 := K1.out _ B1.out
  have k2 := K2.out _ B1.out
  clear hw0 hg
  go_region_held3 (fun w' => (convert 22 9 (.slice A n c)).run Tryd.prog w' = .ok (.string Nm) w' ∧ (convert 22 9 (.slice A' n' c')).run Tryd.prog w' = .ok (.string Vl) w' ∧ w'.cell? ⟨g, 0, none⟩ = some (atCell w' ⟨g, 0, none⟩) ∧ w'.cell? ⟨g, 1, none⟩ = some (atCell w' ⟨g, 1, none⟩) ∧ w'.frozen? ⟨g, 0, none⟩ = false ∧ w'.frozen? ⟨g, 1, none⟩ = false)
    (first | exact ⟨k1, k2, c0, c1, f0, f1⟩ | exact ⟨y1, y2, x0, x1, g0, g1⟩ | exact ⟨q1, q2, p0, p1, h0, h1⟩ | go_keep)
    (first
      | (go_at_call 52
         (with_reducible refine (CT.out w0.drew).mono ?_)
         rintro e w5 ⟨rfl, b5⟩
         have B5 := Lib.hid (B1.out.trans (b5.mono B1.out.size))
         have I5 : Hid (Is w5 g 73 [.string ⟨#[]⟩, .string ⟨#[]⟩]) := Lib.hid (I0.out.drew.kept (Turn.of_below (S := fun _ => False) b5) (fun h => h))
         have y1 := K1.out _ B5.out
         have y2 := K2.out _ B5.out
         have x0 := at_cell (I5.out.cell 0)
         have x1 := at_cell (I5.out.cell 1)
         have g0 : w5.frozen? ⟨g, 0, none⟩ = false := I5.out.free 0
         have g1 : w5.frozen? ⟨g, 1, none⟩ = false := I5.out.free 1
         have I6 := Lib.hid ((I5.out.set 0 (.string Nm)).set 1 (.string Tr))
         have B6 : Hid (Below w.heap.size w ((w5.setCell ⟨g, 0, none⟩ (.string Nm)).setCell ⟨g, 1, none⟩ (.string Tr))) := Lib.hid ((((Turn.of_below (S := fun k => k = g) B5.out).setCell (p := ⟨g, 0, none⟩) (fun _ => rfl) _).setCell (p := ⟨g, 1, none⟩) (fun _ => rfl) _).below (fun k hk e => by rw [e, ← HG.out] at hk; omega))
         have q1 := K1.out _ B6.out
         have q2 := K2.out _ B6.out
         have p0 := at_cell (I6.out.cell 0)
         have p1 := at_cell (I6.out.cell 1)
         have h0 := I6.out.free 0
         have h1 := I6.out.free 1
         clear b5))
  have d0 := I6.out.cell 0
  have d1 := I6.out.cell 1
  clear p0 p1 q1 q2 h0 h1 x0 x1 g0 g1 y1 y2 c0 c1 f0 f1 k1 k2
  generalize (w5.setCell ⟨g, 0, none⟩ (.string Nm)).setCell ⟨g, 1, none⟩ (.string Tr) = w6 at *
  simp only [List.set_cons_zero, List.set_cons_succ, List.getElem?_cons_zero, List.getElem?_cons_succ] at d0 d1
  go_wp2_with fail
  refine bodyPost_ret (results_cell_row rfl _ _ g _ _ _ _ rfl I6.out fldStruct rfl fldSize) rfl ?_
  exact ⟨rfl, B6.out⟩

/-- What package text's calls answer. -/
theorem tok_call (s : ByteArray) (X : World) : Calls Tryd.prog 31 #[.string s] X fun e w' => e = .returned (.bool (tokF (bl s))) ∧ Below X.heap.size X w' := ty_token s X

def standsF (f : Fld) : Bool := tokF f.1 && (visF f.2 && (trimF f.2 == f.2))
end Go.Proofs.YtilgljnmdfejmaaDoor
