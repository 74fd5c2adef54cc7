/-
  Package head's small functions: field, stands.
  Conditions: those that each theorem names.
-/
import Derived.Test.YtemgfppclakdmaaGreatDoorKA
import Derived.Test.YtemgfppclakdmaaGreatDoorUD
import Derived.Test.YtemgfppclakdmaaGreatDoorUC
import Derived.Deep.RegionHeld3
namespace Go.Proofs.YtemgfppclakdmaaGreatDoor
open Go.RowKit

/-- What stands at p. -/
def atCell (w : World) (p : Addr) : Value := (w.cell? p).getD undef
theorem at_cell {w : World} {p : Addr} {v : Value} (h : w.cell? p = some v) : w.cell? p = some (atCell w p) := by
  unfold atCell
  rw [h]
  rfl
set_option maxHeartbeats 4000000 in
set_option maxRecDepth 100000 in
theorem field_any {P P' : Nat → Prop} (w : World) (A A' : Option Addr) (nm v : List UInt8) (n n' c c' : Nat) (hn : nm.length = n) (hn' : v.length = n') (hmax : n' ≤ 140737488351232) (h : Src w P A nm) (h' : Src w P' A' v) :
    Calls Tryz.prog 118 #[.slice A n c, .slice A' n' c'] w fun e w' => e = .returned (.agg #[.string ⟨nm.toArray⟩, .string ⟨(trimF v).toArray⟩]) ∧ Below w.heap.size w w' := by
  have K1 := Lib.hid (fun (W : World) (hB : Below w.heap.size w W) => run_text W A nm n c hn (h.kept (Turn.of_below (S := fun _ => False) hB) (fun _ _ h => h)))
  have K2 := Lib.hid (fun (W : World) (hB : Below w.heap.size w W) => run_text W A' v n' c' hn' (h'.kept (Turn.of_below (S := fun _ => False) hB) (fun _ _ h => h)))
  obtain ⟨Nm, hNm⟩ : ∃ Nm : ByteArray, Nm = ⟨nm.toArray⟩ := ⟨_, rfl⟩
  obtain ⟨Vl, hVl⟩ : ∃ Vl : ByteArray, Vl = ⟨v.toArray⟩ := ⟨_, rfl⟩
  have CT := Lib.hid (fun X : World => ty_trim Vl X (by rw [hVl, ← bl_length, bl_mk]; omega))
  rw [show bl Vl = v by rw [hVl, bl_mk]] at CT
  rw [← hNm] at K1 ⊢
  rw [← hVl] at K2
  obtain ⟨Tr, hTr⟩ : ∃ Tr : ByteArray, Tr = ⟨(trimF v).toArray⟩ := ⟨_, rfl⟩
  unfold Text at CT
  rw [← hTr] at CT ⊢
  clear h h' hn hn' hNm hVl hTr hmax
  go_enter Tryz.func118, Tryz.ntmps118
  go_wp2_with fail
  have B0 : Hid (Below w.heap.size w (w.alloc (.cells #[.string ⟨#[]⟩, .string ⟨#[]⟩] 58))) := Lib.hid ((Below.refl _ _).alloc (Nat.le_refl _) _)
  have I0 : Hid (Is (w.alloc (.cells #[.string ⟨#[]⟩, .string ⟨#[]⟩] 58)) w.heap.size 58 [.string ⟨#[]⟩, .string ⟨#[]⟩]) := Lib.hid (Is.made w 58 [.string ⟨#[]⟩, .string ⟨#[]⟩])
  obtain ⟨g, hg⟩ : ∃ g, w.heap.size = g := ⟨_, rfl⟩
  generalize hw0 : w.alloc (.cells #[.string ⟨#[]⟩, .string ⟨#[]⟩] 58) = w0 at *
  rw [hg] at I0 ⊢
  have HG := Lib.hid hg
  have B1 : Hid (Below w.heap.size w w0.drew) := Lib.hid (below_drewN B0.out 1)
  have c0 := at_cell (I0.out.cell 0)
  have c1 := at_cell (I0.out.cell 1)
  have f0 : w0.frozen? ⟨g, 0, none⟩ = false := I0.out.free 0
  have f1 : w0.frozen? ⟨g, 1, none⟩ = false := I0.out.free 1
  have k1 := K1.out _ B1.out
  have k2 := K2.out _ B1.out
  clear hw0 hg
  go_region_held3 (fun w' => (convert 22 9 (.slice A n c)).run Tryz.prog w' = .ok (.string Nm) w' ∧ (convert 22 9 (.slice A' n' c')).run Tryz.prog w' = .ok (.string Vl) w' ∧ w'.cell? ⟨g, 0, none⟩ = some (atCell w' ⟨g, 0, none⟩) ∧ w'.cell? ⟨g, 1, none⟩ = some (atCell w' ⟨g, 1, none⟩) ∧ w'.frozen? ⟨g, 0, none⟩ = false ∧ w'.frozen? ⟨g, 1, none⟩ = false)
    (first | exact ⟨k1, k2, c0, c1, f0, f1⟩ | exact ⟨y1, y2, x0, x1, g0, g1⟩ | exact ⟨q1, q2, p0, p1, h0, h1⟩ | go_keep)
    (first
      | (go_at_call 136
         (with_reducible refine (CT.out w0.drew).mono ?_)
         rintro e w5 ⟨rfl, b5⟩
         have B5 := Lib.hid (B1.out.trans (b5.mono B1.out.size))
         have I5 : Hid (Is w5 g 58 [.string ⟨#[]⟩, .string ⟨#[]⟩]) := Lib.hid (I0.out.drew.kept (Turn.of_below (S := fun _ => False) b5) (fun h => h))
         have y1 := K1.out _ B5.out
         have y2 := K2.out _ B5.out
         have x0 := at_cell (I5.out.cell 0)
         have x1 := at_cell (I5.out.cell 1)
         have g0 : w5.frozen? ⟨g, 0, none⟩ = false := I5.out.free 0
         have g1 : w5.frozen? ⟨g, 1, none⟩ = false := I5.out.free 1
         have I6 := Lib.hid ((I5.out.set 0 (.string Nm)).set 1 (.string Tr))
         have B6 : Hid (Below w.heap.size w ((w5.setCell ⟨g, 0, none⟩ (.string Nm)).setCell ⟨g, 1, none⟩ (.string Tr))) := Lib.hid ((((Turn.of_below (S := fun k => k = g) B5.out).setCell (p := ⟨g, 0, none⟩) (fun _ => rfl) _).setCell (p := ⟨g, 1, none⟩) (fun _ => rfl) _).below (fun k hk e => by rw [e, ← HG.out] at hk; omega))
         have q1 := K1.out _ B6.out
         have q2 := K2.out _ B6.out
         have p0 := at_cell (I6.out.cell 0)
         have p1 := at_cell (I6.out.cell 1)
         have h0 := I6.out.free 0
         have h1 := I6.out.free 1
         clear b5))
  have d0 := I6.out.cell 0
  have d1 := I6.out.cell 1
  clear p0 p1 q1 q2 h0 h1 x0 x1 g0 g1 y1 y2 c0 c1 f0 f1 k1 k2
  generalize (w5.setCell ⟨g, 0, none⟩ (.string Nm)).setCell ⟨g, 1, none⟩ (.string Tr) = w6 at *
  simp only [List.set_cons_zero, List.set_cons_succ, List.getElem?_cons_zero, List.getElem?_cons_succ] at d0 d1
  go_wp2_with fail
  refine bodyPost_ret (results_cell_row rfl _ _ g _ _ _ _ rfl I6.out fldStruct rfl fldSize) rfl ?_
  exact ⟨rfl, B6.out⟩

/-- What package text's calls answer. -/
theorem tok_call (s : ByteArray) (X : World) : Calls Tryz.prog 87 #[.string s] X fun e w' => e = .returned (.bool (tokF (bl s))) ∧ Below X.heap.size X w' := ty_token s X

def standsF (f : Fld) : Bool := tokF f.1 && (visF f.2 && (trimF f.2 == f.2))
set_option maxHeartbeats 8000000 in
set_option maxRecDepth 100000 in
theorem stands_any (w : World) (Nm Vl : ByteArray) (s2 : Vl.size ≤ 140737488351232) :
    Calls Tryz.prog 110 #[.agg #[.string Nm, .string Vl]] w fun e w' => e = .returned (.bool (standsF (bl Nm, bl Vl))) ∧ Below w.heap.size w w' := by
  have CT := Lib.hid (fun X : World => ty_token Nm X)
  have CV := Lib.hid (fun X : World => ty_visible Vl X)
  have CR := Lib.hid (fun X : World => ty_trim Vl X s2)
  by_cases t2 : tokF (bl Nm) = false
  · have HQ := Lib.hid (show standsF (bl Nm, bl Vl) = false by unfold standsF; simp only; rw [t2]; simp)
    rw [t2] at CT
    rw [HQ.out]
    clear CV CR t2
    go_enter Tryz.func110, Tryz.ntmps110
    go_wp2_with fail
    have B0 : Hid (Below w.heap.size w (w.alloc (.cells #[.string Nm, .string Vl] 58))) := Lib.hid ((Below.refl _ _).alloc (Nat.le_refl _) _)
    have I0 : Hid (Is (w.alloc (.cells #[.string Nm, .string Vl] 58)) w.heap.size 58 [.string Nm, .string Vl]) := Lib.hid (Is.made w 58 [.string Nm, .string Vl])
    obtain ⟨g, hg⟩ : ∃ g, w.heap.size = g := ⟨_, rfl⟩
    rw [hg] at I0
    generalize w.alloc (.cells #[.string Nm, .string Vl] 58) = w0 at *
    rw [hg]
    have HG := Lib.hid hg
    clear hg
    have c0 : w0.cell? ⟨g, 0, none⟩ = some (.string Nm) := I0.out.cell 0
    have c1 : w0.cell? ⟨g, 1, none⟩ = some (.string Vl) := I0.out.cell 1
    have B1 : Hid (Below w.heap.size w w0.drew) := Lib.hid (below_drewN B0.out 1)
    first
      | (go_region_with (first
            | (go_at_call 87
               (with_reducible refine (CT.out w0.drew).mono ?_)
               rintro e w5 ⟨rfl, b5⟩
               have I5 : Hid (Is w5 g 58 [.string Nm, .string Vl]) := Lib.hid (I0.out.drew.kept (Turn.of_below (S := fun _ => False) b5) (fun h => h))
               have B5 := Lib.hid (B1.out.trans (b5.mono B1.out.size))
               have x50 : w5.cell? ⟨g, 0, none⟩ = some (.string Nm) := I5.out.cell 0
               have x51 : w5.cell? ⟨g, 1, none⟩ = some (.string Vl) := I5.out.cell 1
               clear b5)))
      | fail
    all_goals
      go_wp2_with fail
      go_ret
      exact ⟨rfl, B5.out⟩
  rw [Bool.not_eq_false] at t2
  rw [t2] at CT
  by_cases t3 : visF (bl Vl) = false
  · have HQ := Lib.hid (show standsF (bl Nm, bl Vl) = false by unfold standsF; simp only; rw [t3]; simp)
    rw [t3] at CV
    rw [HQ.out]
    clear CR t2 t3
    go_enter Tryz.func110, Tryz.ntmps110
    go_wp2_with fail
    have B0 : Hid (Below w.heap.size w (w.alloc (.cells #[.string Nm, .string Vl] 58))) := Lib.hid ((Below.refl _ _).alloc (Nat.le_refl _) _)
    have I0 : Hid (Is (w.alloc (.cells #[.string Nm, .string Vl] 58)) w.heap.size 58 [.string Nm, .string Vl]) := Lib.hid (Is.made w 58 [.string Nm, .string Vl])
    obtain ⟨g, hg⟩ : ∃ g, w.heap.size = g := ⟨_, rfl⟩
    rw [hg] at I0
    generalize w.alloc (.cells #[.string Nm, .string Vl] 58) = w0 at *
    rw [hg]
    have HG := Lib.hid hg
    clear hg
    have c0 : w0.cell? ⟨g, 0, none⟩ = some (.string Nm) := I0.out.cell 0
    have c1 : w0.cell? ⟨g, 1, none⟩ = some (.string Vl) := I0.out.cell 1
    have B1 : Hid (Below w.heap.size w w0.drew) := Lib.hid (below_drewN B0.out 1)
    first
      | (go_region_with (first
            | (go_at_call 87
               (with_reducible refine (CT.out w0.drew).mono ?_)
               rintro e w5 ⟨rfl, b5⟩
               have I5 : Hid (Is w5 g 58 [.string Nm, .string Vl]) := Lib.hid (I0.out.drew.kept (Turn.of_below (S := fun _ => False) b5) (fun h => h))
               have B5 := Lib.hid (B1.out.trans (b5.mono B1.out.size))
               have x50 : w5.cell? ⟨g, 0, none⟩ = some (.string Nm) := I5.out.cell 0
               have x51 : w5.cell? ⟨g, 1, none⟩ = some (.string Vl) := I5.out.cell 1
               clear b5)
            | (go_at_call 108
               (with_reducible refine (CV.out w5).mono ?_)
               rintro e w6 ⟨rfl, b5⟩
               have I6 : Hid (Is w6 g 58 [.string Nm, .string Vl]) := Lib.hid (I5.out.kept (Turn.of_below (S := fun _ => False) b5) (fun h => h))
               have B6 := Lib.hid (B5.out.trans (b5.mono B5.out.size))
               have x60 : w6.cell? ⟨g, 0, none⟩ = some (.string Nm) := I6.out.cell 0
               have x61 : w6.cell? ⟨g, 1, none⟩ = some (.string Vl) := I6.out.cell 1
               clear b5)))
      | fail
    all_goals
      go_wp2_with fail
      go_ret
      exact ⟨rfl, B6.out⟩
  rw [Bool.not_eq_false] at t3
  rw [t3] at CV
  · have HQ := Lib.hid (show standsF (bl Nm, bl Vl) = (trimF (bl Vl) == bl Vl) by unfold standsF; simp only; rw [t2, t3]; simp)
    obtain ⟨Tr, hTr⟩ : ∃ Tr : ByteArray, Tr = ⟨(trimF (bl Vl)).toArray⟩ := ⟨_, rfl⟩
    unfold Text at CR
    rw [← hTr] at CR
    have e1 : (trimF (bl Vl) == bl Vl) = (Tr.toList == Vl.toList) := by rw [hTr, Lib.toList_data, Lib.toList_data]; rfl
    rw [HQ.out, e1]
    clear t2 t3 hTr e1 HQ
    go_enter Tryz.func110, Tryz.ntmps110
    go_wp2_with fail
    have B0 : Hid (Below w.heap.size w (w.alloc (.cells #[.string Nm, .string Vl] 58))) := Lib.hid ((Below.refl _ _).alloc (Nat.le_refl _) _)
    have I0 : Hid (Is (w.alloc (.cells #[.string Nm, .string Vl] 58)) w.heap.size 58 [.string Nm, .string Vl]) := Lib.hid (Is.made w 58 [.string Nm, .string Vl])
    obtain ⟨g, hg⟩ : ∃ g, w.heap.size = g := ⟨_, rfl⟩
    rw [hg] at I0
    generalize w.alloc (.cells #[.string Nm, .string Vl] 58) = w0 at *
    rw [hg]
    have HG := Lib.hid hg
    clear hg
    have c0 : w0.cell? ⟨g, 0, none⟩ = some (.string Nm) := I0.out.cell 0
    have c1 : w0.cell? ⟨g, 1, none⟩ = some (.string Vl) := I0.out.cell 1
    have B1 : Hid (Below w.heap.size w w0.drew) := Lib.hid (below_drewN B0.out 1)
    go_region_held3 (fun w' => w'.cell? ⟨g, 0, none⟩ = some (.string Nm) ∧ w'.cell? ⟨g, 1, none⟩ = some (.string Vl)) (first | exact ⟨c0, c1⟩ | exact ⟨x50, x51⟩ | exact ⟨x60, x61⟩ | exact ⟨x70, x71⟩ | go_keep)
          (first
            | (go_at_call 87
               (with_reducible refine (CT.out w0.drew).mono ?_)
               rintro e w5 ⟨rfl, b5⟩
               have I5 : Hid (Is w5 g 58 [.string Nm, .string Vl]) := Lib.hid (I0.out.drew.kept (Turn.of_below (S := fun _ => False) b5) (fun h => h))
               have B5 := Lib.hid (B1.out.trans (b5.mono B1.out.size))
               have x50 : w5.cell? ⟨g, 0, none⟩ = some (.string Nm) := I5.out.cell 0
               have x51 : w5.cell? ⟨g, 1, none⟩ = some (.string Vl) := I5.out.cell 1
               clear b5)
            | (go_at_call 108
               (with_reducible refine (CV.out w5).mono ?_)
               rintro e w6 ⟨rfl, b5⟩
               have I6 : Hid (Is w6 g 58 [.string Nm, .string Vl]) := Lib.hid (I5.out.kept (Turn.of_below (S := fun _ => False) b5) (fun h => h))
               have B6 := Lib.hid (B5.out.trans (b5.mono B5.out.size))
               have x60 : w6.cell? ⟨g, 0, none⟩ = some (.string Nm) := I6.out.cell 0
               have x61 : w6.cell? ⟨g, 1, none⟩ = some (.string Vl) := I6.out.cell 1
               clear b5)
            | (go_at_call 136
               (with_reducible refine (CR.out w6).mono ?_)
               rintro e w7 ⟨rfl, b5⟩
               have I7 : Hid (Is w7 g 58 [.string Nm, .string Vl]) := Lib.hid (I6.out.kept (Turn.of_below (S := fun _ => False) b5) (fun h => h))
               have B7 := Lib.hid (B6.out.trans (b5.mono B6.out.size))
               have x70 : w7.cell? ⟨g, 0, none⟩ = some (.string Nm) := I7.out.cell 0
               have x71 : w7.cell? ⟨g, 1, none⟩ = some (.string Vl) := I7.out.cell 1
               clear b5))
    all_goals
      go_wp2_with fail
      go_ret
      exact ⟨rfl, B7.out⟩
end Go.Proofs.YtemgfppclakdmaaGreatDoor
