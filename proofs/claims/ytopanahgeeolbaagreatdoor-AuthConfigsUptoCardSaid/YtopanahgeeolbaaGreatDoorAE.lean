/-
  What package acl's May, All do.
  Conditions: the rules' Methods lie in memory; Go's table of powers of ten is as its text lays it.
-/
import Derived.Test.YtopanahgeeolbaaGreatDoorAD
namespace Go.Proofs.YtopanahgeeolbaaGreatDoor.Acl
open Go.RowKit

/-! ## May -/
set_option maxHeartbeats 4000000 in
set_option maxRecDepth 100000 in
theorem may_any (r : RuE) (w : World) (hr : r.Ok w) (hp : PowTab w) :
    Calls Tryz.prog 49 #[.agg #[.bool r.al, .string r.h, .int .i64 r.lo, .int .i64 r.hi, .slice r.A r.n r.c]] w fun e w' => e = .returned (.bool (mayF r)) ∧ Below w.heap.size w w' := by
  have CN := Lib.hid (fun (W : World) (h : PowTab W) => mayname_any r.h W h)
  have HM := Lib.hid (show mayF r = (hostF (bl r.h) && ((decide (1 ≤ r.lo) && (decide (r.lo ≤ r.hi) && decide (r.hi ≤ 65535))) && (decide (r.n ≤ 8) && r.ms.all tokF))) from rfl)
  have I0 := Lib.hid (Ok.box (w := w) (r := r))
  have B0 : Hid (Below w.heap.size w (w.alloc (.cells #[.bool r.al, .string r.h, .int .i64 r.lo, .int .i64 r.hi, .slice r.A r.n r.c] 51))) := Lib.hid ((Below.refl _ _).alloc (Nat.le_refl _) _)
  have HR := Lib.hid hr
  have HP := Lib.hid hp
  clear hr hp
  cases hc : hostF (bl r.h) with
  | false =>
    have HR0 := Lib.hid (show mayF r = false by rw [HM.out, hc]; rfl)
    rw [hc] at CN
    clear hc
    go_enter Tryz.func49, Tryz.ntmps49
    go_wp2_with fail
    refine (CN.out _ (HP.out.below B0.out)).mono ?_
    rintro e w2 ⟨rfl, b2⟩
    have I2 := Lib.hid (is_below I0.out b2)
    have y2 := I2.out.cell 2
    have y3 := I2.out.cell 3
    have y4 := I2.out.cell 4
    simp only [RuE.cells, List.getElem?_cons_zero, List.getElem?_cons_succ] at y2 y3 y4
    have B2 := Lib.hid (B0.out.trans (b2.mono B0.out.size))
    clear b2
    go_wp2_with fail
    go_ret
    exact ⟨ret_bool HR0.out.symm, B2.out⟩
  | true =>
    rw [hc] at CN HM
    clear hc
    by_cases h0 : 1 ≤ r.lo
    rotate_left
    · have HR0 := Lib.hid (show mayF r = false by rw [HM.out, decide_eq_false h0]; simp)
      go_enter Tryz.func49, Tryz.ntmps49
      go_wp2_with fail
      refine (CN.out _ (HP.out.below B0.out)).mono ?_
      rintro e w2 ⟨rfl, b2⟩
      have I2 := Lib.hid (is_below I0.out b2)
      have y2 := I2.out.cell 2
      have y3 := I2.out.cell 3
      have y4 := I2.out.cell 4
      simp only [RuE.cells, List.getElem?_cons_zero, List.getElem?_cons_succ] at y2 y3 y4
      have B2 := Lib.hid (B0.out.trans (b2.mono B0.out.size))
      clear b2
      go_wp2_with fail
      go_ret
      exact ⟨ret_bool HR0.out.symm, B2.out⟩
    by_cases h1 : r.lo ≤ r.hi
    rotate_left
    · have HR0 := Lib.hid (show mayF r = false by rw [HM.out, decide_eq_true h0, decide_eq_false h1]; simp)
      go_enter Tryz.func49, Tryz.ntmps49
      go_wp2_with fail
      refine (CN.out _ (HP.out.below B0.out)).mono ?_
      rintro e w2 ⟨rfl, b2⟩
      have I2 := Lib.hid (is_below I0.out b2)
      have y2 := I2.out.cell 2
      have y3 := I2.out.cell 3
      have y4 := I2.out.cell 4
      simp only [RuE.cells, List.getElem?_cons_zero, List.getElem?_cons_succ] at y2 y3 y4
      have B2 := Lib.hid (B0.out.trans (b2.mono B0.out.size))
      clear b2
      go_wp2_with fail
      go_ret
      exact ⟨ret_bool HR0.out.symm, B2.out⟩
    by_cases h2 : r.hi ≤ 65535
    rotate_left
    · have HR0 := Lib.hid (show mayF r = false by rw [HM.out, decide_eq_true h0, decide_eq_true h1, decide_eq_false h2]; simp)
      go_enter Tryz.func49, Tryz.ntmps49
      go_wp2_with fail
      refine (CN.out _ (HP.out.below B0.out)).mono ?_
      rintro e w2 ⟨rfl, b2⟩
      have I2 := Lib.hid (is_below I0.out b2)
      have y2 := I2.out.cell 2
      have y3 := I2.out.cell 3
      have y4 := I2.out.cell 4
      simp only [RuE.cells, List.getElem?_cons_zero, List.getElem?_cons_succ] at y2 y3 y4
      have B2 := Lib.hid (B0.out.trans (b2.mono B0.out.size))
      clear b2
      go_wp2_with fail
      go_ret
      exact ⟨ret_bool HR0.out.symm, B2.out⟩
    by_cases h3 : r.n ≤ 8
    rotate_left
    · have HR0 := Lib.hid (show mayF r = false by rw [HM.out, decide_eq_true h0, decide_eq_true h1, decide_eq_true h2, decide_eq_false h3]; simp)
      have e3 : ¬ (r.n : Int) ≤ 8 := by omega
      clear h3
      go_enter Tryz.func49, Tryz.ntmps49
      go_wp2_with fail
      refine (CN.out _ (HP.out.below B0.out)).mono ?_
      rintro e w2 ⟨rfl, b2⟩
      have I2 := Lib.hid (is_below I0.out b2)
      have y2 := I2.out.cell 2
      have y3 := I2.out.cell 3
      have y4 := I2.out.cell 4
      simp only [RuE.cells, List.getElem?_cons_zero, List.getElem?_cons_succ] at y2 y3 y4
      have B2 := Lib.hid (B0.out.trans (b2.mono B0.out.size))
      clear b2
      go_wp2_with fail
      go_ret
      exact ⟨ret_bool HR0.out.symm, B2.out⟩
    have HR0 := Lib.hid (show mayF r = r.ms.all tokF by rw [HM.out, decide_eq_true h0, decide_eq_true h1, decide_eq_true h2, decide_eq_true h3]; simp)
    have e3 : (r.n : Int) ≤ 8 := by omega
    clear h3
    go_enter Tryz.func49, Tryz.ntmps49
    go_wp2_with fail
    refine (CN.out _ (HP.out.below B0.out)).mono ?_
    rintro e w2 ⟨rfl, b2⟩
    have I2 := Lib.hid (is_below I0.out b2)
    have y2 := I2.out.cell 2
    have y3 := I2.out.cell 3
    have y4 := I2.out.cell 4
    simp only [RuE.cells, List.getElem?_cons_zero, List.getElem?_cons_succ] at y2 y3 y4
    have B2 := Lib.hid (B0.out.trans (b2.mono B0.out.size))
    clear b2
    have CT := Lib.hid (tokens_any w2 r.A r.ms r.n r.c HR.out.hn HR.out.hm (srcs_below HR.out.s B2.out))
    go_wp2_with fail
    refine CT.out.mono ?_
    rintro e w3 ⟨rfl, b3⟩
    go_wp2_with fail
    go_ret
    exact ⟨ret_bool HR0.out.symm, B2.out.trans (b3.mono B2.out.size)⟩

/-! ## All -/
theorem may1_any (r : RuE) (g : Nat) (X : World) (hc : X.cell? ⟨g, 0, none⟩ = some (.func (.func 49) #[] #[])) (hr : r.Ok X) (hp : PowTab X) :
    Calls Tryz.prog 68 #[.agg #[.bool r.al, .string r.h, .int .i64 r.lo, .int .i64 r.hi, .slice r.A r.n r.c], .pointer (some ⟨g, 0, none⟩)] X fun e w' => e = .returned (.bool (!mayF r)) ∧ Below X.heap.size X w' := by
  have b0 : Below X.heap.size X (X.alloc (.cells #[.bool r.al, .string r.h, .int .i64 r.lo, .int .i64 r.hi, .slice r.A r.n r.c] 51)) := (Below.refl _ _).alloc (Nat.le_refl _) _
  have C := Lib.hid (may_any r _ (hr.below b0) (hp.below b0))
  have hc' := (b0.cell (Lib.lt_of_cell hc)).trans hc
  have B0 := Lib.hid b0
  generalize mayF r = b at *
  clear b0 hr hp
  go_enter Tryz.func68, Tryz.ntmps68
  go_wp2_with fail
  refine C.out.mono ?_
  rintro e w' ⟨rfl, b'⟩
  go_wp2_with fail
  go_ret
  exact ⟨rfl, B0.out.trans (b'.mono B0.out.size)⟩
/-- every(l, May). -/
theorem mays_any {P : Nat → Prop} (w : World) (A : Option Addr) (L : List RuE) (n c : Nat) (hn : L.length = n) (hmax : n ≤ 140737488351232) (h : SrcU w P A L) (hok : ∀ r ∈ L, r.Ok w) (hp : PowTab w) :
    Calls Tryz.prog 48 #[.slice A n c, .func (.func 49) #[] #[]] w fun e w' => e = .returned (.bool (L.all mayF)) ∧ Below w.heap.size w w' := by
  have hb : Below w.heap.size w (w.alloc (.cells #[.func (.func 49) #[] #[]] 74)) := (Below.refl _ w).alloc (Nat.le_refl _) _
  have i0 := Is.made w 74 [.func (.func 49) #[] #[]]
  have CC := Lib.hid (hasU_any 68 #[.pointer (some ⟨w.heap.size, 0, none⟩)] eg_every2 (fun x => !mayF x) (w.alloc (.cells #[.func (.func 49) #[] #[]] 74)) A L n c hn hmax (h.below hb) (fun x hx X hX => 
    may1_any x w.heap.size X ((hX.cell i0.lt).trans (i0.cell 0)) (((hok x hx).below hb).below hX) ((hp.below hb).below hX)))
  rw [any_no] at CC
  have HB := Lib.hid hb
  clear hn hmax h hb i0 hok hp
  generalize L.all mayF = b at *
  go_enter Tryz.func48, Tryz.ntmps48
  go_wp2_with fail
  refine CC.out.mono ?_
  rintro e w' ⟨rfl, b'⟩
  go_wp2_with fail
  go_ret
  exact ⟨by simp, HB.out.trans (b'.mono HB.out.size)⟩
theorem all_any {P : Nat → Prop} (w : World) (A : Option Addr) (L : List RuE) (n c : Nat) (hn : L.length = n) (hmax : n ≤ 140737488351232) (h : SrcU w P A L) (hok : ∀ r ∈ L, r.Ok w) (hp : PowTab w) :
    Calls Tryz.prog 28 #[.slice A n c] w fun e w' => e = .returned (.bool (allF L)) ∧ Below w.heap.size w w' := by
  have C := Lib.hid (mays_any w A L n c hn hmax h hok hp)
  have HF := Lib.hid (show allF L = (decide (n ≤ 16) && L.all mayF) by unfold allF; rw [hn])
  clear hn hmax h hok hp
  generalize L.all mayF = b at *
  by_cases h16 : n ≤ 16
  · have e1 : (n : Int) ≤ 16 := by omega
    have HR := Lib.hid (show allF L = b by rw [HF.out, decide_eq_true h16, Bool.true_and])
    clear h16 HF
    go_enter Tryz.func28, Tryz.ntmps28
    go_wp2_with fail
    refine C.out.mono ?_
    rintro e w' ⟨rfl, b'⟩
    go_wp2_with fail
    go_ret
    exact ⟨ret_bool HR.out.symm, b'⟩
  · have e1 : ¬ (n : Int) ≤ 16 := by omega
    have HR := Lib.hid (show allF L = false by rw [HF.out, decide_eq_false h16, Bool.false_and])
    clear h16 HF
    go_enter Tryz.func28, Tryz.ntmps28
    go_wp2_with fail
    go_ret
    exact ⟨ret_bool HR.out.symm, Below.refl _ _⟩
end Go.Proofs.YtopanahgeeolbaaGreatDoor.Acl
