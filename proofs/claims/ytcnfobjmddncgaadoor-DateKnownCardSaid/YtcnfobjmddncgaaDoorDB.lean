/-
  What package date's small functions answer.
  Conditions: those that each theorem names.
-/
import Derived.Test.YtcnfobjmddncgaaDoorDA
import Derived.Test.YtcnfobjmddncgaaDoorUA
import Derived.Lib.AtoiErrMem
namespace Go.Proofs.YtcnfobjmddncgaaDoor
open Go.RowKit

/-- A value is told; nothing that was there has turned. -/
def Tell (v : Value) (w : World) (e : Ending) (w' : World) : Prop := e = .returned v ∧ Below w.heap.size w w'
/-- A value is told; nothing has turned. -/
def Same (v : Value) (w : World) (e : Ending) (w' : World) : Prop := e = .returned v ∧ w = w'
theorem ret_u64 {a : Int} {b : Nat} (h : a = b) : Ending.returned (.int .u64 a) = .returned (.int .u64 (b : Int)) := by rw [h]

set_option maxHeartbeats 1000000 in
theorem leap_any (y : Nat) (w : World) : Calls Tryd.prog 30 #[.int .u64 (y : Int)] w (Same (.bool (leapB y)) w) := by
  go_enter Tryd.func30, Tryd.ntmps30
  go_wp2
  all_goals
    go_ret
    refine ⟨ret_bool ?_, rfl⟩
    rw [Bool.eq_iff_iff]
    simp [leapB]
    omega
theorem year_days (y : Nat) (hy : y ≤ 1000000) (w : World) : Calls Tryd.prog 24 #[.int .u64 (y : Int)] w (Same (.int .u64 (yl y : Int)) w) := by
  have C := Lib.hid (leap_any (1970 + y) w)
  have HY := Lib.hid (show yl y = if leapB (1970 + y) = true then 366 else 365 from rfl)
  generalize leapB (1970 + y) = b at *
  go_enter Tryd.func24, Tryd.ntmps24
  go_wp2_with fail
  have C' := C.out
  rw [show (((1970 + y : Nat) : Nat) : Int) = 1970 + (y : Int) by omega] at C'
  refine C'.mono ?_
  rintro e w' ⟨rfl, rfl⟩
  cases b
  · go_wp2
    go_ret
    exact ⟨ret_u64 (by rw [HY.out]; rfl), rfl⟩
  · go_wp2
    go_ret
    exact ⟨ret_u64 (by rw [HY.out]; rfl), rfl⟩

/-- The months and the days of the week. -/
def MonTab (w : World) : Prop := ∀ i, i < 12 → w.cell? ⟨1, i * 2, none⟩ = some (.string ⟨(mnN i).toArray⟩) ∧ w.cell? ⟨1, i * 2 + 1, none⟩ = some (.int .u64 (mdays i : Int))
def DayTab (w : World) : Prop := ∀ i, i < 7 → w.cell? ⟨0, i, none⟩ = some (.string ⟨(wdN i).toArray⟩)
theorem MonTab.below {w w' : World} (h : MonTab w) (hb : Below w.heap.size w w') : MonTab w' := fun i hi => by
  obtain ⟨h1, h2⟩ := h i hi
  exact ⟨(hb.cell (Lib.lt_of_cell h1)).trans h1, (hb.cell (Lib.lt_of_cell h2)).trans h2⟩
theorem DayTab.below {w w' : World} (h : DayTab w) (hb : Below w.heap.size w w') : DayTab w' := fun i hi => (hb.cell (Lib.lt_of_cell (h i hi))).trans (h i hi)

theorem mnN_feb (m : Nat) (h : m < 12) : (mnN m = [70, 101, 98]) = (m = 1) := by
  have : ∀ m : Fin 12, (mnN m.val = [70, 101, 98]) = (m.val = 1) := by decide
  exact this ⟨m, h⟩
theorem mdays_small (m : Nat) : mdays m ≤ 31 := by
  have := ml_le 1 m
  unfold ml at this
  split at this
  · rename_i h
    rw [h.1]
    decide
  · exact this
set_option maxHeartbeats 1000000 in
theorem month_days (y m : Nat) (hm : m < 12) (p : Addr) (w : World) (ht : MonTab w) (hp : w.cell? p = some (.int .u64 (y : Int))) :
    Calls Tryd.prog 31 #[.int .u64 (m : Int), .pointer (some p)] w (Same (.int .u64 (ml y m : Int)) w) := by
  obtain ⟨h1, h2⟩ := ht m hm
  have C := Lib.hid (leap_any y w)
  have HM := Lib.hid (show ml y m = if m = 1 ∧ leapB y = true then 29 else mdays m from rfl)
  have HF := Lib.hid (mnN_feb m hm)
  have hs := mdays_small m
  have HS1 := Lib.hid (show m = 1 → mdays m = 28 by rintro rfl; rfl)
  generalize mdays m = k at *
  generalize mnN m = nm at *
  generalize leapB y = b at *
  have i0 : (0 : Int) ≤ (m : Int) := by omega
  have i1 : (m : Int) < 12 := by omega
  clear ht
  by_cases hf : nm = [70, 101, 98]
  · have HM1 := Lib.hid (HF.out.mp hf)
    subst hf
    clear HF
    cases b
    · go_enter Tryd.func31, Tryd.ntmps31
      go_wp2_with (go_at_call 30; refine C.out.mono ?_; rintro e w' ⟨rfl, rfl⟩)
      go_ret
      exact ⟨ret_u64 (by rw [HM.out]; simp), rfl⟩
    · go_enter Tryd.func31, Tryd.ntmps31
      go_wp2_with (go_at_call 30; refine C.out.mono ?_; rintro e w' ⟨rfl, rfl⟩)
      go_ret
      exact ⟨ret_u64 (by rw [HM.out]; simp [HM1.out, HS1.out HM1.out]), rfl⟩
  · have HM1 := Lib.hid (fun h => hf (HF.out.mpr h))
    clear HF
    go_enter Tryd.func31, Tryd.ntmps31
    go_wp2
    go_ret
    exact ⟨ret_u64 (by rw [HM.out, if_neg (fun h => HM1.out h.1)]), rfl⟩
end Go.Proofs.YtcnfobjmddncgaaDoor
