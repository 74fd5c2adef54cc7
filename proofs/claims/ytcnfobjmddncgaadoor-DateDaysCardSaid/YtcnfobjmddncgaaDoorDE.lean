/-
  What package date's dayText and Text answer.
  Conditions: those that each theorem names.
-/
import Derived.Test.YtcnfobjmddncgaaDoorDD
import Derived.Deep.RegionHeld3
import Derived.IntWalk
namespace Go.Proofs.YtcnfobjmddncgaaDoor
open Go.RowKit

theorem wrap_u64 (x : Int) (h : 0 ≤ x ∧ x < 18446744073709551616) : IntKind.u64.wrap x = x := by
  show x % 18446744073709551616 = x
  omega
/-- A text is told; nothing that was there at w has turned. -/
def Since (l : List UInt8) (w : World) (e : Ending) (w' : World) : Prop := e = .returned (.string ⟨l.toArray⟩) ∧ Below w.heap.size w w'
theorem since_told {f : FuncId} {args : Array Value} {l : List UInt8} {w X : World} (hX : Below w.heap.size w X) (h : Calls Tryd.prog f args X (Told l X)) : Calls Tryd.prog f args X (Since l w) :=
  h.mono fun _ _ h => ⟨h.1, hX.trans (h.2.mono hX.size)⟩
/-- The closure that monthDays makes. -/
def MadeFn (y : Nat) (w : World) (e : Ending) (w' : World) : Prop :=
  ∃ p, e = .returned (.func (.func 31) #[] #[.pointer (some p)]) ∧ Below w.heap.size w w' ∧ w'.cell? p = some (.int .u64 (y : Int))
set_option maxHeartbeats 1000000 in
theorem month_fn (x : Int) (y : Nat) (hx : x = y) (w : World) : Calls Tryd.prog 25 #[.int .u64 x] w (MadeFn y w) := by
  subst hx
  go_enter Tryd.func25, Tryd.ntmps25
  go_wp2_with fail
  go_ret
  exact ⟨_, rfl, (Below.refl _ _).alloc (Nat.le_refl _) _, by rw [World.cell?_alloc_new]; rfl⟩

set_option maxHeartbeats 4000000 in
theorem day_text (d : Nat) (hd : d ≤ 2932896) (w : World) (ht : PowTab w) (hm : MonTab w) : Calls Tryd.prog 13 #[.int .u64 (d : Int)] w (Told (dayTF d) w) := by
  have hyl := year_last d hd
  have hya : yearAt d = (d / 146097 * 400 + (findF yl 399 0 (d % 146097)).1, (findF yl 399 0 (d % 146097)).2) := rfl
  obtain ⟨⟨hmw, hmr⟩, hml⟩ := month_within d
  have hma : monthAt d = findF (ml (1970 + (yearAt d).1)) 11 0 (yearAt d).2 := rfl
  have hR : dayTF d = fixF 2 ((monthAt d).2 + 1) ++ ([32] ++ (mnN (monthAt d).1 ++ ([32] ++ fixF 4 (1970 + (yearAt d).1)))) := rfl
  have hr1 : (findF yl 399 0 (d % 146097)).2 < 366 := by
    have := (year_in d).1.2
    have h2 := (yl_pos (findF yl 399 0 (d % 146097)).1).2
    omega
  have hy1 := (year_in d).2
  have C1 : Calls Tryd.prog 23 #[.int .u64 ((d : Int) % 146097), .int .u64 400, .func (.func 24) #[] #[]] w (Same (.tuple #[.int .u64 ((findF yl 399 0 (d % 146097)).1 : Int), .int .u64 ((findF yl 399 0 (d % 146097)).2 : Int)]) w) := by
    rw [show (d : Int) % 146097 = ((d % 146097 : Nat) : Int) by omega, show (400 : Int) = ((399 : Nat) : Int) + 1 from rfl]
    exact within_year w 399 (d % 146097) (by omega) (by omega)
  rw [hya] at hma hR hmr hyl
  simp only at hma hR hmr hyl
  have hml31 := ml_le (1970 + (d / 146097 * 400 + (findF yl 399 0 (d % 146097)).1)) (monthAt d).1
  clear hmw hya
  generalize findF yl 399 0 (d % 146097) = q at *
  obtain ⟨y1, r1⟩ := q
  simp only at hma hR hmr hyl hr1 hy1 hml31 C1
  have C3 := Lib.hid (fun (p : Addr) (X : World) h1 h2 => within_month (1970 + (d / 146097 * 400 + y1)) p X h1 h2 11 r1 (by omega) (by omega))
  rw [← hma] at C3
  clear hma
  generalize monthAt d = q at *
  obtain ⟨m, x⟩ := q
  simp only at hR hml hmr hml31 C3
  have hxl : x < 31 := by omega
  have C2 := Lib.hid (fun X : World => month_fn (1970 + (d : Int) / 146097 * 400 + (y1 : Int)) (1970 + (d / 146097 * 400 + y1)) (by omega) X)
  have C4 := Lib.hid (fun (X : World) (hX : Below w.heap.size w X) => since_told hX (digits_at ((x : Int) + 1) 2 (x + 1) 2 (by omega) rfl (by omega) (by omega) (by omega) X (ht.below hX)))
  have C5 := Lib.hid (fun (X : World) (hX : Below w.heap.size w X) => since_told hX (digits_at (1970 + (d : Int) / 146097 * 400 + (y1 : Int)) 4 (1970 + (d / 146097 * 400 + y1)) 4 (by omega) rfl (by omega) (by omega) (by omega) X (ht.below hX)))
  have HR := Lib.hid hR
  have HM := Lib.hid hm
  have hc0 := (hm m (by omega)).1
  have YC := Lib.hid (fun (X : World) (hX : Below w.heap.size w X) => ((hX.cell (Lib.lt_of_cell hc0)).trans hc0 : X.cell? ⟨1, m * 2, none⟩ = some (.string ⟨(mnN m).toArray⟩)))
  have l2 := mnN_len m (by omega)
  have l1 := fixF_len 2 (x + 1)
  have l3 := fixF_len 4 (1970 + (d / 146097 * 400 + y1))
  have C1 := Lib.hid C1
  have i0 : (0 : Int) ≤ (m : Int) := by omega
  have i1 : (m : Int) < 12 := by omega
  have i2 : (y1 : Int) ≤ 399 := by omega
  have i3 : (x : Int) < 31 := by omega
  have i4 : (d : Int) ≤ 2932896 := by omega
  clear hR ht hm hc0 hmr hml31 hyl
  generalize dayTF d = r at *
  generalize fixF 2 (x + 1) = a at *
  generalize mnN m = b at *
  generalize fixF 4 (1970 + (d / 146097 * 400 + y1)) = c at *
  go_enter Tryd.func13, Tryd.ntmps13
  go_wp2_with fail
  refine C1.out.mono ?_
  rintro e w1 ⟨rfl, rfl⟩
  go_wp2_with fail
  refine (C2.out _).mono ?_
  rintro e w2 ⟨p, rfl, b2, hp⟩
  have HP := Lib.hid hp
  have B2 := Lib.hid b2
  clear hp b2
  go_wp2_with fail
  refine (C3.out p w2 (HM.out.below B2.out) HP.out).mono ?_
  rintro e w3 ⟨rfl, rfl⟩
  have y0 := YC.out _ B2.out
  have wx : IntKind.u64.wrap ((x : Int) + 1) = (x : Int) + 1 := wrap_u64 _ (by omega)
  have BD : Hid (Below w.heap.size w w2.drew) := Lib.hid (below_drewN B2.out 1)
  go_wp2_with fail
  go_region_held3 (fun w' => w'.cell? ⟨1, m * 2, none⟩ = some (.string ⟨b.toArray⟩)) (first | exact y0 | exact y5 | exact y6 | go_keep)
    (first
      | (go_at_call 26; (with_reducible refine (C4.out w2.drew BD.out).mono ?_); rintro e w5 ⟨rfl, b5⟩; have y5 := YC.out _ b5; have B5 := Lib.hid b5; clear b5)
      | (go_at_call 26; (with_reducible refine (C5.out _ B5.out).mono ?_); rintro e w6 ⟨rfl, b6⟩; have y6 := YC.out _ b6; have B6 := Lib.hid b6; clear b6))
  go_wp2_with fail
  go_ret
  exact ⟨by rw [HR.out]; simp only [mk_append, List.append_assoc]; rfl, B6.out⟩
end Go.Proofs.YtcnfobjmddncgaaDoor
