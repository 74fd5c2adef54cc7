/-
  What the laws' own wakes answers.
  Conditions: Go's table of powers of ten is as its text lays it.
-/
import Derived.Test.YtcmnnidjamdmeaaDoorAE
namespace Go.Proofs.YtcmnnidjamdmeaaDoor.Acl
open Go.RowKit

theorem cells5 {w : World} {g : Nat} {r : RuE} (h : Is w g 25 r.cells) : w.cell? ⟨g, 0, none⟩ = some (.bool r.al) ∧ w.cell? ⟨g, 1, none⟩ = some (.string r.h) ∧ w.cell? ⟨g, 2, none⟩ = some (.int .i64 r.lo) ∧ w.cell? ⟨g, 3, none⟩ = some (.int .i64 r.hi) ∧ w.cell? ⟨g, 4, none⟩ = some (.slice r.A r.n r.c) :=
  ⟨h.cell 0, h.cell 1, h.cell 2, h.cell 3, h.cell 4⟩
theorem srcu_row {w : World} {g : Nat} {L : List RuE} (h : Is w g 25 (rus L)) : SrcU w (fun _ => True) (some ⟨g, 0, none⟩) L := fun _ => ⟨_, rfl, trivial, h.lt, fun i r hr j v hv => by
  rw [add_at, Nat.zero_add, h.cell]
  exact rus_get L i r hr j v hv⟩
/-- A rule without Methods reads nothing. -/
theorem ok_none (w : World) (al : Bool) (h : ByteArray) (lo hi : Int) : RuE.Ok w ⟨al, h, lo, hi, none, 0, 0, []⟩ := ⟨rfl, Nat.zero_le _, srcs_nil _ _ _⟩
def wakeR : RuE := ⟨true, ⟨#[46, 98, 46, 99]⟩, 80, 80, none, 0, 0, []⟩
def wakeA : RuE := ⟨false, ⟨#[97]⟩, 1, 65535, none, 0, 0, []⟩
def wakeB (g : Nat) : RuE := ⟨true, ⟨#[42]⟩, 1, 65535, some ⟨g, 0, none⟩, 1, 1, [[71, 69, 84]]⟩
def wakeU : RuE := ⟨false, ⟨#[65]⟩, 1, 1, none, 0, 0, []⟩
/-- What wakes lays. -/
structure WakeW (g : Nat) (w : World) : Prop where
  r : Is w g 25 wakeR.cells
  m : Is w (g + 1) 9 [strV [71, 69, 84]]
  l : Is w (g + 1 + 1) 25 (rus [wakeA, wakeB (g + 1)])
theorem WakeW.below {g : Nat} {w w' : World} (h : WakeW g w) (hb : Below w.heap.size w w') : WakeW g w' := ⟨is_below h.r hb, is_below h.m hb, is_below h.l hb⟩
theorem WakeW.oks {g : Nat} {w : World} (h : WakeW g w) : ∀ r ∈ [wakeA, wakeB (g + 1)], r.Ok w := by
  intro r hr
  simp only [List.mem_cons, List.not_mem_nil, or_false] at hr
  rcases hr with rfl | rfl
  · exact ok_none _ _ _ _ _
  · exact ⟨rfl, by show 1 ≤ _; decide, srcs_is (ls := [[71, 69, 84]]) h.m⟩
theorem wm (h m : ByteArray) (p : Int) (b : Bool) (w : World) (hz : h.size ≤ 100) (hb : matchF (bl h) p (bl m) wakeR = b) :
    Calls Tryd.prog 12 #[.agg #[.bool true, .string ⟨#[46, 98, 46, 99]⟩, .int .i64 80, .int .i64 80, .slice none 0 0], .string h, .int .i64 p, .string m] w fun e w' => e = .returned (.bool b) ∧ Below w.heap.size w w' := by
  have C := matches_any wakeR h p m w (ok_none _ _ _ _ _) (by omega)
  rw [hb] at C
  exact C
theorem wd {g : Nat} (h m : ByteArray) (p : Int) (b : Bool) (w : World) (hw : WakeW g w) (hz : h.size ≤ 100) (hb : admitF [wakeA, wakeB (g + 1)] (bl h) p (bl m) = b) :
    Calls Tryd.prog 14 #[.slice (some ⟨g + 1 + 1, 0, none⟩) 2 2, .string h, .int .i64 p, .string m] w fun e w' => e = .returned (.bool b) ∧ Below w.heap.size w w' := by
  have C := admits_any w (some ⟨g + 1 + 1, 0, none⟩) [wakeA, wakeB (g + 1)] 2 2 rfl (by decide) (srcu_row hw.l) hw.oks h p m (by omega)
  rw [hb] at C
  exact C
theorem wl {g : Nat} (w : World) (hw : WakeW g w) (hp : PowTab w) : Calls Tryd.prog 10 #[.slice (some ⟨g + 1 + 1, 0, none⟩) 2 2] w fun e w' => e = .returned (.bool true) ∧ Below w.heap.size w w' := by
  have C := all_any w (some ⟨g + 1 + 1, 0, none⟩) [wakeA, wakeB (g + 1)] 2 2 rfl (by decide) (srcu_row hw.l) hw.oks hp
  rw [show allF [wakeA, wakeB (g + 1)] = true from rfl] at C
  exact C
theorem wr (w : World) (hp : PowTab w) : Calls Tryd.prog 8 #[.agg #[.bool true, .string ⟨#[46, 98, 46, 99]⟩, .int .i64 80, .int .i64 80, .slice none 0 0]] w fun e w' => e = .returned (.bool true) ∧ Below w.heap.size w w' := by
  have C := may_any wakeR w (ok_none _ _ _ _ _) hp
  rw [show mayF wakeR = true by decide +kernel] at C
  exact C
theorem wu (w : World) (hp : PowTab w) : Calls Tryd.prog 8 #[.agg #[.bool false, .string ⟨#[65]⟩, .int .i64 1, .int .i64 1, .slice none 0 0]] w fun e w' => e = .returned (.bool false) ∧ Below w.heap.size w w' := by
  have C := may_any wakeU w (ok_none _ _ _ _ _) hp
  rw [show mayF wakeU = false by decide +kernel] at C
  exact C
set_option maxHeartbeats 4000000 in
set_option maxRecDepth 100000 in
theorem wakes_any (w : World) (hp : PowTab w) : Calls Tryd.prog 16 #[] w fun e w' => e = .returned (.bool true) ∧ Below w.heap.size w w' := by
  have hK : WakeW w.heap.size (((w.alloc (.cells #[.bool true, .string ⟨#[46, 98, 46, 99]⟩, .int .i64 80, .int .i64 80, .slice none 0 0] 25)).alloc (.cells #[.string ⟨#[71, 69, 84]⟩] 9)).alloc (.cells #[.bool false, .string ⟨#[97]⟩, .int .i64 1, .int .i64 65535, .slice none 0 0, .bool true, .string ⟨#[42]⟩, .int .i64 1, .int .i64 65535, .slice (some ⟨w.heap.size + 1, 0, none⟩) 1 1] 25)) := by
    have i0 := Is.made w 25 wakeR.cells
    have i1 := Is.made (w.alloc (.cells wakeR.cells.toArray 25)) 9 [strV [71, 69, 84]]
    have i2 := Is.made ((w.alloc (.cells wakeR.cells.toArray 25)).alloc (.cells [strV [71, 69, 84]].toArray 9)) 25 (rus [wakeA, wakeB (w.heap.size + 1)])
    simp only [World.alloc, Array.size_push] at i1 i2
    exact ⟨(i0.alloc _).alloc _, Is.alloc i1 _, i2⟩
  have hb : Below w.heap.size w (((w.alloc (.cells #[.bool true, .string ⟨#[46, 98, 46, 99]⟩, .int .i64 80, .int .i64 80, .slice none 0 0] 25)).alloc (.cells #[.string ⟨#[71, 69, 84]⟩] 9)).alloc (.cells #[.bool false, .string ⟨#[97]⟩, .int .i64 1, .int .i64 65535, .slice none 0 0, .bool true, .string ⟨#[42]⟩, .int .i64 1, .int .i64 65535, .slice (some ⟨w.heap.size + 1, 0, none⟩) 1 1] 25)) :=
    (((Below.refl _ w).alloc (Nat.le_refl _) _).alloc (by simp) _).alloc (by simp; omega) _
  have HP := Lib.hid hp
  have K0 := Lib.hid hK
  have B0 := Lib.hid hb
  clear hp hK hb
  go_enter Tryd.func16, Tryd.ntmps16
  go_wp2_with fail
  generalize hw0 : ((w.alloc (.cells #[.bool true, .string ⟨#[46, 98, 46, 99]⟩, .int .i64 80, .int .i64 80, .slice none 0 0] 25)).alloc (.cells #[.string ⟨#[71, 69, 84]⟩] 9)).alloc (.cells #[.bool false, .string ⟨#[97]⟩, .int .i64 1, .int .i64 65535, .slice none 0 0, .bool true, .string ⟨#[42]⟩, .int .i64 1, .int .i64 65535, .slice (some ⟨w.heap.size + 1, 0, none⟩) 1 1] 25) = v0 at *
  clear hw0
  refine (wm ⟨#[97, 46, 98, 46, 99]⟩ ⟨#[88]⟩ 80 true v0 (by decide) (by decide +kernel)).mono ?_
  rintro e v1 ⟨rfl, b1⟩
  have B1 := Lib.hid (B0.out.trans (b1.mono B0.out.size))
  have K1 := Lib.hid (K0.out.below b1)
  obtain ⟨y0, y1, y2, y3, y4⟩ := cells5 K1.out.r
  simp only [wakeR] at y0 y1 y2 y3 y4
  clear b1 B0 K0
  go_wp2_with fail
  clear y0 y1 y2 y3 y4
  refine (wm ⟨#[98, 46, 99]⟩ ⟨#[88]⟩ 80 false v1 (by decide) (by decide +kernel)).mono ?_
  rintro e v2 ⟨rfl, b2⟩
  have B2 := Lib.hid (B1.out.trans (b2.mono B1.out.size))
  have K2 := Lib.hid (K1.out.below b2)
  obtain ⟨y0, y1, y2, y3, y4⟩ := cells5 K2.out.r
  simp only [wakeR] at y0 y1 y2 y3 y4
  clear b2 B1 K1
  go_wp2_with fail
  clear y0 y1 y2 y3 y4
  refine (wm ⟨#[46, 98, 46, 99]⟩ ⟨#[88]⟩ 80 false v2 (by decide) (by decide +kernel)).mono ?_
  rintro e v3 ⟨rfl, b3⟩
  have B3 := Lib.hid (B2.out.trans (b3.mono B2.out.size))
  have K3 := Lib.hid (K2.out.below b3)
  obtain ⟨y0, y1, y2, y3, y4⟩ := cells5 K3.out.r
  simp only [wakeR] at y0 y1 y2 y3 y4
  clear b3 B2 K2
  go_wp2_with fail
  clear y0 y1 y2 y3 y4
  refine (wm ⟨#[97, 46, 98, 46, 99]⟩ ⟨#[88]⟩ 81 false v3 (by decide) (by decide +kernel)).mono ?_
  rintro e v4 ⟨rfl, b4⟩
  have B4 := Lib.hid (B3.out.trans (b4.mono B3.out.size))
  have K4 := Lib.hid (K3.out.below b4)
  obtain ⟨y0, y1, y2, y3, y4⟩ := cells5 K4.out.r
  simp only [wakeR] at y0 y1 y2 y3 y4
  clear b4 B3 K3
  go_wp2_with fail
  clear y0 y1 y2 y3 y4
  refine (wd ⟨#[97]⟩ ⟨#[71, 69, 84]⟩ 80 false v4 K4.out (by decide) rfl).mono ?_
  rintro e v5 ⟨rfl, b5⟩
  have B5 := Lib.hid (B4.out.trans (b5.mono B4.out.size))
  have K5 := Lib.hid (K4.out.below b5)
  obtain ⟨y0, y1, y2, y3, y4⟩ := cells5 K5.out.r
  simp only [wakeR] at y0 y1 y2 y3 y4
  clear b5 B4 K4
  go_wp2_with fail
  clear y0 y1 y2 y3 y4
  refine (wd ⟨#[98]⟩ ⟨#[71, 69, 84]⟩ 80 true v5 K5.out (by decide) rfl).mono ?_
  rintro e v6 ⟨rfl, b6⟩
  have B6 := Lib.hid (B5.out.trans (b6.mono B5.out.size))
  have K6 := Lib.hid (K5.out.below b6)
  obtain ⟨y0, y1, y2, y3, y4⟩ := cells5 K6.out.r
  simp only [wakeR] at y0 y1 y2 y3 y4
  clear b6 B5 K5
  go_wp2_with fail
  clear y0 y1 y2 y3 y4
  refine (wd ⟨#[98]⟩ ⟨#[80, 79, 83, 84]⟩ 80 false v6 K6.out (by decide) rfl).mono ?_
  rintro e v7 ⟨rfl, b7⟩
  have B7 := Lib.hid (B6.out.trans (b7.mono B6.out.size))
  have K7 := Lib.hid (K6.out.below b7)
  obtain ⟨y0, y1, y2, y3, y4⟩ := cells5 K7.out.r
  simp only [wakeR] at y0 y1 y2 y3 y4
  clear b7 B6 K6
  go_wp2_with fail
  clear y0 y1 y2 y3 y4
  refine (wl v7 K7.out (HP.out.below B7.out)).mono ?_
  rintro e v8 ⟨rfl, b8⟩
  have B8 := Lib.hid (B7.out.trans (b8.mono B7.out.size))
  have K8 := Lib.hid (K7.out.below b8)
  obtain ⟨y0, y1, y2, y3, y4⟩ := cells5 K8.out.r
  simp only [wakeR] at y0 y1 y2 y3 y4
  clear b8 B7 K7
  go_wp2_with fail
  clear y0 y1 y2 y3 y4
  refine (wr v8 (HP.out.below B8.out)).mono ?_
  rintro e v9 ⟨rfl, b9⟩
  have B9 := Lib.hid (B8.out.trans (b9.mono B8.out.size))
  have K9 := Lib.hid (K8.out.below b9)
  obtain ⟨y0, y1, y2, y3, y4⟩ := cells5 K9.out.r
  simp only [wakeR] at y0 y1 y2 y3 y4
  clear b9 B8 K8
  go_wp2_with fail
  clear y0 y1 y2 y3 y4
  refine (wu v9 (HP.out.below B9.out)).mono ?_
  rintro e v10 ⟨rfl, b10⟩
  have B10 := Lib.hid (B9.out.trans (b10.mono B9.out.size))
  have K10 := Lib.hid (K9.out.below b10)
  obtain ⟨y0, y1, y2, y3, y4⟩ := cells5 K10.out.r
  simp only [wakeR] at y0 y1 y2 y3 y4
  clear b10 B9 K9
  go_wp2_with fail
  go_ret
  exact ⟨rfl, B10.out⟩
end Go.Proofs.YtcmnnidjamdmeaaDoor.Acl
