/-
  Package fresh's Age and Fresh.
  Conditions: the list holds at most 1000000000 bytes; moments are numbers of 64 bits.
-/
import Derived.Test.YtdcbcjljmjnopaaGreatDoorJE
namespace Go.Proofs.YtdcbcjljmjnopaaGreatDoor.Fre
open Go.RowKit Hop Con

/-- An entry's box. -/
def EBox (X : World) (g : Nat) (url : ByteArray) (asked came : Nat) (AW : Option Addr) (nw cw : Nat) (st : Int) (rr : ByteArray) (mk : Int) (A : Option Addr) (n c : Nat) (D : Option Addr) (l d : Nat) : Prop :=
  X.cell? ⟨g, 0, none⟩ = some (.string url) ∧ X.cell? ⟨g, 1, none⟩ = some (.int .u64 (asked : Int)) ∧ X.cell? ⟨g, 2, none⟩ = some (.int .u64 (came : Int)) ∧ X.cell? ⟨g, 3, none⟩ = some (.slice AW nw cw) ∧
  X.cell? ⟨g, 4, none⟩ = some (.int .i64 st) ∧ X.cell? ⟨g, 5, none⟩ = some (.string rr) ∧ X.cell? ⟨g, 6, none⟩ = some (.int .i64 mk) ∧ X.cell? ⟨g, 7, none⟩ = some (.slice A n c) ∧ X.cell? ⟨g, 8, none⟩ = some (.slice D l d)
theorem EBox.made (w : World) (t : TypeId) (url : ByteArray) (asked came : Nat) (AW : Option Addr) (nw cw : Nat) (st : Int) (rr : ByteArray) (mk : Int) (A : Option Addr) (n c : Nat) (D : Option Addr) (l d : Nat) : EBox (w.alloc (.cells #[.string url, .int .u64 (asked : Int), .int .u64 (came : Int), .slice AW nw cw, .int .i64 st, .string rr, .int .i64 mk, .slice A n c, .slice D l d] t)) w.heap.size url asked came AW nw cw st rr mk A n c D l d := by
  have hi := Is.made w t [.string url, .int .u64 (asked : Int), .int .u64 (came : Int), .slice AW nw cw, .int .i64 st, .string rr, .int .i64 mk, .slice A n c, .slice D l d]
  exact ⟨hi.cell 0, hi.cell 1, hi.cell 2, hi.cell 3, hi.cell 4, hi.cell 5, hi.cell 6, hi.cell 7, hi.cell 8⟩
theorem EBox.below {X X' : World} {g : Nat} {url : ByteArray} {asked came : Nat} {AW : Option Addr} {nw cw : Nat} {st : Int} {rr : ByteArray} {mk : Int} {A : Option Addr} {n c : Nat} {D : Option Addr} {l d : Nat} (h : EBox X g url asked came AW nw cw st rr mk A n c D l d) (hb : Below X.heap.size X X') : EBox X' g url asked came AW nw cw st rr mk A n c D l d := by
  obtain ⟨h0, h1, h2, h3, h4, h5, h6, h7, h8⟩ := h
  exact ⟨(hb.cell (Lib.lt_of_cell h0)).trans h0, (hb.cell (Lib.lt_of_cell h1)).trans h1, (hb.cell (Lib.lt_of_cell h2)).trans h2, (hb.cell (Lib.lt_of_cell h3)).trans h3, (hb.cell (Lib.lt_of_cell h4)).trans h4, (hb.cell (Lib.lt_of_cell h5)).trans h5, (hb.cell (Lib.lt_of_cell h6)).trans h6, (hb.cell (Lib.lt_of_cell h7)).trans h7, (hb.cell (Lib.lt_of_cell h8)).trans h8⟩
theorem cell_below {X X' : World} {p : Addr} {v : Value} (h : X.cell? p = some v) (hb : Below X.heap.size X X') : X'.cell? p = some v := (hb.cell (Lib.lt_of_cell h)).trans h
theorem until_at (x : Int) (b n : Nat) (hx : x = b) (hn : n < 18446744073709551616) (p : Addr) (w : World) (hp : w.cell? p = some (.int .u64 (n : Int))) :
    Calls Tryz.prog 48 #[.int .u64 x, .pointer (some p)] w (Same (.int .u64 (untilF b n : Nat)) w) := by
  subst hx
  exact until_any b n hn p w hp

set_option maxHeartbeats 8000000 in
set_option maxRecDepth 100000 in
theorem age_any {P : Nat → Prop} (w : World) (url : ByteArray) (asked came : Nat) (AW : Option Addr) (nw cw : Nat) (st : Int) (rr : ByteArray) (mk : Int) (A : Option Addr) (n c : Nat) (D : Option Addr) (l d : Nat) (now : Nat) (ls : List Fld) (hn : ls.length = n) (hb : bulkF ls ≤ 1000000000) (h : SrcF w P A ls) (ht : DTabs w) (hc : came < 18446744073709551616) (hnw : now < 18446744073709551616) :
    Calls Tryz.prog 12 #[(.agg #[.string url, .int .u64 (asked : Int), .int .u64 (came : Int), .slice AW nw cw, .int .i64 st, .string rr, .int .i64 mk, .slice A n c, .slice D l d]), .int .u64 (now : Int)] w fun e w' => e = .returned (.int .i64 (ageF ls asked came now : Nat)) ∧ Below w.heap.size w w' := by
  have hb0 : Below w.heap.size w (w.alloc (.cells #[.string url, .int .u64 (asked : Int), .int .u64 (came : Int), .slice AW nw cw, .int .i64 st, .string rr, .int .i64 mk, .slice A n c, .slice D l d] 28)) := (Below.refl _ _).alloc (Nat.le_refl _) _
  have CT := Lib.hid (fun X (hX : Below w.heap.size w X) => told_any X A ls n c hn hb (h.below hX))
  have CD := Lib.hid (fun X (hX : Below w.heap.size w X) => date_any X st rr mk A n c D l d ls hn hb (h.below hX) (ht.below hX))
  unfold MomentTold at CD
  have l1 := told_le ls
  have l2 := moment_le ls dateN
  have HV : Hid (ageF ls asked came now = min ((max (toldF ls * 1000 + untilF asked came) (if (momentF ls dateN).2 = true then untilF ((momentF ls dateN).1 * 1000) came else 0) + untilF came now) / 1000) M31) := Lib.hid rfl
  have l3 := until_le asked came
  have l4 := until_le came now
  have CA := Lib.hid (fun p (X : World) => until_any asked came hc p X)
  have CN := Lib.hid (fun p (X : World) => until_any came now hnw p X)
  have C1 := Lib.hid (fun X : World => until_fn came X)
  have C2 := Lib.hid (fun X : World => until_fn now X)
  unfold M31 at l1
  unfold LastN at l2
  unfold MS at l3 l4
  have X0 := Lib.hid (EBox.made w 28 url asked came AW nw cw st rr mk A n c D l d)
  have B0 := Lib.hid hb0
  clear hn hb h ht hb0 hnw
  generalize toldF ls = t at *
  generalize momentF ls dateN = m at *
  obtain ⟨m1, m2⟩ := m
  simp only at HV l2 CD
  have CM := Lib.hid (fun p (X : World) => until_at ((m1 : Int) * 1000) (m1 * 1000) came (by omega) hc p X)
  have l5 := until_le (m1 * 1000) came
  unfold MS at l5
  clear hc
  generalize untilF asked came = ua at *
  generalize untilF came now = un at *
  generalize untilF (m1 * 1000) came = um at *
  go_enter Tryz.func12, Tryz.ntmps12
  go_wp2_with fail
  refine (C1.out _).mono ?_
  rintro e w1 ⟨p1, rfl, b1, y1⟩
  have hx := X0.out.below b1
  obtain ⟨x0, x1, x2, x3, x4, x5, x6, x7, x8⟩ := hx
  have B1 := Lib.hid (B0.out.trans (b1.mono B0.out.size))
  have Y1 := Lib.hid y1
  clear b1 X0 B0 y1
  go_wp2_with fail
  refine (C2.out _).mono ?_
  rintro e w2 ⟨p2, rfl, b2, y2⟩
  have hx := EBox.below ⟨x0, x1, x2, x3, x4, x5, x6, x7, x8⟩ b2
  clear x0 x1 x2 x3 x4 x5 x6 x7 x8
  have HX := Lib.hid hx
  have B2 := Lib.hid (B1.out.trans (b2.mono B1.out.size))
  have Y1 := Lib.hid (cell_below Y1.out b2)
  have Y2 := Lib.hid y2
  clear b2 B1 y2 hx C1 C2
  have d2 : Below w2.heap.size w2 w2.drew := below_drewN (Below.refl w2.heap.size w2) 1
  obtain ⟨x0, x1, x2, x3, x4, x5, x6, x7, x8⟩ := HX.out.below d2
  have BD : Hid (Below w.heap.size w w2.drew) := Lib.hid (B2.out.trans (d2.mono B2.out.size))
  have y1 := cell_below Y1.out d2
  have kd : w2.drew.cell? ⟨w.heap.size, 1, none⟩ = some (.int .u64 (asked : Int)) ∧ w2.drew.cell? ⟨w.heap.size, 7, none⟩ = some (.slice A n c) := ⟨x1, x7⟩
  have k2 : w2.cell? ⟨w.heap.size, 1, none⟩ = some (.int .u64 (asked : Int)) ∧ w2.cell? ⟨w.heap.size, 7, none⟩ = some (.slice A n c) := ⟨HX.out.2.1, HX.out.2.2.2.2.2.2.2.1⟩
  clear x0 x1 x2 x3 x4 x5 x6 x7 x8
  have wa1 : IntKind.u64.wrap ((t : Int) * 1000) = (t : Int) * 1000 := wrap_u64 _ (by omega)
  have wa2 : IntKind.u64.wrap ((t : Int) * 1000 + (ua : Int)) = (t : Int) * 1000 + (ua : Int) := wrap_u64 _ (by omega)
  go_wp2_with fail
  go_region_held3 (fun w' => w'.cell? ⟨w.heap.size, 1, none⟩ = some (.int .u64 (asked : Int)) ∧ w'.cell? ⟨w.heap.size, 7, none⟩ = some (.slice A n c)) (first | (with_reducible exact k2) | (with_reducible exact kd) | (with_reducible exact k4) | go_keep)
    (first
      | (go_at_call 31; (with_reducible refine (CT.out w2.drew BD.out).mono ?_); rintro e w4 ⟨rfl, b4⟩; have b24 := d2.trans (b4.mono d2.size); have k4 : w4.cell? ⟨w.heap.size, 1, none⟩ = some (.int .u64 (asked : Int)) ∧ w4.cell? ⟨w.heap.size, 7, none⟩ = some (.slice A n c) := ⟨cell_below k2.1 b24, cell_below k2.2 b24⟩; have y4 := cell_below Y1.out b24; have B24 := Lib.hid b24; clear b4 b24)
      | (go_at_call 48; (with_reducible refine (CA.out p1 w2.drew y1).mono ?_); rintro e w5 ⟨rfl, rfl⟩)
      | (go_at_call 48; (with_reducible refine (CA.out p1 w4 y4).mono ?_); rintro e w5 ⟨rfl, rfl⟩))
  all_goals
    have B4 := Lib.hid (B2.out.trans (B24.out.mono B2.out.size))
    have hx := HX.out.below B24.out
    have Y1 := Lib.hid (cell_below Y1.out B24.out)
    have Y2 := Lib.hid (cell_below Y2.out B24.out)
    have hc7 := hx
    clear k2 kd k4 y1 BD d2 B24 HX B2 CA CT
    obtain ⟨x0, x1, x2, x3, x4, x5, x6, x7, x8⟩ := hx
    go_wp2_with fail
    refine (CD.out _ B4.out).mono ?_
    rintro e w5 ⟨rfl, b5⟩
    have B5 := Lib.hid (B4.out.trans (b5.mono B4.out.size))
    have hx := hc7.below b5
    have y1 := cell_below Y1.out b5
    have y2 := cell_below Y2.out b5
    clear x0 x1 x2 x3 x4 x5 x6 x7 x8 hc7 Y1 Y2
    obtain ⟨x0, x1, x2, x3, x4, x5, x6, x7, x8⟩ := hx
    clear b5 CD B4
    cases m2
    · have wb1 : IntKind.u64.wrap (max ((t : Int) * 1000 + (ua : Int)) 0 + (un : Int)) = max ((t : Int) * 1000 + (ua : Int)) 0 + (un : Int) := wrap_u64 _ (by omega)
      have wb2 : IntKind.i64.wrap (min ((max ((t : Int) * 1000 + (ua : Int)) 0 + (un : Int)) / 1000) 2147483648) = min ((max ((t : Int) * 1000 + (ua : Int)) 0 + (un : Int)) / 1000) 2147483648 := wrap_i64 _ (by omega)
      go_wp2_with fail
      refine (CN.out p2 _ y2).mono ?_
      rintro e w6 ⟨rfl, rfl⟩
      go_wp2_with fail
      go_ret
      exact ⟨by rw [HV.out, if_neg (by simp), show ((min ((max (t * 1000 + ua) 0 + un) / 1000) M31 : Nat) : Int) = min ((max ((t : Int) * 1000 + (ua : Int)) 0 + (un : Int)) / 1000) 2147483648 by unfold M31; omega]; rfl, B5.out⟩
    · have wb0 : IntKind.u64.wrap ((m1 : Int) * 1000) = (m1 : Int) * 1000 := wrap_u64 _ (by omega)
      have wb1 : IntKind.u64.wrap (max ((t : Int) * 1000 + (ua : Int)) (um : Int) + (un : Int)) = max ((t : Int) * 1000 + (ua : Int)) (um : Int) + (un : Int) := wrap_u64 _ (by omega)
      have wb2 : IntKind.i64.wrap (min ((max ((t : Int) * 1000 + (ua : Int)) (um : Int) + (un : Int)) / 1000) 2147483648) = min ((max ((t : Int) * 1000 + (ua : Int)) (um : Int) + (un : Int)) / 1000) 2147483648 := wrap_i64 _ (by omega)
      go_wp2_with fail
      refine (CM.out p1 _ y1).mono ?_
      rintro e w6 ⟨rfl, rfl⟩
      go_wp2_with fail
      refine (CN.out p2 _ y2).mono ?_
      rintro e w7 ⟨rfl, rfl⟩
      go_wp2_with fail
      go_ret
      exact ⟨by rw [HV.out, if_pos trivial, show ((min ((max (t * 1000 + ua) um + un) / 1000) M31 : Nat) : Int) = min ((max ((t : Int) * 1000 + (ua : Int)) (um : Int) + (un : Int)) / 1000) 2147483648 by unfold M31; omega]; rfl, B5.out⟩

set_option maxHeartbeats 8000000 in
set_option maxRecDepth 100000 in
theorem fresh_any {P : Nat → Prop} (w : World) (url : ByteArray) (asked came : Nat) (AW : Option Addr) (nw cw : Nat) (st : Int) (rr : ByteArray) (mk : Int) (A : Option Addr) (n c : Nat) (D : Option Addr) (l d : Nat) (now : Nat) (ls : List Fld) (hn : ls.length = n) (hb : bulkF ls ≤ 1000000000) (h : SrcF w P A ls) (ht : DTabs w) (hc : came < 18446744073709551616) (hnw : now < 18446744073709551616) :
    Calls Tryz.prog 14 #[(.agg #[.string url, .int .u64 (asked : Int), .int .u64 (came : Int), .slice AW nw cw, .int .i64 st, .string rr, .int .i64 mk, .slice A n c, .slice D l d]), .int .u64 (now : Int)] w fun e w' => e = .returned (.bool (freshB st ls asked came now)) ∧ Below w.heap.size w w' := by
  have hb0 : Below w.heap.size w (w.alloc (.cells #[.string url, .int .u64 (asked : Int), .int .u64 (came : Int), .slice AW nw cw, .int .i64 st, .string rr, .int .i64 mk, .slice A n c, .slice D l d] 28)) := (Below.refl _ _).alloc (Nat.le_refl _) _
  have CL := Lib.hid (life_any (w.alloc (.cells #[.string url, .int .u64 (asked : Int), .int .u64 (came : Int), .slice AW nw cw, .int .i64 st, .string rr, .int .i64 mk, .slice A n c, .slice D l d] 28)) st rr mk A n c D l d ls hn hb (h.below hb0) (ht.below hb0))
  have CA := Lib.hid (fun X (hX : Below w.heap.size w X) => age_any X url asked came AW nw cw st rr mk A n c D l d now ls hn hb (h.below hX) (ht.below hX) hc hnw)
  have HF : Hid (freshB st ls asked came now = decide ((ageF ls asked came now : Int) < (lifeF st ls).1)) := Lib.hid rfl
  unfold LifeTold at CL
  have X0 := Lib.hid (EBox.made w 28 url asked came AW nw cw st rr mk A n c D l d)
  have B0 := Lib.hid hb0
  clear hn hb h ht hb0 hc hnw
  generalize lifeF st ls = q at *
  obtain ⟨q1, q2⟩ := q
  generalize ageF ls asked came now = a at *
  rw [HF.out]
  clear HF
  simp only at CL ⊢
  obtain ⟨q, hq⟩ : ∃ q, decide ((a : Int) < q1) = q := ⟨_, rfl⟩
  rw [hq]
  go_enter Tryz.func14, Tryz.ntmps14
  go_wp2_with fail
  refine CL.out.mono ?_
  rintro e w1 ⟨rfl, b1⟩
  have B1 := Lib.hid (B0.out.trans (b1.mono B0.out.size))
  obtain ⟨x0, x1, x2, x3, x4, x5, x6, x7, x8⟩ := X0.out.below b1
  clear b1 X0 B0 CL
  go_wp2_with fail
  refine (CA.out _ B1.out).mono ?_
  rintro e w2 ⟨rfl, b2⟩
  have B2 := Lib.hid (B1.out.trans (b2.mono B1.out.size))
  clear b2 CA
  go_wp2_with fail
  go_ret
  exact ⟨rfl, B2.out⟩
end Go.Proofs.YtdcbcjljmjnopaaGreatDoor.Fre
