/-
  The law FreshTells: walk.
  Conditions: what the arguments read as; the list holds at most 1000000000 bytes; tables are as their texts lay them.
-/
import Derived.Test.YtdcbcjljmjnopaaGreatDoorJS
import Derived.Test.YtdcbcjljmjnopaaGreatDoorJF
import Derived.Test.YtdcbcjljmjnopaaGreatDoorJV
namespace Go.Proofs.YtdcbcjljmjnopaaGreatDoor.Fre
open Go.RowKit Hop Con

theorem EBox.cells {w X : World} (url : ByteArray) (asked came : Nat) (AW : Option Addr) (nw cw : Nat) (st : Int) (rr : ByteArray) (mk : Int) (A : Option Addr) (n c : Nat) (D : Option Addr) (l d : Nat) (h : EBox X w.heap.size url asked came AW nw cw st rr mk A n c D l d) : X.cell? ⟨w.heap.size, 1, none⟩ = some (.int .u64 (asked : Int)) ∧ X.cell? ⟨w.heap.size, 2, none⟩ = some (.int .u64 (came : Int)) ∧ X.cell? ⟨w.heap.size, 4, none⟩ = some (.int .i64 st) ∧ X.cell? ⟨w.heap.size, 5, none⟩ = some (.string rr) ∧ X.cell? ⟨w.heap.size, 6, none⟩ = some (.int .i64 mk) ∧ X.cell? ⟨w.heap.size, 7, none⟩ = some (.slice A n c) ∧ X.cell? ⟨w.heap.size, 8, none⟩ = some (.slice D l d) := by
  obtain ⟨h0, h1, h2, h3, h4, h5, h6, h7, h8⟩ := h
  exact ⟨h1, h2, h4, h5, h6, h7, h8⟩
set_option maxHeartbeats 16000000 in
set_option maxRecDepth 100000 in
theorem rage_any {P : Nat → Prop} (w : World) (url : ByteArray) (asked came : Nat) (AW : Option Addr) (nw cw : Nat) (st : Int) (rr : ByteArray) (mk : Int) (A : Option Addr) (n c : Nat) (D : Option Addr) (l d : Nat) (now : Nat) (ls : List Fld) (hn : ls.length = n) (hb : bulkF ls ≤ 1000000000) (h : SrcF w P A ls) (hc : came < 18446744073709551616) (hnw : now < 18446744073709551616) :
    Calls Tryz.prog 13 #[(.agg #[.string url, .int .u64 (asked : Int), .int .u64 (came : Int), .slice AW nw cw, .int .i64 st, .string rr, .int .i64 mk, .slice A n c, .slice D l d]), .int .u64 (now : Int)] w fun e w' => e = .returned (.int .i64 (ageF ls asked came now : Nat)) ∧ Below w.heap.size w w' := by
  have hb0 : Below w.heap.size w (w.alloc (.cells #[.string url, .int .u64 (asked : Int), .int .u64 (came : Int), .slice AW nw cw, .int .i64 st, .string rr, .int .i64 mk, .slice A n c, .slice D l d] 28)) := (Below.refl _ _).alloc (Nat.le_refl _) _
  have CD := rdate_any (w.alloc (.cells #[.string url, .int .u64 (asked : Int), .int .u64 (came : Int), .slice AW nw cw, .int .i64 st, .string rr, .int .i64 mk, .slice A n c, .slice D l d] 28)) st rr mk A n c D l d ls hn hb (h.below hb0)
  have CT := Lib.hid (fun X (hX : Below w.heap.size w X) => rtold_any X st rr mk A n c D l d ls hn hb (h.below hX))
  unfold MomentTold at CD
  have l1 := told_le ls
  have l2 := moment_le ls dateN
  have HV : Hid (ageF ls asked came now = min ((max (toldF ls * 1000 + untilF asked came) (if (momentF ls dateN).2 = true then untilF ((momentF ls dateN).1 * 1000) came else 0) + untilF came now) / 1000) M31) := Lib.hid rfl
  have l3 := until_le asked came
  have l4 := until_le came now
  have HU1 : Hid ((untilF asked came : Int) = min (max 0 ((came : Int) - (asked : Int))) 2147483648000) := Lib.hid (by unfold untilF MS; omega)
  have HU2 : Hid ((untilF came now : Int) = min (max 0 ((now : Int) - (came : Int))) 2147483648000) := Lib.hid (by unfold untilF MS; omega)
  unfold M31 at l1
  unfold LastN at l2
  unfold MS at l3 l4
  have X0 := Lib.hid (EBox.made w 28 url asked came AW nw cw st rr mk A n c D l d)
  have B0 := Lib.hid hb0
  clear hn hb h hb0
  generalize toldF ls = t at *
  generalize momentF ls dateN = m at *
  obtain ⟨m1, m2⟩ := m
  simp only at HV l2 CD
  have HU3 : Hid ((untilF (m1 * 1000) came : Int) = min (max 0 ((came : Int) - 1000 * (m1 : Int))) 2147483648000) := Lib.hid (by unfold untilF MS; omega)
  have l5 := until_le (m1 * 1000) came
  unfold MS at l5
  generalize untilF asked came = ua at *
  generalize untilF came now = un at *
  generalize untilF (m1 * 1000) came = um at *
  generalize ageF ls asked came now = av at *
  have CA1 := Lib.hid (fun X : World => rahead_any (asked : Int) (came : Int) (max 0 ((came : Int) - (asked : Int))) (by omega) (by omega) rfl X)
  have CQ1 := Lib.hid (fun X : World => rleast_any (max 0 ((came : Int) - (asked : Int))) 2147483648000 (ua : Int) HU1.out X)
  have CA2 := Lib.hid (fun X : World => rahead_any (came : Int) (now : Int) (max 0 ((now : Int) - (came : Int))) (by omega) (by omega) rfl X)
  have CQ2 := Lib.hid (fun X : World => rleast_any (max 0 ((now : Int) - (came : Int))) 2147483648000 (un : Int) HU2.out X)
  have CA3 := Lib.hid (fun X : World => rahead_any (1000 * (m1 : Int)) (came : Int) (max 0 ((came : Int) - 1000 * (m1 : Int))) (by omega) (by omega) rfl X)
  have CQ3 := Lib.hid (fun X : World => rleast_any (max 0 ((came : Int) - 1000 * (m1 : Int))) 2147483648000 (um : Int) HU3.out X)
  clear HU1 HU2 HU3 hc hnw
  have wa0 : IntKind.u64.wrap (1000 * (m1 : Int)) = 1000 * (m1 : Int) := wrap_u64 _ (by omega)
  have wa1 : IntKind.u64.wrap (1000 * (t : Int)) = 1000 * (t : Int) := wrap_u64 _ (by omega)
  have wa2 : IntKind.u64.wrap (1000 * (t : Int) + (ua : Int)) = 1000 * (t : Int) + (ua : Int) := wrap_u64 _ (by omega)
  generalize max 0 ((came : Int) - (asked : Int)) = v1 at *
  generalize max 0 ((now : Int) - (came : Int)) = v2 at *
  generalize max 0 ((came : Int) - 1000 * (m1 : Int)) = v3 at *
  cases m2
  · go_enter Tryz.func13, Tryz.ntmps13
    go_wp2_with fail
    refine CD.mono ?_
    rintro e w1 ⟨rfl, b1⟩
    have B1 := Lib.hid (B0.out.trans (b1.mono B0.out.size))
    have HX := Lib.hid (X0.out.below b1)
    clear b1 X0 B0 CD
    have d2 : Below w1.heap.size w1 w1.drew := below_drewN (Below.refl w1.heap.size w1) 1
    have BD : Hid (Below w.heap.size w w1.drew) := Lib.hid (B1.out.trans (d2.mono B1.out.size))
    have kd := EBox.cells (w := w) url asked came AW nw cw st rr mk A n c D l d (HX.out.below d2)
    have k2 := EBox.cells (w := w) url asked came AW nw cw st rr mk A n c D l d HX.out
    go_wp2_with fail
    go_region_held3 (fun w' => w'.cell? ⟨w.heap.size, 1, none⟩ = some (.int .u64 (asked : Int)) ∧ w'.cell? ⟨w.heap.size, 2, none⟩ = some (.int .u64 (came : Int)) ∧ w'.cell? ⟨w.heap.size, 4, none⟩ = some (.int .i64 st) ∧ w'.cell? ⟨w.heap.size, 5, none⟩ = some (.string rr) ∧ w'.cell? ⟨w.heap.size, 6, none⟩ = some (.int .i64 mk) ∧ w'.cell? ⟨w.heap.size, 7, none⟩ = some (.slice A n c) ∧ w'.cell? ⟨w.heap.size, 8, none⟩ = some (.slice D l d)) (first | (with_reducible exact k2) | (with_reducible exact kd) | (with_reducible exact k4) | go_keep)
      (first
        | (go_at_call 32; (with_reducible refine (CT.out w1.drew BD.out).mono ?_); rintro e w4 ⟨rfl, b4⟩; have b24 := d2.trans (b4.mono d2.size); have k4 := EBox.cells (w := w) url asked came AW nw cw st rr mk A n c D l d (HX.out.below b24); have B24 := Lib.hid b24; clear b4 b24)
        | (go_at_call 28; (with_reducible refine (CA1.out w1.drew).mono ?_); rintro e w5 ⟨rfl, rfl⟩)
        | (go_at_call 28; (with_reducible refine (CA1.out w4).mono ?_); rintro e w5 ⟨rfl, rfl⟩)
        | (go_at_call 26; (with_reducible refine (CQ1.out w1.drew).mono ?_); rintro e w5 ⟨rfl, rfl⟩)
        | (go_at_call 26; (with_reducible refine (CQ1.out w4).mono ?_); rintro e w5 ⟨rfl, rfl⟩))
    all_goals
      have B4 := Lib.hid (B1.out.trans (B24.out.mono B1.out.size))
      have HX4 := Lib.hid (HX.out.below B24.out)
      clear k2 kd k4 BD d2 B24 HX B1 CT CA1 CQ1
      have x1 := HX4.out.2.1
      have x2 := HX4.out.2.2.1
      by_cases hgt : 0 < 1000 * (t : Int) + (ua : Int)
      · have wz : IntKind.u64.wrap ((1000 * (t : Int) + (ua : Int)) + (un : Int)) = (1000 * (t : Int) + (ua : Int)) + (un : Int) := wrap_u64 _ (by omega)
        have hav : (av : Int) = min (((1000 * (t : Int) + (ua : Int)) + (un : Int)) / 1000) 2147483648 := by rw [HV.out, if_neg (by simp)]; unfold M31; omega
        have CE := fun X : World => rleast_any (((1000 * (t : Int) + (ua : Int)) + (un : Int)) / 1000) 2147483648 (av : Int) hav X
        have wv : IntKind.i64.wrap (av : Int) = (av : Int) := wrap_i64 _ (by omega)
        clear hav HV
        go_wp2_with fail
        refine (CA2.out _).mono ?_
        rintro e w6 ⟨rfl, rfl⟩
        go_wp2_with fail
        refine (CQ2.out _).mono ?_
        rintro e w6 ⟨rfl, rfl⟩
        go_wp2_with fail
        refine (CE _).mono ?_
        rintro e w6 ⟨rfl, rfl⟩
        go_wp2_with fail
        go_ret
        exact ⟨rfl, B4.out⟩
      · have wz : IntKind.u64.wrap (un : Int) = (un : Int) := wrap_u64 _ (by omega)
        have hav : (av : Int) = min ((un : Int) / 1000) 2147483648 := by rw [HV.out, if_neg (by simp)]; unfold M31; omega
        have CE := fun X : World => rleast_any ((un : Int) / 1000) 2147483648 (av : Int) hav X
        have wv : IntKind.i64.wrap (av : Int) = (av : Int) := wrap_i64 _ (by omega)
        clear hav HV
        go_wp2_with fail
        refine (CA2.out _).mono ?_
        rintro e w6 ⟨rfl, rfl⟩
        go_wp2_with fail
        refine (CQ2.out _).mono ?_
        rintro e w6 ⟨rfl, rfl⟩
        go_wp2_with fail
        refine (CE _).mono ?_
        rintro e w6 ⟨rfl, rfl⟩
        go_wp2_with fail
        go_ret
        exact ⟨rfl, B4.out⟩
  · go_enter Tryz.func13, Tryz.ntmps13
    go_wp2_with fail
    refine CD.mono ?_
    rintro e w1 ⟨rfl, b1⟩
    have B1 := Lib.hid (B0.out.trans (b1.mono B0.out.size))
    have HX := Lib.hid (X0.out.below b1)
    clear b1 X0 B0 CD
    have x1 := HX.out.2.1
    have x2 := HX.out.2.2.1
    go_wp2_with fail
    refine (CA3.out _).mono ?_
    rintro e w2 ⟨rfl, rfl⟩
    go_wp2_with fail
    refine (CQ3.out _).mono ?_
    rintro e w2 ⟨rfl, rfl⟩
    clear x1 x2
    have d2 : Below w1.heap.size w1 w1.drew := below_drewN (Below.refl w1.heap.size w1) 1
    have BD : Hid (Below w.heap.size w w1.drew) := Lib.hid (B1.out.trans (d2.mono B1.out.size))
    have kd := EBox.cells (w := w) url asked came AW nw cw st rr mk A n c D l d (HX.out.below d2)
    have k2 := EBox.cells (w := w) url asked came AW nw cw st rr mk A n c D l d HX.out
    go_wp2_with fail
    go_region_held3 (fun w' => w'.cell? ⟨w.heap.size, 1, none⟩ = some (.int .u64 (asked : Int)) ∧ w'.cell? ⟨w.heap.size, 2, none⟩ = some (.int .u64 (came : Int)) ∧ w'.cell? ⟨w.heap.size, 4, none⟩ = some (.int .i64 st) ∧ w'.cell? ⟨w.heap.size, 5, none⟩ = some (.string rr) ∧ w'.cell? ⟨w.heap.size, 6, none⟩ = some (.int .i64 mk) ∧ w'.cell? ⟨w.heap.size, 7, none⟩ = some (.slice A n c) ∧ w'.cell? ⟨w.heap.size, 8, none⟩ = some (.slice D l d)) (first | (with_reducible exact k2) | (with_reducible exact kd) | (with_reducible exact k4) | go_keep)
      (first
        | (go_at_call 32; (with_reducible refine (CT.out w1.drew BD.out).mono ?_); rintro e w4 ⟨rfl, b4⟩; have b24 := d2.trans (b4.mono d2.size); have k4 := EBox.cells (w := w) url asked came AW nw cw st rr mk A n c D l d (HX.out.below b24); have B24 := Lib.hid b24; clear b4 b24)
        | (go_at_call 28; (with_reducible refine (CA1.out w1.drew).mono ?_); rintro e w5 ⟨rfl, rfl⟩)
        | (go_at_call 28; (with_reducible refine (CA1.out w4).mono ?_); rintro e w5 ⟨rfl, rfl⟩)
        | (go_at_call 26; (with_reducible refine (CQ1.out w1.drew).mono ?_); rintro e w5 ⟨rfl, rfl⟩)
        | (go_at_call 26; (with_reducible refine (CQ1.out w4).mono ?_); rintro e w5 ⟨rfl, rfl⟩))
    all_goals
      have B4 := Lib.hid (B1.out.trans (B24.out.mono B1.out.size))
      have HX4 := Lib.hid (HX.out.below B24.out)
      clear k2 kd k4 BD d2 B24 HX B1 CT CA1 CQ1
      have x1 := HX4.out.2.1
      have x2 := HX4.out.2.2.1
      by_cases hgt : (um : Int) < 1000 * (t : Int) + (ua : Int)
      · have wz : IntKind.u64.wrap ((1000 * (t : Int) + (ua : Int)) + (un : Int)) = (1000 * (t : Int) + (ua : Int)) + (un : Int) := wrap_u64 _ (by omega)
        have hav : (av : Int) = min (((1000 * (t : Int) + (ua : Int)) + (un : Int)) / 1000) 2147483648 := by rw [HV.out, if_pos trivial]; unfold M31; omega
        have CE := fun X : World => rleast_any (((1000 * (t : Int) + (ua : Int)) + (un : Int)) / 1000) 2147483648 (av : Int) hav X
        have wv : IntKind.i64.wrap (av : Int) = (av : Int) := wrap_i64 _ (by omega)
        clear hav HV
        go_wp2_with fail
        refine (CA2.out _).mono ?_
        rintro e w6 ⟨rfl, rfl⟩
        go_wp2_with fail
        refine (CQ2.out _).mono ?_
        rintro e w6 ⟨rfl, rfl⟩
        go_wp2_with fail
        refine (CE _).mono ?_
        rintro e w6 ⟨rfl, rfl⟩
        go_wp2_with fail
        go_ret
        exact ⟨rfl, B4.out⟩
      · have wz : IntKind.u64.wrap ((um : Int) + (un : Int)) = (um : Int) + (un : Int) := wrap_u64 _ (by omega)
        have hav : (av : Int) = min (((um : Int) + (un : Int)) / 1000) 2147483648 := by rw [HV.out, if_pos trivial]; unfold M31; omega
        have CE := fun X : World => rleast_any (((um : Int) + (un : Int)) / 1000) 2147483648 (av : Int) hav X
        have wv : IntKind.i64.wrap (av : Int) = (av : Int) := wrap_i64 _ (by omega)
        clear hav HV
        go_wp2_with fail
        refine (CA2.out _).mono ?_
        rintro e w6 ⟨rfl, rfl⟩
        go_wp2_with fail
        refine (CQ2.out _).mono ?_
        rintro e w6 ⟨rfl, rfl⟩
        go_wp2_with fail
        refine (CE _).mono ?_
        rintro e w6 ⟨rfl, rfl⟩
        go_wp2_with fail
        go_ret
        exact ⟨rfl, B4.out⟩

set_option maxHeartbeats 8000000 in
set_option maxRecDepth 100000 in
theorem rfresh_any {P : Nat → Prop} (w : World) (url : ByteArray) (asked came : Nat) (AW : Option Addr) (nw cw : Nat) (st : Int) (rr : ByteArray) (mk : Int) (A : Option Addr) (n c : Nat) (D : Option Addr) (l d : Nat) (now : Nat) (ls : List Fld) (hn : ls.length = n) (hb : bulkF ls ≤ 1000000000) (h : SrcF w P A ls) (hc : came < 18446744073709551616) (hnw : now < 18446744073709551616) :
    Calls Tryz.prog 15 #[(.agg #[.string url, .int .u64 (asked : Int), .int .u64 (came : Int), .slice AW nw cw, .int .i64 st, .string rr, .int .i64 mk, .slice A n c, .slice D l d]), .int .u64 (now : Int)] w fun e w' => e = .returned (.bool (freshB st ls asked came now)) ∧ Below w.heap.size w w' := by
  have hb0 : Below w.heap.size w (w.alloc (.cells #[.string url, .int .u64 (asked : Int), .int .u64 (came : Int), .slice AW nw cw, .int .i64 st, .string rr, .int .i64 mk, .slice A n c, .slice D l d] 28)) := (Below.refl _ _).alloc (Nat.le_refl _) _
  have CL := Lib.hid (rlife_any (w.alloc (.cells #[.string url, .int .u64 (asked : Int), .int .u64 (came : Int), .slice AW nw cw, .int .i64 st, .string rr, .int .i64 mk, .slice A n c, .slice D l d] 28)) st rr mk A n c D l d ls hn hb (h.below hb0))
  have CA := Lib.hid (fun X (hX : Below w.heap.size w X) => rage_any X url asked came AW nw cw st rr mk A n c D l d now ls hn hb (h.below hX) hc hnw)
  have HF : Hid (freshB st ls asked came now = decide ((ageF ls asked came now : Int) < (lifeF st ls).1)) := Lib.hid rfl
  unfold LifeTold at CL
  have X0 := Lib.hid (EBox.made w 28 url asked came AW nw cw st rr mk A n c D l d)
  have B0 := Lib.hid hb0
  clear hn hb h hb0 hc hnw
  generalize lifeF st ls = q at *
  obtain ⟨q1, q2⟩ := q
  generalize ageF ls asked came now = a at *
  rw [HF.out]
  clear HF
  simp only at CL ⊢
  obtain ⟨q, hq⟩ : ∃ q, decide ((a : Int) < q1) = q := ⟨_, rfl⟩
  rw [hq]
  go_enter Tryz.func15, Tryz.ntmps15
  go_wp2_with fail
  refine CL.out.mono ?_
  rintro e w1 ⟨rfl, b1⟩
  have B1 := Lib.hid (B0.out.trans (b1.mono B0.out.size))
  obtain ⟨x0, x1, x2, x3, x4, x5, x6, x7, x8⟩ := X0.out.below b1
  clear b1 X0 B0 CL
  go_wp2_with fail
  refine (CA.out _ B1.out).mono ?_
  rintro e w2 ⟨rfl, b2⟩
  have B2 := Lib.hid (B1.out.trans (b2.mono B1.out.size))
  clear b2 CA
  go_wp2_with fail
  go_ret
  exact ⟨rfl, B2.out⟩
end Go.Proofs.YtdcbcjljmjnopaaGreatDoor.Fre

namespace Go.Proofs.YtdcbcjljmjnopaaGreatDoor.Fre
open Go.RowKit Hop Con

set_option maxHeartbeats 16000000 in
set_option maxRecDepth 100000 in
theorem tells_law {P : Nat → Prop} (w0 : World) (url : ByteArray) (asked came : Nat) (AW : Option Addr) (nw cw : Nat) (st : Int) (rr : ByteArray) (mk : Int) (A : Option Addr) (n c : Nat) (D : Option Addr) (l d : Nat) (now : Nat) (ls : List Fld) (hn : ls.length = n) (hb : bulkF ls ≤ 1000000000) (h : SrcF w0 P A ls) (ht : DTabs w0) (hc : came < 18446744073709551616) (hnw : now < 18446744073709551616) :
    Calls Tryz.prog 3 #[(.agg #[.string url, .int .u64 (asked : Int), .int .u64 (came : Int), .slice AW nw cw, .int .i64 st, .string rr, .int .i64 mk, .slice A n c, .slice D l d]), .int .u64 (now : Int)] w0 fun e w' => e = .returned (.bool true) ∧ Below w0.heap.size w0 w' := by
  have hb0 : Below w0.heap.size w0 (w0.alloc (.cells #[.string url, .int .u64 (asked : Int), .int .u64 (came : Int), .slice AW nw cw, .int .i64 st, .string rr, .int .i64 mk, .slice A n c, .slice D l d] 28)) := (Below.refl _ _).alloc (Nat.le_refl _) _
  have CD := Lib.hid (fun X (hX : Below w0.heap.size w0 X) => date_any X st rr mk A n c D l d ls hn hb (h.below hX) (ht.below hX))
  have CD2 := Lib.hid (fun X (hX : Below w0.heap.size w0 X) => rdate_any X st rr mk A n c D l d ls hn hb (h.below hX))
  have CL := Lib.hid (fun X (hX : Below w0.heap.size w0 X) => life_any X st rr mk A n c D l d ls hn hb (h.below hX) (ht.below hX))
  have CL2 := Lib.hid (fun X (hX : Below w0.heap.size w0 X) => rlife_any X st rr mk A n c D l d ls hn hb (h.below hX))
  have CA := Lib.hid (fun X (hX : Below w0.heap.size w0 X) => age_any X url asked came AW nw cw st rr mk A n c D l d now ls hn hb (h.below hX) (ht.below hX) hc hnw)
  have CA2 := Lib.hid (fun X (hX : Below w0.heap.size w0 X) => rage_any X url asked came AW nw cw st rr mk A n c D l d now ls hn hb (h.below hX) hc hnw)
  have CF := Lib.hid (fun X (hX : Below w0.heap.size w0 X) => fresh_any X url asked came AW nw cw st rr mk A n c D l d now ls hn hb (h.below hX) (ht.below hX) hc hnw)
  have CF2 := Lib.hid (fun X (hX : Below w0.heap.size w0 X) => rfresh_any X url asked came AW nw cw st rr mk A n c D l d now ls hn hb (h.below hX) hc hnw)
  have CW := Lib.hid (fun X (hX : Below w0.heap.size w0 X) => awake_any X (ht.below hX))
  unfold MomentTold at CD CD2
  unfold LifeTold at CL CL2
  have X0 := Lib.hid (EBox.made w0 28 url asked came AW nw cw st rr mk A n c D l d)
  have B0 := Lib.hid hb0
  clear hn hb h ht hb0 hc hnw
  generalize momentF ls dateN = m at *
  generalize lifeF st ls = q at *
  generalize ageF ls asked came now = a at *
  generalize freshB st ls asked came now = f at *
  obtain ⟨m1, m2⟩ := m
  obtain ⟨q1, q2⟩ := q
  simp only at CD CD2 CL CL2
  have e1 : ((m1 : Int) == (m1 : Int)) = true := by simp
  have e2 : (m2 == m2) = true := by simp
  have e3 : (q1 == q1) = true := by simp
  have e4 : (q2 == q2) = true := by simp
  have e5 : ((a : Int) == (a : Int)) = true := by simp
  have e6 : (f == f) = true := by simp
  go_enter Tryz.func3, Tryz.ntmps3
  go_wp2_with fail
  refine (CD.out _ B0.out).mono ?_
  rintro e w1 ⟨rfl, b⟩
  have B1 := Lib.hid (B0.out.trans (b.mono B0.out.size))
  have X1 := Lib.hid (X0.out.below b)
  clear b CD B0 X0
  obtain ⟨x0, x1, x2, x3, x4, x5, x6, x7, x8⟩ := X1.out
  go_wp2_with fail
  clear x0 x1 x2 x3 x4 x5 x6 x7 x8
  refine (CD2.out _ B1.out).mono ?_
  rintro e w2 ⟨rfl, b⟩
  have B2 := Lib.hid (B1.out.trans (b.mono B1.out.size))
  have X2 := Lib.hid (X1.out.below b)
  clear b CD2 B1 X1
  obtain ⟨x0, x1, x2, x3, x4, x5, x6, x7, x8⟩ := X2.out
  go_wp2_with fail
  clear x0 x1 x2 x3 x4 x5 x6 x7 x8
  refine (CL.out _ B2.out).mono ?_
  rintro e w3 ⟨rfl, b⟩
  have B3 := Lib.hid (B2.out.trans (b.mono B2.out.size))
  have X3 := Lib.hid (X2.out.below b)
  clear b CL B2 X2
  obtain ⟨x0, x1, x2, x3, x4, x5, x6, x7, x8⟩ := X3.out
  go_wp2_with fail
  clear x0 x1 x2 x3 x4 x5 x6 x7 x8
  refine (CL2.out _ B3.out).mono ?_
  rintro e w4 ⟨rfl, b⟩
  have B4 := Lib.hid (B3.out.trans (b.mono B3.out.size))
  have X4 := Lib.hid (X3.out.below b)
  clear b CL2 B3 X3
  have d0 : Below w4.heap.size w4 w4.drew := below_drewN (Below.refl w4.heap.size w4) 1
  have KK : ∀ W : World, Below w4.heap.size w4 W → W.cell? ⟨w0.heap.size, 0, none⟩ = some (.string url) ∧ W.cell? ⟨w0.heap.size, 1, none⟩ = some (.int .u64 (asked : Int)) ∧ W.cell? ⟨w0.heap.size, 2, none⟩ = some (.int .u64 (came : Int)) ∧ W.cell? ⟨w0.heap.size, 3, none⟩ = some (.slice AW nw cw) ∧ W.cell? ⟨w0.heap.size, 4, none⟩ = some (.int .i64 st) ∧ W.cell? ⟨w0.heap.size, 5, none⟩ = some (.string rr) ∧ W.cell? ⟨w0.heap.size, 6, none⟩ = some (.int .i64 mk) ∧ W.cell? ⟨w0.heap.size, 7, none⟩ = some (.slice A n c) ∧ W.cell? ⟨w0.heap.size, 8, none⟩ = some (.slice D l d) := fun W hW => X4.out.below hW
  have kw := KK _ (Below.refl _ _)
  have k0 := KK _ d0
  have BB := Lib.hid (fun (W : World) (hW : Below w4.heap.size w4 W) => B4.out.trans (hW.mono B4.out.size))
  go_upto_region 1 with fail
  go_region_held3 (fun w' => w'.cell? ⟨w0.heap.size, 0, none⟩ = some (.string url) ∧ w'.cell? ⟨w0.heap.size, 1, none⟩ = some (.int .u64 (asked : Int)) ∧ w'.cell? ⟨w0.heap.size, 2, none⟩ = some (.int .u64 (came : Int)) ∧ w'.cell? ⟨w0.heap.size, 3, none⟩ = some (.slice AW nw cw) ∧ w'.cell? ⟨w0.heap.size, 4, none⟩ = some (.int .i64 st) ∧ w'.cell? ⟨w0.heap.size, 5, none⟩ = some (.string rr) ∧ w'.cell? ⟨w0.heap.size, 6, none⟩ = some (.int .i64 mk) ∧ w'.cell? ⟨w0.heap.size, 7, none⟩ = some (.slice A n c) ∧ w'.cell? ⟨w0.heap.size, 8, none⟩ = some (.slice D l d)) (first | (with_reducible exact kw) | (with_reducible exact k0) | (with_reducible exact kA) | (with_reducible exact kB) | (with_reducible exact kC) | (with_reducible exact kD) | (with_reducible exact kE) | go_keep)
    (first
      | (go_at_call 11; (with_reducible refine (CW.out w4.drew (BB.out _ d0)).mono ?_); rintro e wA ⟨rfl, b⟩; have dA := d0.trans (b.mono d0.size); have kA := KK _ dA; clear b)
      | (go_at_call 12; (with_reducible refine (CA.out wA (BB.out _ dA)).mono ?_); rintro e wB ⟨rfl, b⟩; have dB := dA.trans (b.mono dA.size); have kB := KK _ dB; clear b)
      | (go_at_call 13; (with_reducible refine (CA2.out wB (BB.out _ dB)).mono ?_); rintro e wC ⟨rfl, b⟩; have dC := dB.trans (b.mono dB.size); have kC := KK _ dC; clear b)
      | (go_at_call 14; (with_reducible refine (CF.out wC (BB.out _ dC)).mono ?_); rintro e wD ⟨rfl, b⟩; have dD := dC.trans (b.mono dC.size); have kD := KK _ dD; clear b)
      | (go_at_call 15; (with_reducible refine (CF2.out wD (BB.out _ dD)).mono ?_); rintro e wE ⟨rfl, b⟩; have dE := dD.trans (b.mono dD.size); have kE := KK _ dE; clear b))
  all_goals
    go_wp2_with fail
    go_ret
    exact ⟨rfl, BB.out _ dE⟩
end Go.Proofs.YtdcbcjljmjnopaaGreatDoor.Fre
