/-
  The document's own Lifetime.
  Conditions: the list holds at most 1000000000 bytes.
-/
import Derived.Test.YtdcbcjljmjnopaaGreatDoorJR
import Derived.Test.YtdcbcjljmjnopaaGreatDoorJE
namespace Go.Proofs.YtdcbcjljmjnopaaGreatDoor.Fre
open Go.RowKit Hop Con

set_option maxHeartbeats 16000000 in
set_option maxRecDepth 100000 in
theorem rlife_any {P : Nat → Prop} (w : World) (st : Int) (rr : ByteArray) (mk : Int) (A : Option Addr) (n c : Nat) (D : Option Addr) (l d : Nat) (ls : List Fld) (hn : ls.length = n) (hb : bulkF ls ≤ 1000000000) (h : SrcF w P A ls) :
    Calls Tryz.prog 10 #[(.agg #[.int .i64 st, .string rr, .int .i64 mk, .slice A n c, .slice D l d])] w (LifeTold (lifeF st ls) w) := by
  have hb0 : Below w.heap.size w (w.alloc (.cells #[.int .i64 st, .string rr, .int .i64 mk, .slice A n c, .slice D l d] 26)) := (Below.refl _ _).alloc (Nat.le_refl _) _
  have C := rresponse_any (w.alloc (.cells #[.int .i64 st, .string rr, .int .i64 mk, .slice A n c, .slice D l d] 26)) A ls n c hn hb (h.below hb0)
  have hr := res_range ls
  have hlen := bulk_len ls
  have CD := Lib.hid (fun X (hX : Below w.heap.size w X) => rdate_any X st rr mk A n c D l d ls hn hb (h.below hX))
  have CF := Lib.hid (fun X (hX : Below w.heap.size w X) => rfields_any X st rr mk A n c D l d ls hn hb (h.below hX) ⟨#[101, 120, 112, 105, 114, 101, 115]⟩ (by decide))
  have CM := Lib.hid (fun X (hX : Below w.heap.size w X) => rmoment_any X st rr mk A n c D l d ls hn hb (h.below hX) ⟨#[101, 120, 112, 105, 114, 101, 115]⟩ (by decide))
  have CY := Lib.hid (fun X (hX : Below w.heap.size w X) => rmoment_any X st rr mk A n c D l d ls hn hb (h.below hX) ⟨#[108, 97, 115, 116, 45, 109, 111, 100, 105, 102, 105, 101, 100]⟩ (by decide))
  rw [show bl ⟨#[101, 120, 112, 105, 114, 101, 115]⟩ = expN from rfl] at CF CM
  rw [show bl ⟨#[108, 97, 115, 116, 45, 109, 111, 100, 105, 102, 105, 101, 100]⟩ = chgN from rfl] at CY
  have CL := Lib.hid (fun X : World => rlasting_any st X)
  have HL : Hid (lifeF st ls = if 0 ≤ (responseF ls).sh then ((responseF ls).sh, true) else if 0 ≤ (responseF ls).ma then ((responseF ls).ma, true)
    else if 0 < (getF ls expN).length then (((min (spanF ls dateN expN) M31 : Nat) : Int), true) else if livesB st = true then (((min (spanF ls chgN dateN / 10) 86400 : Nat) : Int), false) else (0, false)) := Lib.hid rfl
  have HS1 : Hid (spanF ls dateN expN = if (momentF ls dateN).2 = true ∧ (momentF ls expN).2 = true then untilF (momentF ls dateN).1 (momentF ls expN).1 else 0) := Lib.hid rfl
  have HS2 : Hid (spanF ls chgN dateN = if (momentF ls chgN).2 = true ∧ (momentF ls dateN).2 = true then untilF (momentF ls chgN).1 (momentF ls dateN).1 else 0) := Lib.hid rfl
  have l1 := moment_le ls dateN
  have l2 := moment_le ls expN
  have l3 := moment_le ls chgN
  have l4 := get_len ls expN
  have l5 : (getF ls expN).length ≤ 1000000000 := by omega
  unfold LastN at l1 l2 l3
  have B0 := Lib.hid hb0
  have HX0 := Lib.hid (RBox.made w 26 st rr mk A n c D l d)
  clear hn hb h hb0 hlen l4
  unfold LifeTold MomentTold GotS at *
  generalize getF ls expN = gl at *
  generalize spanF ls dateN expN = s1 at *
  generalize spanF ls chgN dateN = s2 at *
  generalize livesB st = lv at *
  generalize momentF ls dateN = a at *
  generalize momentF ls expN = x at *
  generalize momentF ls chgN = y at *
  obtain ⟨a1, a2⟩ := a
  obtain ⟨e1, e2⟩ := x
  obtain ⟨y1, y2⟩ := y
  generalize responseF ls = cc at *
  obtain ⟨ns, nc, pv, pb, mu, on, ma, sh, mf, ms⟩ := cc
  unfold Ctl.v Ctl.cells at C
  simp only at C hr HL HS1 HS2 l1 l2 l3 CD CM CY
  by_cases h1 : 0 ≤ sh
  · have HR := Lib.hid (HL.out.trans (if_pos h1))
    clear HL HS1 HS2 CD CF CM CY CL
    go_enter Tryz.func10, Tryz.ntmps10
    go_wp2_with fail
    refine C.mono ?_
    rintro e w1 ⟨rfl, b1⟩
    have b2 : Below w.heap.size w (w1.alloc (.cells #[.bool ns, .bool nc, .bool pv, .bool pb, .bool mu, .bool on, .int .i64 ma, .int .i64 sh, .int .i64 mf, .int .i64 ms] 53)) := (B0.out.trans (b1.mono B0.out.size)).alloc (B0.out.trans (b1.mono B0.out.size)).size _
    have B2 := Lib.hid b2
    have hx := HX0.out.below ((b1.mono (Nat.le_refl _)).alloc (by exact b1.size) (.cells #[.bool ns, .bool nc, .bool pv, .bool pb, .bool mu, .bool on, .int .i64 ma, .int .i64 sh, .int .i64 mf, .int .i64 ms] 53))
    obtain ⟨x0, x1, x2, x3, x4⟩ := hx
    clear b1 b2 C B0 HX0
    have CQ := fun X : World => rleast_any sh 2147483648 sh (by omega) X
    have wq1 : IntKind.u64.wrap sh = sh := wrap_u64 _ (by omega)
    have wq2 : IntKind.i64.wrap sh = sh := wrap_i64 _ (by omega)
    go_wp2_with fail
    refine (CQ _).mono ?_
    rintro e w2 ⟨rfl, rfl⟩
    go_wp2_with fail
    go_ret2
    exact ⟨by rw [HR.out]; rfl, B2.out⟩
  · have hl1 := HL.out.trans (if_neg h1)
    by_cases h2 : 0 ≤ ma
    · have HR := Lib.hid (hl1.trans (if_pos h2))
      clear HL HS1 HS2 CD CF CM CY CL hl1
      go_enter Tryz.func10, Tryz.ntmps10
      go_wp2_with fail
      refine C.mono ?_
      rintro e w1 ⟨rfl, b1⟩
      have b2 : Below w.heap.size w (w1.alloc (.cells #[.bool ns, .bool nc, .bool pv, .bool pb, .bool mu, .bool on, .int .i64 ma, .int .i64 sh, .int .i64 mf, .int .i64 ms] 53)) := (B0.out.trans (b1.mono B0.out.size)).alloc (B0.out.trans (b1.mono B0.out.size)).size _
      have B2 := Lib.hid b2
      have hx := HX0.out.below ((b1.mono (Nat.le_refl _)).alloc (by exact b1.size) (.cells #[.bool ns, .bool nc, .bool pv, .bool pb, .bool mu, .bool on, .int .i64 ma, .int .i64 sh, .int .i64 mf, .int .i64 ms] 53))
      obtain ⟨x0, x1, x2, x3, x4⟩ := hx
      clear b1 b2 C B0 HX0
      have CQ := fun X : World => rleast_any ma 2147483648 ma (by omega) X
      have wq1 : IntKind.u64.wrap ma = ma := wrap_u64 _ (by omega)
      have wq2 : IntKind.i64.wrap ma = ma := wrap_i64 _ (by omega)
      go_wp2_with fail
      refine (CQ _).mono ?_
      rintro e w2 ⟨rfl, rfl⟩
      go_wp2_with fail
      go_ret2
      exact ⟨by rw [HR.out]; rfl, B2.out⟩
    · have HL2 := Lib.hid (hl1.trans (if_neg h2))
      clear HL hl1
      go_enter Tryz.func10, Tryz.ntmps10
      go_wp2_with fail
      refine C.mono ?_
      rintro e w1 ⟨rfl, b1⟩
      have b2 : Below w.heap.size w (w1.alloc (.cells #[.bool ns, .bool nc, .bool pv, .bool pb, .bool mu, .bool on, .int .i64 ma, .int .i64 sh, .int .i64 mf, .int .i64 ms] 53)) := (B0.out.trans (b1.mono B0.out.size)).alloc (B0.out.trans (b1.mono B0.out.size)).size _
      have B2 := Lib.hid b2
      have hx := HX0.out.below ((b1.mono (Nat.le_refl _)).alloc (by exact b1.size) (.cells #[.bool ns, .bool nc, .bool pv, .bool pb, .bool mu, .bool on, .int .i64 ma, .int .i64 sh, .int .i64 mf, .int .i64 ms] 53))
      obtain ⟨x0, x1, x2, x3, x4⟩ := hx
      clear b1 b2 C B0 HX0
      go_wp2_with fail
      refine (CD.out _ B2.out).mono ?_
      rintro e w2 ⟨rfl, b3⟩
      have B3 := Lib.hid (B2.out.trans (b3.mono B2.out.size))
      have hx : RBox w2 w.heap.size st rr mk A n c D l d := RBox.below ⟨x0, x1, x2, x3, x4⟩ b3
      clear x0 x1 x2 x3 x4
      obtain ⟨x0, x1, x2, x3, x4⟩ := hx
      clear b3 CD B2
      go_wp2_with fail
      refine (CF.out _ B3.out).mono ?_
      rintro e w3 ⟨v, o, rfl, own, _, b4⟩
      obtain ⟨A2, c2, hv, _⟩ := own.src (fun _ => True) (fun _ _ => trivial)
      subst hv
      have B4 := Lib.hid (B3.out.trans (b4.mono B3.out.size))
      have hx : RBox w3 w.heap.size st rr mk A n c D l d := RBox.below ⟨x0, x1, x2, x3, x4⟩ b4
      clear x0 x1 x2 x3 x4
      obtain ⟨x0, x1, x2, x3, x4⟩ := hx
      clear own b4 CF B3
      generalize gl.length = m at *
      by_cases hm : 0 < m
      · have HR := Lib.hid (HL2.out.trans (if_pos hm))
        clear HL2 HS2 CY CL
        go_wp2_with fail
        refine (CM.out _ B4.out).mono ?_
        rintro e w4 ⟨rfl, b5⟩
        have B5 := Lib.hid (B4.out.trans (b5.mono B4.out.size))
        clear b5 CM B4
        cases e2 <;> cases a2
        case true.true =>
          have CA := fun X : World => rahead_any (a1 : Int) (e1 : Int) ((e1 - a1 : Nat) : Int) (by omega) (by omega) (by omega) X
          have CQ := fun X : World => rleast_any ((e1 - a1 : Nat) : Int) 2147483648 ((min (e1 - a1) M31 : Nat) : Int) (by unfold M31; omega) X
          have hv : min s1 M31 = min (e1 - a1) M31 := by rw [HS1.out, if_pos ⟨rfl, rfl⟩]; unfold untilF M31 MS; omega
          have hle : min (e1 - a1) M31 ≤ 2147483648 := by unfold M31; omega
          have HV := Lib.hid hv
          clear hv HS1
          generalize min (e1 - a1) M31 = r at *
          have wq : IntKind.i64.wrap (r : Int) = (r : Int) := wrap_i64 _ (by omega)
          go_wp2_with fail
          refine (CA _).mono ?_
          rintro e w5 ⟨rfl, rfl⟩
          go_wp2_with fail
          refine (CQ _).mono ?_
          rintro e w5 ⟨rfl, rfl⟩
          go_wp2_with fail
          go_ret2
          exact ⟨by rw [HR.out]; simp only [HV.out]; rfl, B5.out⟩
        all_goals
          have HV : Hid (min s1 M31 = 0) := Lib.hid (by rw [HS1.out, if_neg (by simp)]; exact Nat.zero_min _)
          go_wp2_with fail
          go_ret2
          exact ⟨by rw [HR.out]; simp only [HV.out]; rfl, B5.out⟩
      · have hl3 := HL2.out.trans (if_neg hm)
        have HL3 := Lib.hid hl3
        clear HL2 HS1 CM hl3
        go_wp2_with fail
        refine (CY.out _ B4.out).mono ?_
        rintro e w4 ⟨rfl, b5⟩
        have B5 := Lib.hid (B4.out.trans (b5.mono B4.out.size))
        have hx : RBox w4 w.heap.size st rr mk A n c D l d := RBox.below ⟨x0, x1, x2, x3, x4⟩ b5
        clear x0 x1 x2 x3 x4
        obtain ⟨x0, x1, x2, x3, x4⟩ := hx
        clear b5 CY B4
        cases y2 <;> cases a2
        case true.true =>
          by_cases hle : y1 ≤ a1
          · cases lv
            · have HR := Lib.hid (HL3.out.trans (if_neg (by simp)))
              go_wp2_with fail
              refine (CL.out _).mono ?_
              rintro e w5 ⟨rfl, rfl⟩
              go_wp2_with fail
              go_ret2
              exact ⟨by rw [HR.out]; rfl, B5.out⟩
            · have HR := Lib.hid (HL3.out.trans (if_pos rfl))
              have ws : IntKind.u64.wrap ((a1 : Int) - (y1 : Int)) = (a1 : Int) - (y1 : Int) := wrap_u64 _ (by omega)
              have CQ := fun X : World => rleast_any (((a1 : Int) - (y1 : Int)) / 10) 86400 ((min ((a1 - y1) / 10) 86400 : Nat) : Int) (by omega) X
              have hv : min (s2 / 10) 86400 = min ((a1 - y1) / 10) 86400 := by rw [HS2.out, if_pos ⟨rfl, rfl⟩]; unfold untilF MS; omega
              have hle2 : min ((a1 - y1) / 10) 86400 ≤ 86400 := by omega
              have HV := Lib.hid hv
              clear hv HS2
              generalize min ((a1 - y1) / 10) 86400 = r at *
              have wq : IntKind.i64.wrap (r : Int) = (r : Int) := wrap_i64 _ (by omega)
              go_wp2_with fail
              refine (CL.out _).mono ?_
              rintro e w5 ⟨rfl, rfl⟩
              go_wp2_with fail
              refine (CQ _).mono ?_
              rintro e w5 ⟨rfl, rfl⟩
              go_wp2_with fail
              go_ret2
              exact ⟨by rw [HR.out]; simp only [HV.out]; rfl, B5.out⟩
          · have HV : Hid ((if lv = true then (((min (s2 / 10) 86400 : Nat) : Int), false) else (0, false)) = ((0 : Int), false)) := Lib.hid (by
              have : s2 = 0 := by rw [HS2.out, if_pos ⟨rfl, rfl⟩]; unfold untilF; omega
              rw [this]
              cases lv <;> rfl)
            go_wp2_with fail
            go_ret2
            exact ⟨by rw [HL3.out, HV.out]; rfl, B5.out⟩
        all_goals
          have HV : Hid ((if lv = true then (((min (s2 / 10) 86400 : Nat) : Int), false) else (0, false)) = ((0 : Int), false)) := Lib.hid (by
            have : s2 = 0 := by rw [HS2.out, if_neg (by simp)]
            rw [this]
            cases lv <;> rfl)
          go_wp2_with fail
          go_ret2
          exact ⟨by rw [HL3.out, HV.out]; rfl, B5.out⟩
end Go.Proofs.YtdcbcjljmjnopaaGreatDoor.Fre
