/-
  Package fresh's Date and Lifetime.
  Conditions: the list holds at most 1000000000 bytes, or few elements of Cache-Control that say how long it lives.
-/
import Derived.Test.YtdcbcjljmjnopaaGreatDoorJA
import Derived.Test.YtdcbcjljmjnopaaGreatDoorEI
import Derived.Test.YtdcbcjljmjnopaaGreatDoorNC
namespace Go.Proofs.YtdcbcjljmjnopaaGreatDoor.Fre
open Go.RowKit Hop Con

theorem until_fn (n : Nat) (w : World) : Calls Tryz.prog 30 #[.int .u64 (n : Int)] w fun e w' => ∃ p, e = .returned (.func (.func 48) #[] #[.pointer (some p)]) ∧ Below w.heap.size w w' ∧ w'.cell? p = some (.int .u64 (n : Int)) := by
  go_enter Tryz.func30, Tryz.ntmps30
  go_wp2_with fail
  go_ret
  exact ⟨_, rfl, (Below.refl _ _).alloc (Nat.le_refl _) _, by rw [World.cell?_alloc_new]; rfl⟩

theorem until_any (b n : Nat) (hn : n < 18446744073709551616) (p : Addr) (w : World) (hp : w.cell? p = some (.int .u64 (n : Int))) :
    Calls Tryz.prog 48 #[.int .u64 (b : Int), .pointer (some p)] w (Same (.int .u64 (untilF b n : Nat)) w) := by
  have w1 : IntKind.u64.wrap ((n : Int) - min (b : Int) (n : Int)) = ((n - b : Nat) : Int) := by rw [wrap_u64 _ (by omega)]; omega
  go_enter Tryz.func48, Tryz.ntmps48
  go_wp2_with fail
  go_ret
  exact ⟨by rw [show ((untilF b n : Nat) : Int) = min ((n - b : Nat) : Int) 2147483648000 by unfold untilF MS; omega]; rfl, rfl⟩

theorem sole_other (l : List (List UInt8)) (h : ¬ l.length = 1) : soleF l = [] := by
  match l, h with
  | [], _ => rfl
  | [x], h => exact absurd rfl h
  | x :: y :: r, _ => rfl

set_option maxHeartbeats 4000000 in
theorem one_any {P : Nat → Prop} (w : World) (A : Option Addr) (ls : List Fld) (n c : Nat) (hn : ls.length = n) (hb : bulkF ls ≤ 1000000000) (h : SrcF w P A ls) (nm : ByteArray) :
    Calls Tryz.prog 34 #[.slice A n c, .string nm] w fun e w' => e = .returned (.string ⟨(oneF ls (bl nm)).toArray⟩) ∧ Below w.heap.size w w' := by
  have hlen := bulk_len ls
  have CG := get_any w A ls n c hn (by omega) h (slim_bulk hb) nm
  unfold GotS at CG
  have hg := get_len ls (bl nm)
  have hgl : (getF ls (bl nm)).length ≤ 1000000000 := by omega
  rw [show oneF ls (bl nm) = soleF (getF ls (bl nm)) from rfl]
  clear hn hb h hlen hg
  generalize getF ls (bl nm) = gl at *
  go_enter Tryz.func34, Tryz.ntmps34
  go_wp2_with fail
  refine CG.mono ?_
  rintro e w1 ⟨v1, o1, rfl, own1, _, b1⟩
  obtain ⟨A1, c1, hv1, src1⟩ := own1.src (fun _ => True) (fun _ _ => trivial)
  subst hv1
  have B1 := Lib.hid b1
  clear own1 b1 CG
  by_cases h1 : gl.length = 1
  · obtain ⟨x, rfl⟩ := List.length_eq_one_iff.1 h1
    obtain ⟨p, x', hx, hat, y0, _, _⟩ := src1.at (c := c1) (k := 0) (n := 1) rfl (by decide) (Below.refl _ _)
    obtain rfl : x = x' := Option.some.inj hx
    have hat' : ∀ Wx, (Instr.indexAt 48 (.slice A1 1 c1) (.int .i64 0)).run Tryz.prog Wx = .ok (.pointer (some p)) Wx := hat
    clear hx hat src1 h1 hgl
    rw [show ([x] : List (List UInt8)).length = 1 from rfl]
    go_wp2_with fail
    go_ret
    exact ⟨rfl, B1.out⟩
  · have HS := Lib.hid (sole_other gl h1)
    clear src1
    generalize gl.length = m at *
    have hne : ((m : Int) == 1) = false := beq_eq_false_iff_ne.2 (by omega)
    go_wp2_with fail
    go_ret
    exact ⟨by rw [HS.out]; rfl, B1.out⟩

def MomentTold (p : Nat × Bool) (w : World) (e : Ending) (w' : World) : Prop := e = .returned (.tuple #[.int .u64 (p.1 : Int), .bool p.2]) ∧ Below w.heap.size w w'
set_option maxHeartbeats 4000000 in
theorem moment_any {P : Nat → Prop} (w : World) (A : Option Addr) (ls : List Fld) (n c : Nat) (hn : ls.length = n) (hb : bulkF ls ≤ 1000000000) (h : SrcF w P A ls) (ht : DTabs w) (nm : ByteArray) :
    Calls Tryz.prog 19 #[.slice A n c, .string nm] w (MomentTold (momentF ls (bl nm)) w) := by
  have C1 := one_any w A ls n c hn hb h nm
  have HM := Lib.hid (show momentF ls (bl nm) = ((sayM (oneF ls (bl nm))).1, (sayM (oneF ls (bl nm))).2 == 0) from rfl)
  have hs := sayM_cases (oneF ls (bl nm))
  have C2 := Lib.hid (fun X (hX : Below w.heap.size w X) => parse_any ⟨(oneF ls (bl nm)).toArray⟩ X (ht.below hX))
  unfold ParseTold at C2
  rw [show parseF ⟨(oneF ls (bl nm)).toArray⟩ = sayM (oneF ls (bl nm)) from rfl] at C2
  clear hn hb h ht
  generalize oneF ls (bl nm) = x at *
  rw [HM.out]
  clear HM
  generalize sayM x = q at *
  obtain ⟨q1, q2⟩ := q
  obtain ⟨t, ht⟩ : ∃ t, ((q2 : Int) == 0) = t := ⟨_, rfl⟩
  have HT := Lib.hid (show (q2 == 0) = t by
    rw [← ht, Bool.eq_iff_iff, beq_iff_eq, beq_iff_eq]
    omega)
  clear hs
  go_enter Tryz.func19, Tryz.ntmps19
  go_wp2_with fail
  refine C1.mono ?_
  rintro e w1 ⟨rfl, b1⟩
  have B1 := Lib.hid b1
  clear b1 C1
  go_wp2_with fail
  refine (C2.out _ B1.out).mono ?_
  rintro e w2 ⟨rfl, b2⟩
  have B2 := Lib.hid (B1.out.trans (b2.mono B1.out.size))
  clear b2 C2
  go_wp2_with fail
  go_ret2
  exact ⟨by simp only [HT.out]; rfl, B2.out⟩

set_option maxHeartbeats 4000000 in
theorem told_any {P : Nat → Prop} (w : World) (A : Option Addr) (ls : List Fld) (n c : Nat) (hn : ls.length = n) (hb : bulkF ls ≤ 1000000000) (h : SrcF w P A ls) :
    Calls Tryz.prog 31 #[.slice A n c] w fun e w' => e = .returned (.int .u64 (toldF ls : Nat)) ∧ Below w.heap.size w w' := by
  have C1 := one_any w A ls n c hn hb h ⟨#[97, 103, 101]⟩
  rw [show bl ⟨#[97, 103, 101]⟩ = oldN from rfl] at C1
  have HM := Lib.hid (show toldF ls = sayA (oneF ls oldN) from rfl)
  have C2 := Lib.hid (fun X : World => decimal_any ⟨(oneF ls oldN).toArray⟩ X)
  unfold Read at C2
  rw [show bl ⟨(oneF ls oldN).toArray⟩ = oneF ls oldN from bl_mk _] at C2
  clear hn hb h
  generalize oneF ls oldN = x at *
  rw [HM.out]
  have HA := Lib.hid (show sayA x = if (readF 10 x).2 = 3 then M31 else min (readF 10 x).1 M31 from rfl)
  have h1 := (read_val x).1
  have h2 := (read_val x).2
  clear HM
  generalize readF 10 x = q at *
  obtain ⟨q1, q2⟩ := q
  simp only at HA h1 h2 C2
  by_cases h3 : q2 = 3
  · have HQ := Lib.hid (show sayA x = M31 by rw [HA.out, if_pos h3])
    subst h3
    clear HA
    go_enter Tryz.func31, Tryz.ntmps31
    go_wp2_with fail
    refine C1.mono ?_
    rintro e w1 ⟨rfl, b1⟩
    have B1 := Lib.hid b1
    clear b1 C1
    go_wp2_with fail
    refine (C2.out _).mono ?_
    rintro e w2 ⟨rfl, b2⟩
    have B2 := Lib.hid (B1.out.trans (b2.mono B1.out.size))
    clear b2 C2
    go_wp2_with fail
    go_ret
    exact ⟨by rw [HQ.out]; rfl, B2.out⟩
  · have HQ := Lib.hid (show ((sayA x : Nat) : Int) = min (q1 : Int) 2147483648 by rw [HA.out, if_neg h3]; unfold M31; omega)
    have e9 : ((q2 : Int) == 3) = false := beq_eq_false_iff_ne.2 (by omega)
    clear HA
    go_enter Tryz.func31, Tryz.ntmps31
    go_wp2_with fail
    refine C1.mono ?_
    rintro e w1 ⟨rfl, b1⟩
    have B1 := Lib.hid b1
    clear b1 C1
    go_wp2_with fail
    refine (C2.out _).mono ?_
    rintro e w2 ⟨rfl, b2⟩
    have B2 := Lib.hid (B1.out.trans (b2.mono B1.out.size))
    clear b2 C2
    go_wp2_with fail
    go_ret
    exact ⟨by rw [HQ.out]; rfl, B2.out⟩

set_option maxHeartbeats 4000000 in
theorem span_any {P : Nat → Prop} (w : World) (A : Option Addr) (ls : List Fld) (n c : Nat) (hn : ls.length = n) (hb : bulkF ls ≤ 1000000000) (h : SrcF w P A ls) (ht : DTabs w) (b e : ByteArray) :
    Calls Tryz.prog 23 #[.slice A n c, .string b, .string e] w fun y w' => y = .returned (.int .u64 (spanF ls (bl b) (bl e) : Nat)) ∧ Below w.heap.size w w' := by
  have C1 := moment_any w A ls n c hn hb h ht b
  have C2 := Lib.hid (fun X (hX : Below w.heap.size w X) => moment_any X A ls n c hn hb (h.below hX) (ht.below hX) e)
  have HS := Lib.hid (show spanF ls (bl b) (bl e) = if (momentF ls (bl b)).2 = true ∧ (momentF ls (bl e)).2 = true then untilF (momentF ls (bl b)).1 (momentF ls (bl e)).1 else 0 from rfl)
  have l2 := moment_le ls (bl e)
  unfold LastN at l2
  unfold MomentTold at C1 C2
  clear hn hb h ht
  generalize momentF ls (bl b) = p at *
  generalize momentF ls (bl e) = q at *
  obtain ⟨p1, p2⟩ := p
  obtain ⟨q1, q2⟩ := q
  simp only at HS l2 C1 C2
  have C3 := Lib.hid (fun X : World => until_fn q1 X)
  have C4 := Lib.hid (fun pp (X : World) => until_any p1 q1 (by omega) pp X)
  rw [HS.out]
  clear HS
  cases p2 <;> cases q2
  case true.true =>
    rw [if_pos ⟨rfl, rfl⟩]
    go_enter Tryz.func23, Tryz.ntmps23
    go_wp2_with fail
    refine C1.mono ?_
    rintro y w1 ⟨rfl, b1⟩
    have B1 := Lib.hid b1
    clear b1 C1
    go_wp2_with fail
    refine (C2.out _ B1.out).mono ?_
    rintro y w2 ⟨rfl, b2⟩
    have B2 := Lib.hid (B1.out.trans (b2.mono B1.out.size))
    clear b2 C2
    go_wp2_with fail
    refine (C3.out _).mono ?_
    rintro y w3 ⟨pp, rfl, b3, h3⟩
    have B3 := Lib.hid (B2.out.trans (b3.mono B2.out.size))
    clear b3 C3
    go_wp2_with fail
    refine (C4.out pp _ h3).mono ?_
    rintro y w4 ⟨rfl, rfl⟩
    go_wp2_with fail
    go_ret
    exact ⟨rfl, B3.out⟩
  all_goals
    rw [if_neg (by simp)]
    go_enter Tryz.func23, Tryz.ntmps23
    go_wp2_with fail
    refine C1.mono ?_
    rintro y w1 ⟨rfl, b1⟩
    have B1 := Lib.hid b1
    clear b1 C1
    go_wp2_with fail
    refine (C2.out _ B1.out).mono ?_
    rintro y w2 ⟨rfl, b2⟩
    have B2 := Lib.hid (B1.out.trans (b2.mono B1.out.size))
    clear b2 C2
    go_wp2_with fail
    go_ret
    exact ⟨rfl, B2.out⟩

set_option maxHeartbeats 4000000 in
theorem lives_any (st : Int) (w : World) : Calls Tryz.prog 24 #[.int .i64 st] w (Same (.bool (livesB st)) w) := by
  by_cases hm : st = 200 ∨ st = 203 ∨ st = 204 ∨ st = 300 ∨ st = 301 ∨ st = 308 ∨ st = 404 ∨ st = 405 ∨ st = 410 ∨ st = 414 ∨ st = 501
  · rcases hm with rfl | rfl | rfl | rfl | rfl | rfl | rfl | rfl | rfl | rfl | rfl
    all_goals
      go_enter Tryz.func24, Tryz.ntmps24
      go_wp2_with fail
      go_ret
      exact ⟨rfl, rfl⟩
  · have hl : livesB st = false := by
      unfold livesB
      simp only [List.any_cons, List.any_nil, Bool.or_false, Bool.or_eq_false_iff, beq_eq_false_iff_ne]
      omega
    rw [hl]
    clear hl
    have e0 : (st == 200) = false := beq_eq_false_iff_ne.2 (by omega)
    have e1 : (st == 203) = false := beq_eq_false_iff_ne.2 (by omega)
    have e2 : (st == 204) = false := beq_eq_false_iff_ne.2 (by omega)
    have e3 : (st == 300) = false := beq_eq_false_iff_ne.2 (by omega)
    have e4 : (st == 301) = false := beq_eq_false_iff_ne.2 (by omega)
    have e5 : (st == 308) = false := beq_eq_false_iff_ne.2 (by omega)
    have e6 : (st == 404) = false := beq_eq_false_iff_ne.2 (by omega)
    have e7 : (st == 405) = false := beq_eq_false_iff_ne.2 (by omega)
    have e8 : (st == 410) = false := beq_eq_false_iff_ne.2 (by omega)
    have e9 : (st == 414) = false := beq_eq_false_iff_ne.2 (by omega)
    have e10 : (st == 501) = false := beq_eq_false_iff_ne.2 (by omega)
    clear hm
    go_enter Tryz.func24, Tryz.ntmps24
    go_wp2_with fail
    go_ret
    exact ⟨rfl, rfl⟩
end Go.Proofs.YtdcbcjljmjnopaaGreatDoor.Fre

namespace Go.Proofs.YtdcbcjljmjnopaaGreatDoor.Fre
open Go.RowKit Hop Con

/-- A response's box. -/
def RBox (X : World) (g : Nat) (st : Int) (rr : ByteArray) (mk : Int) (A : Option Addr) (n c : Nat) (D : Option Addr) (l d : Nat) : Prop :=
  X.cell? ⟨g, 0, none⟩ = some (.int .i64 st) ∧ X.cell? ⟨g, 1, none⟩ = some (.string rr) ∧ X.cell? ⟨g, 2, none⟩ = some (.int .i64 mk) ∧ X.cell? ⟨g, 3, none⟩ = some (.slice A n c) ∧ X.cell? ⟨g, 4, none⟩ = some (.slice D l d)
theorem RBox.made (w : World) (t : TypeId) (st : Int) (rr : ByteArray) (mk : Int) (A : Option Addr) (n c : Nat) (D : Option Addr) (l d : Nat) : RBox (w.alloc (.cells #[.int .i64 st, .string rr, .int .i64 mk, .slice A n c, .slice D l d] t)) w.heap.size st rr mk A n c D l d := by
  have hi := Is.made w t [.int .i64 st, .string rr, .int .i64 mk, .slice A n c, .slice D l d]
  exact ⟨hi.cell 0, hi.cell 1, hi.cell 2, hi.cell 3, hi.cell 4⟩
theorem RBox.below {X X' : World} {g : Nat} {st : Int} {rr : ByteArray} {mk : Int} {A : Option Addr} {n c : Nat} {D : Option Addr} {l d : Nat} (h : RBox X g st rr mk A n c D l d) (hb : Below X.heap.size X X') : RBox X' g st rr mk A n c D l d := by
  obtain ⟨h0, h1, h2, h3, h4⟩ := h
  exact ⟨(hb.cell (Lib.lt_of_cell h0)).trans h0, (hb.cell (Lib.lt_of_cell h1)).trans h1, (hb.cell (Lib.lt_of_cell h2)).trans h2, (hb.cell (Lib.lt_of_cell h3)).trans h3, (hb.cell (Lib.lt_of_cell h4)).trans h4⟩

theorem date_any {P : Nat → Prop} (w : World) (st : Int) (rr : ByteArray) (mk : Int) (A : Option Addr) (n c : Nat) (D : Option Addr) (l d : Nat) (ls : List Fld) (hn : ls.length = n) (hb : bulkF ls ≤ 1000000000) (h : SrcF w P A ls) (ht : DTabs w) :
    Calls Tryz.prog 7 #[(.agg #[.int .i64 st, .string rr, .int .i64 mk, .slice A n c, .slice D l d])] w (MomentTold (momentF ls dateN) w) := by
  have hb0 : Below w.heap.size w (w.alloc (.cells #[.int .i64 st, .string rr, .int .i64 mk, .slice A n c, .slice D l d] 26)) := (Below.refl _ _).alloc (Nat.le_refl _) _
  have C := moment_any (w.alloc (.cells #[.int .i64 st, .string rr, .int .i64 mk, .slice A n c, .slice D l d] 26)) A ls n c hn hb (h.below hb0) (ht.below hb0) ⟨#[100, 97, 116, 101]⟩
  rw [show bl ⟨#[100, 97, 116, 101]⟩ = dateN from rfl] at C
  unfold MomentTold at *
  have B0 := Lib.hid hb0
  clear hn hb h ht hb0
  generalize momentF ls dateN = q at *
  obtain ⟨q1, q2⟩ := q
  go_enter Tryz.func7, Tryz.ntmps7
  go_wp2_with fail
  refine C.mono ?_
  rintro e w1 ⟨rfl, b1⟩
  go_wp2_with fail
  go_ret2
  exact ⟨rfl, B0.out.trans (b1.mono B0.out.size)⟩

def LifeTold (p : Int × Bool) (w : World) (e : Ending) (w' : World) : Prop := e = .returned (.tuple #[.int .i64 p.1, .bool p.2]) ∧ Below w.heap.size w w'
set_option maxHeartbeats 8000000 in
theorem life_says {P : Nat → Prop} (w : World) (st : Int) (rr : ByteArray) (mk : Int) (A : Option Addr) (n c : Nat) (D : Option Addr) (l d : Nat) (ls : List Fld) (hn : ls.length = n) (h : SrcF w P A ls) (hf : Few ls ccN) (hs : 0 ≤ (responseF ls).sh ∨ 0 ≤ (responseF ls).ma) :
    Calls Tryz.prog 9 #[(.agg #[.int .i64 st, .string rr, .int .i64 mk, .slice A n c, .slice D l d])] w (LifeTold (lifeF st ls) w) := by
  have hb0 : Below w.heap.size w (w.alloc (.cells #[.int .i64 st, .string rr, .int .i64 mk, .slice A n c, .slice D l d] 26)) := (Below.refl _ _).alloc (Nat.le_refl _) _
  have C := response_anyB (w.alloc (.cells #[.int .i64 st, .string rr, .int .i64 mk, .slice A n c, .slice D l d] 26)) A ls n c hn (h.below hb0) hf
  have HL : Hid (lifeF st ls = if 0 ≤ (responseF ls).sh then ((responseF ls).sh, true) else ((responseF ls).ma, true)) := Lib.hid (by
    unfold lifeF
    split
    · rfl
    · rename_i h1
      rw [if_pos (hs.resolve_left h1)])
  have B0 := Lib.hid hb0
  clear hn h hf hb0
  unfold LifeTold
  rw [HL.out]
  clear HL
  generalize responseF ls = cc at *
  obtain ⟨ns, nc, pv, pb, mu, on, ma, sh, mf, ms⟩ := cc
  unfold Ctl.v Ctl.cells at C
  simp only at C hs
  by_cases h1 : 0 ≤ sh
  · rw [if_pos h1]
    clear hs
    go_enter Tryz.func9, Tryz.ntmps9
    go_wp2_with fail
    refine C.mono ?_
    rintro e w1 ⟨rfl, b1⟩
    have B1 := Lib.hid (B0.out.trans (b1.mono B0.out.size))
    clear b1 C
    go_wp2_with fail
    go_ret2
    exact ⟨rfl, B1.out.alloc B1.out.size _⟩
  · rw [if_neg h1]
    have h2 := hs.resolve_left h1
    clear hs
    go_enter Tryz.func9, Tryz.ntmps9
    go_wp2_with fail
    refine C.mono ?_
    rintro e w1 ⟨rfl, b1⟩
    have B1 := Lib.hid (B0.out.trans (b1.mono B0.out.size))
    clear b1 C
    go_wp2_with fail
    go_ret2
    exact ⟨rfl, B1.out.alloc B1.out.size _⟩
end Go.Proofs.YtdcbcjljmjnopaaGreatDoor.Fre
