/-
  Package fresh's Lifetime, whatever the fields say.
  Conditions: the list holds at most 1000000000 bytes.
-/
import Derived.Test.YtdcbcjljmjnopaaGreatDoorJD
namespace Go.Proofs.YtdcbcjljmjnopaaGreatDoor.Fre
open Go.RowKit Hop Con

theorem wrap_i64 (x : Int) (h : -9223372036854775808 ≤ x ∧ x ≤ 9223372036854775807) : IntKind.i64.wrap x = x := IntWalk.i64_in _ h
set_option maxHeartbeats 8000000 in
set_option maxRecDepth 100000 in
theorem life_any {P : Nat → Prop} (w : World) (st : Int) (rr : ByteArray) (mk : Int) (A : Option Addr) (n c : Nat) (D : Option Addr) (l d : Nat) (ls : List Fld) (hn : ls.length = n) (hb : bulkF ls ≤ 1000000000) (h : SrcF w P A ls) (ht : DTabs w) :
    Calls Tryz.prog 9 #[(.agg #[.int .i64 st, .string rr, .int .i64 mk, .slice A n c, .slice D l d])] w (LifeTold (lifeF st ls) w) := by
  by_cases hs : 0 ≤ (responseF ls).sh ∨ 0 ≤ (responseF ls).ma
  · exact life_says w st rr mk A n c D l d ls hn h (few_bulk hb _) hs
  have hb0 : Below w.heap.size w (w.alloc (.cells #[.int .i64 st, .string rr, .int .i64 mk, .slice A n c, .slice D l d] 26)) := (Below.refl _ _).alloc (Nat.le_refl _) _
  have C := response_any (w.alloc (.cells #[.int .i64 st, .string rr, .int .i64 mk, .slice A n c, .slice D l d] 26)) A ls n c hn hb (h.below hb0)
  have hlen := bulk_len ls
  have CG := Lib.hid (fun X (hX : Below w.heap.size w X) => get_any X A ls n c hn (by omega) (h.below hX) (slim_bulk hb) ⟨#[101, 120, 112, 105, 114, 101, 115]⟩)
  rw [show bl ⟨#[101, 120, 112, 105, 114, 101, 115]⟩ = expN from rfl] at CG
  have CS1 := Lib.hid (fun X (hX : Below w.heap.size w X) => span_any X A ls n c hn hb (h.below hX) (ht.below hX) ⟨#[100, 97, 116, 101]⟩ ⟨#[101, 120, 112, 105, 114, 101, 115]⟩)
  rw [show bl ⟨#[101, 120, 112, 105, 114, 101, 115]⟩ = expN from rfl, show bl ⟨#[100, 97, 116, 101]⟩ = dateN from rfl] at CS1
  have CS2 := Lib.hid (fun X (hX : Below w.heap.size w X) => span_any X A ls n c hn hb (h.below hX) (ht.below hX) ⟨#[108, 97, 115, 116, 45, 109, 111, 100, 105, 102, 105, 101, 100]⟩ ⟨#[100, 97, 116, 101]⟩)
  rw [show bl ⟨#[108, 97, 115, 116, 45, 109, 111, 100, 105, 102, 105, 101, 100]⟩ = chgN from rfl, show bl ⟨#[100, 97, 116, 101]⟩ = dateN from rfl] at CS2
  have CL := Lib.hid (fun X : World => lives_any st X)
  have HL : Hid (lifeF st ls = if 0 < (getF ls expN).length then (((min (spanF ls dateN expN) M31 : Nat) : Int), true) else if livesB st = true then (((min (spanF ls chgN dateN / 10) 86400 : Nat) : Int), false) else (0, false)) := Lib.hid (by
    unfold lifeF
    rw [if_neg (fun h => hs (.inl h)), if_neg (fun h => hs (.inr h))])
  have l1 := span_le ls dateN expN
  have l2 := span_le ls chgN dateN
  have l3 := get_len ls expN
  have l4 : (getF ls expN).length ≤ 1000000000 := by omega
  unfold LastN at l1 l2
  have B0 := Lib.hid hb0
  have X0 := RBox.made w 26 st rr mk A n c D l d
  have HX0 := Lib.hid X0
  clear hn hb h ht hb0 hlen l3 X0
  unfold LifeTold GotS at *
  generalize getF ls expN = gl at *
  generalize spanF ls dateN expN = s1 at *
  generalize spanF ls chgN dateN = s2 at *
  generalize livesB st = lv at *
  generalize responseF ls = cc at *
  obtain ⟨ns, nc, pv, pb, mu, on, ma, sh, mf, ms⟩ := cc
  unfold Ctl.v Ctl.cells at C
  simp only at C hs
  have hs1 : ¬ 0 ≤ sh := fun h => hs (.inl h)
  have hs2 : ¬ 0 ≤ ma := fun h => hs (.inr h)
  clear hs
  go_enter Tryz.func9, Tryz.ntmps9
  go_wp2_with fail
  refine C.mono ?_
  rintro e w1 ⟨rfl, b1⟩
  have b2 : Below w.heap.size w (w1.alloc (.cells #[.bool ns, .bool nc, .bool pv, .bool pb, .bool mu, .bool on, .int .i64 ma, .int .i64 sh, .int .i64 mf, .int .i64 ms] 53)) := (B0.out.trans (b1.mono B0.out.size)).alloc (B0.out.trans (b1.mono B0.out.size)).size _
  have hx := HX0.out.below ((b1.mono (Nat.le_refl _)).alloc (by exact b1.size) (.cells #[.bool ns, .bool nc, .bool pv, .bool pb, .bool mu, .bool on, .int .i64 ma, .int .i64 sh, .int .i64 mf, .int .i64 ms] 53))
  obtain ⟨x0, x1, x2, x3, x4⟩ := hx
  have B2 := Lib.hid b2
  clear b1 b2 C B0 HX0
  go_wp2_with fail
  refine (CG.out _ B2.out).mono ?_
  rintro e w2 ⟨v, o, rfl, own, _, b3⟩
  obtain ⟨A2, c2, hv, _⟩ := own.src (fun _ => True) (fun _ _ => trivial)
  subst hv
  have B3 := Lib.hid (B2.out.trans (b3.mono B2.out.size))
  have hx : RBox w2 w.heap.size st rr mk A n c D l d := RBox.below ⟨x0, x1, x2, x3, x4⟩ b3
  clear x0 x1 x2 x3 x4
  obtain ⟨x0, x1, x2, x3, x4⟩ := hx
  clear own b3 CG
  generalize gl.length = m at *
  by_cases hm : 0 < m
  · have HR := Lib.hid (HL.out.trans (if_pos hm))
    clear HL
    go_wp2_with fail
    refine (CS1.out _ B3.out).mono ?_
    rintro e w3 ⟨rfl, b4⟩
    have B4 := Lib.hid (B3.out.trans (b4.mono B3.out.size))
    have HV : Hid ((((min s1 M31 : Nat) : Int)) = min (s1 : Int) 2147483648) := Lib.hid (by unfold M31; omega)
    have w1 : IntKind.i64.wrap (min (s1 : Int) 2147483648) = min (s1 : Int) 2147483648 := wrap_i64 _ (by omega)
    clear b4
    go_wp2_with fail
    go_ret2
    exact ⟨by rw [HR.out]; simp only [HV.out]; rfl, B4.out⟩
  · have h2 := HL.out.trans (if_neg hm)
    have HL2 := Lib.hid h2
    clear HL h2
    go_wp2_with fail
    refine (CL.out _).mono ?_
    rintro e w3 ⟨rfl, rfl⟩
    cases lv
    · have HR := Lib.hid (HL2.out.trans (if_neg (by simp)))
      clear HL2
      go_wp2_with fail
      go_ret2
      exact ⟨by rw [HR.out]; rfl, B3.out⟩
    · have HR := Lib.hid (HL2.out.trans (if_pos rfl))
      clear HL2
      go_wp2_with fail
      refine (CS2.out _ B3.out).mono ?_
      rintro e w3 ⟨rfl, b4⟩
      have B4 := Lib.hid (B3.out.trans (b4.mono B3.out.size))
      have HV : Hid ((((min (s2 / 10) 86400 : Nat) : Int)) = min ((s2 : Int) / 10) 86400) := Lib.hid (by omega)
      have w1 : IntKind.i64.wrap (min ((s2 : Int) / 10) 86400) = min ((s2 : Int) / 10) 86400 := wrap_i64 _ (by omega)
      clear b4
      go_wp2_with fail
      go_ret2
      exact ⟨by rw [HR.out]; simp only [HV.out]; rfl, B4.out⟩
end Go.Proofs.YtdcbcjljmjnopaaGreatDoor.Fre
