/-
  The law's rows.
  Conditions: package head's calls answer as its word says.
-/
import Derived.Test.YtdggfonbjhejoaaDoorHP
import Derived.Lib.SlBytesConst
namespace Go.Proofs.YtdggfonbjhejoaaDoor
open Go.RowKit

set_option maxHeartbeats 16000000 in
set_option maxRecDepth 100000 in
theorem wakes_head (HC : HeadC) (w0 : World) : Calls Tryd.prog 12 #[] w0 fun e w' => e = .returned (.bool true) ∧ Below w0.heap.size w0 w' := by
  have kc := fun (w : World) (C : Array Value) (n c : Nat) => Lib.run_convert_bytes_const (P := Tryd.prog) w 22 5 C n c Tryd.underlying22 Tryd.underlying5
  go_enter Tryd.func12, Tryd.ntmps12
  have B0 : Hid (Below w0.heap.size w0 w0) := Lib.hid (Below.refl _ _)
  go_wp2_with fail
  refine (parse_row HC w0 w0 _ [72, 111, 115, 116, 58, 97, 13, 10, 88, 45, 89, 58, 9, 32, 98, 32, 99, 32, 13, 10, 13, 10] ([([72, 111, 115, 116], [97]), ([88, 45, 89], [98, 32, 99])], 22, 0) (22, 23) rfl (by decide +kernel) _ (Below.refl _ _) (by decide) (by decide)).mono ?_
  rintro e w1 ⟨v1, o1, rfl, own1, ob1, b1⟩
  have B1 := Lib.hid (B0.out.trans (b1.mono B0.out.size))
  obtain ⟨A1, c1, hv1, src1⟩ := own1.src (fun _ => True) (fun _ _ => trivial)
  subst hv1
  have S1 := Lib.hid src1
  clear b1 src1 own1 ob1 B0
  go_wp2_with fail
  refine (parse_row HC w1 w1 _ [13, 10] ([], 2, 0) (2, 3) rfl (by decide +kernel) _ (Below.refl _ _) (by decide) (by decide)).mono ?_
  rintro e w2 ⟨v2, o2, rfl, own2, ob2, b2⟩
  have B2 := Lib.hid (B1.out.trans (b2.mono B1.out.size))
  have S2 := Lib.hid (S1.out.below b2)
  clear b2 own2 ob2 B1 S1
  go_wp2_with fail
  refine (parse_row HC w2 w2 _ [72, 111, 115, 116, 58, 32, 97, 13] ([], 0, 8) (8, 9) rfl (by decide +kernel) _ (Below.refl _ _) (by decide) (by decide)).mono ?_
  rintro e w3 ⟨v3, o3, rfl, own3, ob3, b3⟩
  have B3 := Lib.hid (B2.out.trans (b3.mono B2.out.size))
  have S3 := Lib.hid (S2.out.below b3)
  clear b3 own3 ob3 B2 S2
  go_wp2_with fail
  refine (parse_row HC w3 w3 _ [72, 111, 115, 116, 32, 58, 32, 97] ([], 0, 20) (8, 9) rfl (by decide +kernel) _ (Below.refl _ _) (by decide) (by decide)).mono ?_
  rintro e w4 ⟨v4, o4, rfl, own4, ob4, b4⟩
  have B4 := Lib.hid (B3.out.trans (b4.mono B3.out.size))
  have S4 := Lib.hid (S3.out.below b4)
  clear b4 own4 ob4 B3 S3
  obtain ⟨p, f, hf, hat, y0, y1, _, _⟩ := S4.out.at (c := c1) (k := 1) rfl (by decide) (Below.refl _ _)
  obtain rfl : f = ([88, 45, 89], [98, 32, 99]) := (Option.some.inj hf).symm
  have hg := fldGuard
  have hq := run_neq_fld ⟨#[88, 45, 89]⟩ ⟨#[98, 32, 99]⟩ ⟨#[88, 45, 89]⟩ ⟨#[98, 32, 99]⟩
  have hb : (!((⟨#[88, 45, 89]⟩ : ByteArray).toList == (⟨#[88, 45, 89]⟩ : ByteArray).toList && (⟨#[98, 32, 99]⟩ : ByteArray).toList == (⟨#[98, 32, 99]⟩ : ByteArray).toList)) = false := by simp
  rw [hb] at hq
  simp only at y0 y1
  have hat2 : ∀ Wx, (Instr.indexAt 23 (.slice A1 2 c1) (.int .i64 1)).run Tryd.prog Wx = .ok (.pointer (some p)) Wx := hat
  clear hf hb hat
  go_wp2_with fail
  have SL : Slim [([72, 111, 115, 116], [97]), ([88, 45, 89], [98, 32, 99])] := fun f hf => by
    simp only [List.mem_cons, List.not_mem_nil, or_false] at hf
    rcases hf with rfl | rfl <;> decide
  have HSL := Lib.hid SL
  clear SL
  refine (HC.get w4 A1 _ 2 c1 rfl (by decide) S4.out HSL.out ⟨#[104, 111, 115, 116]⟩ (by decide)).mono ?_
  rintro e w5 ⟨vg, og, rfl, owng, obg, b5⟩
  have eg : getF [([72, 111, 115, 116], [97]), ([88, 45, 89], [98, 32, 99])] (bl ⟨#[104, 111, 115, 116]⟩) = [[97]] := by decide +kernel
  rw [eg] at owng
  obtain ⟨AG, cg, hvg, srcg⟩ := owng.src (fun _ => True) (fun _ _ => trivial)
  subst hvg
  have G5 := Lib.hid srcg
  have B5 := Lib.hid (B4.out.trans (b5.mono B4.out.size))
  have S5 := Lib.hid (S4.out.below b5)
  clear owng srcg obg eg b5 B4 S4 y0 y1 hat2 hq
  go_wp2_with fail
  have hb5 : Below w5.heap.size w5 (w5.alloc (.cells #[.string ⟨#[72, 79, 83, 84]⟩] 9)) := (Below.refl _ _).alloc (Nat.le_refl _) _
  refine (HC.drop _ A1 (some ⟨w5.heap.size, 0, none⟩) _ [[72, 79, 83, 84]] 2 c1 1 1 rfl rfl (by decide) (by decide) (S5.out.below hb5) (srcs_one w5 [72, 79, 83, 84]) HSL.out (fun x hx => by
    simp only [List.mem_singleton] at hx
    rw [hx]
    decide)).mono ?_
  rintro e w6 ⟨vd, od, rfl, ownd, obd, b6⟩
  have ed : dropF [([72, 111, 115, 116], [97]), ([88, 45, 89], [98, 32, 99])] [[72, 79, 83, 84]] = [([88, 45, 89], [98, 32, 99])] := by decide +kernel
  rw [ed] at ownd
  obtain ⟨AD, cd, hvd, srcd⟩ := ownd.src (fun _ => True) (fun _ _ => trivial)
  subst hvd
  have b56 := hb5.trans (b6.mono hb5.size)
  have D6 := Lib.hid srcd
  have B6 := Lib.hid (B5.out.trans (b56.mono B5.out.size))
  have S6 := Lib.hid (S5.out.below b56)
  have G6 := Lib.hid (G5.out.below b56)
  clear ownd srcd obd ed b6 hb5 B5 S5 G5 b56
  go_wp2_with fail
  refine (HC.with_ w6 A1 _ 2 c1 rfl (by decide) S6.out HSL.out [104, 111, 115, 116] [98] (by decide) (by decide)).mono ?_
  rintro e w7 ⟨vw, ow, rfl, ownw, obw, b7⟩
  have ew : withF [([72, 111, 115, 116], [97]), ([88, 45, 89], [98, 32, 99])] [104, 111, 115, 116] [98] = [([88, 45, 89], [98, 32, 99]), ([104, 111, 115, 116], [98])] := by decide +kernel
  rw [ew] at ownw
  obtain ⟨AW, cw, hvw, srcw⟩ := ownw.src (fun _ => True) (fun _ _ => trivial)
  subst hvw
  have W7 := Lib.hid srcw
  have B7 := Lib.hid (B6.out.trans (b7.mono B6.out.size))
  have S7 := Lib.hid (S6.out.below b7)
  have G7 := Lib.hid (G6.out.below b7)
  have D7 := Lib.hid (D6.out.below b7)
  clear ownw srcw obw ew b7 B6 S6 G6 D6
  go_wp2_with fail
  refine (HC.put w7 AD _ 1 cd rfl (by decide) D7.out (fun f hf => by
    simp only [List.mem_cons, List.not_mem_nil, or_false] at hf
    rcases hf with rfl
    decide)).mono ?_
  rintro e w8 ⟨AP, cp, rfl, _, srcp, b8⟩
  have ep : putF [([88, 45, 89], [98, 32, 99])] = some [88, 45, 89, 58, 32, 98, 32, 99, 13, 10, 13, 10] := by decide +kernel
  rw [ep] at srcp ⊢
  simp only [Option.getD_some, Option.isSome_some, if_true] at srcp ⊢
  have P8 := Lib.hid srcp
  have B8 := Lib.hid (B7.out.trans (b8.mono B7.out.size))
  have S8 := Lib.hid (S7.out.below b8)
  have G8 := Lib.hid (G7.out.below b8)
  have W8 := Lib.hid (W7.out.below b8)
  clear srcp ep b8 B7 S7 G7 D7 W7
  obtain ⟨pg, xg, hxg, hatg, yg, _, _⟩ := G8.out.at (c := cg) (k := 0) rfl (by decide) (Below.refl _ _)
  obtain rfl : xg = [97] := (Option.some.inj hxg).symm
  obtain ⟨pw, fw, hfw, hatw, yw0, yw1, _, _⟩ := W8.out.at (c := cw) (k := 1) rfl (by decide) (Below.refl _ _)
  obtain rfl : fw = ([104, 111, 115, 116], [98]) := (Option.some.inj hfw).symm
  simp only at yw0 yw1
  have hatg2 : ∀ Wx, (Instr.indexAt 32 (.slice AG 1 cg) (.int .i64 0)).run Tryd.prog Wx = .ok (.pointer (some pg)) Wx := hatg
  have hatw2 : ∀ Wx, (Instr.indexAt 23 (.slice AW 2 cw) (.int .i64 1)).run Tryd.prog Wx = .ok (.pointer (some pw)) Wx := hatw
  clear hxg hfw hatg hatw
  go_wp2_with fail
  have em : mayF [([72, 111, 115, 116], [97]), ([88, 45, 89], [98, 32, 99])] = true := by decide +kernel
  have CM := HC.may w8 A1 _ 2 c1 rfl (by decide) S8.out HSL.out
  rw [em] at CM
  refine CM.mono ?_
  rintro e w9 ⟨rfl, b9⟩
  have hcv : (convert 22 9 (.slice AP 12 cp)).run Tryd.prog w9 = .ok (.string ⟨([88, 45, 89, 58, 32, 98, 32, 99, 13, 10, 13, 10] : List UInt8).toArray⟩) w9 := run_text w9 AP [88, 45, 89, 58, 32, 98, 32, 99, 13, 10, 13, 10] 12 cp rfl (P8.out.kept (Turn.of_below (S := fun _ => False) b9) (fun _ _ h => h))
  have B9 := Lib.hid (B8.out.trans (b9.mono B8.out.size))
  clear em b9 B8 CM
  go_wp2_with fail
  go_ret
  exact ⟨rfl, B9.out⟩
end Go.Proofs.YtdggfonbjhejoaaDoor
