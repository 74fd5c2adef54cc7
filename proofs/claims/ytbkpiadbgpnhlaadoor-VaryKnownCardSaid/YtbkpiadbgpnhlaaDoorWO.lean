/-
  The law VaryKnown: walk.
  Conditions: none.
-/
import Derived.Test.YtbkpiadbgpnhlaaDoorWJ
namespace Go.Proofs.YtbkpiadbgpnhlaaDoor.Var
open Go.RowKit Hop

theorem run_mid_fl (A : Option Addr) (n c a b : Nat) (ha : a ≤ b) (hb : b ≤ c) : ∃ A', (∀ W : World, (Instr.slice 22 (.slice A n c) (some (.int .i64 (a : Int))) (some (.int .i64 (b : Int))) none).run Tryd.prog W = .ok (.slice A' (b - a) (c - a)) W) ∧
    ∀ (w : World) (P : Nat → Prop) (ls : List Fld), b ≤ ls.length → SrcF w P A ls → SrcF w P A' ((ls.drop a).take (b - a)) := by
  refine ⟨if c = a then A else A.map (·.add (a * 2)), fun W => ?_, fun w P ls hl h h0 => ?_⟩
  · obtain ⟨i, hi, hs⟩ := Option.map_eq_some_iff.1 fldSize
    simp [Instr.slice, run_underlying Tryd.underlying22, Instr.sliceBounds, Instr.sliceBound, asIntOf, ha, hb, sizeOf, typeInfo, hi, hs]
  · rw [List.length_take, List.length_drop] at h0
    obtain ⟨ad, hA, hP, hlt, hc⟩ := h (by omega)
    rw [if_neg (by omega), hA]
    have hbk : (ad.add (a * 2)).block = ad.block := by unfold Addr.add; split <;> rfl
    refine ⟨ad.add (a * 2), rfl, by rw [hbk]; exact hP, by rw [hbk]; exact hlt, fun i r hr => ?_⟩
    rw [List.getElem?_take] at hr
    split at hr
    · rw [List.getElem?_drop] at hr
      rw [add_add_at, add_add_at, show a * 2 + i * 2 = (a + i) * 2 by omega, show a * 2 + (i * 2 + 1) = (a + i) * 2 + 1 by omega]
      exact hc _ r hr
    · cases hr
set_option maxHeartbeats 16000000 in
set_option maxRecDepth 100000 in
theorem known_law (w0 : World) : Calls Tryd.prog 8 #[] w0 fun e w' => e = .returned (.bool true) ∧ Below w0.heap.size w0 w' := by
  go_enter Tryd.func8, Tryd.ntmps8
  have B0 : Hid (Below w0.heap.size w0 w0) := Lib.hid (Below.refl _ _)
  go_wp2_with fail
  have C := names_any w0 none [] 0 0 rfl (by decide) (srcf_nil _)
  unfold Named at C
  rw [show starF [] = false by decide +kernel, show namesF [] = [] by decide +kernel] at C
  refine C.mono ?_
  rintro e w1 ⟨v, o, rfl, own, _, b⟩
  obtain ⟨AE, cE, hv, _⟩ := own.src (fun _ => True) (fun _ _ => trivial)
  rw [List.length_nil] at hv
  subst hv
  clear own C
  have B1 := Lib.hid (B0.out.trans (b.mono B0.out.size))
  clear B0
  clear b
  go_wp2_with fail
  have bb := (Below.refl w1.heap.size w1).alloc (Nat.le_refl _) (.cells #[.string ⟨#[86, 97, 114, 121]⟩, .string ⟨#[42, 42, 44, 32, 34, 97, 44, 32, 98, 34, 44, 32, 65, 32, 98]⟩] 32)
  have S1 : Hid (SrcF (w1.alloc (.cells #[.string ⟨#[86, 97, 114, 121]⟩, .string ⟨#[42, 42, 44, 32, 34, 97, 44, 32, 98, 34, 44, 32, 65, 32, 98]⟩] 32)) (fun _ => True) (some ⟨w1.heap.size, 0, none⟩) [([86, 97, 114, 121], [42, 42, 44, 32, 34, 97, 44, 32, 98, 34, 44, 32, 65, 32, 98])]) := Lib.hid (srcf_made w1 [([86, 97, 114, 121], [42, 42, 44, 32, 34, 97, 44, 32, 98, 34, 44, 32, 65, 32, 98])])
  have C := names_any (w1.alloc (.cells #[.string ⟨#[86, 97, 114, 121]⟩, .string ⟨#[42, 42, 44, 32, 34, 97, 44, 32, 98, 34, 44, 32, 65, 32, 98]⟩] 32)) _ [([86, 97, 114, 121], [42, 42, 44, 32, 34, 97, 44, 32, 98, 34, 44, 32, 65, 32, 98])] 1 1 rfl (by decide) S1.out
  unfold Named at C
  rw [show starF [([86, 97, 114, 121], [42, 42, 44, 32, 34, 97, 44, 32, 98, 34, 44, 32, 65, 32, 98])] = false by decide +kernel, show namesF [([86, 97, 114, 121], [42, 42, 44, 32, 34, 97, 44, 32, 98, 34, 44, 32, 65, 32, 98])] = [[42, 42], [34, 97, 44, 32, 98, 34], [97, 32, 98]] by decide +kernel] at C
  refine C.mono ?_
  rintro e w2 ⟨v, o, rfl, own, _, b⟩
  obtain ⟨AN, cN, hv, src⟩ := own.src (fun _ => True) (fun _ _ => trivial)
  subst hv
  have N := Lib.hid src
  clear own src C
  have b2 := bb.trans (b.mono bb.size)
  have B2 := Lib.hid (B1.out.trans (b2.mono B1.out.size))
  clear B1
  clear b bb b2 S1
  go_wp2_with fail
  have bb := (Below.refl w2.heap.size w2).alloc (Nat.le_refl _) (.cells #[.string ⟨#[97]⟩, .string ⟨#[65]⟩, .string ⟨#[98]⟩] 9)
  have s1 := srcs_made w2 [[97], [65], [98]]
  have bc := (Below.refl (w2.alloc (.cells #[.string ⟨#[97]⟩, .string ⟨#[65]⟩, .string ⟨#[98]⟩] 9)).heap.size (w2.alloc (.cells #[.string ⟨#[97]⟩, .string ⟨#[65]⟩, .string ⟨#[98]⟩] 9))).alloc (Nat.le_refl _) (.cells #[.string ⟨#[97]⟩, .string ⟨#[]⟩, .string ⟨#[66]⟩, .string ⟨#[120]⟩] 32)
  have s2 := srcf_made (w2.alloc (.cells #[.string ⟨#[97]⟩, .string ⟨#[65]⟩, .string ⟨#[98]⟩] 9)) [([97], []), ([66], [120])]
  have hz : (w2.alloc (.cells #[.string ⟨#[97]⟩, .string ⟨#[65]⟩, .string ⟨#[98]⟩] 9)).heap.size = w2.heap.size + 1 := by simp
  rw [hz] at s2
  have C := select_any ((w2.alloc (.cells #[.string ⟨#[97]⟩, .string ⟨#[65]⟩, .string ⟨#[98]⟩] 9)).alloc (.cells #[.string ⟨#[97]⟩, .string ⟨#[]⟩, .string ⟨#[66]⟩, .string ⟨#[120]⟩] 32)) (some ⟨w2.heap.size + 1, 0, none⟩) (some ⟨w2.heap.size, 0, none⟩) [[97], [65], [98]] [([97], []), ([66], [120])] 3 2 3 2 rfl rfl (by decide) (by decide) (by decide) (s1.below bc) s2
  rw [show selF [[97], [65], [98]] [([97], []), ([66], [120])] = [([97], []), ([65], []), ([98], [120])] by decide +kernel] at C
  refine C.mono ?_
  rintro e w3 ⟨v, o, rfl, own, _, b⟩
  have hcap : ∃ A c, v = .slice A 3 c ∧ 3 ≤ c := by
    rcases ownF_row own with ⟨_, h, _⟩ | ⟨g, c, cur, hv, _, _, h1, _⟩
    · cases h
    · exact ⟨_, c, hv, h1⟩
  obtain ⟨AG, cG, hv, hcG⟩ := hcap
  subst hv
  have G := Lib.hid (OwnF.reads own)
  clear own C
  have b2 := (bb.trans (bc.mono bb.size)).trans (b.mono (bb.trans (bc.mono bb.size)).size)
  have B3 := Lib.hid (B2.out.trans (b2.mono B2.out.size))
  have N_3 := Lib.hid (N.out.below b2)
  clear B2 N
  clear b bb bc b2 s1 s2 hz
  obtain ⟨pn0, xn0, hx, hat, yn0, _, _⟩ := N_3.out.at (c := cN) (k := 0) rfl (by decide) (Below.refl _ _)
  obtain rfl : xn0 = [42, 42] := (Option.some.inj hx).symm
  have an0 : ∀ Wx, (Instr.indexAt 23 (.slice AN 3 cN) (.int .i64 0)).run Tryd.prog Wx = .ok (.pointer (some pn0)) Wx := hat
  clear hx hat
  obtain ⟨pn1, xn1, hx, hat, yn1, _, _⟩ := N_3.out.at (c := cN) (k := 1) rfl (by decide) (Below.refl _ _)
  obtain rfl : xn1 = [34, 97, 44, 32, 98, 34] := (Option.some.inj hx).symm
  have an1 : ∀ Wx, (Instr.indexAt 23 (.slice AN 3 cN) (.int .i64 1)).run Tryd.prog Wx = .ok (.pointer (some pn1)) Wx := hat
  clear hx hat
  obtain ⟨pn2, xn2, hx, hat, yn2, _, _⟩ := N_3.out.at (c := cN) (k := 2) rfl (by decide) (Below.refl _ _)
  obtain rfl : xn2 = [97, 32, 98] := (Option.some.inj hx).symm
  have an2 : ∀ Wx, (Instr.indexAt 23 (.slice AN 3 cN) (.int .i64 2)).run Tryd.prog Wx = .ok (.pointer (some pn2)) Wx := hat
  clear hx hat
  obtain ⟨pg0, xg0, hx, hat, yg0, zg0, _, _⟩ := G.out.at (c := cG) (k := 0) rfl (by decide) (Below.refl _ _)
  obtain rfl : xg0 = ([97], []) := (Option.some.inj hx).symm
  simp only at yg0 zg0
  have ag0 : ∀ Wx, (Instr.indexAt 22 (.slice AG 3 cG) (.int .i64 0)).run Tryd.prog Wx = .ok (.pointer (some pg0)) Wx := hat
  clear hx hat
  obtain ⟨pg1, xg1, hx, hat, yg1, zg1, _, _⟩ := G.out.at (c := cG) (k := 1) rfl (by decide) (Below.refl _ _)
  obtain rfl : xg1 = ([65], []) := (Option.some.inj hx).symm
  simp only at yg1 zg1
  have ag1 : ∀ Wx, (Instr.indexAt 22 (.slice AG 3 cG) (.int .i64 1)).run Tryd.prog Wx = .ok (.pointer (some pg1)) Wx := hat
  clear hx hat
  obtain ⟨pg2, xg2, hx, hat, yg2, zg2, _, _⟩ := G.out.at (c := cG) (k := 2) rfl (by decide) (Below.refl _ _)
  obtain rfl : xg2 = ([98], [120]) := (Option.some.inj hx).symm
  simp only at yg2 zg2
  have ag2 : ∀ Wx, (Instr.indexAt 22 (.slice AG 3 cG) (.int .i64 2)).run Tryd.prog Wx = .ok (.pointer (some pg2)) Wx := hat
  clear hx hat
  have hg := fldGuard
  have hq0 := run_eql_fld ⟨#[97]⟩ ⟨#[]⟩ ⟨#[97]⟩ ⟨#[]⟩
  rw [show ((⟨#[97]⟩ : ByteArray).toList == (⟨#[97]⟩ : ByteArray).toList && (⟨#[]⟩ : ByteArray).toList == (⟨#[]⟩ : ByteArray).toList) = true by decide +kernel] at hq0
  have hq1 := run_eql_fld ⟨#[65]⟩ ⟨#[]⟩ ⟨#[65]⟩ ⟨#[]⟩
  rw [show ((⟨#[65]⟩ : ByteArray).toList == (⟨#[65]⟩ : ByteArray).toList && (⟨#[]⟩ : ByteArray).toList == (⟨#[]⟩ : ByteArray).toList) = true by decide +kernel] at hq1
  have hq2 := run_eql_fld ⟨#[98]⟩ ⟨#[120]⟩ ⟨#[98]⟩ ⟨#[120]⟩
  rw [show ((⟨#[98]⟩ : ByteArray).toList == (⟨#[98]⟩ : ByteArray).toList && (⟨#[120]⟩ : ByteArray).toList == (⟨#[120]⟩ : ByteArray).toList) = true by decide +kernel] at hq2
  go_upto_region 4 with fail
  obtain ⟨A1, hs1, src1⟩ := run_front_fl AG 3 cG 1 (by omega)
  obtain ⟨A2, hs2, src2⟩ := run_mid_fl AG 3 cG 1 2 (by omega) (by omega)
  have hs1' : ∀ W : World, (Instr.slice 22 (.slice AG 3 cG) none (some (.int .i64 1)) none).run Tryd.prog W = .ok (.slice A1 1 cG) W := hs1
  have hs2' : ∀ W : World, (Instr.slice 22 (.slice AG 3 cG) (some (.int .i64 1)) (some (.int .i64 2)) none).run Tryd.prog W = .ok (.slice A2 1 (cG - 1)) W := hs2
  have P1 := Lib.hid (src1 _ _ _ G.out)
  have P2 := Lib.hid (src2 _ _ _ (by decide) G.out)
  clear hs1 hs2 src1 src2
  have CS := fun (W : World) (hW : Below w3.heap.size w3 W) => select_any W AG none [] [([97], []), ([65], []), ([98], [120])] 0 3 0 cG rfl rfl (by decide) (by decide) (by decide) (srcs_nil _) (G.out.below hW)
  rw [show selF [] [([97], []), ([65], []), ([98], [120])] = [] by decide +kernel] at CS
  have CV := fun (W : World) (g : Nat) => vsame_any W none (some ⟨g, 0, none⟩) [] [] 0 0 0 0 rfl rfl (by decide) (srcf_nil _) (srcf_none (P := fun _ => True) _ _)
  rw [show (([] : List Fld) == []) = true by decide] at CV
  have CD := fun (W : World) (hW : Below w3.heap.size w3 W) => vsame_any W A1 A2 [([97], [])] [([65], [])] 1 1 cG (cG - 1) rfl rfl (by decide) (P1.out.below hW) (P2.out.below hW)
  rw [show (([([97], [])] : List Fld) == [([65], [])]) = false by decide] at CD
  have HCS := Lib.hid CS
  have HCV := Lib.hid CV
  have HCD := Lib.hid CD
  clear CS CV CD
  have KK : ∀ W : World, Below w3.heap.size w3 W → W.cell? pn0 = some (.string ⟨#[42, 42]⟩) ∧ W.cell? pn1 = some (.string ⟨#[34, 97, 44, 32, 98, 34]⟩) ∧ W.cell? pn2 = some (.string ⟨#[97, 32, 98]⟩) ∧ W.cell? pg0 = some (.string ⟨#[97]⟩) ∧ W.cell? ⟨pg0.block, pg0.off + 1, none⟩ = some (.string ⟨#[]⟩) ∧ W.cell? pg1 = some (.string ⟨#[65]⟩) ∧ W.cell? ⟨pg1.block, pg1.off + 1, none⟩ = some (.string ⟨#[]⟩) ∧ W.cell? pg2 = some (.string ⟨#[98]⟩) ∧ W.cell? ⟨pg2.block, pg2.off + 1, none⟩ = some (.string ⟨#[120]⟩) := fun W hW => ⟨(hW.cell (Lib.lt_of_cell yn0)).trans yn0, (hW.cell (Lib.lt_of_cell yn1)).trans yn1, (hW.cell (Lib.lt_of_cell yn2)).trans yn2, (hW.cell (Lib.lt_of_cell yg0)).trans yg0, (hW.cell (Lib.lt_of_cell zg0)).trans zg0, (hW.cell (Lib.lt_of_cell yg1)).trans yg1, (hW.cell (Lib.lt_of_cell zg1)).trans zg1, (hW.cell (Lib.lt_of_cell yg2)).trans yg2, (hW.cell (Lib.lt_of_cell zg2)).trans zg2⟩
  have B0 := Below.refl w3.heap.size w3
  have D0 : Below w3.heap.size w3 w3.drew := drew_below B0
  have k0 := KK _ B0
  have k1 := KK _ D0
  clear yn0 yn1 yn2 yg0 yg1 yg2 zg0 zg1 zg2 B0
  simp only [List.append_eq, List.cons_append, List.nil_append]
  go_region_held3 (fun w' => w'.cell? pn0 = some (.string ⟨#[42, 42]⟩) ∧ w'.cell? pn1 = some (.string ⟨#[34, 97, 44, 32, 98, 34]⟩) ∧ w'.cell? pn2 = some (.string ⟨#[97, 32, 98]⟩) ∧ w'.cell? pg0 = some (.string ⟨#[97]⟩) ∧ w'.cell? ⟨pg0.block, pg0.off + 1, none⟩ = some (.string ⟨#[]⟩) ∧ w'.cell? pg1 = some (.string ⟨#[65]⟩) ∧ w'.cell? ⟨pg1.block, pg1.off + 1, none⟩ = some (.string ⟨#[]⟩) ∧ w'.cell? pg2 = some (.string ⟨#[98]⟩) ∧ w'.cell? ⟨pg2.block, pg2.off + 1, none⟩ = some (.string ⟨#[120]⟩)) (first | (with_reducible exact k0) | (with_reducible exact k1) | (with_reducible exact kA) | (with_reducible exact kE) | (with_reducible exact kB) | (with_reducible exact kC) | (with_reducible exact kD) | go_keep)
    (first
      | (go_at_call 14; (with_reducible refine (HCS.out w3.drew D0).mono ?_); rintro e wA ⟨v, o, rfl, own, _, b⟩; obtain ⟨AH, cH, hv, _⟩ := own.src (fun _ => True) (fun _ _ => trivial); rw [List.length_nil] at hv; subst hv; have dA := D0.trans (b.mono D0.size); have kA := KK _ dA; have dE : Below w3.heap.size w3 (wA.alloc (.cells #[] 32)) := dA.alloc dA.size _; have kE := KK _ dE; clear own b)
      | (go_at_call 16; (with_reducible refine (HCV.out (wA.alloc (.cells #[] 32)) wA.heap.size).mono ?_); rintro e wB ⟨rfl, b⟩; have dB := dE.trans (b.mono dE.size); have kB := KK _ dB; clear b)
      | (go_at_call 16; (with_reducible refine (HCD.out wB dB).mono ?_); rintro e wC ⟨rfl, b⟩; have dC := dB.trans (b.mono dB.size); have kC := KK _ dC; clear b)
      | (go_at_call 13; (with_reducible refine (wakes_any wC).mono ?_); rintro e wD ⟨rfl, b⟩; have dD := dC.trans (b.mono dC.size); have kD := KK _ dD; clear b))
  all_goals
    go_wp2_with fail
    go_ret
    exact ⟨rfl, B3.out.trans (dD.mono B3.out.size)⟩
end Go.Proofs.YtbkpiadbgpnhlaaDoor.Var
