/-
  What the reference's Response answers.
  Conditions: those that each theorem names.
-/
import Derived.Test.YtemgfppclakdmaaGreatDoorMG
import Derived.Test.YtemgfppclakdmaaGreatDoorGA
namespace Go.Proofs.YtemgfppclakdmaaGreatDoor
open Go.RowKit

set_option maxHeartbeats 16000000 in
set_option maxRecDepth 100000 in
theorem rresponse9_any {P : Nat → Prop} (W : World) (A : Option Addr) (bs : List UInt8) (n c : Nat) (mt : ByteArray) (ended : Bool) (hn : bs.length = n) (hnc : n ≤ c) (hmax : n ≤ 140737488351232) (h : Src W P A bs) :
    Calls Tryz.prog 12 #[.slice A n c, .string mt, .bool ended] W (RsGot9 (responseM bs (bl mt) ended) W) := by
  obtain ⟨g, hg⟩ : ∃ g, W.heap.size = g := ⟨_, rfl⟩
  obtain ⟨R, hR⟩ : ∃ R, responseM bs (bl mt) ended = R := ⟨_, rfl⟩
  obtain ⟨line, at1, e1, hf⟩ : ∃ line at1 e1, firstM bs = (line, at1, e1) := ⟨_, _, _, rfl⟩
  have HR := Lib.hid (hR.symm.trans (line_eq (begin := Sta.statF) (kind := (fun a l => resK (a.2.1 : Int) (bl mt) (reqK (a.1 : Int) l))) (ended := ended) hf))
  have hfr := firstM_range bs
  rw [hf] at hfr
  simp only at hfr
  have HFR := Lib.hid hfr
  have CL := Lib.hid (fun (X : World) (hX : Below W.heap.size W X) => rline_any X A bs n c hn hnc (by omega) (h.kept (Turn.of_below (S := fun _ => False) hX) (fun _ _ h => h)))
  have CF := Lib.hid (fun (X : World) (hX : Below W.heap.size W X) (k : Nat) (hk : k ≤ n) (hk2 : k ≤ 512) => rfields_any X A bs n c k hn hnc hmax hk hk2 (h.kept (Turn.of_below (S := fun _ => False) hX) (fun _ _ h => h)))
  have HSRC := Lib.hid (fun (X : World) (hX : Below W.heap.size W X) => h.kept (P := P) (Turn.of_below (S := fun _ => False) hX) (fun _ _ h => h))
  have HN := Lib.hid hn
  rw [hf] at CL
  unfold LineGot at CL
  simp only at CL
  rw [hR]
  have I0 := Lib.hid (show Is (W.alloc (.cells #[.int .i64 0, .string ⟨#[]⟩, .int .i64 0, .slice none 0 0, .slice none 0 0] 32)) g 32 [.int .i64 0, .string ⟨#[]⟩, .int .i64 0, .slice none 0 0, .slice none 0 0] by have := Is.made W 32 [.int .i64 0, .string ⟨#[]⟩, .int .i64 0, .slice none 0 0, .slice none 0 0]; rw [hg] at this; exact this)
  have B0 := Lib.hid (show Below W.heap.size W (W.alloc (.cells #[.int .i64 0, .string ⟨#[]⟩, .int .i64 0, .slice none 0 0, .slice none 0 0] 32)) from (Below.refl _ _).alloc (Nat.le_refl _) _)
  have HG := Lib.hid hg
  clear hfr h hn hR hf
  go_enter Tryz.func12, Tryz.ntmps12
  go_wp2_with fail
  try simp only [HG.out]
  refine ((CL.out _ B0.out).mono (R' := fun e w' => e = .returned (.tuple #[.string ⟨line.toArray⟩, .int .i64 (at1 : Int), .int .i64 (e1 : Int)]) ∧ Below (W.alloc (.cells #[.int .i64 0, .string ⟨#[]⟩, .int .i64 0, .slice none 0 0, .slice none 0 0] 32)).heap.size (W.alloc (.cells #[.int .i64 0, .string ⟨#[]⟩, .int .i64 0, .slice none 0 0, .slice none 0 0] 32)) w') ?_).mono ?_
  · rintro e w' ⟨he, rfl⟩
    exact ⟨he, Below.refl _ _⟩
  rintro e w1 ⟨rfl, b1⟩
  have I1 := Lib.hid (I0.out.kept (Turn.of_below (S := fun _ => False) b1) (fun h => h))
  have B1 := Lib.hid (B0.out.trans (b1.mono B0.out.size))
  clear b1 hg CL
  by_cases h1 : e1 = 0
  · have d1 : ((e1 : Int) != 0) = false := by subst h1; rfl
    have HR1 := Lib.hid (HR.out.trans (if_neg (fun h => h h1)))
    have hat : at1 ≤ n ∧ at1 ≤ 512 ∧ line.length ≤ 512 := by
      rcases HFR.out with ⟨_, h2, h3, _, h5⟩ | ⟨h2, _, _⟩
      · exact ⟨by rw [← HN.out]; exact h2, h3, h5⟩
      · exact absurd h1 h2
    obtain ⟨hat1, hat2, hll⟩ := hat
    have CQ := Lib.hid (fun X : World => Sta.rstat_any ⟨line.toArray⟩ X (by rw [← bl_length, bl_mk]; omega))
    rw [bl_mk] at CQ
    unfold Sta.StatGot at CQ
    clear HR HFR h1 hll
    cases hq : Sta.statF line with
    | none =>
      rw [hq] at CQ HR1
      simp only at CQ HR1
      go_wp2_with fail
      refine (CQ.out _).mono ?_
      rintro e w2 ⟨b2, rfl⟩
      have I2 := Lib.hid (I1.out.kept (Turn.of_below (S := fun _ => False) b2) (fun h => h))
      have B2 := Lib.hid (B1.out.trans (b2.mono B1.out.size))
      clear b2
      have c20 : w2.cell? ⟨g, 0, none⟩ = some (.int .i64 0) := I2.out.cell 0
      have f20 : w2.frozen? ⟨g, 0, none⟩ = false := I2.out.free 0
      have c21 : w2.cell? ⟨g, 1, none⟩ = some (.string ⟨#[]⟩) := I2.out.cell 1
      have f21 : w2.frozen? ⟨g, 1, none⟩ = false := I2.out.free 1
      have c22 : w2.cell? ⟨g, 2, none⟩ = some (.int .i64 0) := I2.out.cell 2
      have f22 : w2.frozen? ⟨g, 2, none⟩ = false := I2.out.free 2
      have c23 : w2.cell? ⟨g, 3, none⟩ = some (.slice none 0 0) := I2.out.cell 3
      have f23 : w2.frozen? ⟨g, 3, none⟩ = false := I2.out.free 3
      have c24 : w2.cell? ⟨g, 4, none⟩ = some (.slice none 0 0) := I2.out.cell 4
      have f24 : w2.frozen? ⟨g, 4, none⟩ = false := I2.out.free 4
      have I9 := Lib.hid (put5_is I2.out (.int .i64 0) (.string ⟨#[]⟩) (.int .i64 0) (.slice none 0 0) (.slice none 0 0))
      have B9 := Lib.hid (put5_below B2.out HG.out (.int .i64 0) (.string ⟨#[]⟩) (.int .i64 0) (.slice none 0 0) (.slice none 0 0))
      go_wp2_with fail
      refine bodyPost_ret (results_cell2 rfl _ _ g _ _ _ _ rfl I9.out Tryz.underlying32 rfl (by kernel_rfl)) rfl ?_
      exact rs_stop HR1.out rfl B9.out
    | some a =>
      obtain ⟨an, as_, ar⟩ := a
      rw [hq] at CQ HR1
      simp only at CQ HR1
      clear hq
      obtain ⟨fl, at3, e3, hff⟩ : ∃ fl at3 e3, fieldsM bs at1 = (fl, at3, e3) := ⟨_, _, _, rfl⟩
      obtain ⟨kd, nn, ke, hke⟩ : ∃ kd nn ke, resK (as_ : Int) (bl mt) (reqK (an : Int) fl) = (kd, nn, ke) := ⟨_, _, _, rfl⟩
      rw [hff] at HR1
      have HR2 := Lib.hid (HR1.out.trans (rest_eq (kind := (fun a l => resK (a.2.1 : Int) (bl mt) (reqK (a.1 : Int) l))) (a := (an, as_, ar)) hke))
      have hfr := fieldsM_range bs at1 (by rw [HN.out]; exact hat1) hat2
      have hbk := fieldsM_bulk bs at1
      rw [hff] at hfr hbk
      simp only at hfr hbk
      have hns := resK_small (as_ : Int) (bl mt) _ (reqK_small (an : Int) fl)
      rw [hke] at hns
      simp only at hns
      have CF2 := Lib.hid (fun (X : World) (hX : Below W.heap.size W X) => CF.out X hX at1 hat1 hat2)
      rw [hff] at CF2
      unfold HeadGot at CF2
      simp only at CF2
      have HFR := Lib.hid hfr
      have HBK := Lib.hid hbk
      clear HR1 CF hff hfr hbk
      go_wp2_with fail
      refine (CQ.out _).mono ?_
      rintro e w2 ⟨b2, rfl⟩
      have I2 := Lib.hid (I1.out.kept (Turn.of_below (S := fun _ => False) b2) (fun h => h))
      have B2 := Lib.hid (B1.out.trans (b2.mono B1.out.size))
      clear b2 CQ
      go_wp2_with fail
      refine (CF2.out _ B2.out).mono ?_
      rintro e w3 ⟨v3, o3, rfl, own3, f3, b3⟩
      have I3 := Lib.hid (I2.out.kept (Turn.of_below (S := fun _ => False) b3) (fun h => h))
      have B3 := Lib.hid (B2.out.trans (b3.mono B2.out.size))
      have O3 := Lib.hid own3
      have F3 := Lib.hid (fun (b : Nat) (hb : o3 = some b) => (show g < b by have := f3 b hb; have := I2.out.lt; omega))
      obtain ⟨A3, c3, rfl, s3⟩ := own3.src (fun _ => True) (fun _ _ => trivial)
      have S3 := Lib.hid s3
      clear own3 f3 b3 s3 CF2
      by_cases h3 : e3 = 0
      · have d3 : ((e3 : Int) != 0) = false := by subst h3; rfl
        have HR3 := Lib.hid (HR2.out.trans (if_neg (fun h => h h3)))
        have hat3 : at3 ≤ n := by
          rcases HFR.out with ⟨_, h2, _, _⟩ | ⟨h2, _, _⟩
          · rw [← HN.out]; exact h2
          · exact absurd h3 h2
        have CK := Lib.hid (rresponse_any (as_ : Int) mt (an : Int) w3 A3 fl fl.length c3 rfl S3.out (Meek.small (by have := HBK.out; omega)))
        rw [hke] at CK
        unfold Tells kdV at CK
        simp only at CK
        clear HR2 HFR h3 hke
        go_wp2_with fail
        refine CK.out.mono ?_
        rintro e w4 ⟨rfl, b4⟩
        have I4 := Lib.hid (I3.out.kept (Turn.of_below (S := fun _ => False) b4) (fun h => h))
        have B4 := Lib.hid (B3.out.trans (b4.mono B3.out.size))
        have O4 := Lib.hid (O3.out.kept (Turn.of_below (S := fun _ => False) b4) (fun _ _ h => h))
        clear b4 CK O3
        by_cases h4 : ke = 0
        · have d4 : ((ke : Int) != 0) = false := by subst h4; rfl
          have HR4 := Lib.hid (HR3.out.trans (if_neg (fun h => h h4)))
          obtain ⟨A5, hs5, hsrc5⟩ := run_tail8 A n c at3 hat3 hnc
          obtain ⟨bx, bu, be, hbb⟩ : ∃ bx bu be, bodyM (bs.drop at3) (kd, nn, 0) ended = (bx, bu, be) := ⟨_, _, _, rfl⟩
          have CB := Lib.hid (rbody_msg w4 A5 (bs.drop at3) (n - at3) (c - at3) kd nn ended (by rw [List.length_drop, HN.out]) (by omega) (by omega) hns (hsrc5 w4 P bs HN.out (HSRC.out w4 B4.out)))
          have hbr := bodyM_range (bs.drop at3) (kd, nn, 0) ended (fun _ => hns)
          rw [hbb] at hbr CB
          rw [h4, hbb] at HR4
          have HR5 := Lib.hid (HR4.out.trans done_eq)
          rw [List.length_drop, HN.out] at hbr
          simp only at hbr
          have HBR := Lib.hid hbr
          unfold TakeGot at CB
          simp only at CB
          clear HR3 HR4 h4 hbr hbb hsrc5
          go_wp2_with fail
          refine CB.out.mono ?_
          rintro e w5 ⟨v5, o5, rfl, own5, f5, b5⟩
          obtain ⟨Av, cv, hv, _⟩ := own5.src (fun _ => True) (fun _ _ => trivial)
          subst hv
          have I5 := Lib.hid (I4.out.kept (Turn.of_below (S := fun _ => False) b5) (fun h => h))
          have B5 := Lib.hid (B4.out.trans (b5.mono B4.out.size))
          have O5 := Lib.hid (O4.out.kept (Turn.of_below (S := fun _ => False) b5) (fun _ _ h => h))
          have P5 := Lib.hid own5
          have F5 := Lib.hid (fun (b : Nat) (hb : o5 = some b) => (show g < b by have := f5 b hb; have := I4.out.lt; omega))
          clear own5 f5 b5 CB O4
          by_cases h5 : be = 0
          · have d5 : ((be : Int) != 0) = false := by subst h5; rfl
            have HF := Lib.hid (HR5.out.trans (if_neg (fun h => h h5)))
            have wr : IntKind.i64.wrap ((at3 : Int) + (bu : Int)) = (at3 : Int) + (bu : Int) := by
              have : bu ≤ n - at3 := by
                rcases HBR.out with ⟨_, _, h⟩ | ⟨_, _, h⟩ <;> omega
              rw [IntKind.wrap_i64]; omega
            clear HR5 h5 HBR
            have c50 : w5.cell? ⟨g, 0, none⟩ = some (.int .i64 0) := I5.out.cell 0
            have f50 : w5.frozen? ⟨g, 0, none⟩ = false := I5.out.free 0
            have c51 : w5.cell? ⟨g, 1, none⟩ = some (.string ⟨#[]⟩) := I5.out.cell 1
            have f51 : w5.frozen? ⟨g, 1, none⟩ = false := I5.out.free 1
            have c52 : w5.cell? ⟨g, 2, none⟩ = some (.int .i64 0) := I5.out.cell 2
            have f52 : w5.frozen? ⟨g, 2, none⟩ = false := I5.out.free 2
            have c53 : w5.cell? ⟨g, 3, none⟩ = some (.slice none 0 0) := I5.out.cell 3
            have f53 : w5.frozen? ⟨g, 3, none⟩ = false := I5.out.free 3
            have c54 : w5.cell? ⟨g, 4, none⟩ = some (.slice none 0 0) := I5.out.cell 4
            have f54 : w5.frozen? ⟨g, 4, none⟩ = false := I5.out.free 4
            have I9 := Lib.hid (put5_is I5.out (.int .i64 (as_ : Int)) (.string ⟨ar.toArray⟩) (.int .i64 (an : Int)) (.slice A3 fl.length c3) (.slice Av bx.length cv))
            have B9 := Lib.hid (put5_below B5.out HG.out (.int .i64 (as_ : Int)) (.string ⟨ar.toArray⟩) (.int .i64 (an : Int)) (.slice A3 fl.length c3) (.slice Av bx.length cv))
            have O9 := Lib.hid (O5.out.kept (put5_turn w5 g (.int .i64 (as_ : Int)) (.string ⟨ar.toArray⟩) (.int .i64 (an : Int)) (.slice A3 fl.length c3) (.slice Av bx.length cv)) (fun b hb e => by have := F3.out b hb; omega))
            have P9 := Lib.hid (P5.out.kept (put5_turn w5 g (.int .i64 (as_ : Int)) (.string ⟨ar.toArray⟩) (.int .i64 (an : Int)) (.slice A3 fl.length c3) (.slice Av bx.length cv)) (fun b hb e => by have := F5.out b hb; omega))
            go_wp2_with fail
            refine bodyPost_ret (results_cell2 rfl _ _ g _ _ _ _ rfl I9.out Tryz.underlying32 rfl (by kernel_rfl)) rfl ?_
            have hg := HG.out
            exact ⟨_, o3, _, o5, by rw [HF.out]; rfl, by rw [HF.out]; exact O9.out, by rw [HF.out]; exact P9.out, fun b hb => by have := F3.out b hb; omega, fun b hb => by have := F5.out b hb; omega, B9.out⟩
          · have d5 : ((be : Int) != 0) = true := by simp; omega
            have HF := Lib.hid (HR5.out.trans (if_pos h5))
            clear HR5 h5 HBR
            have c50 : w5.cell? ⟨g, 0, none⟩ = some (.int .i64 0) := I5.out.cell 0
            have f50 : w5.frozen? ⟨g, 0, none⟩ = false := I5.out.free 0
            have c51 : w5.cell? ⟨g, 1, none⟩ = some (.string ⟨#[]⟩) := I5.out.cell 1
            have f51 : w5.frozen? ⟨g, 1, none⟩ = false := I5.out.free 1
            have c52 : w5.cell? ⟨g, 2, none⟩ = some (.int .i64 0) := I5.out.cell 2
            have f52 : w5.frozen? ⟨g, 2, none⟩ = false := I5.out.free 2
            have c53 : w5.cell? ⟨g, 3, none⟩ = some (.slice none 0 0) := I5.out.cell 3
            have f53 : w5.frozen? ⟨g, 3, none⟩ = false := I5.out.free 3
            have c54 : w5.cell? ⟨g, 4, none⟩ = some (.slice none 0 0) := I5.out.cell 4
            have f54 : w5.frozen? ⟨g, 4, none⟩ = false := I5.out.free 4
            have I9 := Lib.hid (put5_is I5.out (.int .i64 0) (.string ⟨#[]⟩) (.int .i64 0) (.slice none 0 0) (.slice none 0 0))
            have B9 := Lib.hid (put5_below B5.out HG.out (.int .i64 0) (.string ⟨#[]⟩) (.int .i64 0) (.slice none 0 0) (.slice none 0 0))
            go_wp2_with fail
            refine bodyPost_ret (results_cell2 rfl _ _ g _ _ _ _ rfl I9.out Tryz.underlying32 rfl (by kernel_rfl)) rfl ?_
            exact rs_stop HF.out rfl B9.out
        · have d4 : ((ke : Int) != 0) = true := by simp; omega
          have HF := Lib.hid (HR3.out.trans (if_pos h4))
          clear HR3 h4
          have c40 : w4.cell? ⟨g, 0, none⟩ = some (.int .i64 0) := I4.out.cell 0
          have f40 : w4.frozen? ⟨g, 0, none⟩ = false := I4.out.free 0
          have c41 : w4.cell? ⟨g, 1, none⟩ = some (.string ⟨#[]⟩) := I4.out.cell 1
          have f41 : w4.frozen? ⟨g, 1, none⟩ = false := I4.out.free 1
          have c42 : w4.cell? ⟨g, 2, none⟩ = some (.int .i64 0) := I4.out.cell 2
          have f42 : w4.frozen? ⟨g, 2, none⟩ = false := I4.out.free 2
          have c43 : w4.cell? ⟨g, 3, none⟩ = some (.slice none 0 0) := I4.out.cell 3
          have f43 : w4.frozen? ⟨g, 3, none⟩ = false := I4.out.free 3
          have c44 : w4.cell? ⟨g, 4, none⟩ = some (.slice none 0 0) := I4.out.cell 4
          have f44 : w4.frozen? ⟨g, 4, none⟩ = false := I4.out.free 4
          have I9 := Lib.hid (put5_is I4.out (.int .i64 0) (.string ⟨#[]⟩) (.int .i64 0) (.slice none 0 0) (.slice none 0 0))
          have B9 := Lib.hid (put5_below B4.out HG.out (.int .i64 0) (.string ⟨#[]⟩) (.int .i64 0) (.slice none 0 0) (.slice none 0 0))
          go_wp2_with fail
          refine bodyPost_ret (results_cell2 rfl _ _ g _ _ _ _ rfl I9.out Tryz.underlying32 rfl (by kernel_rfl)) rfl ?_
          exact rs_stop HF.out rfl B9.out
      · have d3 : ((e3 : Int) != 0) = true := by simp; omega
        have HF := Lib.hid (HR2.out.trans (if_pos h3))
        clear HR2 h3 HFR
        have c30 : w3.cell? ⟨g, 0, none⟩ = some (.int .i64 0) := I3.out.cell 0
        have f30 : w3.frozen? ⟨g, 0, none⟩ = false := I3.out.free 0
        have c31 : w3.cell? ⟨g, 1, none⟩ = some (.string ⟨#[]⟩) := I3.out.cell 1
        have f31 : w3.frozen? ⟨g, 1, none⟩ = false := I3.out.free 1
        have c32 : w3.cell? ⟨g, 2, none⟩ = some (.int .i64 0) := I3.out.cell 2
        have f32 : w3.frozen? ⟨g, 2, none⟩ = false := I3.out.free 2
        have c33 : w3.cell? ⟨g, 3, none⟩ = some (.slice none 0 0) := I3.out.cell 3
        have f33 : w3.frozen? ⟨g, 3, none⟩ = false := I3.out.free 3
        have c34 : w3.cell? ⟨g, 4, none⟩ = some (.slice none 0 0) := I3.out.cell 4
        have f34 : w3.frozen? ⟨g, 4, none⟩ = false := I3.out.free 4
        have I9 := Lib.hid (put5_is I3.out (.int .i64 0) (.string ⟨#[]⟩) (.int .i64 0) (.slice none 0 0) (.slice none 0 0))
        have B9 := Lib.hid (put5_below B3.out HG.out (.int .i64 0) (.string ⟨#[]⟩) (.int .i64 0) (.slice none 0 0) (.slice none 0 0))
        go_wp2_with fail
        refine bodyPost_ret (results_cell2 rfl _ _ g _ _ _ _ rfl I9.out Tryz.underlying32 rfl (by kernel_rfl)) rfl ?_
        exact rs_stop HF.out rfl B9.out
  · have d1 : ((e1 : Int) != 0) = true := by simp; omega
    have HF := Lib.hid (HR.out.trans (if_pos h1))
    clear HR HFR h1
    have c10 : w1.cell? ⟨g, 0, none⟩ = some (.int .i64 0) := I1.out.cell 0
    have f10 : w1.frozen? ⟨g, 0, none⟩ = false := I1.out.free 0
    have c11 : w1.cell? ⟨g, 1, none⟩ = some (.string ⟨#[]⟩) := I1.out.cell 1
    have f11 : w1.frozen? ⟨g, 1, none⟩ = false := I1.out.free 1
    have c12 : w1.cell? ⟨g, 2, none⟩ = some (.int .i64 0) := I1.out.cell 2
    have f12 : w1.frozen? ⟨g, 2, none⟩ = false := I1.out.free 2
    have c13 : w1.cell? ⟨g, 3, none⟩ = some (.slice none 0 0) := I1.out.cell 3
    have f13 : w1.frozen? ⟨g, 3, none⟩ = false := I1.out.free 3
    have c14 : w1.cell? ⟨g, 4, none⟩ = some (.slice none 0 0) := I1.out.cell 4
    have f14 : w1.frozen? ⟨g, 4, none⟩ = false := I1.out.free 4
    have I9 := Lib.hid (put5_is I1.out (.int .i64 0) (.string ⟨#[]⟩) (.int .i64 0) (.slice none 0 0) (.slice none 0 0))
    have B9 := Lib.hid (put5_below B1.out HG.out (.int .i64 0) (.string ⟨#[]⟩) (.int .i64 0) (.slice none 0 0) (.slice none 0 0))
    go_wp2_with fail
    refine bodyPost_ret (results_cell2 rfl _ _ g _ _ _ _ rfl I9.out Tryz.underlying32 rfl (by kernel_rfl)) rfl ?_
    exact rs_stop HF.out rfl B9.out
end Go.Proofs.YtemgfppclakdmaaGreatDoor
