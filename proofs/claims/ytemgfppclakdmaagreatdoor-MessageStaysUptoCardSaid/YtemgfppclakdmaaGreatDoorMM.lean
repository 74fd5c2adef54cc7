/-
  The law MessageStays: walk.
  Conditions: the landed code's contracts; what the arguments read; Go's table of powers of ten.
-/
import Derived.Test.YtemgfppclakdmaaGreatDoorML
namespace Go.Proofs.YtemgfppclakdmaaGreatDoor
open Go.RowKit

set_option maxHeartbeats 40000000 in
set_option maxRecDepth 100000 in
theorem stays9_law (HC : MsgC) (w : World) (A A' : Option Addr) (bs ts : List UInt8) (n c n' c' : Nat) (mt : ByteArray) (hn : bs.length = n) (hnc : n ≤ c) (hmax : n ≤ 100000000) (hn' : ts.length = n') (hmax' : n' ≤ 100000000) (hmt : mt.size ≤ 140737488351232) (h : Src w (fun _ => True) A bs) (h' : Src w (fun _ => True) A' ts) (hp : Sta.PowT w) :
    Calls Tryz.prog 6 #[.slice A n c, .slice A' n' c', .string mt] w fun e w' => e = .returned (.bool true) ∧ Below w.heap.size w w' := by
  obtain ⟨am, at_, an, fl, x, u, f, hq1, hq2, hx, hu, hf, hfl⟩ := req_parts bs
  obtain ⟨ar, bn, as_, gl, y, v, g, hr1, hr2, hy, hv, hg, hgl⟩ := res_parts bs (bl mt) false
  rw [hn] at hu hv
  have HQ := Lib.hid hq1
  have HR := Lib.hid hr1
  have CW := Lib.hid (fun (X : World) (hX : Below w.heap.size w X) => awake9_any HC X (hp.below hX))
  have CQ := Lib.hid (fun (X : World) (hX : Below w.heap.size w X) => (HC.request X A bs n c hn hnc (by omega) (h.kept (Turn.of_below (S := fun _ => False) hX) (fun _ _ h => h)) (hp.below hX)).mono (fun _ _ h => h.told))
  have CS := Lib.hid (fun (X : World) (hX : Below w.heap.size w X) => (HC.response X A bs n c mt false hn hnc (by omega) hmt (h.kept (Turn.of_below (S := fun _ => False) hX) (fun _ _ h => h)) (hp.below hX)).mono (fun _ _ h => h.told))
  have CQM := Lib.hid (fun (X : World) (hX : Below w.heap.size w X) (M : Option Addr) (L cM : Nat) (hL : (bs ++ ts).length = L) (hLc : L ≤ cM) (hM : Src X (fun _ => True) M (bs ++ ts)) (h8 : f ≠ 8) => (show Calls Tryz.prog 9 #[.slice M L cM] X (RqTold ((requestM bs).1.getD rqZ) (requestM bs).2.1 (requestM bs).2.2 X) from by
    have := (HC.request X M (bs ++ ts) L cM hL hLc (by rw [← hL, List.length_append]; omega) hM (hp.below hX)).mono (fun _ _ h => h.told)
    rwa [request_stays bs ts (by rw [hq2]; exact h8)] at this))
  have CSM := Lib.hid (fun (X : World) (hX : Below w.heap.size w X) (M : Option Addr) (L cM : Nat) (ended : Bool) (hL : (bs ++ ts).length = L) (hLc : L ≤ cM) (hM : Src X (fun _ => True) M (bs ++ ts)) (h8 : g ≠ 8) => (show Calls Tryz.prog 11 #[.slice M L cM, .string mt, .bool ended] X (RsTold ((responseM bs (bl mt) false).1.getD rsZ) (responseM bs (bl mt) false).2.1 (responseM bs (bl mt) false).2.2 X) from by
    have := (HC.response X M (bs ++ ts) L cM mt ended hL hLc (by rw [← hL, List.length_append]; omega) hmt hM (hp.below hX)).mono (fun _ _ h => h.told)
    rwa [response_stays bs ts (bl mt) ended (by rw [hr2]; exact h8)] at this))
  rw [hq1, hq2] at CQ CQM
  rw [hr1, hr2] at CS CSM
  unfold RqTold at CQ CQM
  unfold RsTold at CS CSM
  simp only at CQ CQM CS CSM
  have H := Lib.hid h
  have H' := Lib.hid h'
  have HN := Lib.hid hn
  have HN' := Lib.hid hn'
  have SQ := Lib.hid HC.sameRequest
  have SS := Lib.hid HC.sameResponse
  have dx : decide ((4096 : Int) < (x.length : Int)) = false := decide_eq_false (by omega)
  have dxn : decide (4096 < x.length) = false := decide_eq_false (by omega)
  have dy : decide ((4096 : Int) < (y.length : Int)) = false := decide_eq_false (by omega)
  have dyn : decide (4096 < y.length) = false := decide_eq_false (by omega)
  have du : decide ((n : Int) < (u : Int)) = false := decide_eq_false (by omega)
  have dun : decide (n < u) = false := decide_eq_false (by omega)
  have dv : decide ((n : Int) < (v : Int)) = false := decide_eq_false (by omega)
  have dvn : decide (n < v) = false := decide_eq_false (by omega)
  clear hq1 hq2 hr1 hr2 hn hn' h h' hp hx hy hu hv
  go_enter Tryz.func6, Tryz.ntmps6
  go_wp2_with fail
  refine (CW.out w (Below.refl _ _)).mono ?_
  rintro e w1 ⟨rfl, b1⟩
  have hs2 : ∀ {A : Option Addr} {l : List UInt8}, Src w (fun _ => True) A l → ∀ {X : World}, Below w.heap.size w X → Src X (fun _ => True) A l := fun h _ hX => h.kept (Turn.of_below (S := fun _ => False) hX) (fun _ _ h => h)
  have b2 : Below w.heap.size w (w1.alloc (.cells #[] 5)) := b1.alloc b1.size _
  obtain ⟨v3, w3, o3, r3, own3, t3, f3⟩ := run_append_src (w1.alloc (.cells #[] 5)) _ _ [] bs (Own.built w1) A n c HN.out (hs2 H.out b2) (by rw [HN.out]; simp; omega)
  rw [List.nil_append] at own3
  have b3 : Below w.heap.size w w3 := below_own b2 (fun b hb => by injection hb with hb; have := b1.size; omega) t3
  have f3' : ∀ b, o3 = some b → w.heap.size ≤ b := fun b hb => by
    have := b1.size
    rcases f3 with h | h
    · rw [h] at hb; injection hb with hb; omega
    · rw [h] at hb; injection hb with hb; simp at hb; omega
  obtain ⟨v4, w4, o4, r4, own4, t4, f4⟩ := run_append_src w3 v3 o3 bs ts own3 A' n' c' HN'.out (hs2 H'.out b3) (by rw [HN.out, HN'.out]; omega)
  have b4 : Below w.heap.size w w4 := below_own b3 f3' t4
  obtain ⟨M, cM, hM, hMc, sM, _⟩ := own4.block
  subst hM
  obtain ⟨L, hL⟩ : ∃ L, (bs ++ ts).length = L := ⟨_, rfl⟩
  rw [hL] at r4 hMc
  have HLN := Lib.hid hL
  have R3 := Lib.hid r3
  have R4 := Lib.hid r4
  have B4 := Lib.hid b4
  have SM := Lib.hid sM
  clear b1 b2 hs2 own3 t3 f3 f3' b3 own4 t4 f4 b4 sM r3 r4 hL
  go_wp2_with (first
    | (at_builtin; refine append_by rfl (.tmp 23) (.tmp 24) 22 rfl _ _ v3 w3 rfl rfl R3.out ?_)
    | (at_builtin; refine append_by rfl (.tmp 25) (.tmp 26) 22 rfl _ _ _ w4 rfl rfl R4.out ?_))
  refine (CQ.out _ B4.out).mono ?_
  rintro e y1 ⟨Af1, cf1, Ab1, cb1, rfl, sf1, sb1, b1⟩
  have b1' := b1.alloc b1.size (.cells #[.string ⟨am.toArray⟩, .string ⟨at_.toArray⟩, .int .i64 (an : Int), .slice Af1 fl.length cf1, .slice Ab1 x.length cb1] 25)
  have z1 : Below y1.heap.size y1 (y1.alloc (.cells #[.string ⟨am.toArray⟩, .string ⟨at_.toArray⟩, .int .i64 (an : Int), .slice Af1 fl.length cf1, .slice Ab1 x.length cb1] 25)) := (Below.refl _ _).alloc (Nat.le_refl _) _
  have I1_1 := Lib.hid (Is.made y1 25 [.string ⟨am.toArray⟩, .string ⟨at_.toArray⟩, .int .i64 (an : Int), .slice Af1 fl.length cf1, .slice Ab1 x.length cb1])
  have F1_1 := Lib.hid (sf1.below z1)
  have S1_1 := Lib.hid (sb1.kept (Turn.of_below (S := fun _ => False) z1) (fun _ _ h => h))
  have B1 := Lib.hid (B4.out.trans (b1'.mono B4.out.size))
  have N1 := Lib.hid (SM.out.kept (Turn.of_below (S := fun _ => False) b1') (fun _ _ h => h))
  clear b1 b1' z1 sf1 sb1
  by_cases q8 : f = 8
  · have e8 : ((f : Int) != 8) = false := by subst q8; rfl
    clear q8
    go_upto_region 5 with fail
    generalize y1.alloc _ = X1 at *
    go_wp2_with fail
    refine (CS.out _ B1.out).mono ?_
    rintro e y2 ⟨Af2, cf2, Ab2, cb2, rfl, sf2, sb2, b2⟩
    have b2' := b2.alloc b2.size (.cells #[.int .i64 (as_ : Int), .string ⟨ar.toArray⟩, .int .i64 (bn : Int), .slice Af2 gl.length cf2, .slice Ab2 y.length cb2] 32)
    have z2 : Below y2.heap.size y2 (y2.alloc (.cells #[.int .i64 (as_ : Int), .string ⟨ar.toArray⟩, .int .i64 (bn : Int), .slice Af2 gl.length cf2, .slice Ab2 y.length cb2] 32)) := (Below.refl _ _).alloc (Nat.le_refl _) _
    have I2_2 := Lib.hid (Is.made y2 32 [.int .i64 (as_ : Int), .string ⟨ar.toArray⟩, .int .i64 (bn : Int), .slice Af2 gl.length cf2, .slice Ab2 y.length cb2])
    have F2_2 := Lib.hid (sf2.below z2)
    have S2_2 := Lib.hid (sb2.kept (Turn.of_below (S := fun _ => False) z2) (fun _ _ h => h))
    have B2 := Lib.hid (B1.out.trans (b2'.mono B1.out.size))
    have N2 := Lib.hid (N1.out.kept (Turn.of_below (S := fun _ => False) b2') (fun _ _ h => h))
    clear b2 b2' z2 sf2 sb2
    by_cases q8 : g = 8
    · have e8 : ((g : Int) != 8) = false := by subst q8; rfl
      clear q8
      go_wp2_with fail
      go_ret
      exact ⟨rfl, B2.out⟩
    · have e8 : ((g : Int) != 8) = true := by simp; omega
      have CM1 := Lib.hid (fun (X : World) (hX : Below w.heap.size w X) (hM : Src X (fun _ => True) M (bs ++ ts)) (en : Bool) => CSM.out X hX M L cM en HLN.out hMc hM q8)
      clear q8
      go_upto_region 10 with fail
      generalize y2.alloc _ = X2 at *
      generalize y2.heap.size = g2 at *
      go_wp2_with fail
      refine (CM1.out _ B2.out N2.out false).mono ?_
      rintro e y3 ⟨Af3, cf3, Ab3, cb3, rfl, sf3, sb3, b3⟩
      have b3' := b3.alloc b3.size (.cells #[.int .i64 (as_ : Int), .string ⟨ar.toArray⟩, .int .i64 (bn : Int), .slice Af3 gl.length cf3, .slice Ab3 y.length cb3] 32)
      have z3 : Below y3.heap.size y3 (y3.alloc (.cells #[.int .i64 (as_ : Int), .string ⟨ar.toArray⟩, .int .i64 (bn : Int), .slice Af3 gl.length cf3, .slice Ab3 y.length cb3] 32)) := (Below.refl _ _).alloc (Nat.le_refl _) _
      have I3_3 := Lib.hid (Is.made y3 32 [.int .i64 (as_ : Int), .string ⟨ar.toArray⟩, .int .i64 (bn : Int), .slice Af3 gl.length cf3, .slice Ab3 y.length cb3])
      have F3_3 := Lib.hid (sf3.below z3)
      have S3_3 := Lib.hid (sb3.kept (Turn.of_below (S := fun _ => False) z3) (fun _ _ h => h))
      have B3 := Lib.hid (B2.out.trans (b3'.mono B2.out.size))
      have N3 := Lib.hid (N2.out.kept (Turn.of_below (S := fun _ => False) b3') (fun _ _ h => h))
      have I2_3 := Lib.hid (I2_2.out.kept (Turn.of_below (S := fun _ => False) b3') (fun h => h))
      have F2_3 := Lib.hid (F2_2.out.below b3')
      have S2_3 := Lib.hid (S2_2.out.kept (Turn.of_below (S := fun _ => False) b3') (fun _ _ h => h))
      clear b3 b3' z3 sf3 sb3 I2_2 F2_2 S2_2
      go_upto_region 12 with fail
      generalize y3.alloc _ = X3 at *
      generalize y3.heap.size = g3 at *
      go_wp2_with fail
      refine (CM1.out _ B3.out N3.out true).mono ?_
      rintro e y4 ⟨Af4, cf4, Ab4, cb4, rfl, sf4, sb4, b4⟩
      have b4' := b4.alloc b4.size (.cells #[.int .i64 (as_ : Int), .string ⟨ar.toArray⟩, .int .i64 (bn : Int), .slice Af4 gl.length cf4, .slice Ab4 y.length cb4] 32)
      have z4 : Below y4.heap.size y4 (y4.alloc (.cells #[.int .i64 (as_ : Int), .string ⟨ar.toArray⟩, .int .i64 (bn : Int), .slice Af4 gl.length cf4, .slice Ab4 y.length cb4] 32)) := (Below.refl _ _).alloc (Nat.le_refl _) _
      have I4_4 := Lib.hid (Is.made y4 32 [.int .i64 (as_ : Int), .string ⟨ar.toArray⟩, .int .i64 (bn : Int), .slice Af4 gl.length cf4, .slice Ab4 y.length cb4])
      have F4_4 := Lib.hid (sf4.below z4)
      have S4_4 := Lib.hid (sb4.kept (Turn.of_below (S := fun _ => False) z4) (fun _ _ h => h))
      have B4 := Lib.hid (B3.out.trans (b4'.mono B3.out.size))
      have N4 := Lib.hid (N3.out.kept (Turn.of_below (S := fun _ => False) b4') (fun _ _ h => h))
      have I2_4 := Lib.hid (I2_3.out.kept (Turn.of_below (S := fun _ => False) b4') (fun h => h))
      have F2_4 := Lib.hid (F2_3.out.below b4')
      have S2_4 := Lib.hid (S2_3.out.kept (Turn.of_below (S := fun _ => False) b4') (fun _ _ h => h))
      have I3_4 := Lib.hid (I3_3.out.kept (Turn.of_below (S := fun _ => False) b4') (fun h => h))
      have F3_4 := Lib.hid (F3_3.out.below b4')
      have S3_4 := Lib.hid (S3_3.out.kept (Turn.of_below (S := fun _ => False) b4') (fun _ _ h => h))
      clear b4 b4' z4 sf4 sb4 I2_3 F2_3 S2_3 I3_3 F3_3 S3_3
      go_upto_region 13 with fail
      generalize y4.alloc _ = X4 at *
      generalize y4.heap.size = g4 at *
      have c2_4_0 : X4.cell? ⟨g2, 0, none⟩ = some (.int .i64 (as_ : Int)) := I2_4.out.cell 0
      have c2_4_1 : X4.cell? ⟨g2, 1, none⟩ = some (.string ⟨ar.toArray⟩) := I2_4.out.cell 1
      have c2_4_2 : X4.cell? ⟨g2, 2, none⟩ = some (.int .i64 (bn : Int)) := I2_4.out.cell 2
      have c2_4_3 : X4.cell? ⟨g2, 3, none⟩ = some (.slice Af2 gl.length cf2) := I2_4.out.cell 3
      have c2_4_4 : X4.cell? ⟨g2, 4, none⟩ = some (.slice Ab2 y.length cb2) := I2_4.out.cell 4
      have c3_4_0 : X4.cell? ⟨g3, 0, none⟩ = some (.int .i64 (as_ : Int)) := I3_4.out.cell 0
      have c3_4_1 : X4.cell? ⟨g3, 1, none⟩ = some (.string ⟨ar.toArray⟩) := I3_4.out.cell 1
      have c3_4_2 : X4.cell? ⟨g3, 2, none⟩ = some (.int .i64 (bn : Int)) := I3_4.out.cell 2
      have c3_4_3 : X4.cell? ⟨g3, 3, none⟩ = some (.slice Af3 gl.length cf3) := I3_4.out.cell 3
      have c3_4_4 : X4.cell? ⟨g3, 4, none⟩ = some (.slice Ab3 y.length cb3) := I3_4.out.cell 4
      have e1 : ((g : Int) != (g : Int)) = false := by simp
      have e2 : ((v : Int) != (v : Int)) = false := by simp
      have K1 := Lib.hid (SS.out X4 (as_ : Int) (as_ : Int) ⟨ar.toArray⟩ ⟨ar.toArray⟩ (bn : Int) (bn : Int) Af2 Af3 Ab2 Ab3 gl gl y y gl.length gl.length cf2 cf3 y.length y.length cb2 cb3 rfl rfl (by omega) rfl rfl F2_4.out F3_4.out S2_4.out S3_4.out)
      rw [show decide ((as_ : Int) = (as_ : Int) ∧ bl ⟨ar.toArray⟩ = bl ⟨ar.toArray⟩ ∧ (bn : Int) = (bn : Int) ∧ gl = gl ∧ y = y) = true by simp] at K1
      by_cases q0 : g = 0
      · have e3 : ((g : Int) != 0) = false := by subst q0; rfl
        clear q0
        go_wp2_with fail
        refine K1.out.mono ?_
        rintro e z1 ⟨rfl, bz1⟩
        have J1 := Lib.hid (I2_4.out.kept (Turn.of_below (S := fun _ => False) bz1) (fun h => h))
        have J3 := Lib.hid (I4_4.out.kept (Turn.of_below (S := fun _ => False) bz1) (fun h => h))
        have d1_0 : z1.cell? ⟨g2, 0, none⟩ = some (.int .i64 (as_ : Int)) := J1.out.cell 0
        have d1_1 : z1.cell? ⟨g2, 1, none⟩ = some (.string ⟨ar.toArray⟩) := J1.out.cell 1
        have d1_2 : z1.cell? ⟨g2, 2, none⟩ = some (.int .i64 (bn : Int)) := J1.out.cell 2
        have d1_3 : z1.cell? ⟨g2, 3, none⟩ = some (.slice Af2 gl.length cf2) := J1.out.cell 3
        have d1_4 : z1.cell? ⟨g2, 4, none⟩ = some (.slice Ab2 y.length cb2) := J1.out.cell 4
        have d3_0 : z1.cell? ⟨g4, 0, none⟩ = some (.int .i64 (as_ : Int)) := J3.out.cell 0
        have d3_1 : z1.cell? ⟨g4, 1, none⟩ = some (.string ⟨ar.toArray⟩) := J3.out.cell 1
        have d3_2 : z1.cell? ⟨g4, 2, none⟩ = some (.int .i64 (bn : Int)) := J3.out.cell 2
        have d3_3 : z1.cell? ⟨g4, 3, none⟩ = some (.slice Af4 gl.length cf4) := J3.out.cell 3
        have d3_4 : z1.cell? ⟨g4, 4, none⟩ = some (.slice Ab4 y.length cb4) := J3.out.cell 4
        have K2 := Lib.hid (SS.out z1 (as_ : Int) (as_ : Int) ⟨ar.toArray⟩ ⟨ar.toArray⟩ (bn : Int) (bn : Int) Af2 Af4 Ab2 Ab4 gl gl y y gl.length gl.length cf2 cf4 y.length y.length cb2 cb4 rfl rfl (by omega) rfl rfl (F2_4.out.below bz1) (F4_4.out.below bz1) (S2_4.out.kept (Turn.of_below (S := fun _ => False) bz1) (fun _ _ h => h)) (S4_4.out.kept (Turn.of_below (S := fun _ => False) bz1) (fun _ _ h => h)))
        rw [show decide ((as_ : Int) = (as_ : Int) ∧ bl ⟨ar.toArray⟩ = bl ⟨ar.toArray⟩ ∧ (bn : Int) = (bn : Int) ∧ gl = gl ∧ y = y) = true by simp] at K2
        have BZ1 := Lib.hid (B4.out.trans (bz1.mono B4.out.size))
        clear bz1
        go_wp2_with fail
        refine K2.out.mono ?_
        rintro e z2 ⟨rfl, bz2⟩
        have J4 := Lib.hid (J1.out.kept (Turn.of_below (S := fun _ => False) bz2) (fun h => h))
        have d4 : z2.cell? ⟨g2, 4, none⟩ = some (.slice Ab2 y.length cb2) := J4.out.cell 4
        have BZ2 := Lib.hid (BZ1.out.trans (bz2.mono BZ1.out.size))
        clear bz2
        go_wp2_with fail
        go_ret
        exact ⟨rfl, BZ2.out⟩
      · have e3 : ((g : Int) != 0) = true := by simp; omega
        have e4 : ((v : Int) != 0) = false := by rw [hg q0]; rfl
        clear q0
        go_wp2_with fail
        refine K1.out.mono ?_
        rintro e z1 ⟨rfl, bz1⟩
        have J1 := Lib.hid (I2_4.out.kept (Turn.of_below (S := fun _ => False) bz1) (fun h => h))
        have J3 := Lib.hid (I4_4.out.kept (Turn.of_below (S := fun _ => False) bz1) (fun h => h))
        have d1_0 : z1.cell? ⟨g2, 0, none⟩ = some (.int .i64 (as_ : Int)) := J1.out.cell 0
        have d1_1 : z1.cell? ⟨g2, 1, none⟩ = some (.string ⟨ar.toArray⟩) := J1.out.cell 1
        have d1_2 : z1.cell? ⟨g2, 2, none⟩ = some (.int .i64 (bn : Int)) := J1.out.cell 2
        have d1_3 : z1.cell? ⟨g2, 3, none⟩ = some (.slice Af2 gl.length cf2) := J1.out.cell 3
        have d1_4 : z1.cell? ⟨g2, 4, none⟩ = some (.slice Ab2 y.length cb2) := J1.out.cell 4
        have d3_0 : z1.cell? ⟨g4, 0, none⟩ = some (.int .i64 (as_ : Int)) := J3.out.cell 0
        have d3_1 : z1.cell? ⟨g4, 1, none⟩ = some (.string ⟨ar.toArray⟩) := J3.out.cell 1
        have d3_2 : z1.cell? ⟨g4, 2, none⟩ = some (.int .i64 (bn : Int)) := J3.out.cell 2
        have d3_3 : z1.cell? ⟨g4, 3, none⟩ = some (.slice Af4 gl.length cf4) := J3.out.cell 3
        have d3_4 : z1.cell? ⟨g4, 4, none⟩ = some (.slice Ab4 y.length cb4) := J3.out.cell 4
        have K2 := Lib.hid (SS.out z1 (as_ : Int) (as_ : Int) ⟨ar.toArray⟩ ⟨ar.toArray⟩ (bn : Int) (bn : Int) Af2 Af4 Ab2 Ab4 gl gl y y gl.length gl.length cf2 cf4 y.length y.length cb2 cb4 rfl rfl (by omega) rfl rfl (F2_4.out.below bz1) (F4_4.out.below bz1) (S2_4.out.kept (Turn.of_below (S := fun _ => False) bz1) (fun _ _ h => h)) (S4_4.out.kept (Turn.of_below (S := fun _ => False) bz1) (fun _ _ h => h)))
        rw [show decide ((as_ : Int) = (as_ : Int) ∧ bl ⟨ar.toArray⟩ = bl ⟨ar.toArray⟩ ∧ (bn : Int) = (bn : Int) ∧ gl = gl ∧ y = y) = true by simp] at K2
        have BZ1 := Lib.hid (B4.out.trans (bz1.mono B4.out.size))
        clear bz1
        go_wp2_with fail
        refine K2.out.mono ?_
        rintro e z2 ⟨rfl, bz2⟩
        have J4 := Lib.hid (J1.out.kept (Turn.of_below (S := fun _ => False) bz2) (fun h => h))
        have d4 : z2.cell? ⟨g2, 4, none⟩ = some (.slice Ab2 y.length cb2) := J4.out.cell 4
        have BZ2 := Lib.hid (BZ1.out.trans (bz2.mono BZ1.out.size))
        clear bz2
        go_wp2_with fail
        go_ret
        exact ⟨rfl, BZ2.out⟩
  · have e8 : ((f : Int) != 8) = true := by simp; omega
    have CM0 := Lib.hid (fun (X : World) (hX : Below w.heap.size w X) (hM : Src X (fun _ => True) M (bs ++ ts)) => CQM.out X hX M L cM HLN.out hMc hM q8)
    clear q8
    go_upto_region 5 with fail
    generalize y1.alloc _ = X1 at *
    generalize y1.heap.size = g1 at *
    go_wp2_with fail
    refine (CM0.out _ B1.out N1.out).mono ?_
    rintro e y2 ⟨Af2, cf2, Ab2, cb2, rfl, sf2, sb2, b2⟩
    have b2' := b2.alloc b2.size (.cells #[.string ⟨am.toArray⟩, .string ⟨at_.toArray⟩, .int .i64 (an : Int), .slice Af2 fl.length cf2, .slice Ab2 x.length cb2] 25)
    have z2 : Below y2.heap.size y2 (y2.alloc (.cells #[.string ⟨am.toArray⟩, .string ⟨at_.toArray⟩, .int .i64 (an : Int), .slice Af2 fl.length cf2, .slice Ab2 x.length cb2] 25)) := (Below.refl _ _).alloc (Nat.le_refl _) _
    have I2_2 := Lib.hid (Is.made y2 25 [.string ⟨am.toArray⟩, .string ⟨at_.toArray⟩, .int .i64 (an : Int), .slice Af2 fl.length cf2, .slice Ab2 x.length cb2])
    have F2_2 := Lib.hid (sf2.below z2)
    have S2_2 := Lib.hid (sb2.kept (Turn.of_below (S := fun _ => False) z2) (fun _ _ h => h))
    have B2 := Lib.hid (B1.out.trans (b2'.mono B1.out.size))
    have N2 := Lib.hid (N1.out.kept (Turn.of_below (S := fun _ => False) b2') (fun _ _ h => h))
    have I1_2 := Lib.hid (I1_1.out.kept (Turn.of_below (S := fun _ => False) b2') (fun h => h))
    have F1_2 := Lib.hid (F1_1.out.below b2')
    have S1_2 := Lib.hid (S1_1.out.kept (Turn.of_below (S := fun _ => False) b2') (fun _ _ h => h))
    clear b2 b2' z2 sf2 sb2 I1_1 F1_1 S1_1
    go_upto_region 7 with fail
    generalize y2.alloc _ = X2 at *
    generalize y2.heap.size = g2 at *
    have c1_2_0 : X2.cell? ⟨g1, 0, none⟩ = some (.string ⟨am.toArray⟩) := I1_2.out.cell 0
    have c1_2_1 : X2.cell? ⟨g1, 1, none⟩ = some (.string ⟨at_.toArray⟩) := I1_2.out.cell 1
    have c1_2_2 : X2.cell? ⟨g1, 2, none⟩ = some (.int .i64 (an : Int)) := I1_2.out.cell 2
    have c1_2_3 : X2.cell? ⟨g1, 3, none⟩ = some (.slice Af1 fl.length cf1) := I1_2.out.cell 3
    have c1_2_4 : X2.cell? ⟨g1, 4, none⟩ = some (.slice Ab1 x.length cb1) := I1_2.out.cell 4
    have c2_2_0 : X2.cell? ⟨g2, 0, none⟩ = some (.string ⟨am.toArray⟩) := I2_2.out.cell 0
    have c2_2_1 : X2.cell? ⟨g2, 1, none⟩ = some (.string ⟨at_.toArray⟩) := I2_2.out.cell 1
    have c2_2_2 : X2.cell? ⟨g2, 2, none⟩ = some (.int .i64 (an : Int)) := I2_2.out.cell 2
    have c2_2_3 : X2.cell? ⟨g2, 3, none⟩ = some (.slice Af2 fl.length cf2) := I2_2.out.cell 3
    have c2_2_4 : X2.cell? ⟨g2, 4, none⟩ = some (.slice Ab2 x.length cb2) := I2_2.out.cell 4
    have e1 : ((f : Int) != (f : Int)) = false := by simp
    have e2 : ((u : Int) != (u : Int)) = false := by simp
    have K0 := Lib.hid (SQ.out X2 ⟨am.toArray⟩ ⟨am.toArray⟩ ⟨at_.toArray⟩ ⟨at_.toArray⟩ (an : Int) (an : Int) Af1 Af2 Ab1 Ab2 fl fl x x fl.length fl.length cf1 cf2 x.length x.length cb1 cb2 rfl rfl (by omega) rfl rfl F1_2.out F2_2.out S1_2.out S2_2.out)
    rw [show decide (bl ⟨am.toArray⟩ = bl ⟨am.toArray⟩ ∧ bl ⟨at_.toArray⟩ = bl ⟨at_.toArray⟩ ∧ (an : Int) = (an : Int) ∧ fl = fl ∧ x = x) = true by simp] at K0
    by_cases q0 : f = 0
    · have e3 : ((f : Int) != 0) = false := by subst q0; rfl
      clear q0
      go_wp2_with fail
      refine K0.out.mono ?_
      rintro e X3 ⟨rfl, bx⟩
      have J0 := Lib.hid (I1_2.out.kept (Turn.of_below (S := fun _ => False) bx) (fun h => h))
      have d0 : X3.cell? ⟨g1, 4, none⟩ = some (.slice Ab1 x.length cb1) := J0.out.cell 4
      have B3 := Lib.hid (B2.out.trans (bx.mono B2.out.size))
      have N3 := Lib.hid (N2.out.kept (Turn.of_below (S := fun _ => False) bx) (fun _ _ h => h))
      clear bx I1_2 F1_2 S1_2 I2_2 F2_2 S2_2 CM0 CQ CQM K0 c1_2_0 c1_2_1 c1_2_2 c1_2_3 c1_2_4 c2_2_0 c2_2_1 c2_2_2 c2_2_3 c2_2_4
      go_wp2_with fail
      refine (CS.out _ B3.out).mono ?_
      rintro e y4 ⟨Af4, cf4, Ab4, cb4, rfl, sf4, sb4, b4⟩
      have b4' := b4.alloc b4.size (.cells #[.int .i64 (as_ : Int), .string ⟨ar.toArray⟩, .int .i64 (bn : Int), .slice Af4 gl.length cf4, .slice Ab4 y.length cb4] 32)
      have z4 : Below y4.heap.size y4 (y4.alloc (.cells #[.int .i64 (as_ : Int), .string ⟨ar.toArray⟩, .int .i64 (bn : Int), .slice Af4 gl.length cf4, .slice Ab4 y.length cb4] 32)) := (Below.refl _ _).alloc (Nat.le_refl _) _
      have I4_4 := Lib.hid (Is.made y4 32 [.int .i64 (as_ : Int), .string ⟨ar.toArray⟩, .int .i64 (bn : Int), .slice Af4 gl.length cf4, .slice Ab4 y.length cb4])
      have F4_4 := Lib.hid (sf4.below z4)
      have S4_4 := Lib.hid (sb4.kept (Turn.of_below (S := fun _ => False) z4) (fun _ _ h => h))
      have B4 := Lib.hid (B3.out.trans (b4'.mono B3.out.size))
      have N4 := Lib.hid (N3.out.kept (Turn.of_below (S := fun _ => False) b4') (fun _ _ h => h))
      clear b4 b4' z4 sf4 sb4
      by_cases q8 : g = 8
      · have e8 : ((g : Int) != 8) = false := by subst q8; rfl
        clear q8
        go_wp2_with fail
        go_ret
        exact ⟨rfl, B4.out⟩
      · have e8 : ((g : Int) != 8) = true := by simp; omega
        have CM1 := Lib.hid (fun (X : World) (hX : Below w.heap.size w X) (hM : Src X (fun _ => True) M (bs ++ ts)) (en : Bool) => CSM.out X hX M L cM en HLN.out hMc hM q8)
        clear q8
        go_upto_region 10 with fail
        generalize y4.alloc _ = X4 at *
        generalize y4.heap.size = g4 at *
        go_wp2_with fail
        refine (CM1.out _ B4.out N4.out false).mono ?_
        rintro e y5 ⟨Af5, cf5, Ab5, cb5, rfl, sf5, sb5, b5⟩
        have b5' := b5.alloc b5.size (.cells #[.int .i64 (as_ : Int), .string ⟨ar.toArray⟩, .int .i64 (bn : Int), .slice Af5 gl.length cf5, .slice Ab5 y.length cb5] 32)
        have z5 : Below y5.heap.size y5 (y5.alloc (.cells #[.int .i64 (as_ : Int), .string ⟨ar.toArray⟩, .int .i64 (bn : Int), .slice Af5 gl.length cf5, .slice Ab5 y.length cb5] 32)) := (Below.refl _ _).alloc (Nat.le_refl _) _
        have I5_5 := Lib.hid (Is.made y5 32 [.int .i64 (as_ : Int), .string ⟨ar.toArray⟩, .int .i64 (bn : Int), .slice Af5 gl.length cf5, .slice Ab5 y.length cb5])
        have F5_5 := Lib.hid (sf5.below z5)
        have S5_5 := Lib.hid (sb5.kept (Turn.of_below (S := fun _ => False) z5) (fun _ _ h => h))
        have B5 := Lib.hid (B4.out.trans (b5'.mono B4.out.size))
        have N5 := Lib.hid (N4.out.kept (Turn.of_below (S := fun _ => False) b5') (fun _ _ h => h))
        have I4_5 := Lib.hid (I4_4.out.kept (Turn.of_below (S := fun _ => False) b5') (fun h => h))
        have F4_5 := Lib.hid (F4_4.out.below b5')
        have S4_5 := Lib.hid (S4_4.out.kept (Turn.of_below (S := fun _ => False) b5') (fun _ _ h => h))
        clear b5 b5' z5 sf5 sb5 I4_4 F4_4 S4_4
        go_upto_region 12 with fail
        generalize y5.alloc _ = X5 at *
        generalize y5.heap.size = g5 at *
        go_wp2_with fail
        refine (CM1.out _ B5.out N5.out true).mono ?_
        rintro e y6 ⟨Af6, cf6, Ab6, cb6, rfl, sf6, sb6, b6⟩
        have b6' := b6.alloc b6.size (.cells #[.int .i64 (as_ : Int), .string ⟨ar.toArray⟩, .int .i64 (bn : Int), .slice Af6 gl.length cf6, .slice Ab6 y.length cb6] 32)
        have z6 : Below y6.heap.size y6 (y6.alloc (.cells #[.int .i64 (as_ : Int), .string ⟨ar.toArray⟩, .int .i64 (bn : Int), .slice Af6 gl.length cf6, .slice Ab6 y.length cb6] 32)) := (Below.refl _ _).alloc (Nat.le_refl _) _
        have I6_6 := Lib.hid (Is.made y6 32 [.int .i64 (as_ : Int), .string ⟨ar.toArray⟩, .int .i64 (bn : Int), .slice Af6 gl.length cf6, .slice Ab6 y.length cb6])
        have F6_6 := Lib.hid (sf6.below z6)
        have S6_6 := Lib.hid (sb6.kept (Turn.of_below (S := fun _ => False) z6) (fun _ _ h => h))
        have B6 := Lib.hid (B5.out.trans (b6'.mono B5.out.size))
        have N6 := Lib.hid (N5.out.kept (Turn.of_below (S := fun _ => False) b6') (fun _ _ h => h))
        have I4_6 := Lib.hid (I4_5.out.kept (Turn.of_below (S := fun _ => False) b6') (fun h => h))
        have F4_6 := Lib.hid (F4_5.out.below b6')
        have S4_6 := Lib.hid (S4_5.out.kept (Turn.of_below (S := fun _ => False) b6') (fun _ _ h => h))
        have I5_6 := Lib.hid (I5_5.out.kept (Turn.of_below (S := fun _ => False) b6') (fun h => h))
        have F5_6 := Lib.hid (F5_5.out.below b6')
        have S5_6 := Lib.hid (S5_5.out.kept (Turn.of_below (S := fun _ => False) b6') (fun _ _ h => h))
        clear b6 b6' z6 sf6 sb6 I4_5 F4_5 S4_5 I5_5 F5_5 S5_5
        go_upto_region 13 with fail
        generalize y6.alloc _ = X6 at *
        generalize y6.heap.size = g6 at *
        have c4_6_0 : X6.cell? ⟨g4, 0, none⟩ = some (.int .i64 (as_ : Int)) := I4_6.out.cell 0
        have c4_6_1 : X6.cell? ⟨g4, 1, none⟩ = some (.string ⟨ar.toArray⟩) := I4_6.out.cell 1
        have c4_6_2 : X6.cell? ⟨g4, 2, none⟩ = some (.int .i64 (bn : Int)) := I4_6.out.cell 2
        have c4_6_3 : X6.cell? ⟨g4, 3, none⟩ = some (.slice Af4 gl.length cf4) := I4_6.out.cell 3
        have c4_6_4 : X6.cell? ⟨g4, 4, none⟩ = some (.slice Ab4 y.length cb4) := I4_6.out.cell 4
        have c5_6_0 : X6.cell? ⟨g5, 0, none⟩ = some (.int .i64 (as_ : Int)) := I5_6.out.cell 0
        have c5_6_1 : X6.cell? ⟨g5, 1, none⟩ = some (.string ⟨ar.toArray⟩) := I5_6.out.cell 1
        have c5_6_2 : X6.cell? ⟨g5, 2, none⟩ = some (.int .i64 (bn : Int)) := I5_6.out.cell 2
        have c5_6_3 : X6.cell? ⟨g5, 3, none⟩ = some (.slice Af5 gl.length cf5) := I5_6.out.cell 3
        have c5_6_4 : X6.cell? ⟨g5, 4, none⟩ = some (.slice Ab5 y.length cb5) := I5_6.out.cell 4
        have e1 : ((g : Int) != (g : Int)) = false := by simp
        have e2 : ((v : Int) != (v : Int)) = false := by simp
        have K1 := Lib.hid (SS.out X6 (as_ : Int) (as_ : Int) ⟨ar.toArray⟩ ⟨ar.toArray⟩ (bn : Int) (bn : Int) Af4 Af5 Ab4 Ab5 gl gl y y gl.length gl.length cf4 cf5 y.length y.length cb4 cb5 rfl rfl (by omega) rfl rfl F4_6.out F5_6.out S4_6.out S5_6.out)
        rw [show decide ((as_ : Int) = (as_ : Int) ∧ bl ⟨ar.toArray⟩ = bl ⟨ar.toArray⟩ ∧ (bn : Int) = (bn : Int) ∧ gl = gl ∧ y = y) = true by simp] at K1
        by_cases q0 : g = 0
        · have e3 : ((g : Int) != 0) = false := by subst q0; rfl
          clear q0
          go_wp2_with fail
          refine K1.out.mono ?_
          rintro e z1 ⟨rfl, bz1⟩
          have J1 := Lib.hid (I4_6.out.kept (Turn.of_below (S := fun _ => False) bz1) (fun h => h))
          have J3 := Lib.hid (I6_6.out.kept (Turn.of_below (S := fun _ => False) bz1) (fun h => h))
          have d1_0 : z1.cell? ⟨g4, 0, none⟩ = some (.int .i64 (as_ : Int)) := J1.out.cell 0
          have d1_1 : z1.cell? ⟨g4, 1, none⟩ = some (.string ⟨ar.toArray⟩) := J1.out.cell 1
          have d1_2 : z1.cell? ⟨g4, 2, none⟩ = some (.int .i64 (bn : Int)) := J1.out.cell 2
          have d1_3 : z1.cell? ⟨g4, 3, none⟩ = some (.slice Af4 gl.length cf4) := J1.out.cell 3
          have d1_4 : z1.cell? ⟨g4, 4, none⟩ = some (.slice Ab4 y.length cb4) := J1.out.cell 4
          have d3_0 : z1.cell? ⟨g6, 0, none⟩ = some (.int .i64 (as_ : Int)) := J3.out.cell 0
          have d3_1 : z1.cell? ⟨g6, 1, none⟩ = some (.string ⟨ar.toArray⟩) := J3.out.cell 1
          have d3_2 : z1.cell? ⟨g6, 2, none⟩ = some (.int .i64 (bn : Int)) := J3.out.cell 2
          have d3_3 : z1.cell? ⟨g6, 3, none⟩ = some (.slice Af6 gl.length cf6) := J3.out.cell 3
          have d3_4 : z1.cell? ⟨g6, 4, none⟩ = some (.slice Ab6 y.length cb6) := J3.out.cell 4
          have K2 := Lib.hid (SS.out z1 (as_ : Int) (as_ : Int) ⟨ar.toArray⟩ ⟨ar.toArray⟩ (bn : Int) (bn : Int) Af4 Af6 Ab4 Ab6 gl gl y y gl.length gl.length cf4 cf6 y.length y.length cb4 cb6 rfl rfl (by omega) rfl rfl (F4_6.out.below bz1) (F6_6.out.below bz1) (S4_6.out.kept (Turn.of_below (S := fun _ => False) bz1) (fun _ _ h => h)) (S6_6.out.kept (Turn.of_below (S := fun _ => False) bz1) (fun _ _ h => h)))
          rw [show decide ((as_ : Int) = (as_ : Int) ∧ bl ⟨ar.toArray⟩ = bl ⟨ar.toArray⟩ ∧ (bn : Int) = (bn : Int) ∧ gl = gl ∧ y = y) = true by simp] at K2
          have BZ1 := Lib.hid (B6.out.trans (bz1.mono B6.out.size))
          clear bz1
          go_wp2_with fail
          refine K2.out.mono ?_
          rintro e z2 ⟨rfl, bz2⟩
          have J4 := Lib.hid (J1.out.kept (Turn.of_below (S := fun _ => False) bz2) (fun h => h))
          have d4 : z2.cell? ⟨g4, 4, none⟩ = some (.slice Ab4 y.length cb4) := J4.out.cell 4
          have BZ2 := Lib.hid (BZ1.out.trans (bz2.mono BZ1.out.size))
          clear bz2
          go_wp2_with fail
          go_ret
          exact ⟨rfl, BZ2.out⟩
        · have e3 : ((g : Int) != 0) = true := by simp; omega
          have e4 : ((v : Int) != 0) = false := by rw [hg q0]; rfl
          clear q0
          go_wp2_with fail
          refine K1.out.mono ?_
          rintro e z1 ⟨rfl, bz1⟩
          have J1 := Lib.hid (I4_6.out.kept (Turn.of_below (S := fun _ => False) bz1) (fun h => h))
          have J3 := Lib.hid (I6_6.out.kept (Turn.of_below (S := fun _ => False) bz1) (fun h => h))
          have d1_0 : z1.cell? ⟨g4, 0, none⟩ = some (.int .i64 (as_ : Int)) := J1.out.cell 0
          have d1_1 : z1.cell? ⟨g4, 1, none⟩ = some (.string ⟨ar.toArray⟩) := J1.out.cell 1
          have d1_2 : z1.cell? ⟨g4, 2, none⟩ = some (.int .i64 (bn : Int)) := J1.out.cell 2
          have d1_3 : z1.cell? ⟨g4, 3, none⟩ = some (.slice Af4 gl.length cf4) := J1.out.cell 3
          have d1_4 : z1.cell? ⟨g4, 4, none⟩ = some (.slice Ab4 y.length cb4) := J1.out.cell 4
          have d3_0 : z1.cell? ⟨g6, 0, none⟩ = some (.int .i64 (as_ : Int)) := J3.out.cell 0
          have d3_1 : z1.cell? ⟨g6, 1, none⟩ = some (.string ⟨ar.toArray⟩) := J3.out.cell 1
          have d3_2 : z1.cell? ⟨g6, 2, none⟩ = some (.int .i64 (bn : Int)) := J3.out.cell 2
          have d3_3 : z1.cell? ⟨g6, 3, none⟩ = some (.slice Af6 gl.length cf6) := J3.out.cell 3
          have d3_4 : z1.cell? ⟨g6, 4, none⟩ = some (.slice Ab6 y.length cb6) := J3.out.cell 4
          have K2 := Lib.hid (SS.out z1 (as_ : Int) (as_ : Int) ⟨ar.toArray⟩ ⟨ar.toArray⟩ (bn : Int) (bn : Int) Af4 Af6 Ab4 Ab6 gl gl y y gl.length gl.length cf4 cf6 y.length y.length cb4 cb6 rfl rfl (by omega) rfl rfl (F4_6.out.below bz1) (F6_6.out.below bz1) (S4_6.out.kept (Turn.of_below (S := fun _ => False) bz1) (fun _ _ h => h)) (S6_6.out.kept (Turn.of_below (S := fun _ => False) bz1) (fun _ _ h => h)))
          rw [show decide ((as_ : Int) = (as_ : Int) ∧ bl ⟨ar.toArray⟩ = bl ⟨ar.toArray⟩ ∧ (bn : Int) = (bn : Int) ∧ gl = gl ∧ y = y) = true by simp] at K2
          have BZ1 := Lib.hid (B6.out.trans (bz1.mono B6.out.size))
          clear bz1
          go_wp2_with fail
          refine K2.out.mono ?_
          rintro e z2 ⟨rfl, bz2⟩
          have J4 := Lib.hid (J1.out.kept (Turn.of_below (S := fun _ => False) bz2) (fun h => h))
          have d4 : z2.cell? ⟨g4, 4, none⟩ = some (.slice Ab4 y.length cb4) := J4.out.cell 4
          have BZ2 := Lib.hid (BZ1.out.trans (bz2.mono BZ1.out.size))
          clear bz2
          go_wp2_with fail
          go_ret
          exact ⟨rfl, BZ2.out⟩
    · have e3 : ((f : Int) != 0) = true := by simp; omega
      have e4 : ((u : Int) != 0) = false := by rw [hf q0]; rfl
      clear q0
      go_wp2_with fail
      refine K0.out.mono ?_
      rintro e X3 ⟨rfl, bx⟩
      have J0 := Lib.hid (I1_2.out.kept (Turn.of_below (S := fun _ => False) bx) (fun h => h))
      have d0 : X3.cell? ⟨g1, 4, none⟩ = some (.slice Ab1 x.length cb1) := J0.out.cell 4
      have B3 := Lib.hid (B2.out.trans (bx.mono B2.out.size))
      have N3 := Lib.hid (N2.out.kept (Turn.of_below (S := fun _ => False) bx) (fun _ _ h => h))
      clear bx I1_2 F1_2 S1_2 I2_2 F2_2 S2_2 CM0 CQ CQM K0 c1_2_0 c1_2_1 c1_2_2 c1_2_3 c1_2_4 c2_2_0 c2_2_1 c2_2_2 c2_2_3 c2_2_4
      go_wp2_with fail
      refine (CS.out _ B3.out).mono ?_
      rintro e y4 ⟨Af4, cf4, Ab4, cb4, rfl, sf4, sb4, b4⟩
      have b4' := b4.alloc b4.size (.cells #[.int .i64 (as_ : Int), .string ⟨ar.toArray⟩, .int .i64 (bn : Int), .slice Af4 gl.length cf4, .slice Ab4 y.length cb4] 32)
      have z4 : Below y4.heap.size y4 (y4.alloc (.cells #[.int .i64 (as_ : Int), .string ⟨ar.toArray⟩, .int .i64 (bn : Int), .slice Af4 gl.length cf4, .slice Ab4 y.length cb4] 32)) := (Below.refl _ _).alloc (Nat.le_refl _) _
      have I4_4 := Lib.hid (Is.made y4 32 [.int .i64 (as_ : Int), .string ⟨ar.toArray⟩, .int .i64 (bn : Int), .slice Af4 gl.length cf4, .slice Ab4 y.length cb4])
      have F4_4 := Lib.hid (sf4.below z4)
      have S4_4 := Lib.hid (sb4.kept (Turn.of_below (S := fun _ => False) z4) (fun _ _ h => h))
      have B4 := Lib.hid (B3.out.trans (b4'.mono B3.out.size))
      have N4 := Lib.hid (N3.out.kept (Turn.of_below (S := fun _ => False) b4') (fun _ _ h => h))
      clear b4 b4' z4 sf4 sb4
      by_cases q8 : g = 8
      · have e8 : ((g : Int) != 8) = false := by subst q8; rfl
        clear q8
        go_wp2_with fail
        go_ret
        exact ⟨rfl, B4.out⟩
      · have e8 : ((g : Int) != 8) = true := by simp; omega
        have CM1 := Lib.hid (fun (X : World) (hX : Below w.heap.size w X) (hM : Src X (fun _ => True) M (bs ++ ts)) (en : Bool) => CSM.out X hX M L cM en HLN.out hMc hM q8)
        clear q8
        go_upto_region 10 with fail
        generalize y4.alloc _ = X4 at *
        generalize y4.heap.size = g4 at *
        go_wp2_with fail
        refine (CM1.out _ B4.out N4.out false).mono ?_
        rintro e y5 ⟨Af5, cf5, Ab5, cb5, rfl, sf5, sb5, b5⟩
        have b5' := b5.alloc b5.size (.cells #[.int .i64 (as_ : Int), .string ⟨ar.toArray⟩, .int .i64 (bn : Int), .slice Af5 gl.length cf5, .slice Ab5 y.length cb5] 32)
        have z5 : Below y5.heap.size y5 (y5.alloc (.cells #[.int .i64 (as_ : Int), .string ⟨ar.toArray⟩, .int .i64 (bn : Int), .slice Af5 gl.length cf5, .slice Ab5 y.length cb5] 32)) := (Below.refl _ _).alloc (Nat.le_refl _) _
        have I5_5 := Lib.hid (Is.made y5 32 [.int .i64 (as_ : Int), .string ⟨ar.toArray⟩, .int .i64 (bn : Int), .slice Af5 gl.length cf5, .slice Ab5 y.length cb5])
        have F5_5 := Lib.hid (sf5.below z5)
        have S5_5 := Lib.hid (sb5.kept (Turn.of_below (S := fun _ => False) z5) (fun _ _ h => h))
        have B5 := Lib.hid (B4.out.trans (b5'.mono B4.out.size))
        have N5 := Lib.hid (N4.out.kept (Turn.of_below (S := fun _ => False) b5') (fun _ _ h => h))
        have I4_5 := Lib.hid (I4_4.out.kept (Turn.of_below (S := fun _ => False) b5') (fun h => h))
        have F4_5 := Lib.hid (F4_4.out.below b5')
        have S4_5 := Lib.hid (S4_4.out.kept (Turn.of_below (S := fun _ => False) b5') (fun _ _ h => h))
        clear b5 b5' z5 sf5 sb5 I4_4 F4_4 S4_4
        go_upto_region 12 with fail
        generalize y5.alloc _ = X5 at *
        generalize y5.heap.size = g5 at *
        go_wp2_with fail
        refine (CM1.out _ B5.out N5.out true).mono ?_
        rintro e y6 ⟨Af6, cf6, Ab6, cb6, rfl, sf6, sb6, b6⟩
        have b6' := b6.alloc b6.size (.cells #[.int .i64 (as_ : Int), .string ⟨ar.toArray⟩, .int .i64 (bn : Int), .slice Af6 gl.length cf6, .slice Ab6 y.length cb6] 32)
        have z6 : Below y6.heap.size y6 (y6.alloc (.cells #[.int .i64 (as_ : Int), .string ⟨ar.toArray⟩, .int .i64 (bn : Int), .slice Af6 gl.length cf6, .slice Ab6 y.length cb6] 32)) := (Below.refl _ _).alloc (Nat.le_refl _) _
        have I6_6 := Lib.hid (Is.made y6 32 [.int .i64 (as_ : Int), .string ⟨ar.toArray⟩, .int .i64 (bn : Int), .slice Af6 gl.length cf6, .slice Ab6 y.length cb6])
        have F6_6 := Lib.hid (sf6.below z6)
        have S6_6 := Lib.hid (sb6.kept (Turn.of_below (S := fun _ => False) z6) (fun _ _ h => h))
        have B6 := Lib.hid (B5.out.trans (b6'.mono B5.out.size))
        have N6 := Lib.hid (N5.out.kept (Turn.of_below (S := fun _ => False) b6') (fun _ _ h => h))
        have I4_6 := Lib.hid (I4_5.out.kept (Turn.of_below (S := fun _ => False) b6') (fun h => h))
        have F4_6 := Lib.hid (F4_5.out.below b6')
        have S4_6 := Lib.hid (S4_5.out.kept (Turn.of_below (S := fun _ => False) b6') (fun _ _ h => h))
        have I5_6 := Lib.hid (I5_5.out.kept (Turn.of_below (S := fun _ => False) b6') (fun h => h))
        have F5_6 := Lib.hid (F5_5.out.below b6')
        have S5_6 := Lib.hid (S5_5.out.kept (Turn.of_below (S := fun _ => False) b6') (fun _ _ h => h))
        clear b6 b6' z6 sf6 sb6 I4_5 F4_5 S4_5 I5_5 F5_5 S5_5
        go_upto_region 13 with fail
        generalize y6.alloc _ = X6 at *
        generalize y6.heap.size = g6 at *
        have c4_6_0 : X6.cell? ⟨g4, 0, none⟩ = some (.int .i64 (as_ : Int)) := I4_6.out.cell 0
        have c4_6_1 : X6.cell? ⟨g4, 1, none⟩ = some (.string ⟨ar.toArray⟩) := I4_6.out.cell 1
        have c4_6_2 : X6.cell? ⟨g4, 2, none⟩ = some (.int .i64 (bn : Int)) := I4_6.out.cell 2
        have c4_6_3 : X6.cell? ⟨g4, 3, none⟩ = some (.slice Af4 gl.length cf4) := I4_6.out.cell 3
        have c4_6_4 : X6.cell? ⟨g4, 4, none⟩ = some (.slice Ab4 y.length cb4) := I4_6.out.cell 4
        have c5_6_0 : X6.cell? ⟨g5, 0, none⟩ = some (.int .i64 (as_ : Int)) := I5_6.out.cell 0
        have c5_6_1 : X6.cell? ⟨g5, 1, none⟩ = some (.string ⟨ar.toArray⟩) := I5_6.out.cell 1
        have c5_6_2 : X6.cell? ⟨g5, 2, none⟩ = some (.int .i64 (bn : Int)) := I5_6.out.cell 2
        have c5_6_3 : X6.cell? ⟨g5, 3, none⟩ = some (.slice Af5 gl.length cf5) := I5_6.out.cell 3
        have c5_6_4 : X6.cell? ⟨g5, 4, none⟩ = some (.slice Ab5 y.length cb5) := I5_6.out.cell 4
        have e1 : ((g : Int) != (g : Int)) = false := by simp
        have e2 : ((v : Int) != (v : Int)) = false := by simp
        have K1 := Lib.hid (SS.out X6 (as_ : Int) (as_ : Int) ⟨ar.toArray⟩ ⟨ar.toArray⟩ (bn : Int) (bn : Int) Af4 Af5 Ab4 Ab5 gl gl y y gl.length gl.length cf4 cf5 y.length y.length cb4 cb5 rfl rfl (by omega) rfl rfl F4_6.out F5_6.out S4_6.out S5_6.out)
        rw [show decide ((as_ : Int) = (as_ : Int) ∧ bl ⟨ar.toArray⟩ = bl ⟨ar.toArray⟩ ∧ (bn : Int) = (bn : Int) ∧ gl = gl ∧ y = y) = true by simp] at K1
        by_cases q0 : g = 0
        · have e3 : ((g : Int) != 0) = false := by subst q0; rfl
          clear q0
          go_wp2_with fail
          refine K1.out.mono ?_
          rintro e z1 ⟨rfl, bz1⟩
          have J1 := Lib.hid (I4_6.out.kept (Turn.of_below (S := fun _ => False) bz1) (fun h => h))
          have J3 := Lib.hid (I6_6.out.kept (Turn.of_below (S := fun _ => False) bz1) (fun h => h))
          have d1_0 : z1.cell? ⟨g4, 0, none⟩ = some (.int .i64 (as_ : Int)) := J1.out.cell 0
          have d1_1 : z1.cell? ⟨g4, 1, none⟩ = some (.string ⟨ar.toArray⟩) := J1.out.cell 1
          have d1_2 : z1.cell? ⟨g4, 2, none⟩ = some (.int .i64 (bn : Int)) := J1.out.cell 2
          have d1_3 : z1.cell? ⟨g4, 3, none⟩ = some (.slice Af4 gl.length cf4) := J1.out.cell 3
          have d1_4 : z1.cell? ⟨g4, 4, none⟩ = some (.slice Ab4 y.length cb4) := J1.out.cell 4
          have d3_0 : z1.cell? ⟨g6, 0, none⟩ = some (.int .i64 (as_ : Int)) := J3.out.cell 0
          have d3_1 : z1.cell? ⟨g6, 1, none⟩ = some (.string ⟨ar.toArray⟩) := J3.out.cell 1
          have d3_2 : z1.cell? ⟨g6, 2, none⟩ = some (.int .i64 (bn : Int)) := J3.out.cell 2
          have d3_3 : z1.cell? ⟨g6, 3, none⟩ = some (.slice Af6 gl.length cf6) := J3.out.cell 3
          have d3_4 : z1.cell? ⟨g6, 4, none⟩ = some (.slice Ab6 y.length cb6) := J3.out.cell 4
          have K2 := Lib.hid (SS.out z1 (as_ : Int) (as_ : Int) ⟨ar.toArray⟩ ⟨ar.toArray⟩ (bn : Int) (bn : Int) Af4 Af6 Ab4 Ab6 gl gl y y gl.length gl.length cf4 cf6 y.length y.length cb4 cb6 rfl rfl (by omega) rfl rfl (F4_6.out.below bz1) (F6_6.out.below bz1) (S4_6.out.kept (Turn.of_below (S := fun _ => False) bz1) (fun _ _ h => h)) (S6_6.out.kept (Turn.of_below (S := fun _ => False) bz1) (fun _ _ h => h)))
          rw [show decide ((as_ : Int) = (as_ : Int) ∧ bl ⟨ar.toArray⟩ = bl ⟨ar.toArray⟩ ∧ (bn : Int) = (bn : Int) ∧ gl = gl ∧ y = y) = true by simp] at K2
          have BZ1 := Lib.hid (B6.out.trans (bz1.mono B6.out.size))
          clear bz1
          go_wp2_with fail
          refine K2.out.mono ?_
          rintro e z2 ⟨rfl, bz2⟩
          have J4 := Lib.hid (J1.out.kept (Turn.of_below (S := fun _ => False) bz2) (fun h => h))
          have d4 : z2.cell? ⟨g4, 4, none⟩ = some (.slice Ab4 y.length cb4) := J4.out.cell 4
          have BZ2 := Lib.hid (BZ1.out.trans (bz2.mono BZ1.out.size))
          clear bz2
          go_wp2_with fail
          go_ret
          exact ⟨rfl, BZ2.out⟩
        · have e3 : ((g : Int) != 0) = true := by simp; omega
          have e4 : ((v : Int) != 0) = false := by rw [hg q0]; rfl
          clear q0
          go_wp2_with fail
          refine K1.out.mono ?_
          rintro e z1 ⟨rfl, bz1⟩
          have J1 := Lib.hid (I4_6.out.kept (Turn.of_below (S := fun _ => False) bz1) (fun h => h))
          have J3 := Lib.hid (I6_6.out.kept (Turn.of_below (S := fun _ => False) bz1) (fun h => h))
          have d1_0 : z1.cell? ⟨g4, 0, none⟩ = some (.int .i64 (as_ : Int)) := J1.out.cell 0
          have d1_1 : z1.cell? ⟨g4, 1, none⟩ = some (.string ⟨ar.toArray⟩) := J1.out.cell 1
          have d1_2 : z1.cell? ⟨g4, 2, none⟩ = some (.int .i64 (bn : Int)) := J1.out.cell 2
          have d1_3 : z1.cell? ⟨g4, 3, none⟩ = some (.slice Af4 gl.length cf4) := J1.out.cell 3
          have d1_4 : z1.cell? ⟨g4, 4, none⟩ = some (.slice Ab4 y.length cb4) := J1.out.cell 4
          have d3_0 : z1.cell? ⟨g6, 0, none⟩ = some (.int .i64 (as_ : Int)) := J3.out.cell 0
          have d3_1 : z1.cell? ⟨g6, 1, none⟩ = some (.string ⟨ar.toArray⟩) := J3.out.cell 1
          have d3_2 : z1.cell? ⟨g6, 2, none⟩ = some (.int .i64 (bn : Int)) := J3.out.cell 2
          have d3_3 : z1.cell? ⟨g6, 3, none⟩ = some (.slice Af6 gl.length cf6) := J3.out.cell 3
          have d3_4 : z1.cell? ⟨g6, 4, none⟩ = some (.slice Ab6 y.length cb6) := J3.out.cell 4
          have K2 := Lib.hid (SS.out z1 (as_ : Int) (as_ : Int) ⟨ar.toArray⟩ ⟨ar.toArray⟩ (bn : Int) (bn : Int) Af4 Af6 Ab4 Ab6 gl gl y y gl.length gl.length cf4 cf6 y.length y.length cb4 cb6 rfl rfl (by omega) rfl rfl (F4_6.out.below bz1) (F6_6.out.below bz1) (S4_6.out.kept (Turn.of_below (S := fun _ => False) bz1) (fun _ _ h => h)) (S6_6.out.kept (Turn.of_below (S := fun _ => False) bz1) (fun _ _ h => h)))
          rw [show decide ((as_ : Int) = (as_ : Int) ∧ bl ⟨ar.toArray⟩ = bl ⟨ar.toArray⟩ ∧ (bn : Int) = (bn : Int) ∧ gl = gl ∧ y = y) = true by simp] at K2
          have BZ1 := Lib.hid (B6.out.trans (bz1.mono B6.out.size))
          clear bz1
          go_wp2_with fail
          refine K2.out.mono ?_
          rintro e z2 ⟨rfl, bz2⟩
          have J4 := Lib.hid (J1.out.kept (Turn.of_below (S := fun _ => False) bz2) (fun h => h))
          have d4 : z2.cell? ⟨g4, 4, none⟩ = some (.slice Ab4 y.length cb4) := J4.out.cell 4
          have BZ2 := Lib.hid (BZ1.out.trans (bz2.mono BZ1.out.size))
          clear bz2
          go_wp2_with fail
          go_ret
          exact ⟨rfl, BZ2.out⟩
end Go.Proofs.YtemgfppclakdmaaGreatDoor
