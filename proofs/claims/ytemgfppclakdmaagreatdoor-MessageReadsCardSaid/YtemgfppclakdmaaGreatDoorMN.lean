/-
  The law MessageReads: walk.
  Conditions: the landed code's contracts; what the arguments read; Go's table of powers of ten.
-/
import Derived.Test.YtemgfppclakdmaaGreatDoorML
namespace Go.Proofs.YtemgfppclakdmaaGreatDoor
open Go.RowKit

set_option maxHeartbeats 40000000 in
set_option maxRecDepth 100000 in
theorem reads9_law (HC : MsgC) (w : World) (A : Option Addr) (bs : List UInt8) (n c : Nat) (mt : ByteArray) (ended : Bool) (hn : bs.length = n) (hnc : n ≤ c) (hmax : n ≤ 140737488351232) (hmt : mt.size ≤ 140737488351232) (h : Src w (fun _ => True) A bs) (hp : Sta.PowT w) :
    Calls Tryz.prog 3 #[.slice A n c, .string mt, .bool ended] w fun e w' => e = .returned (.bool true) ∧ Below w.heap.size w w' := by
  obtain ⟨am, at_, an, fl, x, u, f, hq1, hq2, _, _, _, hfl⟩ := req_parts bs
  obtain ⟨ar, bn, as_, gl, y, v, g, hr1, hr2, _, _, _, hgl⟩ := res_parts bs (bl mt) ended
  have CW := Lib.hid (fun (X : World) (hX : Below w.heap.size w X) => awake9_any HC X (hp.below hX))
  have CP := Lib.hid (fun (X : World) (hX : Below w.heap.size w X) (M : Option Addr) (cM : Nat) (hc : n ≤ cM) (hM : Src X (fun _ => True) M bs) => HC.request X M bs n cM hn hc hmax hM (hp.below hX))
  have CR := Lib.hid (fun (X : World) (hX : Below w.heap.size w X) (M : Option Addr) (cM : Nat) (hc : n ≤ cM) (hM : Src X (fun _ => True) M bs) => HC.response X M bs n cM mt ended hn hc hmax hmt hM (hp.below hX))
  have CQ := Lib.hid (fun (X : World) (hX : Below w.heap.size w X) => (rrequest9_any X A bs n c hn hnc hmax (h.kept (Turn.of_below (S := fun _ => False) hX) (fun _ _ h => h))).mono (fun _ _ h => h.told))
  have CS := Lib.hid (fun (X : World) (hX : Below w.heap.size w X) => (rresponse9_any X A bs n c mt ended hn hnc hmax (h.kept (Turn.of_below (S := fun _ => False) hX) (fun _ _ h => h))).mono (fun _ _ h => h.told))
  unfold RqGot9 at CP
  unfold RsGot9 at CR
  unfold RqTold at CQ
  unfold RsTold at CS
  rw [hq1, hq2] at CP CQ
  rw [hr1, hr2] at CR CS
  simp only at CP CQ CR CS
  obtain ⟨v1, w1, o1, r1, own1, t1, f1⟩ := run_append_src (w.alloc (.cells #[] 5)) _ _ [] bs (Own.built w) A n c hn (h.kept (Turn.of_below (S := fun _ => False) ((Below.refl w.heap.size w).alloc (Nat.le_refl _) (.cells #[] 5))) (fun _ _ h => h)) (by rw [hn]; simp; omega)
  rw [List.nil_append] at own1
  have b1 : Below w.heap.size w w1 := below_own ((Below.refl w.heap.size w).alloc (Nat.le_refl _) _) (fun b hb => by injection hb with hb; omega) t1
  obtain ⟨A1, c1, hv1, hc1, s1, _⟩ := own1.block
  rw [hn] at hv1 hc1
  subst hv1
  have HO1 := Lib.hid (show ∀ k, o1 = some k → k < w1.heap.size from own1.lt)
  have R1 := Lib.hid r1
  have B1 := Lib.hid b1
  have S1 := Lib.hid s1
  have OW1 := Lib.hid own1
  have H := Lib.hid h
  have HN := Lib.hid hn
  clear r1 own1 t1 f1 b1 s1 h hp hq1 hq2 hr1 hr2 hn
  go_enter Tryz.func3, Tryz.ntmps3
  go_wp2_with (at_builtin; refine append_by rfl (.tmp 23) (.tmp 24) 22 rfl _ _ _ w1 rfl rfl R1.out ?_)
  refine (CP.out w1 B1.out A1 c1 hc1 S1.out).mono ?_
  rintro e y2 ⟨fv2, fo2, bv2, bo2, rfl, ownf, ownb, _, fb, b2⟩
  obtain ⟨Af2, cf2, rfl, sf2⟩ := ownf.src (fun _ => True) (fun _ _ => trivial)
  have HLT2 := Lib.hid (show ∀ q, bo2 = some q → q < y2.heap.size from ownb.lt)
  obtain ⟨Ab2, cb2, hvb, _, sb2, gb2⟩ := ownb.block
  subst hvb
  have FB2 := Lib.hid fb
  have b2' := b2.alloc b2.size (.cells #[.string ⟨am.toArray⟩, .string ⟨at_.toArray⟩, .int .i64 (an : Int), .slice Af2 fl.length cf2, .slice Ab2 x.length cb2] 25)
  have z2 : Below y2.heap.size y2 (y2.alloc (.cells #[.string ⟨am.toArray⟩, .string ⟨at_.toArray⟩, .int .i64 (an : Int), .slice Af2 fl.length cf2, .slice Ab2 x.length cb2] 25)) := (Below.refl _ _).alloc (Nat.le_refl _) _
  have I2_2 := Lib.hid (Is.made y2 25 [.string ⟨am.toArray⟩, .string ⟨at_.toArray⟩, .int .i64 (an : Int), .slice Af2 fl.length cf2, .slice Ab2 x.length cb2])
  have F2_2 := Lib.hid (sf2.below z2)
  have S2_2 := Lib.hid (sb2.kept (Turn.of_below (S := fun _ => False) z2) (fun _ _ h => h))
  have B2 := Lib.hid (B1.out.trans (b2'.mono B1.out.size))
  have OW2 := Lib.hid (OW1.out.kept (Turn.of_below (S := fun _ => False) b2') (fun _ _ h => h))
  have HS2 := Lib.hid b2'.size
  have G2_2 := Lib.hid (show 0 < x.length → ∃ q, Ab2 = some ⟨q, 0, none⟩ ∧ bo2 = some q ∧ BytesAt (y2.alloc (.cells #[.string ⟨am.toArray⟩, .string ⟨at_.toArray⟩, .int .i64 (an : Int), .slice Af2 fl.length cf2, .slice Ab2 x.length cb2] 25)) q x.length from fun h0 => by
    obtain ⟨q, h1, h2, h3⟩ := gb2 h0
    exact ⟨q, h1, h2, h3.kept (Turn.of_below (S := fun _ => False) z2) (fun h => h)⟩)
  have GE2 := Lib.hid (show w1.heap.size ≤ y2.heap.size from b2.size)
  have HG2 := Lib.hid (show y2.heap.size < (y2.alloc (.cells #[.string ⟨am.toArray⟩, .string ⟨at_.toArray⟩, .int .i64 (an : Int), .slice Af2 fl.length cf2, .slice Ab2 x.length cb2] 25)).heap.size by simp)
  clear ownf ownb fb b2 b2' z2 sf2 sb2 gb2
  go_upto_region 3 with fail
  generalize y2.alloc _ = X2 at *
  generalize y2.heap.size = g2 at *
  go_wp2_with fail
  refine (CQ.out X2 B2.out).mono ?_
  rintro e y3 ⟨Af3, cf3, Ab3, cb3, rfl, sf3, sb3, b3⟩
  have b3' := b3.alloc b3.size (.cells #[.string ⟨am.toArray⟩, .string ⟨at_.toArray⟩, .int .i64 (an : Int), .slice Af3 fl.length cf3, .slice Ab3 x.length cb3] 25)
  have z3 : Below y3.heap.size y3 (y3.alloc (.cells #[.string ⟨am.toArray⟩, .string ⟨at_.toArray⟩, .int .i64 (an : Int), .slice Af3 fl.length cf3, .slice Ab3 x.length cb3] 25)) := (Below.refl _ _).alloc (Nat.le_refl _) _
  have I3_3 := Lib.hid (Is.made y3 25 [.string ⟨am.toArray⟩, .string ⟨at_.toArray⟩, .int .i64 (an : Int), .slice Af3 fl.length cf3, .slice Ab3 x.length cb3])
  have F3_3 := Lib.hid (sf3.below z3)
  have S3_3 := Lib.hid (sb3.kept (Turn.of_below (S := fun _ => False) z3) (fun _ _ h => h))
  have B3 := Lib.hid (B2.out.trans (b3'.mono B2.out.size))
  have OW3 := Lib.hid (OW2.out.kept (Turn.of_below (S := fun _ => False) b3') (fun _ _ h => h))
  have HS3 := Lib.hid b3'.size
  have I2_3 := Lib.hid (I2_2.out.kept (Turn.of_below (S := fun _ => False) b3') (fun h => h))
  have F2_3 := Lib.hid (F2_2.out.below b3')
  have S2_3 := Lib.hid (S2_2.out.kept (Turn.of_below (S := fun _ => False) b3') (fun _ _ h => h))
  have G2_3 := Lib.hid (show 0 < x.length → ∃ q, Ab2 = some ⟨q, 0, none⟩ ∧ bo2 = some q ∧ BytesAt (y3.alloc (.cells #[.string ⟨am.toArray⟩, .string ⟨at_.toArray⟩, .int .i64 (an : Int), .slice Af3 fl.length cf3, .slice Ab3 x.length cb3] 25)) q x.length from fun h0 => by
    obtain ⟨q, h1, h2, h3⟩ := G2_2.out h0
    exact ⟨q, h1, h2, h3.kept (Turn.of_below (S := fun _ => False) b3') (fun h => h)⟩)
  clear b3 b3' z3 sf3 sb3 I2_2 F2_2 S2_2 G2_2
  go_upto_region 4 with fail
  generalize y3.alloc _ = X3 at *
  generalize y3.heap.size = g3 at *
  go_wp2_with fail
  obtain ⟨A1', c1', hv', hc1', s1', _⟩ := OW3.out.block
  rw [HN.out] at hv' hc1'
  injection hv' with hA' _ hc'
  subst hA' hc'
  refine (CR.out X3 B3.out A1 c1 hc1 s1').mono ?_
  rintro e y4 ⟨fv4, fo4, bv4, bo4, rfl, ownf, ownb, _, fb, b4⟩
  obtain ⟨Af4, cf4, rfl, sf4⟩ := ownf.src (fun _ => True) (fun _ _ => trivial)
  have HLT4 := Lib.hid (show ∀ q, bo4 = some q → q < y4.heap.size from ownb.lt)
  obtain ⟨Ab4, cb4, hvb, _, sb4, gb4⟩ := ownb.block
  subst hvb
  have FB4 := Lib.hid fb
  have b4' := b4.alloc b4.size (.cells #[.int .i64 (as_ : Int), .string ⟨ar.toArray⟩, .int .i64 (bn : Int), .slice Af4 gl.length cf4, .slice Ab4 y.length cb4] 32)
  have z4 : Below y4.heap.size y4 (y4.alloc (.cells #[.int .i64 (as_ : Int), .string ⟨ar.toArray⟩, .int .i64 (bn : Int), .slice Af4 gl.length cf4, .slice Ab4 y.length cb4] 32)) := (Below.refl _ _).alloc (Nat.le_refl _) _
  have I4_4 := Lib.hid (Is.made y4 32 [.int .i64 (as_ : Int), .string ⟨ar.toArray⟩, .int .i64 (bn : Int), .slice Af4 gl.length cf4, .slice Ab4 y.length cb4])
  have F4_4 := Lib.hid (sf4.below z4)
  have S4_4 := Lib.hid (sb4.kept (Turn.of_below (S := fun _ => False) z4) (fun _ _ h => h))
  have B4 := Lib.hid (B3.out.trans (b4'.mono B3.out.size))
  have OW4 := Lib.hid (OW3.out.kept (Turn.of_below (S := fun _ => False) b4') (fun _ _ h => h))
  have HS4 := Lib.hid b4'.size
  have I2_4 := Lib.hid (I2_3.out.kept (Turn.of_below (S := fun _ => False) b4') (fun h => h))
  have F2_4 := Lib.hid (F2_3.out.below b4')
  have S2_4 := Lib.hid (S2_3.out.kept (Turn.of_below (S := fun _ => False) b4') (fun _ _ h => h))
  have I3_4 := Lib.hid (I3_3.out.kept (Turn.of_below (S := fun _ => False) b4') (fun h => h))
  have F3_4 := Lib.hid (F3_3.out.below b4')
  have S3_4 := Lib.hid (S3_3.out.kept (Turn.of_below (S := fun _ => False) b4') (fun _ _ h => h))
  have G4LE := Lib.hid (show X3.heap.size ≤ y4.heap.size from b4.size)
  have G4_4 := Lib.hid (show 0 < y.length → ∃ q, Ab4 = some ⟨q, 0, none⟩ ∧ bo4 = some q ∧ BytesAt (y4.alloc (.cells #[.int .i64 (as_ : Int), .string ⟨ar.toArray⟩, .int .i64 (bn : Int), .slice Af4 gl.length cf4, .slice Ab4 y.length cb4] 32)) q y.length from fun h0 => by
    obtain ⟨q, h1, h2, h3⟩ := gb4 h0
    exact ⟨q, h1, h2, h3.kept (Turn.of_below (S := fun _ => False) z4) (fun h => h)⟩)
  have G2_4 := Lib.hid (show 0 < x.length → ∃ q, Ab2 = some ⟨q, 0, none⟩ ∧ bo2 = some q ∧ BytesAt (y4.alloc (.cells #[.int .i64 (as_ : Int), .string ⟨ar.toArray⟩, .int .i64 (bn : Int), .slice Af4 gl.length cf4, .slice Ab4 y.length cb4] 32)) q x.length from fun h0 => by
    obtain ⟨q, h1, h2, h3⟩ := G2_3.out h0
    exact ⟨q, h1, h2, h3.kept (Turn.of_below (S := fun _ => False) b4') (fun h => h)⟩)
  clear ownf ownb fb b4 b4' z4 sf4 sb4 gb4 s1' hc1' I2_3 F2_3 S2_3 I3_3 F3_3 S3_3 G2_3
  go_upto_region 5 with fail
  generalize y4.alloc _ = X4 at *
  generalize y4.heap.size = g4 at *
  go_wp2_with fail
  refine (CS.out X4 B4.out).mono ?_
  rintro e y5 ⟨Af5, cf5, Ab5, cb5, rfl, sf5, sb5, b5⟩
  have b5' := b5.alloc b5.size (.cells #[.int .i64 (as_ : Int), .string ⟨ar.toArray⟩, .int .i64 (bn : Int), .slice Af5 gl.length cf5, .slice Ab5 y.length cb5] 32)
  have z5 : Below y5.heap.size y5 (y5.alloc (.cells #[.int .i64 (as_ : Int), .string ⟨ar.toArray⟩, .int .i64 (bn : Int), .slice Af5 gl.length cf5, .slice Ab5 y.length cb5] 32)) := (Below.refl _ _).alloc (Nat.le_refl _) _
  have I5_5 := Lib.hid (Is.made y5 32 [.int .i64 (as_ : Int), .string ⟨ar.toArray⟩, .int .i64 (bn : Int), .slice Af5 gl.length cf5, .slice Ab5 y.length cb5])
  have F5_5 := Lib.hid (sf5.below z5)
  have S5_5 := Lib.hid (sb5.kept (Turn.of_below (S := fun _ => False) z5) (fun _ _ h => h))
  have B5 := Lib.hid (B4.out.trans (b5'.mono B4.out.size))
  have OW5 := Lib.hid (OW4.out.kept (Turn.of_below (S := fun _ => False) b5') (fun _ _ h => h))
  have HS5 := Lib.hid b5'.size
  have I2_5 := Lib.hid (I2_4.out.kept (Turn.of_below (S := fun _ => False) b5') (fun h => h))
  have F2_5 := Lib.hid (F2_4.out.below b5')
  have S2_5 := Lib.hid (S2_4.out.kept (Turn.of_below (S := fun _ => False) b5') (fun _ _ h => h))
  have I3_5 := Lib.hid (I3_4.out.kept (Turn.of_below (S := fun _ => False) b5') (fun h => h))
  have F3_5 := Lib.hid (F3_4.out.below b5')
  have S3_5 := Lib.hid (S3_4.out.kept (Turn.of_below (S := fun _ => False) b5') (fun _ _ h => h))
  have I4_5 := Lib.hid (I4_4.out.kept (Turn.of_below (S := fun _ => False) b5') (fun h => h))
  have F4_5 := Lib.hid (F4_4.out.below b5')
  have S4_5 := Lib.hid (S4_4.out.kept (Turn.of_below (S := fun _ => False) b5') (fun _ _ h => h))
  have G2_5 := Lib.hid (show 0 < x.length → ∃ q, Ab2 = some ⟨q, 0, none⟩ ∧ bo2 = some q ∧ BytesAt (y5.alloc (.cells #[.int .i64 (as_ : Int), .string ⟨ar.toArray⟩, .int .i64 (bn : Int), .slice Af5 gl.length cf5, .slice Ab5 y.length cb5] 32)) q x.length from fun h0 => by
    obtain ⟨q, h1, h2, h3⟩ := G2_4.out h0
    exact ⟨q, h1, h2, h3.kept (Turn.of_below (S := fun _ => False) b5') (fun h => h)⟩)
  have G4_5 := Lib.hid (show 0 < y.length → ∃ q, Ab4 = some ⟨q, 0, none⟩ ∧ bo4 = some q ∧ BytesAt (y5.alloc (.cells #[.int .i64 (as_ : Int), .string ⟨ar.toArray⟩, .int .i64 (bn : Int), .slice Af5 gl.length cf5, .slice Ab5 y.length cb5] 32)) q y.length from fun h0 => by
    obtain ⟨q, h1, h2, h3⟩ := G4_4.out h0
    exact ⟨q, h1, h2, h3.kept (Turn.of_below (S := fun _ => False) b5') (fun h => h)⟩)
  clear b5 b5' z5 sf5 sb5 I2_4 F2_4 S2_4 I3_4 F3_4 S3_4 I4_4 F4_4 S4_4 G2_4 G4_4
  go_upto_region 6 with fail
  generalize y5.alloc _ = X5 at *
  generalize y5.heap.size = g5 at *
  have p2_0 : X5.cell? ⟨g2, 0, none⟩ = some (.string ⟨am.toArray⟩) := I2_5.out.cell 0
  have p2_1 : X5.cell? ⟨g2, 1, none⟩ = some (.string ⟨at_.toArray⟩) := I2_5.out.cell 1
  have p2_2 : X5.cell? ⟨g2, 2, none⟩ = some (.int .i64 (an : Int)) := I2_5.out.cell 2
  have p2_3 : X5.cell? ⟨g2, 3, none⟩ = some (.slice Af2 fl.length cf2) := I2_5.out.cell 3
  have p2_4 : X5.cell? ⟨g2, 4, none⟩ = some (.slice Ab2 x.length cb2) := I2_5.out.cell 4
  have p3_0 : X5.cell? ⟨g3, 0, none⟩ = some (.string ⟨am.toArray⟩) := I3_5.out.cell 0
  have p3_1 : X5.cell? ⟨g3, 1, none⟩ = some (.string ⟨at_.toArray⟩) := I3_5.out.cell 1
  have p3_2 : X5.cell? ⟨g3, 2, none⟩ = some (.int .i64 (an : Int)) := I3_5.out.cell 2
  have p3_3 : X5.cell? ⟨g3, 3, none⟩ = some (.slice Af3 fl.length cf3) := I3_5.out.cell 3
  have p3_4 : X5.cell? ⟨g3, 4, none⟩ = some (.slice Ab3 x.length cb3) := I3_5.out.cell 4
  have e1 : ((f : Int) == (f : Int)) = true := by simp
  have e2 : ((u : Int) == (u : Int)) = true := by simp
  have e3 : ((g : Int) == (g : Int)) = true := by simp
  have e4 : ((v : Int) == (v : Int)) = true := by simp
  have K1 := Lib.hid (rsamereq_any X5 ⟨am.toArray⟩ ⟨am.toArray⟩ ⟨at_.toArray⟩ ⟨at_.toArray⟩ (an : Int) (an : Int) Af2 Af3 Ab2 Ab3 fl fl x x fl.length fl.length cf2 cf3 x.length x.length cb2 cb3 rfl rfl (by omega) rfl rfl F2_5.out F3_5.out S2_5.out S3_5.out)
  rw [show decide (bl ⟨am.toArray⟩ = bl ⟨am.toArray⟩ ∧ bl ⟨at_.toArray⟩ = bl ⟨at_.toArray⟩ ∧ (an : Int) = (an : Int) ∧ fl = fl ∧ x = x) = true by simp] at K1
  go_wp2_with fail
  refine K1.out.mono ?_
  rintro e z1 ⟨rfl, bz1⟩
  have J4 := Lib.hid (I4_5.out.kept (Turn.of_below (S := fun _ => False) bz1) (fun h => h))
  have J5 := Lib.hid (I5_5.out.kept (Turn.of_below (S := fun _ => False) bz1) (fun h => h))
  have q4_0 : z1.cell? ⟨g4, 0, none⟩ = some (.int .i64 (as_ : Int)) := J4.out.cell 0
  have q4_1 : z1.cell? ⟨g4, 1, none⟩ = some (.string ⟨ar.toArray⟩) := J4.out.cell 1
  have q4_2 : z1.cell? ⟨g4, 2, none⟩ = some (.int .i64 (bn : Int)) := J4.out.cell 2
  have q4_3 : z1.cell? ⟨g4, 3, none⟩ = some (.slice Af4 gl.length cf4) := J4.out.cell 3
  have q4_4 : z1.cell? ⟨g4, 4, none⟩ = some (.slice Ab4 y.length cb4) := J4.out.cell 4
  have q5_0 : z1.cell? ⟨g5, 0, none⟩ = some (.int .i64 (as_ : Int)) := J5.out.cell 0
  have q5_1 : z1.cell? ⟨g5, 1, none⟩ = some (.string ⟨ar.toArray⟩) := J5.out.cell 1
  have q5_2 : z1.cell? ⟨g5, 2, none⟩ = some (.int .i64 (bn : Int)) := J5.out.cell 2
  have q5_3 : z1.cell? ⟨g5, 3, none⟩ = some (.slice Af5 gl.length cf5) := J5.out.cell 3
  have q5_4 : z1.cell? ⟨g5, 4, none⟩ = some (.slice Ab5 y.length cb5) := J5.out.cell 4
  have K2 := Lib.hid (rsameres_any z1 (as_ : Int) (as_ : Int) ⟨ar.toArray⟩ ⟨ar.toArray⟩ (bn : Int) (bn : Int) Af4 Af5 Ab4 Ab5 gl gl y y gl.length gl.length cf4 cf5 y.length y.length cb4 cb5 rfl rfl (by omega) rfl rfl (F4_5.out.below bz1) (F5_5.out.below bz1) (S4_5.out.kept (Turn.of_below (S := fun _ => False) bz1) (fun _ _ h => h)) (S5_5.out.kept (Turn.of_below (S := fun _ => False) bz1) (fun _ _ h => h)))
  rw [show decide ((as_ : Int) = (as_ : Int) ∧ bl ⟨ar.toArray⟩ = bl ⟨ar.toArray⟩ ∧ (bn : Int) = (bn : Int) ∧ gl = gl ∧ y = y) = true by simp] at K2
  have BZ1 := Lib.hid bz1
  clear bz1
  go_wp2_with fail
  refine K2.out.mono ?_
  rintro e z2 ⟨rfl, bz2⟩
  have bz : Below X5.heap.size X5 z2 := BZ1.out.trans (bz2.mono BZ1.out.size)
  have B6 := Lib.hid (B5.out.trans (bz.mono B5.out.size))
  have OW6 := Lib.hid (OW5.out.kept (Turn.of_below (S := fun _ => False) bz) (fun _ _ h => h))
  have I2_6 := Lib.hid (I2_5.out.kept (Turn.of_below (S := fun _ => False) bz) (fun h => h))
  have I4_6 := Lib.hid (I4_5.out.kept (Turn.of_below (S := fun _ => False) bz) (fun h => h))
  have G2_6 := Lib.hid (show 0 < x.length → ∃ q, Ab2 = some ⟨q, 0, none⟩ ∧ bo2 = some q ∧ BytesAt z2 q x.length from fun h0 => by
    obtain ⟨q, h1, h2, h3⟩ := G2_5.out h0
    exact ⟨q, h1, h2, h3.kept (Turn.of_below (S := fun _ => False) bz) (fun h => h)⟩)
  have G4_6 := Lib.hid (show 0 < y.length → ∃ q, Ab4 = some ⟨q, 0, none⟩ ∧ bo4 = some q ∧ BytesAt z2 q y.length from fun h0 => by
    obtain ⟨q, h1, h2, h3⟩ := G4_5.out h0
    exact ⟨q, h1, h2, h3.kept (Turn.of_below (S := fun _ => False) bz) (fun h => h)⟩)
  have LE := Lib.hid (show w1.heap.size ≤ g2 ∧ g2 < X2.heap.size ∧ X2.heap.size ≤ X3.heap.size ∧ (∀ q, bo2 = some q → w1.heap.size ≤ q ∧ q < g2) ∧ (∀ q, bo4 = some q → X3.heap.size ≤ q ∧ q < g4) from by
    have hb2 := FB2.out
    have hb4 := FB4.out
    exact ⟨GE2.out, HG2.out, HS3.out, fun q hq => ⟨hb2 q hq, HLT2.out q hq⟩, fun q hq => ⟨hb4 q hq, HLT4.out q hq⟩⟩)
  clear bz bz2 K1 K2 OW5 I2_5 I3_5 I4_5 I5_5 F2_5 F3_5 F4_5 F5_5 S2_5 S3_5 S4_5 S5_5 G2_5 G4_5 J4 J5 p2_0 p2_1 p2_2 p2_3 p2_4 p3_0 p3_1 p3_2 p3_3 p3_4 q4_0 q4_1 q4_2 q4_3 q4_4 q5_0 q5_1 q5_2 q5_3 q5_4
  have m2 : z2.cell? ⟨g2, 4, none⟩ = some (.slice Ab2 x.length cb2) := I2_6.out.cell 4
  go_wp2_with fail
  have NEg2 := Lib.hid (show ∀ q, bo2 = some q → g2 ≠ q from fun q hq => by have := (LE.out.2.2.2.1 q hq).2; omega)
  have NEg4 := Lib.hid (show ∀ q, bo4 = some q → g4 ≠ q from fun q hq => by have := (LE.out.2.2.2.2 q hq).2; omega)
  go_loopw [85, 21] (fun vi v1 wr => ∃ k : Nat, vi = .int .i64 (k : Int) ∧ k ≤ x.length ∧ Hid (Turn (fun b => bo2 = some b) z2 wr) ∧ Hid (0 < x.length → ∃ q, Ab2 = some ⟨q, 0, none⟩ ∧ bo2 = some q ∧ BytesAt wr q x.length)) (fun vi _ _ => x.length - (intOf vi).toNat)
  case atStart => exact ⟨0, rfl, Nat.zero_le _, Lib.hid (Turn.refl _ _), G2_6⟩
  case round =>
    obtain ⟨k, rfl, hk, HT, HG⟩ := hrel
    by_cases hlt : k < x.length
    · obtain ⟨q, hA2, ho2, hby⟩ := HG.out (by omega)
      have m4 : wr.cell? ⟨g2, 4, none⟩ = some (.slice Ab2 x.length cb2) := (I2_6.out.kept HT.out (fun hh => by have := NEg2.out g2 hh; exact this rfl)).cell 4
      subst hA2
      obtain ⟨d, y0, yf⟩ := hby.cell k hlt
      obtain ⟨d', hx⟩ := xor_byte d
      have hat := run_at 22 5 Tryz.underlying22 (by kernel_rfl) ⟨q, 0, none⟩ x.length cb2 k hlt
      rw [add_at, Nat.zero_add] at hat
      have HT2 := Lib.hid (HT.out.setCell (p := ⟨q, k, none⟩) (fun _ => ho2) (.int .u8 (d'.toNat : Int)))
      have HG2' := Lib.hid (show 0 < x.length → ∃ q', (some ⟨q, 0, none⟩ : Option Addr) = some ⟨q', 0, none⟩ ∧ bo2 = some q' ∧ BytesAt (wr.setCell ⟨q, k, none⟩ (.int .u8 (d'.toNat : Int))) q' x.length from fun _ => ⟨q, rfl, ho2, hby.set k d'⟩)
      clear hby
      go_wp2_with fail
      go_roundw
      case rel => exact ⟨k + 1, by go_num, hlt, HT2, HG2'⟩
      case measure => simp [intOf]; omega
    · obtain ⟨z3, rfl⟩ : ∃ z3, z3 = wr := ⟨_, rfl⟩
      have ne24 : ∀ q, bo4 = some q → bo2 ≠ some q := fun q hq hh => by have h1 := (LE.out.2.2.2.2 q hq).1; have h2 := (LE.out.2.2.2.1 q hh).2; have h3 := LE.out.2.1; have h4 := LE.out.2.2.1; omega
      have I4_7 := Lib.hid (I4_6.out.kept HT.out (fun hh => by have h1 := (LE.out.2.2.2.1 _ hh).2; have h2 := G4LE.out; have h3 := LE.out.2.1; have h4 := LE.out.2.2.1; omega))
      have G4_7 := Lib.hid (show 0 < y.length → ∃ q, Ab4 = some ⟨q, 0, none⟩ ∧ bo4 = some q ∧ BytesAt z3 q y.length from fun h0 => by
        obtain ⟨q, h1, h2, h3⟩ := G4_6.out h0
        exact ⟨q, h1, h2, h3.kept HT.out (ne24 q h2)⟩)
      have B7 := Lib.hid (below_own B6.out (fun b hb => Nat.le_trans B1.out.size (LE.out.2.2.2.1 b hb).1) HT.out)
      have OW7 := Lib.hid (OW6.out.kept HT.out (fun k' h1 h2 => by have := HO1.out k' h1; have := (LE.out.2.2.2.1 k' h2).1; omega))
      clear I4_6 G4_6 OW6 HG HT ne24
      have m3 : z3.cell? ⟨g4, 4, none⟩ = some (.slice Ab4 y.length cb4) := I4_7.out.cell 4
      go_wp2_with fail
      go_loopw [99, 22] (fun vi v1 wr => ∃ k : Nat, vi = .int .i64 (k : Int) ∧ k ≤ y.length ∧ Hid (Turn (fun b => bo4 = some b) z3 wr) ∧ Hid (0 < y.length → ∃ q, Ab4 = some ⟨q, 0, none⟩ ∧ bo4 = some q ∧ BytesAt wr q y.length)) (fun vi _ _ => y.length - (intOf vi).toNat)
      case atStart => exact ⟨0, rfl, Nat.zero_le _, Lib.hid (Turn.refl _ _), G4_7⟩
      case round =>
        obtain ⟨k, rfl, hk, HT, HG⟩ := hrel
        by_cases hlt : k < y.length
        · obtain ⟨q, hA2, ho2, hby⟩ := HG.out (by omega)
          have m4 : wr.cell? ⟨g4, 4, none⟩ = some (.slice Ab4 y.length cb4) := (I4_7.out.kept HT.out (fun hh => by have := NEg4.out g4 hh; exact this rfl)).cell 4
          subst hA2
          obtain ⟨d, y0, yf⟩ := hby.cell k hlt
          obtain ⟨d', hx⟩ := xor_byte d
          have hat := run_at 22 5 Tryz.underlying22 (by kernel_rfl) ⟨q, 0, none⟩ y.length cb4 k hlt
          rw [add_at, Nat.zero_add] at hat
          have HT2 := Lib.hid (HT.out.setCell (p := ⟨q, k, none⟩) (fun _ => ho2) (.int .u8 (d'.toNat : Int)))
          have HG2' := Lib.hid (show 0 < y.length → ∃ q', (some ⟨q, 0, none⟩ : Option Addr) = some ⟨q', 0, none⟩ ∧ bo4 = some q' ∧ BytesAt (wr.setCell ⟨q, k, none⟩ (.int .u8 (d'.toNat : Int))) q' y.length from fun _ => ⟨q, rfl, ho2, hby.set k d'⟩)
          clear hby
          go_wp2_with fail
          go_roundw
          case rel => exact ⟨k + 1, by go_num, hlt, HT2, HG2'⟩
          case measure => simp [intOf]; omega
        · have BR := Lib.hid (below_own B7.out (fun b hb => Nat.le_trans B1.out.size (Nat.le_trans (Nat.le_trans GE2.out (Nat.le_of_lt LE.out.2.1)) (Nat.le_trans LE.out.2.2.1 (LE.out.2.2.2.2 b hb).1))) HT.out)
          have OR := Lib.hid (OW7.out.kept HT.out (fun k' h1 h2 => by have := HO1.out k' h1; have := (LE.out.2.2.2.2 k' h2).1; have := GE2.out; have := LE.out.2.1; have := LE.out.2.2.1; omega))
          go_wp2_with fail
          refine (CW.out _ BR.out).mono ?_
          rintro e w5 ⟨rfl, b5⟩
          have BF := Lib.hid (BR.out.trans (b5.mono BR.out.size))
          obtain ⟨A9, c9, hv9, s9⟩ := (OR.out.kept (Turn.of_below (S := fun _ => False) b5) (fun _ _ h => h)).src (fun _ => True) (fun _ _ => trivial)
          rw [HN.out] at hv9
          injection hv9 with hA9 _ hc9
          subst hA9 hc9
          have CE2 := Lib.hid (bequal_any w5 A1 A bs bs n c1 n c HN.out HN.out s9 (H.out.kept (Turn.of_below (S := fun _ => False) BF.out) (fun _ _ h => h)))
          rw [show (bs == bs) = true by simp] at CE2
          clear b5 s9
          go_wp2_with fail
          refine CE2.out.mono ?_
          rintro e w6 ⟨rfl, rfl⟩
          go_wp2_with fail
          go_ret
          exact ⟨rfl, BF.out⟩
end Go.Proofs.YtemgfppclakdmaaGreatDoor
