/-
  The law FreshFalls: walk.
  Conditions: what the arguments read as; the list holds at most 1000000000 bytes; tables are as their texts lay them.
-/
import Derived.Test.YtdcbcjljmjnopaaGreatDoorJV
namespace Go.Proofs.YtdcbcjljmjnopaaGreatDoor.Fre
open Go.RowKit Hop Con

set_option maxHeartbeats 32000000 in
set_option maxRecDepth 100000 in
theorem falls_law {P : Nat → Prop} (w0 : World) (url : ByteArray) (asked came : Nat) (AW : Option Addr) (nw cw : Nat) (st : Int) (rr : ByteArray) (mk : Int) (A : Option Addr) (n c : Nat) (D : Option Addr) (l d : Nat) (now wait : Nat) (ls : List Fld) (hn : ls.length = n) (hb : bulkF ls ≤ 1000000000) (h : SrcF w0 P A ls) (ht : DTabs w0) (hc : came < 18446744073709551616) :
    Calls Tryz.prog 4 #[(.agg #[.string url, .int .u64 (asked : Int), .int .u64 (came : Int), .slice AW nw cw, .int .i64 st, .string rr, .int .i64 mk, .slice A n c, .slice D l d]), .int .u64 (now : Int), .int .u64 (wait : Int)] w0 fun e w' => e = .returned (.bool true) ∧ Below w0.heap.size w0 w' := by
  have hb0 : Below w0.heap.size w0 (w0.alloc (.cells #[.string url, .int .u64 (asked : Int), .int .u64 (came : Int), .slice AW nw cw, .int .i64 st, .string rr, .int .i64 mk, .slice A n c, .slice D l d] 28)) := (Below.refl _ _).alloc (Nat.le_refl _) _
  obtain ⟨n1, hn1⟩ : ∃ n1, now % 4503599627370496 = n1 := ⟨_, rfl⟩
  obtain ⟨t1, ht1⟩ : ∃ t1, wait % 4503599627370496 = t1 := ⟨_, rfl⟩
  have r1 : (now : Int) % 4503599627370496 = (n1 : Int) := by omega
  have r2 : (wait : Int) % 4503599627370496 = (t1 : Int) := by omega
  have i1 : n1 < 4503599627370496 := by omega
  have i2 : t1 < 4503599627370496 := by omega
  clear hn1 ht1
  have CL := Lib.hid (fun X (hX : Below w0.heap.size w0 X) => life_any X st rr mk A n c D l d ls hn hb (h.below hX) (ht.below hX))
  have CA := Lib.hid (fun X (hX : Below w0.heap.size w0 X) => age_any X url asked came AW nw cw st rr mk A n c D l d n1 ls hn hb (h.below hX) (ht.below hX) hc (by omega))
  have CB := Lib.hid (fun X (hX : Below w0.heap.size w0 X) => age_any X url asked came AW nw cw st rr mk A n c D l d (n1 + t1) ls hn hb (h.below hX) (ht.below hX) hc (by omega))
  have CF := Lib.hid (fun X (hX : Below w0.heap.size w0 X) => fresh_any X url asked came AW nw cw st rr mk A n c D l d n1 ls hn hb (h.below hX) (ht.below hX) hc (by omega))
  have CG := Lib.hid (fun X (hX : Below w0.heap.size w0 X) => fresh_any X url asked came AW nw cw st rr mk A n c D l d (n1 + t1) ls hn hb (h.below hX) (ht.below hX) hc (by omega))
  rw [show ((n1 + t1 : Nat) : Int) = (n1 : Int) + (t1 : Int) by omega] at CB CG
  have CW := Lib.hid (fun X (hX : Below w0.heap.size w0 X) => awake_any X (ht.below hX))
  unfold LifeTold at CL
  have hF1 : decide ((ageF ls asked came n1 : Int) < (lifeF st ls).1) = freshB st ls asked came n1 := rfl
  have hF2 : decide ((ageF ls asked came (n1 + t1) : Int) < (lifeF st ls).1) = freshB st ls asked came (n1 + t1) := rfl
  have j1 : ageF ls asked came n1 ≤ ageF ls asked came (n1 + t1) := age_mono _ _ (Nat.le_add_right _ _)
  have j2 := age_le ls asked came (n1 + t1)
  have HG := Lib.hid (fun (hc : came ≤ n1) (hb : ageF ls asked came (n1 + t1) < M31) => age_grows (birthF ls asked came) came n1 t1 hc hb)
  rw [show ageOf (birthF ls asked came) came n1 = ageF ls asked came n1 from rfl, show ageOf (birthF ls asked came) came (n1 + t1) = ageF ls asked came (n1 + t1) from rfl] at HG
  have HH := Lib.hid (fun hc : came ≤ n1 => age_here ls asked came n1 hc)
  have j3 := life_range st ls
  unfold M31 at j2 HG HH
  have X0 := Lib.hid (EBox.made w0 28 url asked came AW nw cw st rr mk A n c D l d)
  have B0 := Lib.hid hb0
  clear hn hb h ht hb0 hc
  obtain ⟨W, hW⟩ : ∃ W, (w0.alloc (.cells #[.string url, .int .u64 (asked : Int), .int .u64 (came : Int), .slice AW nw cw, .int .i64 st, .string rr, .int .i64 mk, .slice A n c, .slice D l d] 28)) = W := ⟨_, rfl⟩
  rw [hW] at X0 B0
  have HW := Lib.hid hW
  clear hW
  generalize lifeF st ls = q at *
  generalize ageF ls asked came n1 = a at *
  generalize ageF ls asked came (n1 + t1) = b at *
  generalize freshB st ls asked came n1 = f1 at *
  generalize freshB st ls asked came (n1 + t1) = f2 at *
  obtain ⟨q1, q2⟩ := q
  simp only at CL hF1 hF2 j3
  obtain ⟨j4, j5⟩ := j3
  have ws : IntKind.u64.wrap ((n1 : Int) + (t1 : Int)) = (n1 : Int) + (t1 : Int) := wrap_u64 _ (by omega)
  have k1 : ((a : Int) < 0) = False := eq_false (by omega)
  have k2 : ((b : Int) < (a : Int)) = False := eq_false (by omega)
  have k2' : (b < a) = False := eq_false (by omega)
  have k3 : (2147483648 < (b : Int)) = False := eq_false (by omega)
  have d0 : Below W.heap.size W W.drew := below_drewN (Below.refl W.heap.size W) 1
  have KK : ∀ V : World, Below W.heap.size W V → V.cell? ⟨w0.heap.size, 0, none⟩ = some (.string url) ∧ V.cell? ⟨w0.heap.size, 1, none⟩ = some (.int .u64 (asked : Int)) ∧ V.cell? ⟨w0.heap.size, 2, none⟩ = some (.int .u64 (came : Int)) ∧ V.cell? ⟨w0.heap.size, 3, none⟩ = some (.slice AW nw cw) ∧ V.cell? ⟨w0.heap.size, 4, none⟩ = some (.int .i64 st) ∧ V.cell? ⟨w0.heap.size, 5, none⟩ = some (.string rr) ∧ V.cell? ⟨w0.heap.size, 6, none⟩ = some (.int .i64 mk) ∧ V.cell? ⟨w0.heap.size, 7, none⟩ = some (.slice A n c) ∧ V.cell? ⟨w0.heap.size, 8, none⟩ = some (.slice D l d) := fun V hV => X0.out.below hV
  have kw := KK _ (Below.refl _ _)
  have k0 := KK _ d0
  have BB := Lib.hid (fun (V : World) (hV : Below W.heap.size W V) => B0.out.trans (hV.mono B0.out.size))
  go_enter Tryz.func4, Tryz.ntmps4
  go_upto_region 3 with fail
  rw [HW.out]
  go_region_held3 (fun w' => w'.cell? ⟨w0.heap.size, 0, none⟩ = some (.string url) ∧ w'.cell? ⟨w0.heap.size, 1, none⟩ = some (.int .u64 (asked : Int)) ∧ w'.cell? ⟨w0.heap.size, 2, none⟩ = some (.int .u64 (came : Int)) ∧ w'.cell? ⟨w0.heap.size, 3, none⟩ = some (.slice AW nw cw) ∧ w'.cell? ⟨w0.heap.size, 4, none⟩ = some (.int .i64 st) ∧ w'.cell? ⟨w0.heap.size, 5, none⟩ = some (.string rr) ∧ w'.cell? ⟨w0.heap.size, 6, none⟩ = some (.int .i64 mk) ∧ w'.cell? ⟨w0.heap.size, 7, none⟩ = some (.slice A n c) ∧ w'.cell? ⟨w0.heap.size, 8, none⟩ = some (.slice D l d)) (first | (with_reducible exact kw) | (with_reducible exact k0) | (with_reducible exact kA) | (with_reducible exact kB) | go_keep)
    (first
      | (go_at_call 12; (with_reducible refine (CA.out W.drew (BB.out _ d0)).mono ?_); rintro e wA ⟨rfl, b⟩; have dA := d0.trans (b.mono d0.size); have kA := KK _ dA; clear b)
      | (go_at_call 12; (with_reducible refine (CB.out wA (BB.out _ dA)).mono ?_); rintro e wB ⟨rfl, b⟩; have dB := dA.trans (b.mono dA.size); have kB := KK _ dB; clear b))
  have HD := Lib.hid dB
  have HK := Lib.hid (fun V (hV : Below wB.heap.size wB V) => KK V (dB.trans (hV.mono dB.size)))
  have HB := Lib.hid (BB.out _ dB)
  clear kw k0 kA kB d0 dA dB KK BB X0 B0 CA CB
  have DB : Hid (Below wB.heap.size wB wB) := Lib.hid (Below.refl _ _)
  obtain ⟨x0, x1, x2, x3, x4, x5, x6, x7, x8⟩ := HK.out _ DB.out
  cases f2
  · go_wp2_with fail
    refine (CG.out _ (HB.out.trans (DB.out.mono HB.out.size))).mono ?_
    rintro e wg ⟨rfl, b⟩
    have D_wg := Lib.hid (DB.out.trans (b.mono DB.out.size))
    clear b
    clear x0 x1 x2 x3 x4 x5 x6 x7 x8
    obtain ⟨x0, x1, x2, x3, x4, x5, x6, x7, x8⟩ := HK.out _ D_wg.out
    cases f1
    all_goals
      by_cases hcn : came ≤ n1
      · by_cases hbm : b < 2147483648
        · obtain ⟨g1, g2, g3⟩ := HG.out hcn hbm
          have hz : ((b : Int) < 2147483648) = True := eq_true (by omega)
          have hh := HH.out hcn
          obtain ⟨tw, htw⟩ : ∃ tw, t1 / 1000 = tw := ⟨_, rfl⟩
          rw [htw] at g1 g2 g3
          have e1 : (t1 : Int) / 1000 = (tw : Int) := by omega
          have e2 : IntKind.i64.wrap (tw : Int) = (tw : Int) := wrap_i64 _ (by omega)
          have e3 : IntKind.i64.wrap ((a : Int) + (tw : Int)) = (a : Int) + (tw : Int) := wrap_i64 _ (by omega)
          have e4 : IntKind.i64.wrap ((a : Int) + (tw : Int) + 1) = (a : Int) + (tw : Int) + 1 := wrap_i64 _ (by omega)
          have e5 : ¬ (b : Int) < (a : Int) + (tw : Int) := by omega
          have e6 : ¬ (a : Int) + (tw : Int) + 1 < (b : Int) := by omega
          have e7 : IntKind.u64.wrap ((n1 : Int) - (came : Int)) = (n1 : Int) - (came : Int) := wrap_u64 _ (by omega)
          have e8 : IntKind.u64.wrap (a : Int) = (a : Int) := wrap_u64 _ (by omega)
          obtain ⟨mq, hmq⟩ : ∃ mq, ((t1 : Int) % 1000 == 0) = mq := ⟨_, rfl⟩
          have e9 : (if mq = true then ((b : Int) != (a : Int) + (tw : Int)) else false) = false := by
            cases mq
            · rfl
            · have h0 : t1 % 1000 = 0 := by have := eq_of_beq hmq; omega
              have := g3 h0
              simp
              omega
          clear g1 g2 g3 htw HG HH hbm
          cases mq
          all_goals
            try (have e10 : ((b : Int) != (a : Int) + (tw : Int)) = false := by simpa using e9)
            clear e9
            by_cases hca : asked ≤ came
            · have e11 : IntKind.u64.wrap ((came : Int) - (asked : Int)) = (came : Int) - (asked : Int) := wrap_u64 _ (by omega)
              have e12 : IntKind.u64.wrap ((n1 : Int) - (came : Int) + ((came : Int) - (asked : Int))) = (n1 : Int) - (came : Int) + ((came : Int) - (asked : Int)) := wrap_u64 _ (by omega)
              have e13 : ((a : Int) < min (((n1 : Int) - (came : Int) + ((came : Int) - (asked : Int))) / 1000) 2147483648) = False := eq_false (by omega)
              go_wp2_with fail
              refine (CL.out _ (HB.out.trans (D_wg.out.mono HB.out.size))).mono ?_
              rintro e wl ⟨rfl, b⟩
              have D_wl := Lib.hid (D_wg.out.trans (b.mono D_wg.out.size))
              clear b
              clear x0 x1 x2 x3 x4 x5 x6 x7 x8
              obtain ⟨x0, x1, x2, x3, x4, x5, x6, x7, x8⟩ := HK.out _ D_wl.out
              go_wp2_with fail
              refine (CW.out _ (HB.out.trans (D_wl.out.mono HB.out.size))).mono ?_
              rintro e wm ⟨rfl, b⟩
              have D_wm := Lib.hid (D_wl.out.trans (b.mono D_wl.out.size))
              clear b
              clear x0 x1 x2 x3 x4 x5 x6 x7 x8
              obtain ⟨x0, x1, x2, x3, x4, x5, x6, x7, x8⟩ := HK.out _ D_wm.out
              go_wp2_with fail
              refine (CF.out _ (HB.out.trans (D_wm.out.mono HB.out.size))).mono ?_
              rintro e wn ⟨rfl, b⟩
              have D_wn := Lib.hid (D_wm.out.trans (b.mono D_wm.out.size))
              clear b
              clear x0 x1 x2 x3 x4 x5 x6 x7 x8
              obtain ⟨x0, x1, x2, x3, x4, x5, x6, x7, x8⟩ := HK.out _ D_wn.out
              go_wp2_with fail
              go_ret
              exact ⟨rfl, HB.out.trans (D_wn.out.mono HB.out.size)⟩
            · have e13 : ((a : Int) < min (((n1 : Int) - (came : Int)) / 1000) 2147483648) = False := eq_false (by omega)
              go_wp2_with fail
              refine (CL.out _ (HB.out.trans (D_wg.out.mono HB.out.size))).mono ?_
              rintro e wl ⟨rfl, b⟩
              have D_wl := Lib.hid (D_wg.out.trans (b.mono D_wg.out.size))
              clear b
              clear x0 x1 x2 x3 x4 x5 x6 x7 x8
              obtain ⟨x0, x1, x2, x3, x4, x5, x6, x7, x8⟩ := HK.out _ D_wl.out
              go_wp2_with fail
              refine (CW.out _ (HB.out.trans (D_wl.out.mono HB.out.size))).mono ?_
              rintro e wm ⟨rfl, b⟩
              have D_wm := Lib.hid (D_wl.out.trans (b.mono D_wl.out.size))
              clear b
              clear x0 x1 x2 x3 x4 x5 x6 x7 x8
              obtain ⟨x0, x1, x2, x3, x4, x5, x6, x7, x8⟩ := HK.out _ D_wm.out
              go_wp2_with fail
              refine (CF.out _ (HB.out.trans (D_wm.out.mono HB.out.size))).mono ?_
              rintro e wn ⟨rfl, b⟩
              have D_wn := Lib.hid (D_wm.out.trans (b.mono D_wm.out.size))
              clear b
              clear x0 x1 x2 x3 x4 x5 x6 x7 x8
              obtain ⟨x0, x1, x2, x3, x4, x5, x6, x7, x8⟩ := HK.out _ D_wn.out
              go_wp2_with fail
              go_ret
              exact ⟨rfl, HB.out.trans (D_wn.out.mono HB.out.size)⟩
        · have hz : ((b : Int) < 2147483648) = False := eq_false (by omega)
          clear HG HH hbm
          go_wp2_with fail
          refine (CL.out _ (HB.out.trans (D_wg.out.mono HB.out.size))).mono ?_
          rintro e wl ⟨rfl, b⟩
          have D_wl := Lib.hid (D_wg.out.trans (b.mono D_wg.out.size))
          clear b
          clear x0 x1 x2 x3 x4 x5 x6 x7 x8
          obtain ⟨x0, x1, x2, x3, x4, x5, x6, x7, x8⟩ := HK.out _ D_wl.out
          go_wp2_with fail
          refine (CW.out _ (HB.out.trans (D_wl.out.mono HB.out.size))).mono ?_
          rintro e wm ⟨rfl, b⟩
          have D_wm := Lib.hid (D_wl.out.trans (b.mono D_wl.out.size))
          clear b
          clear x0 x1 x2 x3 x4 x5 x6 x7 x8
          obtain ⟨x0, x1, x2, x3, x4, x5, x6, x7, x8⟩ := HK.out _ D_wm.out
          go_wp2_with fail
          refine (CF.out _ (HB.out.trans (D_wm.out.mono HB.out.size))).mono ?_
          rintro e wn ⟨rfl, b⟩
          have D_wn := Lib.hid (D_wm.out.trans (b.mono D_wm.out.size))
          clear b
          clear x0 x1 x2 x3 x4 x5 x6 x7 x8
          obtain ⟨x0, x1, x2, x3, x4, x5, x6, x7, x8⟩ := HK.out _ D_wn.out
          go_wp2_with fail
          go_ret
          exact ⟨rfl, HB.out.trans (D_wn.out.mono HB.out.size)⟩
      · clear HG HH
        go_wp2_with fail
        refine (CL.out _ (HB.out.trans (D_wg.out.mono HB.out.size))).mono ?_
        rintro e wl ⟨rfl, b⟩
        have D_wl := Lib.hid (D_wg.out.trans (b.mono D_wg.out.size))
        clear b
        clear x0 x1 x2 x3 x4 x5 x6 x7 x8
        obtain ⟨x0, x1, x2, x3, x4, x5, x6, x7, x8⟩ := HK.out _ D_wl.out
        go_wp2_with fail
        refine (CW.out _ (HB.out.trans (D_wl.out.mono HB.out.size))).mono ?_
        rintro e wm ⟨rfl, b⟩
        have D_wm := Lib.hid (D_wl.out.trans (b.mono D_wl.out.size))
        clear b
        clear x0 x1 x2 x3 x4 x5 x6 x7 x8
        obtain ⟨x0, x1, x2, x3, x4, x5, x6, x7, x8⟩ := HK.out _ D_wm.out
        go_wp2_with fail
        refine (CF.out _ (HB.out.trans (D_wm.out.mono HB.out.size))).mono ?_
        rintro e wn ⟨rfl, b⟩
        have D_wn := Lib.hid (D_wm.out.trans (b.mono D_wm.out.size))
        clear b
        clear x0 x1 x2 x3 x4 x5 x6 x7 x8
        obtain ⟨x0, x1, x2, x3, x4, x5, x6, x7, x8⟩ := HK.out _ D_wn.out
        go_wp2_with fail
        go_ret
        exact ⟨rfl, HB.out.trans (D_wn.out.mono HB.out.size)⟩
  · obtain rfl : f1 = true := by rw [← hF1]; exact decide_eq_true (by have := of_decide_eq_true hF2; omega)
    go_wp2_with fail
    refine (CG.out _ (HB.out.trans (DB.out.mono HB.out.size))).mono ?_
    rintro e wg ⟨rfl, b⟩
    have D_wg := Lib.hid (DB.out.trans (b.mono DB.out.size))
    clear b
    clear x0 x1 x2 x3 x4 x5 x6 x7 x8
    obtain ⟨x0, x1, x2, x3, x4, x5, x6, x7, x8⟩ := HK.out _ D_wg.out
    go_wp2_with fail
    refine (CF.out _ (HB.out.trans (D_wg.out.mono HB.out.size))).mono ?_
    rintro e wh ⟨rfl, b⟩
    have D_wh := Lib.hid (D_wg.out.trans (b.mono D_wg.out.size))
    clear b
    clear x0 x1 x2 x3 x4 x5 x6 x7 x8
    obtain ⟨x0, x1, x2, x3, x4, x5, x6, x7, x8⟩ := HK.out _ D_wh.out
    by_cases hcn : came ≤ n1
    · by_cases hbm : b < 2147483648
      · obtain ⟨g1, g2, g3⟩ := HG.out hcn hbm
        have hz : ((b : Int) < 2147483648) = True := eq_true (by omega)
        have hh := HH.out hcn
        obtain ⟨tw, htw⟩ : ∃ tw, t1 / 1000 = tw := ⟨_, rfl⟩
        rw [htw] at g1 g2 g3
        have e1 : (t1 : Int) / 1000 = (tw : Int) := by omega
        have e2 : IntKind.i64.wrap (tw : Int) = (tw : Int) := wrap_i64 _ (by omega)
        have e3 : IntKind.i64.wrap ((a : Int) + (tw : Int)) = (a : Int) + (tw : Int) := wrap_i64 _ (by omega)
        have e4 : IntKind.i64.wrap ((a : Int) + (tw : Int) + 1) = (a : Int) + (tw : Int) + 1 := wrap_i64 _ (by omega)
        have e5 : ¬ (b : Int) < (a : Int) + (tw : Int) := by omega
        have e6 : ¬ (a : Int) + (tw : Int) + 1 < (b : Int) := by omega
        have e7 : IntKind.u64.wrap ((n1 : Int) - (came : Int)) = (n1 : Int) - (came : Int) := wrap_u64 _ (by omega)
        have e8 : IntKind.u64.wrap (a : Int) = (a : Int) := wrap_u64 _ (by omega)
        obtain ⟨mq, hmq⟩ : ∃ mq, ((t1 : Int) % 1000 == 0) = mq := ⟨_, rfl⟩
        have e9 : (if mq = true then ((b : Int) != (a : Int) + (tw : Int)) else false) = false := by
          cases mq
          · rfl
          · have h0 : t1 % 1000 = 0 := by have := eq_of_beq hmq; omega
            have := g3 h0
            simp
            omega
        clear g1 g2 g3 htw HG HH hbm
        cases mq
        all_goals
          try (have e10 : ((b : Int) != (a : Int) + (tw : Int)) = false := by simpa using e9)
          clear e9
          by_cases hca : asked ≤ came
          · have e11 : IntKind.u64.wrap ((came : Int) - (asked : Int)) = (came : Int) - (asked : Int) := wrap_u64 _ (by omega)
            have e12 : IntKind.u64.wrap ((n1 : Int) - (came : Int) + ((came : Int) - (asked : Int))) = (n1 : Int) - (came : Int) + ((came : Int) - (asked : Int)) := wrap_u64 _ (by omega)
            have e13 : ((a : Int) < min (((n1 : Int) - (came : Int) + ((came : Int) - (asked : Int))) / 1000) 2147483648) = False := eq_false (by omega)
            go_wp2_with fail
            refine (CL.out _ (HB.out.trans (D_wh.out.mono HB.out.size))).mono ?_
            rintro e wl ⟨rfl, b⟩
            have D_wl := Lib.hid (D_wh.out.trans (b.mono D_wh.out.size))
            clear b
            clear x0 x1 x2 x3 x4 x5 x6 x7 x8
            obtain ⟨x0, x1, x2, x3, x4, x5, x6, x7, x8⟩ := HK.out _ D_wl.out
            go_wp2_with fail
            refine (CW.out _ (HB.out.trans (D_wl.out.mono HB.out.size))).mono ?_
            rintro e wm ⟨rfl, b⟩
            have D_wm := Lib.hid (D_wl.out.trans (b.mono D_wl.out.size))
            clear b
            clear x0 x1 x2 x3 x4 x5 x6 x7 x8
            obtain ⟨x0, x1, x2, x3, x4, x5, x6, x7, x8⟩ := HK.out _ D_wm.out
            go_wp2_with fail
            refine (CF.out _ (HB.out.trans (D_wm.out.mono HB.out.size))).mono ?_
            rintro e wn ⟨rfl, b⟩
            have D_wn := Lib.hid (D_wm.out.trans (b.mono D_wm.out.size))
            clear b
            clear x0 x1 x2 x3 x4 x5 x6 x7 x8
            obtain ⟨x0, x1, x2, x3, x4, x5, x6, x7, x8⟩ := HK.out _ D_wn.out
            go_wp2_with fail
            go_ret
            exact ⟨rfl, HB.out.trans (D_wn.out.mono HB.out.size)⟩
          · have e13 : ((a : Int) < min (((n1 : Int) - (came : Int)) / 1000) 2147483648) = False := eq_false (by omega)
            go_wp2_with fail
            refine (CL.out _ (HB.out.trans (D_wh.out.mono HB.out.size))).mono ?_
            rintro e wl ⟨rfl, b⟩
            have D_wl := Lib.hid (D_wh.out.trans (b.mono D_wh.out.size))
            clear b
            clear x0 x1 x2 x3 x4 x5 x6 x7 x8
            obtain ⟨x0, x1, x2, x3, x4, x5, x6, x7, x8⟩ := HK.out _ D_wl.out
            go_wp2_with fail
            refine (CW.out _ (HB.out.trans (D_wl.out.mono HB.out.size))).mono ?_
            rintro e wm ⟨rfl, b⟩
            have D_wm := Lib.hid (D_wl.out.trans (b.mono D_wl.out.size))
            clear b
            clear x0 x1 x2 x3 x4 x5 x6 x7 x8
            obtain ⟨x0, x1, x2, x3, x4, x5, x6, x7, x8⟩ := HK.out _ D_wm.out
            go_wp2_with fail
            refine (CF.out _ (HB.out.trans (D_wm.out.mono HB.out.size))).mono ?_
            rintro e wn ⟨rfl, b⟩
            have D_wn := Lib.hid (D_wm.out.trans (b.mono D_wm.out.size))
            clear b
            clear x0 x1 x2 x3 x4 x5 x6 x7 x8
            obtain ⟨x0, x1, x2, x3, x4, x5, x6, x7, x8⟩ := HK.out _ D_wn.out
            go_wp2_with fail
            go_ret
            exact ⟨rfl, HB.out.trans (D_wn.out.mono HB.out.size)⟩
      · have hz : ((b : Int) < 2147483648) = False := eq_false (by omega)
        clear HG HH hbm
        go_wp2_with fail
        refine (CL.out _ (HB.out.trans (D_wh.out.mono HB.out.size))).mono ?_
        rintro e wl ⟨rfl, b⟩
        have D_wl := Lib.hid (D_wh.out.trans (b.mono D_wh.out.size))
        clear b
        clear x0 x1 x2 x3 x4 x5 x6 x7 x8
        obtain ⟨x0, x1, x2, x3, x4, x5, x6, x7, x8⟩ := HK.out _ D_wl.out
        go_wp2_with fail
        refine (CW.out _ (HB.out.trans (D_wl.out.mono HB.out.size))).mono ?_
        rintro e wm ⟨rfl, b⟩
        have D_wm := Lib.hid (D_wl.out.trans (b.mono D_wl.out.size))
        clear b
        clear x0 x1 x2 x3 x4 x5 x6 x7 x8
        obtain ⟨x0, x1, x2, x3, x4, x5, x6, x7, x8⟩ := HK.out _ D_wm.out
        go_wp2_with fail
        refine (CF.out _ (HB.out.trans (D_wm.out.mono HB.out.size))).mono ?_
        rintro e wn ⟨rfl, b⟩
        have D_wn := Lib.hid (D_wm.out.trans (b.mono D_wm.out.size))
        clear b
        clear x0 x1 x2 x3 x4 x5 x6 x7 x8
        obtain ⟨x0, x1, x2, x3, x4, x5, x6, x7, x8⟩ := HK.out _ D_wn.out
        go_wp2_with fail
        go_ret
        exact ⟨rfl, HB.out.trans (D_wn.out.mono HB.out.size)⟩
    · clear HG HH
      go_wp2_with fail
      refine (CL.out _ (HB.out.trans (D_wh.out.mono HB.out.size))).mono ?_
      rintro e wl ⟨rfl, b⟩
      have D_wl := Lib.hid (D_wh.out.trans (b.mono D_wh.out.size))
      clear b
      clear x0 x1 x2 x3 x4 x5 x6 x7 x8
      obtain ⟨x0, x1, x2, x3, x4, x5, x6, x7, x8⟩ := HK.out _ D_wl.out
      go_wp2_with fail
      refine (CW.out _ (HB.out.trans (D_wl.out.mono HB.out.size))).mono ?_
      rintro e wm ⟨rfl, b⟩
      have D_wm := Lib.hid (D_wl.out.trans (b.mono D_wl.out.size))
      clear b
      clear x0 x1 x2 x3 x4 x5 x6 x7 x8
      obtain ⟨x0, x1, x2, x3, x4, x5, x6, x7, x8⟩ := HK.out _ D_wm.out
      go_wp2_with fail
      refine (CF.out _ (HB.out.trans (D_wm.out.mono HB.out.size))).mono ?_
      rintro e wn ⟨rfl, b⟩
      have D_wn := Lib.hid (D_wm.out.trans (b.mono D_wm.out.size))
      clear b
      clear x0 x1 x2 x3 x4 x5 x6 x7 x8
      obtain ⟨x0, x1, x2, x3, x4, x5, x6, x7, x8⟩ := HK.out _ D_wn.out
      go_wp2_with fail
      go_ret
      exact ⟨rfl, HB.out.trans (D_wn.out.mono HB.out.size)⟩
end Go.Proofs.YtdcbcjljmjnopaaGreatDoor.Fre
