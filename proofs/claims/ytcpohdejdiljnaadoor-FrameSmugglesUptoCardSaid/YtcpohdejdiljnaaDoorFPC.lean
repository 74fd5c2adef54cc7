/-
  The law FrameSmuggles: walk.
  Conditions: what the arguments read as; internal/bytealg.MaxLen holds some number.
-/
import Derived.Test.YtcpohdejdiljnaaDoorFPB
import Derived.Deep.RegionHeld3
namespace Go.Proofs.YtcpohdejdiljnaaDoor
open Go.RowKit

/-- internal/bytealg.MaxLen holds some number, by the world's shape. -/
theorem mx_of (W : World) (h : W.ShapedOpen Tryd.prog) : ∃ mx, W.cell? ⟨0, 0, none⟩ = some (.int .i64 mx) := Tryd.laysM138.s1_3 W h

set_option maxHeartbeats 40000000 in
set_option maxRecDepth 100000 in
theorem smuggles_law {P : Nat → Prop} (st : Int) (m : ByteArray) (mi : Int) (w : World) (A : Option Addr) (ls : List Fld) (n c : Nat) (hn : ls.length = n) (h : SrcF w P A ls) (hb : bulkF ls ≤ 100000000) (mx : Int) (hmx : w.cell? ⟨0, 0, none⟩ = some (.int .i64 mx)) :
    Calls Tryd.prog 4 #[.agg #[.int .i64 st, .string m, .int .i64 mi, .slice A n c]] w fun e w' => e = .returned (.bool true) ∧ Below w.heap.size w w' := by
  have hm := Meek.small (ls := ls) (by omega)
  have hlen := bulkF_len ls
  have CW := Lib.hid (fun X : World => awake_any X)
  have I0 := Lib.hid (Is.made w 24 [.int .i64 st, .string m, .int .i64 mi, .slice A n c])
  have D0 := Lib.hid ((Below.refl w.heap.size w).alloc (Nat.le_refl _) (.cells #[.int .i64 st, .string m, .int .i64 mi, .slice A n c] 24))
  have HMX := Lib.hid (fun (X : World) (hX : Below w.heap.size w X) => (hX.cell (Lib.lt_of_cell hmx)).trans hmx)
  have CV := Lib.hid (fun (nm : ByteArray) (hnm : nm.size ≤ 1000000000) (X : World) (hX : Below w.heap.size w X) => (values_any X A ls n c hn (by omega) (h.below hX) hm.thin nm hnm).mono (fun e w' (hg : GotS (getF ls (bl nm)) X e w') => hg.list))
  have CVL := Lib.hid (CV.out ⟨#[99, 111, 110, 116, 101, 110, 116, 45, 108, 101, 110, 103, 116, 104]⟩ (by decide))
  have CVC := Lib.hid (CV.out ⟨#[116, 114, 97, 110, 115, 102, 101, 114, 45, 101, 110, 99, 111, 100, 105, 110, 103]⟩ (by decide))
  rw [bl_len] at CVL
  rw [bl_cod] at CVC
  have CR := Lib.hid (fun (X : World) (hX : Below w.heap.size w X) => request_any mi X A ls n c hn (h.below hX) hm.fit)
  have HK := Lib.hid (kind_cases mi ls)
  have HGC := Lib.hid (show (glue (getF ls codN)).length ≤ 1000000000 from Nat.le_trans (glue_bulk ls codN) (by omega))
  have HLC := Lib.hid (show (getF ls codN).length ≤ 1000000000 from Nat.le_trans (getF_length ls codN) (by omega))
  have HLL := Lib.hid (show (getF ls lenN).length ≤ 1000000000 from Nat.le_trans (getF_length ls lenN) (by omega))
  have HVS := Lib.hid (show ∀ x ∈ getF ls lenN, x.length ≤ 1000000000 from fun x hx => by
    obtain ⟨f, hf, rfl⟩ := getF_mem hx
    have := bulkF_mem hf
    omega)
  have HES := Lib.hid (show ∀ x ∈ elsF (getF ls lenN), x.length ≤ 1000000000 from fun x hx => Nat.le_trans (elsF_part hx) (by omega))
  have HNE := Lib.hid (show ∀ x ∈ getF ls lenN, (listF x).length ≤ 1000000000 from fun x hx => by
    obtain ⟨f, hf, rfl⟩ := getF_mem hx
    have := bulkF_mem hf
    have := list_count f.2
    omega)
  clear hn h hb hm hlen hmx CV
  generalize getF ls lenN = lv at *
  generalize getF ls codN = cv at *
  generalize reqK mi ls = p at *
  unfold Tells kdV at CR
  obtain ⟨pk, pn, pe⟩ := p
  simp only [Prod.mk.injEq] at CR HK
  go_enter Tryd.func4, Tryd.ntmps4
  go_wp2_with fail
  refine (CW.out _).mono ?_
  rintro e wa ⟨rfl, ba⟩
  have Ia := Lib.hid (I0.out.kept (Turn.of_below (S := fun _ => False) ba) (fun h => h))
  have Da := Lib.hid (D0.out.trans (ba.mono D0.out.size))
  have Dd : Hid (Below w.heap.size w wa.drew) := Lib.hid (below_drewN Da.out 1)
  have k3 : wa.cell? ⟨w.heap.size, 3, none⟩ = some (.slice A n c) := Ia.out.cell 3
  clear ba
  go_wp2_with fail
  go_region_held3 (fun w' => w'.cell? ⟨w.heap.size, 3, none⟩ = some (.slice A n c)) (first | exact k3 | exact k5 | exact k6 | go_keep)
    (first
      | (go_at_call 13; (with_reducible refine (CVL.out wa.drew Dd.out).mono ?_); rintro e w5 ⟨A5, c5, rfl, s5, l5, n5, b5⟩; have k5 : w5.cell? ⟨w.heap.size, 3, none⟩ = some (.slice A n c) := (b5.cell (Lib.lt_of_cell (w := wa.drew) k3)).trans k3; have D5 := Lib.hid (Dd.out.trans (b5.mono Dd.out.size)))
      | (go_at_call 13; (with_reducible refine (CVC.out w5 D5.out).mono ?_); rintro e w6 ⟨A6, c6, rfl, s6, l6, n6, b6⟩; have k6 : w6.cell? ⟨w.heap.size, 3, none⟩ = some (.slice A n c) := (b6.cell (Lib.lt_of_cell k5)).trans k5))
  have IB6 := Lib.hid (((Ia.out.drew).kept (Turn.of_below (S := fun _ => False) b5) (fun h => h)).kept (Turn.of_below (S := fun _ => False) b6) (fun h => h))
  have D6 := Lib.hid (D5.out.trans (b6.mono D5.out.size))
  have S5 := Lib.hid (s5.kept (Turn.of_below (S := fun _ => False) b6) (fun _ _ h => h))
  have S6 := Lib.hid s6
  have L6 := Lib.hid l6
  have N6 := Lib.hid n6
  have k2 : w6.cell? ⟨w.heap.size, 2, none⟩ = some (.int .i64 mi) := IB6.out.cell 2
  clear s5 l5 n5 b5 s6 l6 n6 b6 k3 k5 Ia Da Dd I0 D0 CW CVL CVC D5
  go_wp2_with fail
  refine (CR.out _ D6.out).mono ?_
  rintro e w7 ⟨rfl, b7⟩
  have D7 := Lib.hid (D6.out.trans (b7.mono D6.out.size))
  have IB7 := Lib.hid (IB6.out.kept (Turn.of_below (S := fun _ => False) b7) (fun h => h))
  have S7 := Lib.hid (S5.out.kept (Turn.of_below (S := fun _ => False) b7) (fun _ _ h => h))
  have T7 := Lib.hid (S6.out.kept (Turn.of_below (S := fun _ => False) b7) (fun _ _ h => h))
  have k2 : w7.cell? ⟨w.heap.size, 2, none⟩ = some (.int .i64 mi) := IB7.out.cell 2
  clear b7 k6 IB6 D6 S5 S6 CR
  rcases HK.out with ⟨h1, h2, h3, h4⟩ | ⟨⟨q1, q2, q3⟩, hl, hc⟩ | ⟨⟨q1, q2, q3⟩, hl, hmi, hc, x, hx, hk⟩ | ⟨q, ⟨q1, q2, q3⟩, hc, hl, hq, hs⟩
  · have e0 : ((pe : Int) != 0) = true := by simpa using h1
    have e1 : ((pk : Int) != 0) = false := by subst h2; rfl
    have e2 : ((pn : Int) != 0) = false := by subst h3; rfl
    have hg : (decide ((0 : Int) < (lv.length : Int)) = false ∧ decide (0 < lv.length) = false) ∨ ((decide ((0 : Int) < (lv.length : Int)) = true ∧ decide (0 < lv.length) = true) ∧ ((decide ((0 : Int) < (cv.length : Int)) = false ∧ decide (0 < cv.length) = false) ∨ ((decide ((0 : Int) < (cv.length : Int)) = true ∧ decide (0 < cv.length) = true) ∧ (((pe : Int) != 22) = false ∨ (((pe : Int) != 22) = true ∧ ((pe : Int) != 1) = false))))) := by
      by_cases a : lv = []
      · subst a; exact .inl ⟨by simp, by simp⟩
      · have al : 0 < lv.length := List.length_pos_iff.2 a
        refine .inr ⟨⟨decide_eq_true (by omega), decide_eq_true al⟩, ?_⟩
        by_cases b : cv = []
        · subst b; exact .inl ⟨by simp, by simp⟩
        · have bl' : 0 < cv.length := List.length_pos_iff.2 b
          refine .inr ⟨⟨decide_eq_true (by omega), decide_eq_true bl'⟩, ?_⟩
          rcases h4 a b with rfl | rfl
          · exact .inl rfl
          · exact .inr ⟨rfl, rfl⟩
    clear HK h1 h2 h3 h4
    rcases hg with ⟨f1, f1n⟩ | ⟨⟨f1, f1n⟩, ⟨f2, f2n⟩ | ⟨⟨f2, f2n⟩, g1 | ⟨g1, g2⟩⟩⟩
    all_goals
      go_wp2_with fail
      go_ret
      exact ⟨rfl, D7.out⟩
  · have e0 : ((pe : Int) != 0) = false := by subst q3; rfl
    have a0 : ((pk : Int) == 0) = true := by subst q1; rfl
    have z3 : ((pn : Int) == 0) = true := by subst q2; rfl
    have f1 : decide ((0 : Int) < (lv.length : Int)) = false := by subst hl; rfl
    have f1n : decide (0 < lv.length) = false := by subst hl; rfl
    have z1 : ((lv.length : Int) == 0) = true := by subst hl; rfl
    have z2 : ((cv.length : Int) == 0) = true := by subst hc; rfl
    clear HK q1 q2 q3 hl hc
    go_wp2_with fail
    go_ret
    exact ⟨rfl, D7.out⟩
  · have e0 : ((pe : Int) != 0) = false := by subst q3; rfl
    have a0 : ((pk : Int) == 0) = false := by subst q1; rfl
    have a2 : ((pk : Int) == 2) = true := by subst q1; rfl
    have z3 : ((pn : Int) == 0) = true := by subst q2; rfl
    have f1 : decide ((0 : Int) < (lv.length : Int)) = false := by subst hl; rfl
    have f1n : decide (0 < lv.length) = false := by subst hl; rfl
    have z1 : ((lv.length : Int) == 0) = true := by subst hl; rfl
    have z4 : (mi == 1) = true := by subst hmi; rfl
    obtain ⟨g, rfl⟩ := N6.out hc
    obtain ⟨hasc, hcnt⟩ := one_coding cv x hx hk
    have J1 := Lib.hid (join_any w7 g c6 cv T7.out hc L6.out HLC.out HGC.out)
    have J2 := Lib.hid (fun X : World => tolower_any (glue cv) X HGC.out hasc)
    have J3 := Lib.hid (fun (X : World) (hX : Below w.heap.size w X) => count_any (Lib.toLowerA (glue cv)) mx X (by unfold Lib.toLowerA; rw [List.length_map]; exact HGC.out) (HMX.out X hX))
    rw [hcnt] at J3
    have z5 : (((1 : Nat) : Int) == 1) = true := rfl
    clear HK q1 q2 q3 hl hc hmi hx hk hasc hcnt
    generalize Lib.toLowerA (glue cv) = t2 at *
    generalize glue cv = t1 at *
    go_wp2_with fail
    refine J1.out.mono ?_
    rintro e w8 ⟨rfl, b8⟩
    have D8 := Lib.hid (D7.out.trans (b8.mono D7.out.size))
    clear b8
    go_wp2_with fail
    refine (J2.out _).mono ?_
    rintro e w9 ⟨rfl, b9⟩
    have D9 := Lib.hid (D8.out.trans (b9.mono D8.out.size))
    clear b9
    go_wp2_with fail
    refine (J3.out _ D9.out).mono ?_
    rintro e w10 ⟨rfl, rfl⟩
    go_wp2_with fail
    go_ret
    exact ⟨rfl, D9.out⟩
  · have e0 : ((pe : Int) != 0) = false := by subst q3; rfl
    have a0 : ((pk : Int) == 0) = false := by subst q1; rfl
    have a2 : ((pk : Int) == 2) = false := by subst q1; rfl
    have a1 : ((pk : Int) == 1) = true := by subst q1; rfl
    have f1 : decide ((0 : Int) < (lv.length : Int)) = true := decide_eq_true (by have := List.length_pos_iff.2 hl; omega)
    have f1n : decide (0 < lv.length) = true := decide_eq_true (List.length_pos_iff.2 hl)
    have f2 : decide ((0 : Int) < (cv.length : Int)) = false := by subst hc; rfl
    have f2n : decide (0 < cv.length) = false := by subst hc; rfl
    have f3 : decide ((4096 : Int) < (pn : Int)) = false := decide_eq_false (by omega)
    have f3n : decide (4096 < pn) = false := decide_eq_false (by omega)
    have HP := Lib.hid (show pn ≤ 4096 by omega)
    have HS := Lib.hid (show ∀ s ∈ elsF lv, s.all (digB 10) = true ∧ valF 10 s = pn by rw [q2]; exact hs)
    have hlv := HLL.out
    clear HK q1 q2 q3 hl hc hq hs T7 IB7 HGC HLC L6 N6 HMX
    go_wp2_with fail
    go_loopw [106, 9, 11, 12, 13] (fun vi v1 v2 v3 v4 wr => ∃ k : Nat, vi = .int .i64 (k : Int) ∧ k ≤ lv.length ∧ Hid (Below w7.heap.size w7 wr)) (fun vi _ _ _ _ _ => lv.length - (intOf vi).toNat)
    case atStart => exact ⟨0, rfl, Nat.zero_le _, Lib.hid (Below.refl _ _)⟩
    case round =>
      obtain ⟨k, rfl, hk, HB⟩ := hrel
      obtain ⟨wo, rfl⟩ : ∃ wo, wo = wr := ⟨_, rfl⟩
      by_cases hlt : k < lv.length
      · obtain ⟨p1, x, hgx, hat, y0, _, _⟩ := S7.out.at (c := c5) rfl hlt HB.out
        have hxm := List.mem_of_getElem? hgx
        have CL := Lib.hid (fun X : World => list_any ⟨x.toArray⟩ X (by rw [← bl_length, bl_mk]; exact HVS.out x hxm))
        rw [bl_mk] at CL
        have HX := Lib.hid (show ∀ s ∈ listF x, s ∈ elsF lv from fun s hs => List.mem_flatMap.2 ⟨x, hxm, hs⟩)
        have hll := HNE.out x hxm
        clear hgx hxm
        generalize listF x = es at *
        go_wp2_with fail
        refine (CL.out _).mono ?_
        rintro e w8 ⟨v8, o8, rfl, own8, ho8, b8⟩
        obtain ⟨A8, c8, hv8, src8⟩ := own8.src (fun _ => True) (fun _ _ => trivial)
        subst hv8
        have S8 := Lib.hid src8
        have B8 := Lib.hid (HB.out.trans (b8.mono HB.out.size))
        clear own8 ho8 b8 src8 y0 hat
        go_wp2_with fail
        go_loopw [113, 11, 12, 13] (fun vi v1 v2 v3 wr => ∃ j : Nat, vi = .int .i64 (j : Int) ∧ j ≤ es.length ∧ Hid (Below w8.heap.size w8 wr)) (fun vi _ _ _ _ => es.length - (intOf vi).toNat)
        case atStart => exact ⟨0, rfl, Nat.zero_le _, Lib.hid (Below.refl _ _)⟩
        case round =>
          obtain ⟨j, rfl, hj, HC⟩ := hrel
          obtain ⟨wp, rfl⟩ : ∃ wp, wp = wr := ⟨_, rfl⟩
          by_cases hjl : j < es.length
          · obtain ⟨p2, y, hgy, hat, y0, _, _⟩ := S8.out.at (c := c8) rfl hjl HC.out
            obtain ⟨hd, hv⟩ := HS.out y (HX.out y (List.mem_of_getElem? hgy))
            have hys := HES.out y (HX.out y (List.mem_of_getElem? hgy))
            obtain ⟨S, hS⟩ : ∃ S : ByteArray, S = ⟨y.toArray⟩ := ⟨_, rfl⟩
            have hb : bl S = y := by rw [hS, bl_mk]
            rw [← hS] at y0
            rw [← hb] at hd hv hys
            rw [bl_length] at hys
            have HD := Lib.hid hd
            have HV := Lib.hid hv
            clear hd hv hb hS hgy
            go_wp2_with fail
            go_loop [119, 12, 13] (fun vi vk v3 => ∃ i : Nat, i ≤ S.size ∧ vi = .int .i64 (i : Int) ∧ vk = .int .u64 ((valF 10 ((bl S).take i) : Nat) : Int)) (fun vi _ _ => S.size - (intOf vi).toNat)
            case atStart => exact ⟨0, Nat.zero_le _, rfl, rfl⟩
            case round =>
              obtain ⟨i, hi, rfl, rfl⟩ := hrel
              by_cases hil : i < S.size
              · obtain ⟨g1, g2, g3⟩ := dig_byte S[i] (List.all_eq_true.1 HD.out _ (List.mem_of_getElem? (bl_get S i hil)))
                have hstep : valF 10 ((bl S).take (i + 1)) = valF 10 ((bl S).take i) * 10 + (S[i].toNat - 48) := by rw [bl_take S i hil, valF_snoc, g3]
                have hup := val_upto (bl S) pn (i + 1) HV.out
                have HT := Lib.hid hstep
                rw [hstep] at hup
                clear hstep
                have hpp := HP.out
                generalize valF 10 ((bl S).take i) = V at *
                have d1 : decide ((S[i].toNat : Int) < 48) = false := decide_eq_false (by omega)
                have d2 : decide ((57 : Int) < (S[i].toNat : Int)) = false := decide_eq_false (by omega)
                have d3 : decide ((pn : Int) < (V : Int) * 10 + ((S[i].toNat : Int) - 48)) = false := decide_eq_false (by omega)
                go_wp2_with fail
                go_round
                case rel => exact ⟨i + 1, hil, by go_num, by rw [HT.out]; exact congrArg (Value.int .u64) (by omega)⟩
                case measure => simp [intOf]; omega
              · have ht : valF 10 ((bl S).take i) = pn := by rw [List.take_of_length_le (by rw [bl_length]; omega)]; exact HV.out
                have d4 : ((pn : Int) != (pn : Int)) = false := by simp
                rw [ht]
                clear ht
                go_wp2_with fail
                go_roundw
                case rel => exact ⟨j + 1, by go_num, hjl, HC⟩
                case measure => simp [intOf]; omega
          · go_wp2_with fail
            go_roundw
            case rel => exact ⟨k + 1, by go_num, hlt, Lib.hid (B8.out.trans (HC.out.mono B8.out.size))⟩
            case measure => simp [intOf]; omega
      · go_wp2_with fail
        go_ret
        exact ⟨rfl, D7.out.trans (HB.out.mono D7.out.size)⟩
end Go.Proofs.YtcpohdejdiljnaaDoor
