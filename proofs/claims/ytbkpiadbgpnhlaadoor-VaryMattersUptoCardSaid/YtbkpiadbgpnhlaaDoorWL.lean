/-
  The law VaryMatters: walk.
  Conditions: what the arguments read as; the lists hold at most 100000000 bytes.
-/
import Derived.Test.YtbkpiadbgpnhlaaDoorWJ
namespace Go.Proofs.YtbkpiadbgpnhlaaDoor.Var
open Go.RowKit Hop

theorem all_snoc {ns : List (List UInt8)} {k : Nat} {x : List UInt8} (f : List UInt8 → Bool) (h : ns[k]? = some x) : (ns.take (k + 1)).all f = ((ns.take k).all f && f x) := by
  rw [take_snoc ns k x h, List.all_append]
  simp
set_option maxHeartbeats 16000000 in
set_option maxRecDepth 100000 in
theorem matters_law {P Pa Pb : Nat → Prop} (w0 : World) (A : Option Addr) (ls : List Fld) (n c : Nat) (hn : ls.length = n) (hb : bulkF ls ≤ 100000000) (h : SrcF w0 P A ls)
    (Aa : Option Addr) (la : List Fld) (na ca : Nat) (hna : la.length = na) (hba : bulkF la ≤ 100000000) (ha : SrcF w0 Pa Aa la)
    (Ab : Option Addr) (lb : List Fld) (nb cb : Nat) (hnb : lb.length = nb) (hbb : bulkF lb ≤ 100000000) (hhb : SrcF w0 Pb Ab lb) :
    Calls Tryd.prog 5 #[.slice A n c, .slice Aa na ca, .slice Ab nb cb] w0 fun e w' => e = .returned (.bool true) ∧ Below w0.heap.size w0 w' := by
  have hlena := bulk_len la
  have hlenb := bulk_len lb
  obtain ⟨ns, hns⟩ : ∃ ns, namesF ls = ns := ⟨_, rfl⟩
  obtain ⟨m, hm⟩ : ∃ m, ns.length = m := ⟨_, rfl⟩
  have HNL : m ≤ 100000000 := by have := names_len ls; rw [hns, hm] at this; omega
  have HNP := Lib.hid (show ∀ x ∈ ns, x.length ≤ 140737488351232 from fun x hx => by rw [← hns] at hx; have := names_part hx; omega)
  have HNS := Lib.hid hns
  have HM := Lib.hid hm
  have HNA := Lib.hid hna
  have HNB := Lib.hid hnb
  have HBA := Lib.hid (show bulkF la ≤ 1000000000 by omega)
  have HBB := Lib.hid (show bulkF lb ≤ 1000000000 by omega)
  have hnaa : na ≤ 100000000 := by omega
  have hnbb : nb ≤ 100000000 := by omega
  have U := Lib.hid ha
  have VB := Lib.hid hhb
  have C := names_any w0 A ls n c hn (by omega) h
  unfold Named at C
  rw [HNS.out] at C
  clear hlena hlenb hba hbb hna hnb ha hhb hn hb h hns hm
  generalize starF ls = st at *
  go_enter Tryd.func5, Tryd.ntmps5
  have B0 : Hid (Below w0.heap.size w0 w0) := Lib.hid (Below.refl _ _)
  go_wp2_with fail
  refine C.mono ?_
  rintro e w1 ⟨v, o, rfl, own, _, b⟩
  obtain ⟨AS, cS, hv, src⟩ := own.src (fun _ => True) (fun _ _ => trivial)
  rw [HM.out] at hv
  subst hv
  have S := Lib.hid src
  clear own src C
  have B1 := Lib.hid (B0.out.trans (b.mono B0.out.size))
  have U_1 := Lib.hid (U.out.below b)
  have VB_1 := Lib.hid (VB.out.below b)
  clear B0 U VB
  clear b
  go_wp2_with fail
  go_loopw [9, 10] (fun sv vi wr => ∃ k : Nat, vi = .int .i64 (k : Int) ∧ k ≤ m ∧ sv = .bool ((ns.take k).all fun nm => valK la (lowF nm) == valK lb (lowF nm)) ∧ Hid (Below w1.heap.size w1 wr)) (fun _ vi _ => m - (intOf vi).toNat)
  case atStart => exact ⟨0, rfl, Nat.zero_le _, rfl, Lib.hid (Below.refl _ _)⟩
  case round =>
    obtain ⟨k, rfl, hk, rfl, HB⟩ := hrel
    obtain ⟨sm, hsm⟩ : ∃ b, ((ns.take k).all fun nm => valK la (lowF nm) == valK lb (lowF nm)) = b := ⟨_, rfl⟩
    have HSM := Lib.hid hsm
    rw [hsm]
    clear hsm
    by_cases hlt : k < m
    · obtain ⟨p, x, hx, hat, y, _, _⟩ := S.out.at (c := cS) HM.out hlt HB.out
      have HAK := Lib.hid (show ((ns.take (k + 1)).all fun nm => valK la (lowF nm) == valK lb (lowF nm)) = (sm && (valK la (lowF x) == valK lb (lowF x))) by rw [all_snoc _ hx, HSM.out])
      obtain ⟨Xs, hXs⟩ : ∃ Xs : ByteArray, Xs = ⟨x.toArray⟩ := ⟨_, rfl⟩
      have hbx : bl Xs = x := by rw [hXs, bl_mk]
      have CU := Lib.hid (fun (W : World) (hW : Below w1.heap.size w1 W) => get_any W Aa la na ca HNA.out (by omega) (U_1.out.below hW) (slim_bulk HBA.out) Xs)
      have CV := Lib.hid (fun (W : World) (hW : Below w1.heap.size w1 W) => get_any W Ab lb nb cb HNB.out (by omega) (VB_1.out.below hW) (slim_bulk HBB.out) Xs)
      rw [hbx] at CU CV
      obtain ⟨gx, hgx⟩ : ∃ g, getF la x = g := ⟨_, rfl⟩
      obtain ⟨gy, hgy⟩ : ∃ g, getF lb x = g := ⟨_, rfl⟩
      have HVX := Lib.hid (show valK la (lowF x) = joinV gx by rw [valK_get, hgx])
      have HVY := Lib.hid (show valK lb (lowF x) = joinV gy by rw [valK_get, hgy])
      have HSX := Lib.hid (show sumV gx ≤ 1000000000 by have := get_sum la x; have := HBA.out; rw [hgx] at *; omega)
      have HSY := Lib.hid (show sumV gy ≤ 1000000000 by have := get_sum lb x; have := HBB.out; rw [hgy] at *; omega)
      rw [hgx] at CU
      rw [hgy] at CV
      obtain ⟨qx, hqx⟩ : ∃ q, gx.length = q := ⟨_, rfl⟩
      obtain ⟨qy, hqy⟩ : ∃ q, gy.length = q := ⟨_, rfl⟩
      have HQX := Lib.hid hqx
      have HQY := Lib.hid hqy
      have hqxl : qx ≤ 100000000 := by have := get_len la x; rw [hgx, hqx] at this; have := HNA.out; omega
      have hqyl : qy ≤ 100000000 := by have := get_len lb x; rw [hgy, hqy] at this; have := HNB.out; omega
      rw [← hXs] at y
      clear hXs hbx hx hgx hgy hqx hqy
      have HD0 := Lib.hid (drew_below HB.out)
      go_upto_region 6 with fail
      have yd : wr.drew.cell? p = some (.string Xs) := y
      go_cut [11, 12] from 28 to 40 (fun s11 s12 wy => ∃ (AX AY : Option Addr) (cX cY : Nat), s11 = .slice AX qx cX ∧ s12 = .slice AY qy cY ∧ Hid (SrcS wy (fun _ => True) AX gx) ∧ Hid (SrcS wy (fun _ => True) AY gy) ∧ Hid (Below w1.heap.size w1 wy))
      case first =>
        go_region_held3 (fun w' => w'.cell? p = some (.string Xs)) (first | (with_reducible exact y) | (with_reducible exact yd) | (with_reducible exact y6) | (with_reducible exact y7) | go_keep)
          (first
            | (go_at_call 17
               (with_reducible refine (CU.out wr.drew HD0.out).mono ?_)
               rintro e w6 ⟨v6, o6, rfl, own6, _, b6⟩
               obtain ⟨AX, cX, hv, src⟩ := own6.src (fun _ => True) (fun _ _ => trivial)
               rw [HQX.out] at hv
               subst hv
               have SX := Lib.hid src
               have D6 := Lib.hid (HD0.out.trans (b6.mono HD0.out.size))
               have y6 : w6.cell? p = some (.string Xs) := (b6.cell (Lib.lt_of_cell yd)).trans yd
               clear own6 src b6)
            | (go_at_call 17
               (with_reducible refine (CV.out w6 D6.out).mono ?_)
               rintro e w7 ⟨v7, o7, rfl, own7, _, b7⟩
               obtain ⟨AY, cY, hv, src⟩ := own7.src (fun _ => True) (fun _ _ => trivial)
               rw [HQY.out] at hv
               subst hv
               have SY := Lib.hid src
               have SX7 := Lib.hid (SX.out.below b7)
               have D7 := Lib.hid (D6.out.trans (b7.mono D6.out.size))
               have y7 : w7.cell? p = some (.string Xs) := (b7.cell (Lib.lt_of_cell y6)).trans y6
               clear own7 src b7))
        all_goals
          go_wp2_with fail
          go_meet
          exact ⟨AX, AY, cX, cY, rfl, rfl, SX7, SY, D7⟩
      case rest =>
        obtain ⟨AX, AY, cX, cY, rfl, rfl, SX, SY, HC⟩ := hcut
        clear CU CV HD0 yd y hat
        go_wp2_with fail
        go_loopw [13, 15] (fun sp vi wy => ∃ (j : Nat) (v : List UInt8), vi = .int .i64 (j : Int) ∧ j ≤ qx ∧ sp = .string ⟨v.toArray⟩ ∧ v.length ≤ 1000000000 ∧ Hid (joinV (gx.take j) = if j = 0 then none else some v) ∧ Hid (j = 0 → v = []) ∧ Hid (wy = wc)) (fun _ vi _ => qx - (intOf vi).toNat)
        case atStart => exact ⟨0, [], rfl, Nat.zero_le _, rfl, by simp, Lib.hid rfl, Lib.hid (fun _ => rfl), Lib.hid rfl⟩
        case round =>
          obtain ⟨j, va, rfl, hj, rfl, hvlva, HVva, HZva, HW⟩ := hrel
          have hw := HW.out
          have wrr : wr = wc := hw
          clear HW hw
          subst wrr
          by_cases hlj : j < qx
          · obtain ⟨px, z, hz, haz, yz, _, _⟩ := SX.out.at (c := cX) HQX.out hlj (Below.refl _ _)
            have HJ := Lib.hid (show joinV (gx.take (j + 1)) = some ((if j = 0 then va else va ++ [44, 32]) ++ z) by rw [join_snocs gx j z hz]; exact val_step HVva.out HZva.out)
            have hsum := HSX.out
            have hln := join_take_len HJ.out
            clear hz
            by_cases hj0 : j = 0
            · have hi : ¬ (0 : Int) < (j : Int) := by omega
              have hv0 := HZva.out hj0
              subst hv0
              rw [if_pos hj0] at HJ hln
              have hl2 : ([] ++ z).length ≤ 1000000000 := by omega
              have hz9 : z.length ≤ 1000000000 := by simpa using hl2
              clear HVva HZva hvlva hsum hln hj0
              go_wp2_with fail
              go_roundw
              case rel => exact ⟨j + 1, [] ++ z, by go_num, hlj, congrArg Value.string (mk_append [] z), hl2, Lib.hid (by rw [if_neg (by omega)]; exact HJ.out), Lib.hid (fun h => by omega), Lib.hid trivial⟩
              case measure => simp [intOf]; omega
            · have hi : (0 : Int) < (j : Int) := by omega
              rw [if_neg hj0] at HJ hln
              have hl3 : va.length + 2 + z.length + 2 ≤ 1000000000 := by
                have h9 := hln
                simp only [List.length_append, List.length_cons, List.length_nil] at h9
                omega
              have q1 : ¬ 9223372036854775807 < va.length + 2 := by omega
              have q2 : ¬ 9223372036854775807 < va.length + 2 + z.length := by omega
              have hl2 : (va ++ [44, 32] ++ z).length ≤ 1000000000 := by omega
              clear HVva HZva hvlva hsum hln
              go_wp2_with fail
              go_roundw
              case rel => exact ⟨j + 1, va ++ [44, 32] ++ z, by go_num, hlj, by rw [show (⟨#[44, 32]⟩ : ByteArray) = ⟨[44, 32].toArray⟩ from rfl, mk_append, mk_append], hl2, Lib.hid (by rw [if_neg (by omega)]; exact HJ.out), Lib.hid (fun h => by omega), Lib.hid trivial⟩
              case measure => simp [intOf]; omega
          · have hjq : j = qx := by omega
            have HEva := Lib.hid (show joinV gx = if qx = 0 then none else some va by
              have h1 := HVva.out
              rwa [hjq, List.take_of_length_le (by rw [HQX.out]; exact Nat.le_refl _)] at h1)
            have HFva := Lib.hid (show qx = 0 → va = [] from fun h => HZva.out (hjq.trans h))
            clear HVva HZva hjq
            go_wp2_with fail
            go_loopw [14, 16] (fun sp vi wy => ∃ (j : Nat) (v : List UInt8), vi = .int .i64 (j : Int) ∧ j ≤ qy ∧ sp = .string ⟨v.toArray⟩ ∧ v.length ≤ 1000000000 ∧ Hid (joinV (gy.take j) = if j = 0 then none else some v) ∧ Hid (j = 0 → v = []) ∧ Hid (wy = wr)) (fun _ vi _ => qy - (intOf vi).toNat)
            case atStart => exact ⟨0, [], rfl, Nat.zero_le _, rfl, by simp, Lib.hid rfl, Lib.hid (fun _ => rfl), Lib.hid rfl⟩
            case round =>
              obtain ⟨j, vb, rfl, hj, rfl, hvlvb, HVvb, HZvb, HW⟩ := hrel
              have hw := HW.out
              have wrr : wr = _ := hw
              clear HW hw
              subst wrr
              by_cases hlj : j < qy
              · obtain ⟨px, z, hz, haz, yz, _, _⟩ := SY.out.at (c := cY) HQY.out hlj (Below.refl _ _)
                have HJ := Lib.hid (show joinV (gy.take (j + 1)) = some ((if j = 0 then vb else vb ++ [44, 32]) ++ z) by rw [join_snocs gy j z hz]; exact val_step HVvb.out HZvb.out)
                have hsum := HSY.out
                have hln := join_take_len HJ.out
                clear hz
                by_cases hj0 : j = 0
                · have hi : ¬ (0 : Int) < (j : Int) := by omega
                  have hv0 := HZvb.out hj0
                  subst hv0
                  rw [if_pos hj0] at HJ hln
                  have hl2 : ([] ++ z).length ≤ 1000000000 := by omega
                  have hz9 : z.length ≤ 1000000000 := by simpa using hl2
                  clear HVvb HZvb hvlvb hsum hln hj0
                  go_wp2_with fail
                  go_roundw
                  case rel => exact ⟨j + 1, [] ++ z, by go_num, hlj, congrArg Value.string (mk_append [] z), hl2, Lib.hid (by rw [if_neg (by omega)]; exact HJ.out), Lib.hid (fun h => by omega), Lib.hid trivial⟩
                  case measure => simp [intOf]; omega
                · have hi : (0 : Int) < (j : Int) := by omega
                  rw [if_neg hj0] at HJ hln
                  have hl3 : vb.length + 2 + z.length + 2 ≤ 1000000000 := by
                    have h9 := hln
                    simp only [List.length_append, List.length_cons, List.length_nil] at h9
                    omega
                  have q1 : ¬ 9223372036854775807 < vb.length + 2 := by omega
                  have q2 : ¬ 9223372036854775807 < vb.length + 2 + z.length := by omega
                  have hl2 : (vb ++ [44, 32] ++ z).length ≤ 1000000000 := by omega
                  clear HVvb HZvb hvlvb hsum hln
                  go_wp2_with fail
                  go_roundw
                  case rel => exact ⟨j + 1, vb ++ [44, 32] ++ z, by go_num, hlj, by rw [show (⟨#[44, 32]⟩ : ByteArray) = ⟨[44, 32].toArray⟩ from rfl, mk_append, mk_append], hl2, Lib.hid (by rw [if_neg (by omega)]; exact HJ.out), Lib.hid (fun h => by omega), Lib.hid trivial⟩
                  case measure => simp [intOf]; omega
              · have hjq : j = qy := by omega
                have HEvb := Lib.hid (show joinV gy = if qy = 0 then none else some vb by
                  have h1 := HVvb.out
                  rwa [hjq, List.take_of_length_le (by rw [HQY.out]; exact Nat.le_refl _)] at h1)
                have HFvb := Lib.hid (show qy = 0 → vb = [] from fun h => HZvb.out (hjq.trans h))
                clear HVvb HZvb hjq
                cases sm with
                | false =>
                  go_wp2_with fail
                  go_roundw
                  case rel => exact ⟨k + 1, by go_num, hlt, by rw [HAK.out]; rfl, HC⟩
                  case measure => simp [intOf]; omega
                | true =>
                  by_cases hx0 : qx = 0
                  · subst hx0
                    have ha0 := HFva.out rfl
                    subst ha0
                    by_cases hy0 : qy = 0
                    · subst hy0
                      have hb0 := HFvb.out rfl
                      subst hb0
                      have HR := Lib.hid (show (true && (valK la (lowF x) == valK lb (lowF x))) = true by rw [HVX.out, HVY.out, HEva.out, HEvb.out] <;> rfl)
                      clear HEva HEvb HFva HFvb
                      go_wp2_with fail
                      go_roundw
                      case rel => exact ⟨k + 1, by go_num, hlt, by rw [HAK.out, HR.out], HC⟩
                      case measure => simp [intOf]; omega
                    · have hi : (0 : Int) < (qy : Int) := by omega
                      have HR := Lib.hid (show (true && (valK la (lowF x) == valK lb (lowF x))) = false by rw [HVX.out, HVY.out, HEva.out, HEvb.out, if_neg hy0] <;> rfl)
                      clear HEva HEvb HFva HFvb
                      go_wp2_with fail
                      go_roundw
                      case rel => exact ⟨k + 1, by go_num, hlt, by rw [HAK.out, HR.out], HC⟩
                      case measure => simp [intOf]; omega
                  · have hi : (0 : Int) < (qx : Int) := by omega
                    by_cases hy0 : qy = 0
                    · subst hy0
                      have HR := Lib.hid (show (true && (valK la (lowF x) == valK lb (lowF x))) = false by rw [HVX.out, HVY.out, HEva.out, HEvb.out, if_neg hx0] <;> rfl)
                      clear HEva HEvb HFva HFvb
                      go_wp2_with fail
                      go_roundw
                      case rel => exact ⟨k + 1, by go_num, hlt, by rw [HAK.out, HR.out], HC⟩
                      case measure => simp [intOf]; omega
                    · have hi2 : (0 : Int) < (qy : Int) := by omega
                      obtain ⟨e, he⟩ : ∃ e, (va == vb) = e := ⟨_, rfl⟩
                      have HR := Lib.hid (show (true && (valK la (lowF x) == valK lb (lowF x))) = e by rw [HVX.out, HVY.out, HEva.out, HEvb.out, if_neg hx0, if_neg hy0, ← he] <;> rfl)
                      clear HEva HEvb HFva HFvb
                      go_wp2_with fail
                      go_roundw
                      case rel => exact ⟨k + 1, by go_num, hlt, by rw [HAK.out, HR.out], HC⟩
                      case measure => simp [intOf]; omega
    · have HSE := Lib.hid (show (selF ns la == selF ns lb) = sm by
        rw [sel_same]
        have := HSM.out
        rwa [List.take_of_length_le (by rw [HM.out]; omega)] at this)
      have BB := Lib.hid (B1.out.trans (HB.out.mono B1.out.size))
      have U9 := Lib.hid (U_1.out.below HB.out)
      have V9 := Lib.hid (VB_1.out.below HB.out)
      have S9 := Lib.hid (S.out.below HB.out)
      obtain ⟨sa, hsa⟩ : ∃ s, selF ns la = s := ⟨_, rfl⟩
      obtain ⟨sb, hsb⟩ : ∃ s, selF ns lb = s := ⟨_, rfl⟩
      obtain ⟨ma, hma⟩ : ∃ k, sa.length = k := ⟨_, rfl⟩
      obtain ⟨mb, hmb⟩ : ∃ k, sb.length = k := ⟨_, rfl⟩
      have HMA := Lib.hid hma
      have HMB := Lib.hid hmb
      have HSA := Lib.hid hsa
      have HSB := Lib.hid hsb
      rw [hsa, hsb] at HSE
      have hmal : ma ≤ 100000000 := by have := sel_len la ns; rw [hsa, hma] at this; have := HM.out; omega
      have hmbl : mb ≤ 100000000 := by have := sel_len lb ns; rw [hsb, hmb] at this; have := HM.out; omega
      have ee : (sm == sm) = true := by simp
      clear hsa hsb hma hmb
      go_wp2_with fail
      have C := select_any wr Aa AS ns la m na cS ca HM.out HNA.out (by omega) HNP.out HBA.out S9.out U9.out
      rw [HSA.out] at C
      refine C.mono ?_
      rintro e w21 ⟨v, o, rfl, own, _, b⟩
      obtain ⟨AX1, cX1, hv, src⟩ := own.src (fun _ => True) (fun _ _ => trivial)
      rw [HMA.out] at hv
      subst hv
      have X1 := Lib.hid src
      clear own src C
      have B21 := Lib.hid (BB.out.trans (b.mono BB.out.size))
      have U_21 := Lib.hid (U9.out.below b)
      have VB_21 := Lib.hid (V9.out.below b)
      have S_21 := Lib.hid (S9.out.below b)
      clear BB U9 V9 S9
      clear b
      go_wp2_with fail
      have C := select_any w21 Ab AS ns lb m nb cS cb HM.out HNB.out (by omega) HNP.out HBB.out S_21.out VB_21.out
      rw [HSB.out] at C
      refine C.mono ?_
      rintro e w22 ⟨v, o, rfl, own, _, b⟩
      obtain ⟨AX2, cX2, hv, src⟩ := own.src (fun _ => True) (fun _ _ => trivial)
      rw [HMB.out] at hv
      subst hv
      have X2 := Lib.hid src
      clear own src C
      have B22 := Lib.hid (B21.out.trans (b.mono B21.out.size))
      have U_22 := Lib.hid (U_21.out.below b)
      have VB_22 := Lib.hid (VB_21.out.below b)
      have S_22 := Lib.hid (S_21.out.below b)
      have X1_22 := Lib.hid (X1.out.below b)
      clear B21 U_21 VB_21 S_21 X1
      clear b
      go_wp2_with fail
      have C := vsame_any w22 AX1 AX2 sa sb ma mb cX1 cX2 HMA.out HMB.out (by omega) X1_22.out X2.out
      rw [HSE.out] at C
      clear X1_22
      clear X2
      clear VB_22
      refine (C).mono ?_
      rintro e w23 ⟨rfl, b⟩
      clear C
      have B23 := Lib.hid (B22.out.trans (b.mono B22.out.size))
      have U_23 := Lib.hid (U_22.out.below b)
      have S_23 := Lib.hid (S_22.out.below b)
      clear B22 U_22 S_22
      clear b
      go_wp2_with fail
      have C := select_any w23 Aa AS ns la m na cS ca HM.out HNA.out (by omega) HNP.out HBA.out S_23.out U_23.out
      rw [HSA.out] at C
      refine C.mono ?_
      rintro e w24 ⟨v, o, rfl, own, _, b⟩
      obtain ⟨AX3, cX3, hv, src⟩ := own.src (fun _ => True) (fun _ _ => trivial)
      rw [HMA.out] at hv
      subst hv
      have X3 := Lib.hid src
      clear own src C
      have B24 := Lib.hid (B23.out.trans (b.mono B23.out.size))
      have U_24 := Lib.hid (U_23.out.below b)
      have S_24 := Lib.hid (S_23.out.below b)
      clear B23 U_23 S_23
      clear b
      go_wp2_with fail
      have C := select_any w24 Aa AS ns la m na cS ca HM.out HNA.out (by omega) HNP.out HBA.out S_24.out U_24.out
      rw [HSA.out] at C
      refine C.mono ?_
      rintro e w25 ⟨v, o, rfl, own, _, b⟩
      obtain ⟨AX4, cX4, hv, src⟩ := own.src (fun _ => True) (fun _ _ => trivial)
      rw [HMA.out] at hv
      subst hv
      have X4 := Lib.hid src
      clear own src C
      have B25 := Lib.hid (B24.out.trans (b.mono B24.out.size))
      have U_25 := Lib.hid (U_24.out.below b)
      have S_25 := Lib.hid (S_24.out.below b)
      have X3_25 := Lib.hid (X3.out.below b)
      clear B24 U_24 S_24 X3
      clear b
      go_wp2_with fail
      have C := vsame_any w25 AX3 AX4 sa sa ma ma cX3 cX4 HMA.out HMA.out (by omega) X3_25.out X4.out
      rw [show (sa == sa) = true by simp] at C
      clear X3_25
      clear X4
      clear U_25
      clear S_25
      refine (C).mono ?_
      rintro e w26 ⟨rfl, b⟩
      clear C
      have B26 := Lib.hid (B25.out.trans (b.mono B25.out.size))
      clear B25
      clear b
      go_wp2_with fail
      refine ((wakes_any w26)).mono ?_
      rintro e w27 ⟨rfl, b⟩
      have B27 := Lib.hid (B26.out.trans (b.mono B26.out.size))
      clear B26
      clear b
      go_wp2_with fail
      go_ret
      exact ⟨rfl, B27.out⟩
end Go.Proofs.YtbkpiadbgpnhlaaDoor.Var
