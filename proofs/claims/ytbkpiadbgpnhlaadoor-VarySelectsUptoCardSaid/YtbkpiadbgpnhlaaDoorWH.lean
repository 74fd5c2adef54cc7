/-
  The document's own Names and Select.
  Conditions: the lists hold at most 1000000000 bytes; at most 1000000000 names.
-/
import Derived.Test.YtbkpiadbgpnhlaaDoorWG
import Derived.Test.YtbkpiadbgpnhlaaDoorWD
namespace Go.Proofs.YtbkpiadbgpnhlaaDoor.Var
open Go.RowKit Go.Maps Hop

theorem any_snoc {r : List (List UInt8)} {j : Nat} {z : List UInt8} (lx : List UInt8) (h : r[j]? = some z) : ((r.take (j + 1)).any fun y => y == lx) = ((r.take j).any (fun y => y == lx) || (z == lx)) := by
  rw [take_snoc r j z h, List.any_append]
  simp
set_option maxHeartbeats 8000000 in
set_option maxRecDepth 100000 in
theorem rnames_any {P : Nat → Prop} (w : World) (A : Option Addr) (ls : List Fld) (n c : Nat) (hn : ls.length = n) (hb : bulkF ls ≤ 1000000000) (h : SrcF w P A ls) :
    Calls Tryd.prog 10 #[.slice A n c] w (Named ls w) := by
  have CE := relem_any w A ls n c hn hb h ⟨#[118, 97, 114, 121]⟩ (by decide)
  rw [show bl ⟨#[118, 97, 114, 121]⟩ = varyN from rfl] at CE
  have HEL := Lib.hid (show (elemF ls varyN).length ≤ 1000000000 by have := elem_bulk varyN ls; omega)
  have HSL := Lib.hid (show ∀ x ∈ elemF ls varyN, x.length ≤ 1000000000 from fun x hx => Nat.le_trans (elem_part hx) hb)
  have HQN := Lib.hid (show namesF ls = dedF ((elemF ls varyN).map lowF) from rfl)
  have HQS := Lib.hid (show starF ls = ((elemF ls varyN).map lowF).any (fun x => x == starN) from rfl)
  clear hn hb h
  generalize elemF ls varyN = es at *
  go_enter Tryd.func10, Tryd.ntmps10
  go_wp2_with fail
  refine CE.mono ?_
  rintro e w2 ⟨v2, o2, rfl, own2, ob2, b2⟩
  obtain ⟨A2, c2, hv2, src2⟩ := own2.src (fun _ => True) (fun _ _ => trivial)
  subst hv2
  have H2 := Lib.hid src2
  have B2 := Lib.hid b2
  obtain ⟨m, hm⟩ : ∃ m, es.length = m := ⟨_, rfl⟩
  have hmx : m ≤ 1000000000 := by have := HEL.out; omega
  rw [hm] at ⊢
  have HM := Lib.hid hm
  clear hm own2 ob2 src2 b2 CE
  go_wp2_with fail
  go_loopw [4, 5, 7] (fun v sv vi wr => ∃ (k : Nat) (o : Option Nat) (r : List (List UInt8)) (st : Bool), vi = .int .i64 (k : Int) ∧ sv = .bool st ∧ k ≤ m ∧ Hid (dedF (lowsTo es k) = r) ∧ Hid (((lowsTo es k).any fun x => x == starN) = st) ∧ Hid (OwnS wr v o r) ∧ Hid (∀ b, o = some b → w2.heap.size ≤ b) ∧ Hid (Below w2.heap.size w2 wr)) (fun _ _ vi _ => m - (intOf vi).toNat)
  case atStart => exact ⟨0, none, [], false, rfl, rfl, Nat.zero_le _, Lib.hid rfl, Lib.hid rfl, Lib.hid (OwnS.nil _), Lib.hid (fun _ h => by cases h), Lib.hid (Below.refl _ _)⟩
  case round =>
    obtain ⟨k, o, r, st, rfl, rfl, hk, HR, HST, HO, HOB, HB⟩ := hrel
    by_cases hlt : k < m
    · obtain ⟨p, x, hx, hat, y, _, _⟩ := H2.out.at (c := c2) HM.out hlt HB.out
      have sx := HSL.out x (List.mem_of_getElem? hx)
      obtain ⟨lx, hlx⟩ : ∃ l, lowF x = l := ⟨_, rfl⟩
      have HTK := Lib.hid (show lowsTo es (k + 1) = lowsTo es k ++ [lx] by rw [lowsTo_snoc es k x hx, hlx])
      have HDK := Lib.hid (show dedF (lowsTo es (k + 1)) = stepN r lx by rw [HTK.out, ded_snoc, HR.out])
      have HSK := Lib.hid (show ((lowsTo es (k + 1)).any fun x => x == starN) = (st || (lx == starN)) by rw [HTK.out, List.any_append, HST.out]; simp)
      have HRL := Lib.hid (show r.length ≤ 1000000000 by
        have h1 := ded_len (lowsTo es k)
        rw [HR.out] at h1
        have h2 : (lowsTo es k).length ≤ k := by unfold lowsTo; rw [List.length_map, List.length_take]; omega
        omega)
      obtain ⟨Xs, hXs⟩ : ∃ Xs : ByteArray, Xs = ⟨x.toArray⟩ := ⟨_, rfl⟩
      have hbx : bl Xs = x := by rw [hXs, bl_mk]
      have CL := Lib.hid (fun W : World => lower_any Xs W (by rw [← bl_length, hbx]; omega))
      unfold Text at CL
      rw [hbx, hlx] at CL
      rw [← hXs] at y
      clear hXs hbx sx hx hlx
      by_cases hst : lx = starN
      · have hq : (lx == [42]) = true := by rw [hst]; rfl
        have HD2 := Lib.hid (show dedF (lowsTo es (k + 1)) = r by rw [HDK.out, hst]; exact step_star r)
        have HS2 := Lib.hid (show ((lowsTo es (k + 1)).any fun x => x == starN) = true by rw [HSK.out, hst]; simp)
        clear hst
        go_wp2_with fail
        refine (CL.out _).mono ?_
        rintro e w5 ⟨rfl, b5⟩
        have O5 := Lib.hid (HO.out.kept (Turn.of_below (S := fun _ => False) b5) (fun _ _ h => h))
        have B5 := Lib.hid (HB.out.trans (b5.mono HB.out.size))
        clear b5 y
        go_wp2_with fail
        go_roundw
        case rel => exact ⟨k + 1, o, r, true, by go_num, rfl, hlt, HD2, HS2, O5, HOB, B5⟩
        case measure => simp [intOf]; omega
      · have hq : (lx == [42]) = false := by simpa [starN] using hst
        have HS2 := Lib.hid (show ((lowsTo es (k + 1)).any fun x => x == starN) = st by
          rw [HSK.out, show (lx == starN) = false from hq, Bool.or_false])
        have HNS := Lib.hid hst
        clear hst
        go_wp2_with fail
        refine (CL.out _).mono ?_
        rintro e w5 ⟨rfl, b5⟩
        have O5 := Lib.hid (HO.out.kept (Turn.of_below (S := fun _ => False) b5) (fun _ _ h => h))
        have B5 := Lib.hid (HB.out.trans (b5.mono HB.out.size))
        obtain ⟨A5, c5, hv5, src5⟩ := O5.out.src (fun _ => True) (fun _ _ => trivial)
        obtain ⟨q, hq5⟩ : ∃ q, r.length = q := ⟨_, rfl⟩
        have HQ5 := Lib.hid hq5
        rw [hq5] at hv5
        subst hv5
        have S5 := Lib.hid src5
        have hql : q ≤ 1000000000 := by have := HRL.out; omega
        clear b5 y src5 hq5
        go_wp2_with fail
        go_loopw [9, 10] (fun tv ti wx => ∃ j : Nat, ti = .int .i64 (j : Int) ∧ j ≤ q ∧ tv = .bool ((r.take j).any fun y => y == lx) ∧ Hid (wx = w5)) (fun _ ti _ => q - (intOf ti).toNat)
        case atStart => exact ⟨0, rfl, Nat.zero_le _, rfl, Lib.hid rfl⟩
        case round =>
          obtain ⟨j, rfl, hj, rfl, HW⟩ := hrel
          obtain rfl := HW.out
          by_cases hlj : j < q
          · obtain ⟨pz, z, hz, haz, yz, _, _⟩ := S5.out.at (c := c5) HQ5.out hlj (Below.refl _ _)
            have HZ := Lib.hid (any_snoc lx hz)
            obtain ⟨ba, hba⟩ : ∃ b, ((r.take j).any fun y => y == lx) = b := ⟨_, rfl⟩
            obtain ⟨bz, hbz⟩ : ∃ b, (z == lx) = b := ⟨_, rfl⟩
            rw [hba] at HZ ⊢
            have HZ2 := Lib.hid (show ((r.take (j + 1)).any fun y => y == lx) = (ba || bz) by rw [HZ.out, hbz])
            clear hz hba HZ
            cases ba with
            | true =>
              go_wp2_with fail
              go_roundw
              case rel => exact ⟨j + 1, by go_num, hlj, by rw [HZ2.out]; rfl, Lib.hid trivial⟩
              case measure => simp [intOf]; omega
            | false =>
              go_wp2_with fail
              go_roundw
              case rel => exact ⟨j + 1, by go_num, hlj, by rw [HZ2.out]; rfl, Lib.hid trivial⟩
              case measure => simp [intOf]; omega
          · have HT := Lib.hid (show r.take j = r from List.take_of_length_le (by rw [HQ5.out]; omega))
            rw [HT.out]
            cases hin : r.any fun y => y == lx with
            | true =>
              have HD2 := Lib.hid (show dedF (lowsTo es (k + 1)) = r by rw [HDK.out]; exact step_old ((any_mem r lx).1 hin))
              clear hin
              go_wp2_with fail
              go_roundw
              case rel => exact ⟨k + 1, o, r, st, by go_num, rfl, hlt, HD2, HS2, O5, HOB, B5⟩
              case measure => simp [intOf]; omega
            | false =>
              have HD2 := Lib.hid (show dedF (lowsTo es (k + 1)) = r ++ [lx] by
                rw [HDK.out]
                exact step_yes HNS.out (fun h => by rw [(any_mem r lx).2 h] at hin; cases hin))
              obtain ⟨v8, w8, o8, hrun, own8, t8, ho8⟩ := run_push_str wr _ o r lx O5.out (by have := HRL.out; omega)
              have HRU := Lib.hid hrun
              have OO := Lib.hid own8
              have TT := Lib.hid (own_turn B5.out HOB.out t8 ho8)
              clear hin hrun own8 t8 ho8
              go_wp2_with (at_builtin; refine append_by rfl (.tmp 43) (.tmp 45) 23 rfl _ _ v8 w8 rfl rfl HRU.out ?_)
              go_roundw
              case rel => exact ⟨k + 1, o8, r ++ [lx], st, by go_num, rfl, hlt, HD2, HS2, OO, Lib.hid TT.out.2, Lib.hid TT.out.1⟩
              case measure => simp [intOf]; omega
    · have HE := Lib.hid (show lowsTo es k = es.map lowF by unfold lowsTo; rw [List.take_of_length_le (by rw [HM.out]; omega)])
      have HRE := Lib.hid (show namesF ls = r by rw [HQN.out, ← HE.out, HR.out])
      have HSE := Lib.hid (show starF ls = st by rw [HQS.out, ← HE.out, HST.out])
      go_wp2_with fail
      go_ret2
      refine ⟨_, o, by rw [HSE.out]; rfl, by rw [HRE.out]; exact HO.out, fun b hb => Nat.le_trans B2.out.size (HOB.out b hb), B2.out.trans (HB.out.mono B2.out.size)⟩

theorem val_step {acc : Option (List UInt8)} {mn : Nat} {v x : List UInt8} (h : acc = if mn = 0 then none else some v) (h0 : mn = 0 → v = []) : putV acc x = some ((if mn = 0 then v else v ++ [44, 32]) ++ x) := by
  rw [h]
  by_cases hm : mn = 0
  · rw [if_pos hm, if_pos hm, h0 hm]
    rfl
  · rw [if_neg hm, if_neg hm]
    rfl
set_option maxHeartbeats 8000000 in
set_option maxRecDepth 100000 in
theorem rselect_any {P P' : Nat → Prop} (w : World) (A A' : Option Addr) (names : List (List UInt8)) (ls : List Fld) (m n c' c : Nat) (hm : names.length = m) (hn : ls.length = n) (hmm : m ≤ 1000000000) (hnl : ∀ x ∈ names, x.length ≤ 140737488351232) (hb : bulkF ls ≤ 1000000000) (hs : SrcS w P' A' names) (h : SrcF w P A ls) :
    Calls Tryd.prog 15 #[.slice A' m c', .slice A n c] w (GotF (selF names ls) w) := by
  have hlen := bulk_len ls
  have HM := Lib.hid hm
  have HN := Lib.hid hn
  have HS := Lib.hid hs
  have H := Lib.hid h
  have HNL := Lib.hid hnl
  have HBK := Lib.hid hb
  have hnn : n ≤ 1000000000 := by omega
  clear hm hs hnl hb hn h hlen
  go_enter Tryd.func15, Tryd.ntmps15
  go_wp2_with fail
  go_loopw [5, 6] (fun v vi wr => ∃ (k : Nat) (o : Option Nat) (r : List Fld), vi = .int .i64 (k : Int) ∧ k ≤ m ∧ r.length ≤ k ∧ Hid (selF (names.take k) ls = r) ∧ Hid (OwnF wr v o r) ∧ Hid (∀ b, o = some b → w.heap.size ≤ b) ∧ Hid (Below w.heap.size w wr)) (fun _ vi _ => m - (intOf vi).toNat)
  case atStart => exact ⟨0, none, [], rfl, Nat.zero_le _, by simp, Lib.hid rfl, Lib.hid (OwnF.nil _), Lib.hid (fun _ h => by cases h), Lib.hid (Below.refl _ _)⟩
  case round =>
    obtain ⟨k, o, r, rfl, hk, hrl, HR, HO, HOB, HB⟩ := hrel
    by_cases hlt : k < m
    · obtain ⟨p, x, hx, hat, _, hpw, hpl⟩ := HS.out.at (c := c') HM.out hlt HB.out
      have HXA := Lib.hid (fun (W : World) (hW : Below w.heap.size w W) => HS.out.at (c := c') HM.out hlt hW)
      have HHX := Lib.hid hx
      have hxl := HNL.out x (List.mem_of_getElem? hx)
      have HTK := Lib.hid (show selF (names.take (k + 1)) ls = r ++ wantF ls x by rw [sel_snoc names k x ls hx, HR.out])
      obtain ⟨Xs, hXs⟩ : ∃ Xs : ByteArray, Xs = ⟨x.toArray⟩ := ⟨_, rfl⟩
      have HBX := Lib.hid (show bl Xs = x by rw [hXs, bl_mk])
      have HXS := Lib.hid hXs
      have HXL := Lib.hid (show Xs.size ≤ 140737488351232 by rw [← bl_length, HBX.out]; exact hxl)
      have HXC := Lib.hid (fun (W : World) (hW : Below w.heap.size w W) => show W.cell? p = some (.string Xs) by
        obtain ⟨p2, x2, hx2, hat2, y2, _, _⟩ := HS.out.at (c := c') HM.out hlt hW
        have e : p2 = p := by
          have h1 := hat w
          rw [hat2 w] at h1
          injection h1 with h1
          injection h1 with h1
          exact Option.some.inj h1
        rw [HHX.out] at hx2
        injection hx2 with hx2
        rw [← hx2, ← HXS.out, e] at y2
        exact y2)
      clear hx hxl hXs hpw hpl HXA
      go_wp2_with fail
      go_loopw [7, 8, 9] (fun tv tm ti wx => ∃ (j mn : Nat) (v : List UInt8), ti = .int .i64 (j : Int) ∧ j ≤ n ∧ tm = .int .i64 (mn : Int) ∧ mn ≤ j ∧ tv = .string ⟨v.toArray⟩ ∧ v.length ≤ 1000000000 ∧ Hid (valK (ls.take j) (lowF x) = if mn = 0 then none else some v) ∧ Hid (mn = 0 → v = []) ∧ Hid (Below wr.heap.size wr wx)) (fun _ _ ti _ => n - (intOf ti).toNat)
      case atStart => exact ⟨0, 0, [], rfl, Nat.zero_le _, rfl, Nat.le_refl _, rfl, by simp, Lib.hid rfl, Lib.hid (fun _ => rfl), Lib.hid (Below.refl _ _)⟩
      case round =>
        obtain ⟨j, mn, v, rfl, hj, rfl, hmn, rfl, hvl, HV, HV0, HBX2⟩ := hrel
        have hbw := HB.out.trans (HBX2.out.mono HB.out.size)
        by_cases hlj : j < n
        · obtain ⟨pf, f, hf, haf, y0, y1, _, _⟩ := H.out.at (c := c) HN.out hlj hbw
          have yx := HXC.out _ hbw
          have hbf := bulk_mem (List.mem_of_getElem? hf)
          have hbk := HBK.out
          have HTJ := Lib.hid (take_snoc ls j f hf)
          obtain ⟨Nm, hNm⟩ : ∃ Nm : ByteArray, Nm = ⟨f.1.toArray⟩ := ⟨_, rfl⟩
          have hbn : bl Nm = f.1 := by rw [hNm, bl_mk]
          have CS := Lib.hid (fun W : World => same_any Nm Xs W (by rw [← bl_length, hbn]; omega) HXL.out)
          rw [hbn, HBX.out] at CS
          rw [← hNm] at y0
          obtain ⟨f1, f2⟩ := f
          simp only at *
          have HVK := Lib.hid (show valK (ls.take (j + 1)) (lowF x) = if lowF f1 = lowF x then putV (valK (ls.take j) (lowF x)) f2 else valK (ls.take j) (lowF x) by rw [HTJ.out, valK_snoc])
          clear hNm hbn hf
          go_upto_region 9 with fail
          have hd := drew_below hbw
          have yd0 : wr.drew.cell? pf = some (.string Nm) := y0
          have ydx : wr.drew.cell? p = some (.string Xs) := yx
          obtain ⟨sm, hsm⟩ : ∃ b, (lowF f1 == lowF x) = b := ⟨_, rfl⟩
          rw [hsm] at CS
          have HSM := Lib.hid hsm
          have HY1 := Lib.hid y1
          have HAF := Lib.hid haf
          clear hsm
          go_cut [32] from 22 to 33 (fun s32 wy => s32 = .bool (!sm) ∧ Hid (Below wr.heap.size wr wy))
          case first =>
            go_region_held3 (fun w' => w'.cell? pf = some (.string Nm) ∧ w'.cell? p = some (.string Xs)) (first | (with_reducible exact ⟨y0, yx⟩) | (with_reducible exact ⟨yd0, ydx⟩) | (with_reducible exact ⟨y60, y6x⟩) | go_keep)
              (first
                | (go_at_call 26
                   (with_reducible refine (CS.out wr.drew).mono ?_)
                   rintro e w6 ⟨rfl, b6⟩
                   have B6 : Hid (Below wr.heap.size wr w6) := Lib.hid ((drew_below (Below.refl wr.heap.size wr)).trans (b6.mono (drew_below (Below.refl wr.heap.size wr)).size))
                   have y60 : w6.cell? pf = some (.string Nm) := (B6.out.cell (Lib.lt_of_cell y0)).trans y0
                   have y6x : w6.cell? p = some (.string Xs) := (B6.out.cell (Lib.lt_of_cell yx)).trans yx
                   clear b6))
            all_goals
              go_wp2_with fail
              go_meet
              exact ⟨rfl, B6⟩
          case rest =>
            obtain ⟨rfl, HC⟩ := hcut
            have BC := Lib.hid (HBX2.out.trans (HC.out.mono HBX2.out.size))
            have HLN := Lib.hid (fun (v' : List UInt8) (hv' : valK (ls.take (j + 1)) (lowF x) = some v') => show v'.length ≤ 1000000000 by
              have h1 := val_bulk hv'
              have h2 := bulk_sub (List.take_sublist (j + 1) ls)
              omega)
            clear CS yd0 ydx y0 y1 haf hd
            cases sm with
            | false =>
              have HV2 := Lib.hid (show valK (ls.take (j + 1)) (lowF x) = if mn = 0 then none else some v by
                rw [HVK.out, if_neg (by simpa using HSM.out)]
                exact HV.out)
              go_wp2_with fail
              go_roundw
              case rel => exact ⟨j + 1, mn, v, by go_num, hlj, rfl, Nat.le_succ_of_le hmn, rfl, hvl, HV2, HV0, BC⟩
              case measure => simp [intOf]; omega
            | true =>
              have HV2 := Lib.hid (show valK (ls.take (j + 1)) (lowF x) = some ((if mn = 0 then v else v ++ [44, 32]) ++ f2) by
                rw [HVK.out, if_pos (by simpa using HSM.out)]
                exact val_step HV.out HV0.out)
              have z1 : wc.cell? ⟨pf.block, pf.off + 1, none⟩ = some (.string ⟨f2.toArray⟩) := (HC.out.cell (Lib.lt_of_cell HY1.out)).trans HY1.out
              have haf := HAF.out
              by_cases hm0 : mn = 0
              · subst hm0
                have hv0 := HV0.out rfl
                subst hv0
                rw [if_pos rfl] at HV2
                have hl2 := HLN.out _ HV2.out
                clear HVK HV HV0 HLN hvl
                go_wp2_with fail
                go_roundw
                case rel => exact ⟨j + 1, 1, [] ++ f2, by go_num, hlj, rfl, by omega, congrArg Value.string (mk_append [] f2), hl2, Lib.hid HV2.out, Lib.hid (fun h => by cases h), BC⟩
                case measure => simp [intOf]; omega
              · have hi : (0 : Int) < (mn : Int) := by omega
                rw [if_neg hm0] at HV2
                have hl2 := HLN.out _ HV2.out
                have hl3 : v.length + 2 + f2.length ≤ 1000000000 := by
                  have h9 := hl2
                  simp only [List.length_append, List.length_cons, List.length_nil] at h9
                  omega
                have q1 : ¬ 9223372036854775807 < v.length + 2 := by omega
                have q2 : ¬ 9223372036854775807 < v.length + 2 + f2.length := by omega
                clear HVK HV HV0 HLN hvl
                go_wp2_with fail
                go_roundw
                case rel => exact ⟨j + 1, mn + 1, v ++ [44, 32] ++ f2, by go_num, hlj, by go_num, by omega, by rw [show (⟨#[44, 32]⟩ : ByteArray) = ⟨[44, 32].toArray⟩ from rfl, mk_append, mk_append], hl2, Lib.hid (by rw [if_neg (by omega)]; exact HV2.out), Lib.hid (fun h => by omega), BC⟩
                case measure => simp [intOf]; omega
        · have HE := Lib.hid (show valK ls (lowF x) = if mn = 0 then none else some v by
            have := HV.out
            rwa [List.take_of_length_le (by rw [HN.out]; omega)] at this)
          have OK := Lib.hid (HO.out.kept (Turn.of_below (S := fun _ => False) HBX2.out) (fun _ _ h => h))
          have BK := Lib.hid hbw
          by_cases hm0 : mn = 0
          · subst hm0
            have HT2 := Lib.hid (show selF (names.take (k + 1)) ls = r by
              rw [HTK.out, show wantF ls x = [] by unfold wantF; rw [HE.out, if_pos rfl], List.append_nil])
            clear HV HV0 HE
            go_wp2_with fail
            go_roundw
            case rel => exact ⟨k + 1, o, r, by go_num, hlt, Nat.le_succ_of_le hrl, HT2, OK, HOB, BK⟩
            case measure => simp [intOf]; omega
          · have hi : (0 : Int) < (mn : Int) := by omega
            have HT2 := Lib.hid (show selF (names.take (k + 1)) ls = r ++ [(x, v)] by
              rw [HTK.out, show wantF ls x = [(x, v)] by unfold wantF; rw [HE.out, if_neg hm0]])
            obtain ⟨v8, w8, o8, hrun, own8, t8, ho8⟩ := run_push_fld wr _ o r (x, v) OK.out (by omega)
            simp only at hrun
            rw [← HXS.out] at hrun
            have yx := HXC.out _ hbw
            have HRU := Lib.hid hrun
            have OO := Lib.hid own8
            have TT := Lib.hid (own_turn BK.out HOB.out t8 ho8)
            clear HV HV0 HE hrun own8 t8 ho8 hbw
            go_wp2_with (at_builtin; refine append_by rfl (.tmp 48) (.tmp 55) 22 rfl _ _ v8 w8 rfl rfl HRU.out ?_)
            go_roundw
            case rel => exact ⟨k + 1, o8, r ++ [(x, v)], by go_num, hlt, by simp; omega, HT2, OO, Lib.hid TT.out.2, Lib.hid TT.out.1⟩
            case measure => simp [intOf]; omega
    · have HQ := Lib.hid (show names.take k = names from List.take_of_length_le (by rw [HM.out]; omega))
      have HR2 := Lib.hid (show selF names ls = r by rw [← HR.out, HQ.out])
      go_wp2_with fail
      go_ret
      exact ⟨_, o, rfl, by rw [HR2.out]; exact HO.out, HOB.out, HB.out⟩
end Go.Proofs.YtbkpiadbgpnhlaaDoor.Var
