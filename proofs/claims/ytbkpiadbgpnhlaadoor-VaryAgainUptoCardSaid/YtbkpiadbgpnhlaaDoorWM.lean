/-
  The law VaryAgain: walk.
  Conditions: what the argument reads as; the list holds at most 10000000 bytes.
-/
import Derived.Test.YtbkpiadbgpnhlaaDoorWJ
namespace Go.Proofs.YtbkpiadbgpnhlaaDoor.Var
open Go.RowKit Hop

theorem nodup_ne {ns : List (List UInt8)} (h : ns.Nodup) {j k : Nat} {z x : List UInt8} (hz : ns[j]? = some z) (hx : ns[k]? = some x) (hjk : j < k) : (z == x) = false := by
  rw [beq_eq_false_iff_ne]
  rintro rfl
  obtain ⟨h1, h2⟩ := List.getElem?_eq_some_iff.1 hz
  obtain ⟨h3, h4⟩ := List.getElem?_eq_some_iff.1 hx
  exact (List.pairwise_iff_getElem.1 h) j k h1 h3 hjk (h2.trans h4.symm)
set_option maxHeartbeats 16000000 in
set_option maxRecDepth 100000 in
theorem again_law {P : Nat → Prop} (w0 : World) (A : Option Addr) (ls : List Fld) (n c : Nat) (hn : ls.length = n) (hb : bulkF ls ≤ 10000000) (h : SrcF w0 P A ls) :
    Calls Tryd.prog 7 #[.slice A n c] w0 fun e w' => e = .returned (.bool true) ∧ Below w0.heap.size w0 w' := by
  have hlen := bulk_len ls
  obtain ⟨ns, hns⟩ : ∃ ns, namesF ls = ns := ⟨_, rfl⟩
  obtain ⟨st, hst⟩ : ∃ st, starF ls = st := ⟨_, rfl⟩
  obtain ⟨m, hm⟩ : ∃ m, ns.length = m := ⟨_, rfl⟩
  have HNL : m ≤ 10000000 := by have := names_len ls; rw [hns, hm] at this; omega
  have HNN : n ≤ 10000000 := by omega
  have HNP := Lib.hid (show ∀ x ∈ ns, x.length ≤ 10000000 from fun x hx => by rw [← hns] at hx; have := names_part hx; omega)
  have HFA := Lib.hid (show ∀ x ∈ ns, x ≠ starN ∧ x ≠ [] ∧ lowF x = x from fun x hx => by rw [← hns] at hx; have := name_facts hx; exact ⟨this.1, this.2.1, this.2.2.1⟩)
  have HND := Lib.hid (show ns.Nodup by rw [← hns]; exact names_nodup ls)
  have HEA := Lib.hid (show namesF (eachF ns) = ns by rw [← hns]; exact names_each ls)
  have HSA := Lib.hid (show starF (eachF ns) = false by rw [← hns]; exact star_each ls)
  have HBE := Lib.hid (show bulkF (eachF ns) ≤ 1000000000 by rw [← hns]; have := bulk_eachN ls; omega)
  have HE2 := Lib.hid (show namesF (ls ++ ls) = ns by rw [← hns]; exact names_self ls)
  have HS2 := Lib.hid (show starF (ls ++ ls) = st by rw [← hst]; exact star_self ls)
  have HB2 := Lib.hid (show bulkF (ls ++ ls) ≤ 1000000000 by rw [bulk_app]; omega)
  have HS3 := Lib.hid (star_first ls)
  have HB3 := Lib.hid (show bulkF (([([86, 97, 114, 121], [42])] : List Fld) ++ ls) ≤ 1000000000 by rw [bulk_app, show bulkF [([86, 97, 114, 121], [42])] = 8 from rfl]; omega)
  have HNS := Lib.hid hns
  have HST := Lib.hid hst
  have HM := Lib.hid hm
  have HN := Lib.hid hn
  have L := Lib.hid h
  have ee : (st == st) = true := by simp
  have C := names_any w0 A ls n c hn (by omega) h
  unfold Named at C
  rw [HNS.out, HST.out] at C
  clear hlen hb hn h hns hst hm
  go_enter Tryd.func7, Tryd.ntmps7
  have B0 : Hid (Below w0.heap.size w0 w0) := Lib.hid (Below.refl _ _)
  go_wp2_with fail
  refine C.mono ?_
  rintro e w1 ⟨v, o, rfl, own, _, b⟩
  obtain ⟨AS, cS, hv, src⟩ := own.src (fun _ => True) (fun _ _ => trivial)
  rw [HM.out] at hv
  subst hv
  have S := Lib.hid src
  clear own src C
  have B1 := Lib.hid (B0.out.trans (b.mono B0.out.size))
  have L_1 := Lib.hid (L.out.below b)
  clear B0 L
  clear b
  go_wp2_with fail
  go_loopw [5, 6] (fun v vi wr => ∃ (k : Nat) (o : Option Nat) (r : List Fld), vi = .int .i64 (k : Int) ∧ k ≤ m ∧ Hid (eachF (ns.take k) = r) ∧ r.length = k ∧ Hid (OwnF wr v o r) ∧ Hid (∀ b, o = some b → w1.heap.size ≤ b) ∧ Hid (Below w1.heap.size w1 wr)) (fun _ vi _ => m - (intOf vi).toNat)
  case atStart => exact ⟨0, none, [], rfl, Nat.zero_le _, Lib.hid rfl, rfl, Lib.hid (OwnF.nil _), Lib.hid (fun _ h => by cases h), Lib.hid (Below.refl _ _)⟩
  case round =>
    obtain ⟨k, o, r, rfl, hk, HR, hrl, HO, HOB, HB⟩ := hrel
    by_cases hlt : k < m
    · obtain ⟨p, x, hx, hat, y, _, _⟩ := S.out.at (c := cS) HM.out hlt HB.out
      have HX := Lib.hid hx
      obtain ⟨f1, f2, f3⟩ := HFA.out x (List.mem_of_getElem? hx)
      have hxl := HNP.out x (List.mem_of_getElem? hx)
      have HRK := Lib.hid (show eachF (ns.take (k + 1)) = r ++ [(bigV, [32, 44, 32] ++ x)] by rw [each_snoc ns k x hx, HR.out])
      have e1 : (x == [42]) = false := by simpa [starN] using f1
      have e2 : (x == []) = false := by simpa using f2
      have e3 : x.isEmpty = false := by simpa using f2
      have ex : (x == x) = true := by simp
      have CL := Lib.hid (fun W : World => ty_lower ⟨x.toArray⟩ W)
      unfold Text at CL
      rw [bl_mk, f3] at CL
      clear hx f1 f2 f3
      have HD0 := Lib.hid (drew_below HB.out)
      go_upto_region 6 with fail
      have yd : wr.drew.cell? p = some (.string ⟨x.toArray⟩) := y
      go_cut [48] from 25 to 49 (fun s48 wy => s48 = .bool false ∧ Hid (Below wr.heap.size wr wy))
      case first =>
        go_region_held3 (fun w' => w'.cell? p = some (.string ⟨x.toArray⟩)) (first | (with_reducible exact y) | (with_reducible exact yd) | (with_reducible exact y6) | go_keep)
          (first
            | (go_at_call 19
               (with_reducible refine (CL.out wr.drew).mono ?_)
               rintro e w6 ⟨rfl, b6⟩
               have D6 : Hid (Below wr.heap.size wr w6) := Lib.hid ((drew_below (Below.refl wr.heap.size wr)).trans (b6.mono (drew_below (Below.refl wr.heap.size wr)).size))
               have y6 : w6.cell? p = some (.string ⟨x.toArray⟩) := (b6.cell (Lib.lt_of_cell yd)).trans yd
               clear b6))
        all_goals
          go_wp2_with fail
          go_meet
          exact ⟨rfl, D6⟩
      case rest =>
        obtain ⟨rfl, HC⟩ := hcut
        clear CL yd e1 e2 e3 HD0
        have hatk := Lib.hid hat
        have hyk := Lib.hid y
        have OC := Lib.hid (HO.out.kept (Turn.of_below (S := fun _ => False) HC.out) (fun _ _ h => h))
        have BC := Lib.hid (HB.out.trans (HC.out.mono HB.out.size))
        clear hat y
        go_wp2_with fail
        go_loopw [7] (fun vi wy => ∃ j : Nat, vi = .int .i64 (j : Int) ∧ j ≤ k ∧ Hid (Below wc.heap.size wc wy)) (fun vi _ => k - (intOf vi).toNat)
        case atStart => exact ⟨0, rfl, Nat.zero_le _, Lib.hid (Below.refl _ _)⟩
        case round =>
          obtain ⟨j, rfl, hj, HY⟩ := hrel
          have BY := Lib.hid (BC.out.trans (HY.out.mono BC.out.size))
          have y := (HY.out.cell (by have h1 := HC.out.size; have := Lib.lt_of_cell hyk.out; omega)).trans ((HC.out.cell (Lib.lt_of_cell hyk.out)).trans hyk.out)
          have hat := hatk.out
          by_cases hlj : j < k
          · obtain ⟨pz, z, hz, haz, yz, _, _⟩ := S.out.at (c := cS) HM.out (show j < m by omega) BY.out
            have e1 := nodup_ne HND.out hz HX.out hlj
            have hjm : (j : Int) < (m : Int) := by omega
            have hkm : (k : Int) < (m : Int) := by omega
            clear hz
            go_wp2_with fail
            go_quiet (fail)
            go_wp2_with fail
            go_roundw
            case rel => exact ⟨j + 1, by go_num, hlj, Lib.hid (below_drewN HY.out _)⟩
            case measure => simp [intOf]; omega
          · have hrl2 : r.length ≤ 10000000 := by omega
            obtain ⟨v8, w8, o8, hrun, own8, t8, ho8⟩ := run_push_fld wr _ o r (bigV, [32, 44, 32] ++ x) (OC.out.kept (Turn.of_below (S := fun _ => False) HY.out) (fun _ _ h => h)) (by omega)
            simp only at hrun
            rw [← mk_append [32, 44, 32] x] at hrun
            have HRU := Lib.hid hrun
            have OO := Lib.hid own8
            have TT := Lib.hid (own_turn BY.out HOB.out t8 ho8)
            have hq : ¬ 9223372036854775807 < 3 + x.length := by omega
            clear hrun own8 t8 ho8
            go_wp2_with (at_builtin; refine append_by rfl (.tmp 63) (.tmp 70) 22 rfl _ _ v8 w8 rfl rfl HRU.out ?_)
            go_roundw
            case rel => exact ⟨k + 1, o8, r ++ [(bigV, [32, 44, 32] ++ x)], by go_num, hlt, HRK, by simp [hrl], OO, Lib.hid TT.out.2, Lib.hid TT.out.1⟩
            case measure => simp [intOf]; omega
    · have HRE := Lib.hid (show r = eachF ns by rw [← HR.out, List.take_of_length_le (by rw [HM.out]; omega)])
      have BB := Lib.hid (B1.out.trans (HB.out.mono B1.out.size))
      have L9 := Lib.hid (L_1.out.below HB.out)
      have S9 := Lib.hid (S.out.below HB.out)
      obtain ⟨A5, c5, hv5, src5⟩ := HO.out.src (fun _ => True) (fun _ _ => trivial)
      have hkm : k = m := by omega
      rw [hrl, hkm] at hv5
      subst hv5
      rw [HRE.out] at src5
      have E9 := Lib.hid src5
      have HEL := Lib.hid (show (eachF ns).length = m by rw [each_len, HM.out])
      clear src5 HO
      clear hkm
      go_wp2_with fail
      have C := names_any wr A5 (eachF ns) m c5 HEL.out HBE.out E9.out
      unfold Named at C
      rw [HEA.out, HSA.out] at C
      refine C.mono ?_
      rintro e w21 ⟨v, o9, rfl, own, _, b⟩
      obtain ⟨AG, cG, hv, src⟩ := own.src (fun _ => True) (fun _ _ => trivial)
      rw [HM.out] at hv
      subst hv
      have G := Lib.hid src
      clear own src C
      have B21 := Lib.hid (BB.out.trans (b.mono BB.out.size))
      have L_21 := Lib.hid (L9.out.below b)
      have S_21 := Lib.hid (S9.out.below b)
      have E_21 := Lib.hid (E9.out.below b)
      clear BB L9 S9 E9
      clear b
      clear E_21
      go_wp2_with fail
      have C := equal_lists w21 AG AS ns ns m m cG cS HM.out HM.out (by omega) G.out S_21.out
      rw [show (ns == ns) = true by simp] at C
      clear G
      refine (C).mono ?_
      rintro e w22 ⟨rfl, q⟩
      have b := quiet_below q
      clear q C
      have B22 := Lib.hid (B21.out.trans (b.mono B21.out.size))
      have L_22 := Lib.hid (L_21.out.below b)
      have S_22 := Lib.hid (S_21.out.below b)
      clear B21 L_21 S_21
      clear b
      obtain ⟨Aa, ca, wa, oa, ra, owna, oba, ba⟩ := nil_app w22 A ls n c HN.out (by omega) L_22.out
      obtain ⟨Ab, cb, wb, ob, rb, ownb, _, bb, _⟩ := more_app wa _ oa ls ls owna A n c (n + n) HN.out (by rw [HN.out]) (L_22.out.below ba) (by omega) ba oba
      have RA := Lib.hid ra
      have RB := Lib.hid rb
      have Q := Lib.hid (OwnF.reads ownb)
      clear ra rb owna ownb oba ba
      have B23 := Lib.hid (B22.out.trans (bb.mono B22.out.size))
      have L_23 := Lib.hid (L_22.out.below bb)
      have S_23 := Lib.hid (S_22.out.below bb)
      clear B22 L_22 S_22
      clear bb
      go_wp2_with (at_builtin; first | (refine append_by rfl _ (.tmp 85) 22 rfl _ _ (.slice Aa n ca) wa rfl rfl RA.out ?_) | (refine append_by rfl (.tmp 86) (.tmp 87) 22 rfl _ _ (.slice Ab (n + n) cb) wb rfl rfl RB.out ?_))
      have C := names_any wb Ab (ls ++ ls) (n + n) cb (by rw [List.length_append, HN.out]) HB2.out Q.out
      unfold Named at C
      rw [HE2.out, HS2.out] at C
      refine C.mono ?_
      rintro e w24 ⟨v, o9, rfl, own, _, b⟩
      obtain ⟨AT, cT, hv, src⟩ := own.src (fun _ => True) (fun _ _ => trivial)
      rw [HM.out] at hv
      subst hv
      have T := Lib.hid src
      clear own src C
      have B24 := Lib.hid (B23.out.trans (b.mono B23.out.size))
      have L_24 := Lib.hid (L_23.out.below b)
      have S_24 := Lib.hid (S_23.out.below b)
      clear B23 L_23 S_23
      clear b Q
      have bl0 := (Below.refl w24.heap.size w24).alloc (Nat.le_refl _) (.cells #[.string ⟨#[86, 97, 114, 121]⟩, .string ⟨#[42]⟩] 32)
      have OK := row_ownF (w := w24.alloc (.cells #[.string ⟨#[86, 97, 114, 121]⟩, .string ⟨#[42]⟩] 32)) (g := w24.heap.size) (c := 1) (cur := flds [([86, 97, 114, 121], [42])]) (ls := [([86, 97, 114, 121], [42])]) (Is.made w24 32 (flds [([86, 97, 114, 121], [42])])) (by decide) (by decide) (by decide) rfl
      obtain ⟨Ad, cd, wd, od, rd, ownd, _, bb, _⟩ := more_app (w24.alloc (.cells #[.string ⟨#[86, 97, 114, 121]⟩, .string ⟨#[42]⟩] 32)) _ (some w24.heap.size) [([86, 97, 114, 121], [42])] ls OK A n c (n + 1) HN.out (by rw [show ([([86, 97, 114, 121], [42])] : List Fld).length = 1 from rfl]; omega) (L_24.out.below bl0) (by omega) bl0 (fun b h => by injection h with h; omega)
      have RD := Lib.hid rd
      have Q := Lib.hid (OwnF.reads ownd)
      clear rd ownd OK bl0
      clear L_24
      have B25 := Lib.hid (B24.out.trans (bb.mono B24.out.size))
      have S_25 := Lib.hid (S_24.out.below bb)
      have T_25 := Lib.hid (T.out.below bb)
      clear B24 S_24 T
      clear bb
      go_wp2_with (at_builtin; refine append_by rfl (.tmp 94) (.tmp 95) 22 rfl _ _ (.slice Ad (n + 1) cd) wd rfl rfl RD.out ?_)
      obtain ⟨n3, hn3⟩ : ∃ x, namesF (([([86, 97, 114, 121], [42])] : List Fld) ++ ls) = x := ⟨_, rfl⟩
      have C := names_any wd Ad (([([86, 97, 114, 121], [42])] : List Fld) ++ ls) (n + 1) cd (by rw [List.length_append, HN.out]; exact Nat.add_comm 1 n) HB3.out Q.out
      unfold Named at C
      rw [hn3, HS3.out] at C
      refine C.mono ?_
      rintro e w26 ⟨v, o9, rfl, own, _, b⟩
      obtain ⟨A8, c8, hv, _⟩ := own.src (fun _ => True) (fun _ _ => trivial)
      subst hv
      clear own C hn3
      have B26 := Lib.hid (B25.out.trans (b.mono B25.out.size))
      have S_26 := Lib.hid (S_25.out.below b)
      have T_26 := Lib.hid (T_25.out.below b)
      clear B25 S_25 T_25
      clear b Q
      go_wp2_with fail
      have C := equal_lists w26 AT AS ns ns m m cT cS HM.out HM.out (by omega) T_26.out S_26.out
      rw [show (ns == ns) = true by simp] at C
      clear T_26
      clear S_26
      refine (C).mono ?_
      rintro e w27 ⟨rfl, q⟩
      have b := quiet_below q
      clear q C
      have B27 := Lib.hid (B26.out.trans (b.mono B26.out.size))
      clear B26
      clear b
      go_wp2_with fail
      refine ((wakes_any w27)).mono ?_
      rintro e w28 ⟨rfl, b⟩
      have B28 := Lib.hid (B27.out.trans (b.mono B27.out.size))
      clear B27
      clear b
      go_wp2_with fail
      go_ret
      exact ⟨rfl, B28.out⟩
end Go.Proofs.YtbkpiadbgpnhlaaDoor.Var
