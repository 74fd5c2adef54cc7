/-
  The law AclDenies, walked.
  Conditions: a list of at most 1048576 rules, whose Methods lie in memory; Go's table of powers of ten is as its text lays it.
-/
import Derived.Test.YtcmnnidjamdmeaaDoorAJ
namespace Go.Proofs.YtcmnnidjamdmeaaDoor.Acl
open Go.RowKit

theorem den_snoc (L : List RuE) (k : Nat) (r : RuE) (h : L[k]? = some r) : denF (L.take (k + 1)) = denF (L.take k) ++ (if r.al = true then [] else [r]) := by
  rw [take_snoc L k r h]
  unfold denF
  rw [List.filter_append]
  cases hal : r.al <;> simp [hal]
theorem alw_snoc (L : List RuE) (k : Nat) (r : RuE) (h : L[k]? = some r) : alwF (L.take (k + 1)) = alwF (L.take k) ++ (if r.al = true then [r] else []) := by
  rw [take_snoc L k r h]
  unfold alwF
  rw [List.filter_append]
  cases hal : r.al <;> simp [hal]
theorem den_len (L : List RuE) : (denF L).length ≤ L.length := List.length_filter_le _ _
theorem alw_len (L : List RuE) : (alwF L).length ≤ L.length := List.length_filter_le _ _
set_option maxHeartbeats 4000000 in
set_option maxRecDepth 100000 in
theorem denies_law (w : World) (A : Option Addr) (L : List RuE) (n c : Nat) (hn : L.length = n) (hmax : n ≤ 1048576) (hs : SrcU w (fun _ => True) A L) (hok : ∀ r ∈ L, r.Ok w) (h : ByteArray) (p : Int) (m : ByteArray) (hz2 : h.size ≤ 9223372036854775807) (hp : PowTab w) :
    Calls Tryd.prog 5 #[.slice A n c, .string h, .int .i64 p, .string m] w fun e w' => e = .returned (.bool true) ∧ Below w.heap.size w w' := by
  have HN := Lib.hid hn
  have H := Lib.hid hs
  have HO := Lib.hid hok
  have HP := Lib.hid hp
  have HH := Lib.hid hz2
  have CM := Lib.hid (fun (r : RuE) (W : World) (hW : r.Ok W) => matches_any r h p m W hW hz2)
  have CA := Lib.hid (fun (W : World) (hB : Below w.heap.size w W) => admits_any (P := fun _ => True) W A L n c hn (by omega) (hs.below hB) (fun r hr => (hok r hr).below hB) h p m hz2)
  clear hn hs hok hz2 hp
  go_enter Tryd.func5, Tryd.ntmps5
  go_wp2_with fail
  go_loopw [9, 10, 11, 12, 13] (fun v9 v10 v11 v12 vi wr => ∃ (k : Nat) (od oa : Option Nat), v11 = .bool ((denF (L.take k)).any (matchF (bl h) p (bl m))) ∧ v12 = .bool ((alwF (L.take k)).any (matchF (bl h) p (bl m))) ∧ vi = .int .i64 (k : Int) ∧ k ≤ n ∧ Hid (Duo w wr v9 od (denF (L.take k)) v10 oa (alwF (L.take k)))) (fun _ _ _ _ vi _ => n - (intOf vi).toNat)
  case atStart => exact ⟨0, none, none, rfl, rfl, rfl, Nat.zero_le _, Lib.hid (Duo.start w w (Below.refl _ _))⟩
  case round =>
    obtain ⟨k, od, oa, rfl, rfl, rfl, hk, HD⟩ := hrel
    by_cases hlt : k < n
    · obtain ⟨pa, r, hx, hat, hpb, y0, y1, y2, y3, y4⟩ := SrcU.at (c := c) H.out HN.out hlt HD.out.bel
      have hds := den_snoc L k r hx
      have has := alw_snoc L k r hx
      have hin := List.mem_of_getElem? hx
      have HK := Lib.hid (HO.out r hin)
      have hl1 : (L.take k).length ≤ k := by rw [List.length_take]; omega
      have hl2 := den_len (L.take k)
      have hl3 := alw_len (L.take k)
      clear hx hin
      cases hal : r.al with
      | true =>
        obtain ⟨v', w', o', hrun, hd'⟩ := Duo.push HD.out.swap r (by omega)
        rw [hal] at y0 hrun
        rw [hal, if_pos rfl] at has
        rw [hal, if_pos rfl, List.append_nil] at hds
        have D' := Lib.hid hd'.swap
        have z0 := (hd'.bel.cell hpb).trans ((HD.out.bel.cell hpb).symm.trans y0)
        have z1 := (hd'.bel.cell (p := ⟨pa.block, pa.off + 1, none⟩) hpb).trans ((HD.out.bel.cell (p := ⟨pa.block, pa.off + 1, none⟩) hpb).symm.trans y1)
        have z2 := (hd'.bel.cell (p := ⟨pa.block, pa.off + 2, none⟩) hpb).trans ((HD.out.bel.cell (p := ⟨pa.block, pa.off + 2, none⟩) hpb).symm.trans y2)
        have z3 := (hd'.bel.cell (p := ⟨pa.block, pa.off + 3, none⟩) hpb).trans ((HD.out.bel.cell (p := ⟨pa.block, pa.off + 3, none⟩) hpb).symm.trans y3)
        have z4 := (hd'.bel.cell (p := ⟨pa.block, pa.off + 4, none⟩) hpb).trans ((HD.out.bel.cell (p := ⟨pa.block, pa.off + 4, none⟩) hpb).symm.trans y4)
        have HRU := Lib.hid hrun
        have CM1 := CM.out r w' (HK.out.below hd'.bel)
        rw [hal] at CM1
        have CM1 := Lib.hid CM1
        have HO1 := Lib.hid hds
        have HM1 := Lib.hid (show (alwF (L.take (k + 1))).any (matchF (bl h) p (bl m)) = ((alwF (L.take k)).any (matchF (bl h) p (bl m)) || matchF (bl h) p (bl m) r) by rw [has, List.any_append]; simp)
        have HS1 := Lib.hid has
        clear hrun hd' hl1 hl2 hl3 hpb has hds
        generalize (alwF (L.take k)).any (matchF (bl h) p (bl m)) = q at *
        cases q with
        | true =>
          clear CM1
          go_wp2_with (at_builtin; refine append_by rfl (.tmp 26) (.tmp 31) 22 rfl _ _ v' w' rfl rfl HRU.out ?_)
          go_roundw
          case rel => exact ⟨k + 1, od, o', by rw [HO1.out], by rw [HM1.out]; simp, by go_num, hlt, by rw [HO1.out, HS1.out]; exact D'⟩
          case measure => simp [intOf]; omega
        | false =>
          go_wp2_with (at_builtin; refine append_by rfl (.tmp 26) (.tmp 31) 22 rfl _ _ v' w' rfl rfl HRU.out ?_)
          refine CM1.out.mono ?_
          rintro e w5 ⟨rfl, b5⟩
          have D5 := Lib.hid (D'.out.below b5)
          clear b5
          go_wp2_with fail
          go_roundw
          case rel => exact ⟨k + 1, od, o', by rw [HO1.out], by rw [HM1.out]; simp, by go_num, hlt, by rw [HO1.out, HS1.out]; exact D5⟩
          case measure => simp [intOf]; omega
      | false =>
        obtain ⟨v', w', o', hrun, hd'⟩ := Duo.push HD.out r (by omega)
        rw [hal] at y0 hrun
        rw [hal, if_neg (by simp)] at hds
        rw [hal, if_neg (by simp), List.append_nil] at has
        have D' := Lib.hid hd'
        have z0 := (hd'.bel.cell hpb).trans ((HD.out.bel.cell hpb).symm.trans y0)
        have z1 := (hd'.bel.cell (p := ⟨pa.block, pa.off + 1, none⟩) hpb).trans ((HD.out.bel.cell (p := ⟨pa.block, pa.off + 1, none⟩) hpb).symm.trans y1)
        have z2 := (hd'.bel.cell (p := ⟨pa.block, pa.off + 2, none⟩) hpb).trans ((HD.out.bel.cell (p := ⟨pa.block, pa.off + 2, none⟩) hpb).symm.trans y2)
        have z3 := (hd'.bel.cell (p := ⟨pa.block, pa.off + 3, none⟩) hpb).trans ((HD.out.bel.cell (p := ⟨pa.block, pa.off + 3, none⟩) hpb).symm.trans y3)
        have z4 := (hd'.bel.cell (p := ⟨pa.block, pa.off + 4, none⟩) hpb).trans ((HD.out.bel.cell (p := ⟨pa.block, pa.off + 4, none⟩) hpb).symm.trans y4)
        have HRU := Lib.hid hrun
        have CM1 := CM.out r w' (HK.out.below hd'.bel)
        rw [hal] at CM1
        have CM1 := Lib.hid CM1
        have HO1 := Lib.hid has
        have HM1 := Lib.hid (show (denF (L.take (k + 1))).any (matchF (bl h) p (bl m)) = ((denF (L.take k)).any (matchF (bl h) p (bl m)) || matchF (bl h) p (bl m) r) by rw [hds, List.any_append]; simp)
        have HS1 := Lib.hid hds
        clear hrun hd' hl1 hl2 hl3 hpb hds has
        generalize (denF (L.take k)).any (matchF (bl h) p (bl m)) = q at *
        cases q with
        | true =>
          clear CM1
          go_wp2_with (at_builtin; refine append_by rfl (.tmp 44) (.tmp 49) 22 rfl _ _ v' w' rfl rfl HRU.out ?_)
          go_roundw
          case rel => exact ⟨k + 1, o', oa, by rw [HM1.out]; simp, by rw [HO1.out], by go_num, hlt, by rw [HS1.out, HO1.out]; exact D'⟩
          case measure => simp [intOf]; omega
        | false =>
          go_wp2_with (at_builtin; refine append_by rfl (.tmp 44) (.tmp 49) 22 rfl _ _ v' w' rfl rfl HRU.out ?_)
          refine CM1.out.mono ?_
          rintro e w5 ⟨rfl, b5⟩
          have D5 := Lib.hid (D'.out.below b5)
          clear b5
          go_wp2_with fail
          go_roundw
          case rel => exact ⟨k + 1, o', oa, by rw [HM1.out]; simp, by rw [HO1.out], by go_num, hlt, by rw [HS1.out, HO1.out]; exact D5⟩
          case measure => simp [intOf]; omega
    · have hk' : L.take k = L := List.take_of_length_le (by rw [HN.out]; omega)
      rw [hk'] at HD ⊢
      clear hk'
      have hl2 := den_len L
      have hl3 := alw_len L
      have hN := HN.out
      obtain ⟨A1, c1, hv1, _, hsrc1⟩ := HD.out.own1.src (fun _ => True) (fun _ _ => trivial)
      obtain ⟨v', w', o', hrun, hd'⟩ := Duo.app HD.out (alwF L) A1 (alwF L).length c1 rfl hsrc1 (by omega)
      obtain ⟨A2, c2, hv2, _, hsrc2⟩ := hd'.own.src (fun _ => True) (fun _ _ => trivial)
      have C2 := admits_any w' A2 (denF L ++ alwF L) (denF L ++ alwF L).length c2 rfl (by rw [List.length_append]; omega) hsrc2 (fun r hr => by
        have hr' : r ∈ L := by
          rcases List.mem_append.1 hr with h | h
          · exact (List.mem_filter.1 h).1
          · exact (List.mem_filter.1 h).1
        exact (HO.out r hr').below hd'.bel) h p m HH.out
      rw [deny_first] at C2
      have HST := Lib.hid (fun (h1 : (alwF L).any (matchF (bl h) p (bl m)) = true) (h2 : (denF L).any (matchF (bl h) p (bl m)) = false) => admit_still h1 h2)
      have HSO := Lib.hid (fun (h1 : admitF L (bl h) p (bl m) = true) => allow_some h1)
      subst hv1 hv2
      have HRU := Lib.hid hrun
      have D' := Lib.hid hd'
      have C2 := Lib.hid C2
      clear hrun hd' hsrc1 hsrc2 hl2 hl3 hN
      generalize (denF L ++ alwF L).length = nl at *
      generalize (alwF L).any (matchF (bl h) p (bl m)) = aB at *
      generalize (denF L).any (matchF (bl h) p (bl m)) = dB at *
      generalize admitF L (bl h) p (bl m) = ad at *
      cases dB with
      | true =>
        cases aB with
        | true =>
          cases ad with
          | true =>
            have C2 := Lib.hid (show Calls Tryd.prog 14 #[.slice A2 nl c2, .string h, .int .i64 p, .string m] w' fun e w5 => e = .returned (.bool false) ∧ Below w'.heap.size w' w5 from C2.out)
            clear HST HSO
            go_wp2_with (at_builtin; refine append_by rfl (.tmp 62) (.tmp 63) 22 rfl _ _ (.slice A2 nl c2) w' rfl rfl HRU.out ?_)
            refine C2.out.mono ?_
            rintro e w5 ⟨rfl, b5⟩
            have D5 := Lib.hid (D'.out.below b5)
            clear b5
            go_wp2_with fail
            refine (CA.out _ D5.out.bel).mono ?_
            rintro e w6 ⟨rfl, b6⟩
            have D6 := Lib.hid (D5.out.below b6)
            clear b6
            go_wp2_with fail
            refine (wakes_any _ (HP.out.below D6.out.bel)).mono ?_
            rintro e w8 ⟨rfl, b8⟩
            have D8 := Lib.hid (D6.out.below b8)
            clear b8
            go_wp2_with fail
            go_ret
            exact ⟨rfl, D8.out.bel⟩
          | false =>
            have C2 := Lib.hid (show Calls Tryd.prog 14 #[.slice A2 nl c2, .string h, .int .i64 p, .string m] w' fun e w5 => e = .returned (.bool false) ∧ Below w'.heap.size w' w5 from C2.out)
            clear HST HSO
            go_wp2_with (at_builtin; refine append_by rfl (.tmp 62) (.tmp 63) 22 rfl _ _ (.slice A2 nl c2) w' rfl rfl HRU.out ?_)
            refine C2.out.mono ?_
            rintro e w5 ⟨rfl, b5⟩
            have D5 := Lib.hid (D'.out.below b5)
            clear b5
            go_wp2_with fail
            refine (CA.out _ D5.out.bel).mono ?_
            rintro e w6 ⟨rfl, b6⟩
            have D6 := Lib.hid (D5.out.below b6)
            clear b6
            go_wp2_with fail
            refine (wakes_any _ (HP.out.below D6.out.bel)).mono ?_
            rintro e w8 ⟨rfl, b8⟩
            have D8 := Lib.hid (D6.out.below b8)
            clear b8
            go_wp2_with fail
            go_ret
            exact ⟨rfl, D8.out.bel⟩
        | false =>
          cases ad with
          | true => exact absurd (HSO.out rfl) (by simp)
          | false =>
            have C2 := Lib.hid (show Calls Tryd.prog 14 #[.slice A2 nl c2, .string h, .int .i64 p, .string m] w' fun e w5 => e = .returned (.bool false) ∧ Below w'.heap.size w' w5 from C2.out)
            clear HST HSO
            go_wp2_with (at_builtin; refine append_by rfl (.tmp 62) (.tmp 63) 22 rfl _ _ (.slice A2 nl c2) w' rfl rfl HRU.out ?_)
            refine C2.out.mono ?_
            rintro e w5 ⟨rfl, b5⟩
            have D5 := Lib.hid (D'.out.below b5)
            clear b5
            go_wp2_with fail
            refine (CA.out _ D5.out.bel).mono ?_
            rintro e w6 ⟨rfl, b6⟩
            have D6 := Lib.hid (D5.out.below b6)
            clear b6
            go_wp2_with fail
            refine (wakes_any _ (HP.out.below D6.out.bel)).mono ?_
            rintro e w8 ⟨rfl, b8⟩
            have D8 := Lib.hid (D6.out.below b8)
            clear b8
            go_wp2_with fail
            go_ret
            exact ⟨rfl, D8.out.bel⟩
      | false =>
        cases aB with
        | true =>
          cases ad with
          | true =>
            have C2 := Lib.hid (show Calls Tryd.prog 14 #[.slice A2 nl c2, .string h, .int .i64 p, .string m] w' fun e w5 => e = .returned (.bool true) ∧ Below w'.heap.size w' w5 from C2.out)
            clear HST HSO
            go_wp2_with (at_builtin; refine append_by rfl (.tmp 62) (.tmp 63) 22 rfl _ _ (.slice A2 nl c2) w' rfl rfl HRU.out ?_)
            refine C2.out.mono ?_
            rintro e w5 ⟨rfl, b5⟩
            have D5 := Lib.hid (D'.out.below b5)
            clear b5
            go_wp2_with fail
            refine (CA.out _ D5.out.bel).mono ?_
            rintro e w6 ⟨rfl, b6⟩
            have D6 := Lib.hid (D5.out.below b6)
            clear b6
            go_wp2_with fail
            refine (CA.out _ D6.out.bel).mono ?_
            rintro e w7 ⟨rfl, b7⟩
            have D7 := Lib.hid (D6.out.below b7)
            clear b7
            go_wp2_with fail
            refine (wakes_any _ (HP.out.below D7.out.bel)).mono ?_
            rintro e w8 ⟨rfl, b8⟩
            have D8 := Lib.hid (D7.out.below b8)
            clear b8
            go_wp2_with fail
            go_ret
            exact ⟨rfl, D8.out.bel⟩
          | false => exact absurd (HST.out rfl rfl) (by simp)
        | false =>
          cases ad with
          | true => exact absurd (HSO.out rfl) (by simp)
          | false =>
            have C2 := Lib.hid (show Calls Tryd.prog 14 #[.slice A2 nl c2, .string h, .int .i64 p, .string m] w' fun e w5 => e = .returned (.bool false) ∧ Below w'.heap.size w' w5 from C2.out)
            clear HST HSO
            go_wp2_with (at_builtin; refine append_by rfl (.tmp 62) (.tmp 63) 22 rfl _ _ (.slice A2 nl c2) w' rfl rfl HRU.out ?_)
            refine C2.out.mono ?_
            rintro e w5 ⟨rfl, b5⟩
            have D5 := Lib.hid (D'.out.below b5)
            clear b5
            go_wp2_with fail
            refine (CA.out _ D5.out.bel).mono ?_
            rintro e w6 ⟨rfl, b6⟩
            have D6 := Lib.hid (D5.out.below b6)
            clear b6
            go_wp2_with fail
            refine (wakes_any _ (HP.out.below D6.out.bel)).mono ?_
            rintro e w8 ⟨rfl, b8⟩
            have D8 := Lib.hid (D6.out.below b8)
            clear b8
            go_wp2_with fail
            go_ret
            exact ⟨rfl, D8.out.bel⟩
end Go.Proofs.YtcmnnidjamdmeaaDoor.Acl
