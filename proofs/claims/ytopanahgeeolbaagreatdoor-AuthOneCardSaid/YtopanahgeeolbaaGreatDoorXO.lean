/-
  AuthOne: fields hold at most one token; its own field alone makes them hold it; two of them hold none.
  Conditions: the fields' names and values, and the texts, hold no more than memory may; Go's table of powers of ten is as its text lays it.
-/
import Derived.Test.YtopanahgeeolbaaGreatDoorXP
import Derived.Test.YtopanahgeeolbaaGreatDoorJ
import Derived.Deep.DeepMust
import Derived.Great.Walk
namespace Go.Proofs.YtopanahgeeolbaaGreatDoor.Aut
open Go.RowKit

set_option maxHeartbeats 16000000 in
set_option maxRecDepth 100000 in
theorem one_law (w : World) (A : Option Addr) (ls : List Fld) (n c : Nat) (hn : ls.length = n) (hmax : n * 32 ≤ 140737488351232) (h : SrcF w (fun _ => True) A ls) (hs : Slim ls) (tok oth fa fb : ByteArray) (h1 : tok.size ≤ 140737488351232) (h2 : oth.size ≤ 140737488351232) (h3 : fa.size ≤ 140737488351232) (h4 : fb.size ≤ 140737488351232) (hp : PowTab w) :
    Calls Tryz.prog 5 #[.slice A n c, .string tok, .string oth, .agg #[.string fa, .string fb]] w fun e w' => e = .returned (.bool true) ∧ Below w.heap.size w w' := by
  have I0 := Lib.hid (Is.made w 39 [.string fa, .string fb])
  have B0 : Hid (Below w.heap.size w (w.alloc (.cells #[.string fa, .string fb] 39))) := Lib.hid ((Below.refl _ _).alloc (Nat.le_refl _) _)
  have HS := Lib.hid h
  have HM := Lib.hid hmax
  have HT := Lib.hid h1
  have HP := Lib.hid hp
  have HLls := Lib.hid hn
  have HKls := Lib.hid (show n * 32 ≤ 140737488355328 by omega)
  have HZls := Lib.hid hs.b
  have HSL := Lib.hid hs
  have HBls := Lib.hid (show ls.length ≤ n by omega)
  have HO1 := Lib.hid (fun W : World => of_any oth W h2)
  have HO2 := Lib.hid (of_slim (t := bl oth) (by rw [bl_length]; omega))
  have HFZ := Lib.hid (show SlimB [((bl fa), (bl fb))] from fun f hf => by
    simp only [List.mem_cons, List.not_mem_nil, or_false] at hf
    subst hf
    exact ⟨by show (bl fa).length ≤ _; rw [bl_length]; omega, by show (bl fb).length ≤ _; rw [bl_length]; omega⟩)
  have HSM := Lib.hid (fun W : World => ty_same fa ⟨#[112, 114, 111, 120, 121, 45, 97, 117, 116, 104, 111, 114, 105, 122, 97, 116, 105, 111, 110]⟩ W)
  rw [show lowF (bl ⟨#[112, 114, 111, 120, 121, 45, 97, 117, 116, 104, 111, 114, 105, 122, 97, 116, 105, 111, 110]⟩) = lowF authN from rfl, show (lowF (bl fa) == lowF authN) = sameN authN ((bl fa), (bl fb)) from rfl] at HSM
  clear hn hmax h hs h1 h2 h3 h4 hp
  go_enter Tryz.func5, Tryz.ntmps5
  go_wp2_with fail
  generalize w.alloc (.cells #[.string fa, .string fb] 39) = w1 at *
  go_loopw [1] (fun vi wx => ∃ S : ByteArray, vi = .string S ∧ Hid (S.size ≤ 140737488351232) ∧ w1 = wx) (fun vi _ => match vi with | .string s => s.size | _ => 0)
  case atStart => exact ⟨tok, rfl, HT, rfl⟩
  case round =>
    obtain ⟨S, rfl, HSZ, rfl⟩ := hrel
    by_cases hgo : ∃ h : 0 < S.size, S[0] = 32
    · obtain ⟨hlt, h32⟩ := hgo
      have e32 : ((S[0].toNat : Int) == 32) = true := by rw [← eq_32]; exact decide_eq_true h32
      have e1 : (1 : Int) ≤ (S.size : Int) := by omega
      have HX := Lib.hid (show (S.extract 1 S.size).size < S.size by rw [ByteArray.size_extract]; omega)
      clear h32
      go_wp2_with fail
      go_roundw
      case rel => exact ⟨_, rfl, Lib.hid (by have := HX.out; have := HSZ.out; omega), trivial⟩
      case measure => exact HX.out
    · have hN0 := show (bl S).head? ≠ some 32 from fun e => by
        cases hl : bl S with
        | nil => rw [hl] at e; cases e
        | cons a r =>
          rw [hl] at e
          injection e with e
          have hlt : 0 < S.size := by rw [← bl_length, hl]; simp
          have := bl_get S 0 hlt
          rw [hl] at this
          injection this with this
          exact hgo ⟨hlt, by rw [← this]; exact e⟩
      have hst : 0 < S.size → ((S[0]!.toNat : Int) == 32) = false := fun hlt => by
        rw [getElem!_pos S 0 hlt, ← eq_32]
        exact decide_eq_false (fun e => hgo ⟨hlt, e⟩)
      have H1 := Lib.hid (fun (W : World) (A : Option Addr) (L : List Fld) (n c : Nat) (hn : L.length = n) (hm : n * 32 ≤ 140737488355328) (h : SrcF W (fun _ => True) A L) (hs : SlimB L) => holds_any S W A L n c hn hm h hs)
      have H2 := Lib.hid (fun (W : World) (A : Option Addr) (L : List Fld) (n c : Nat) (hn : L.length = n) (hm : n * 32 ≤ 140737488355328) (h : SrcF W (fun _ => True) A L) (hs : SlimB L) => holds_any oth W A L n c hn hm h hs)
      have HMY := Lib.hid (fun W : World => may_any S W (by have := HSZ.out; omega))
      have HOS := Lib.hid (fun W : World => of_any S W HSZ.out)
      have HZS := Lib.hid (of_slim (t := bl S) (by rw [bl_length]; exact HSZ.out))
      have HEQ := Lib.hid (show holdsF (bl S) ls = true → holdsF (bl oth) ls = true → (S.toList == oth.toList) = true from fun a b => by rw [eq_text, holds_one a b]; simp)
      have HMA := Lib.hid (show holdsF (bl S) ls = true → mayT (bl S) = true from holds_may)
      have HDR := Lib.hid (fun (W : World) (hB : Below w.heap.size w W) => drop_any (W.alloc (.cells #[.string ⟨#[112, 114, 111, 120, 121, 45, 97, 117, 116, 104, 111, 114, 105, 122, 97, 116, 105, 111, 110]⟩] 9)) A (some ⟨W.heap.size, 0, none⟩) ls [authN] n c 1 1 HLls.out rfl HKls.out (by decide) ((HS.out.below hB).below ((Below.refl _ _).alloc (Nat.le_refl _) _)) (Acl.srcs_is (ls := [authN]) (Is.made W 9 [.string ⟨#[112, 114, 111, 120, 121, 45, 97, 117, 116, 104, 111, 114, 105, 122, 97, 116, 105, 111, 110]⟩])) HSL.out)
      -- the lists
      have e1 := holds_bare (bl S) ls
      have e2 := holds_own (t := bl S) (getF_bare ls) hN0
      have e3 := holds_twice (t := bl S) (u := bl S) (getF_bare ls)
      have e4 := holds_ahead (t := bl S) (u := bl oth) (getF_bare ls)
      have e5 := fun h => holds_first (t := bl S) (f := ((bl fa), (bl fb))) (getF_bare ls) h
      have e6 := fun h => holds_skip (t := bl S) (f := ((bl fa), (bl fb))) (ls := ls) h
      have z1 := SlimB.drop HZls.out [authN]
      have l1 := dropF_length ls [authN]
      obtain ⟨BR, hBR⟩ : ∃ x, dropF ls [authN] = x := ⟨_, rfl⟩
      rw [hBR] at e1 e2 e3 e4 e5 z1 l1 HDR
      obtain ⟨SL, hSL⟩ : ∃ x, [ofF (bl S)] = x := ⟨_, rfl⟩
      obtain ⟨TL, hTL⟩ : ∃ x, [ofF (bl oth)] = x := ⟨_, rfl⟩
      have m1 : SL.length = 1 := by rw [← hSL]; rfl
      have m2 : TL.length = 1 := by rw [← hTL]; rfl
      rw [hSL] at e2 e3 e4 e5 HZS HOS
      rw [hTL] at e4 HO1 HO2
      obtain ⟨OW, hOW⟩ : ∃ x, BR ++ SL = x := ⟨_, rfl⟩
      rw [hOW] at e2 e3 e4 e5
      have z2 : SlimB OW := by rw [← hOW]; exact SlimB.app z1 HZS.out
      have l2 : OW.length = BR.length + 1 := by rw [← hOW, List.length_append, m1]
      obtain ⟨TW, hTW⟩ : ∃ x, OW ++ SL = x := ⟨_, rfl⟩
      rw [hTW] at e3
      have z3 : SlimB TW := by rw [← hTW]; exact SlimB.app z2 HZS.out
      have l3 : TW.length = OW.length + 1 := by rw [← hTW, List.length_append, m1]
      obtain ⟨OT, hOT⟩ : ∃ x, TL ++ OW = x := ⟨_, rfl⟩
      rw [hOT] at e4
      have z4 : SlimB OT := by rw [← hOT]; exact SlimB.app HO2.out z2
      have l4 : OT.length = OW.length + 1 := by rw [← hOT, List.length_append, m2]; omega
      obtain ⟨FS, hFS⟩ : ∃ x, [((bl fa), (bl fb))] = x := ⟨_, rfl⟩
      have m3 : FS.length = 1 := by rw [← hFS]; rfl
      rw [hFS] at e5 e6 HFZ
      obtain ⟨FO, hFO⟩ : ∃ x, FS ++ OW = x := ⟨_, rfl⟩
      rw [hFO] at e5
      have z5 : SlimB FO := by rw [← hFO]; exact SlimB.app HFZ.out z2
      have l5 : FO.length = OW.length + 1 := by rw [← hFO, List.length_append, m3]; omega
      obtain ⟨FL, hFL⟩ : ∃ x, FS ++ ls = x := ⟨_, rfl⟩
      rw [hFL] at e6
      have z6 : SlimB FL := by rw [← hFL]; exact SlimB.app HFZ.out HZls.out
      have l6 : FL.length = ls.length + 1 := by rw [← hFL, List.length_append, m3]; omega
      have HBBR := Lib.hid (show BR.length ≤ n by have := HBls.out; omega)
      obtain ⟨nBR, hlBR⟩ : ∃ k, BR.length = k := ⟨_, rfl⟩
      have HLBR := Lib.hid hlBR
      have HKBR := Lib.hid (show nBR * 32 ≤ 140737488355328 by have := HBBR.out; have := HM.out; omega)
      have HBOW := Lib.hid (show OW.length ≤ n + 1 by have := HBls.out; omega)
      obtain ⟨nOW, hlOW⟩ : ∃ k, OW.length = k := ⟨_, rfl⟩
      have HLOW := Lib.hid hlOW
      have HKOW := Lib.hid (show nOW * 32 ≤ 140737488355328 by have := HBOW.out; have := HM.out; omega)
      have HBTW := Lib.hid (show TW.length ≤ n + 2 by have := HBls.out; omega)
      obtain ⟨nTW, hlTW⟩ : ∃ k, TW.length = k := ⟨_, rfl⟩
      have HLTW := Lib.hid hlTW
      have HKTW := Lib.hid (show nTW * 32 ≤ 140737488355328 by have := HBTW.out; have := HM.out; omega)
      have HBOT := Lib.hid (show OT.length ≤ n + 2 by have := HBls.out; omega)
      obtain ⟨nOT, hlOT⟩ : ∃ k, OT.length = k := ⟨_, rfl⟩
      have HLOT := Lib.hid hlOT
      have HKOT := Lib.hid (show nOT * 32 ≤ 140737488355328 by have := HBOT.out; have := HM.out; omega)
      have HBFO := Lib.hid (show FO.length ≤ n + 2 by have := HBls.out; omega)
      obtain ⟨nFO, hlFO⟩ : ∃ k, FO.length = k := ⟨_, rfl⟩
      have HLFO := Lib.hid hlFO
      have HKFO := Lib.hid (show nFO * 32 ≤ 140737488355328 by have := HBFO.out; have := HM.out; omega)
      have HBFL := Lib.hid (show FL.length ≤ n + 1 by have := HBls.out; omega)
      obtain ⟨nFL, hlFL⟩ : ∃ k, FL.length = k := ⟨_, rfl⟩
      have HLFL := Lib.hid hlFL
      have HKFL := Lib.hid (show nFL * 32 ≤ 140737488355328 by have := HBFL.out; have := HM.out; omega)
      have HBSL := Lib.hid (show SL.length ≤ 1 by have := HBls.out; omega)
      obtain ⟨nSL, hlSL⟩ : ∃ k, SL.length = k := ⟨_, rfl⟩
      have HLSL := Lib.hid hlSL
      have HKSL := Lib.hid (show nSL * 32 ≤ 140737488355328 by have := HBSL.out; have := HM.out; omega)
      have HBTL := Lib.hid (show TL.length ≤ 1 by have := HBls.out; omega)
      obtain ⟨nTL, hlTL⟩ : ∃ k, TL.length = k := ⟨_, rfl⟩
      have HLTL := Lib.hid hlTL
      have HKTL := Lib.hid (show nTL * 32 ≤ 140737488355328 by have := HBTL.out; have := HM.out; omega)
      have HBFS := Lib.hid (show FS.length ≤ 1 by have := HBls.out; omega)
      obtain ⟨nFS, hlFS⟩ : ∃ k, FS.length = k := ⟨_, rfl⟩
      have HLFS := Lib.hid hlFS
      have HKFS := Lib.hid (show nFS * 32 ≤ 140737488355328 by have := HBFS.out; have := HM.out; omega)
      have HZBR := Lib.hid z1
      have HZOW := Lib.hid z2
      have HZTW := Lib.hid z3
      have HZOT := Lib.hid z4
      have HZFO := Lib.hid z5
      have HZFL := Lib.hid z6
      have HEOW := Lib.hid hOW
      have HETW := Lib.hid hTW
      have HEOT := Lib.hid hOT
      have HEFO := Lib.hid hFO
      have HEFL := Lib.hid hFL
      have HFS := Lib.hid hFS
      have E1 := Lib.hid e1
      have E2 := Lib.hid e2
      have E3 := Lib.hid e3
      have E4 := Lib.hid e4
      have E5 := Lib.hid e5
      have E6 := Lib.hid e6
      have hn1 : nSL = 1 := by omega
      have hn2 : nTL = 1 := by omega
      have hn3 : nFS = 1 := by omega
      have HSF := Lib.hid hst
      clear hN0
      clear hBR hSL hTL hOW hTW hOT hFS hFO hFL e1 e2 e3 e4 e5 e6 z1 z2 z3 z4 z5 z6 l1 l2 l3 l4 l5 l6 m1 m2 m3 hlBR hlOW hlTW hlOT hlFO hlFL hlSL hlTL hlFS hgo hst
      subst hn1 hn2 hn3
      go_upto_region 1 with fail
      go_cut [18] (fun v wx => v = .bool false ∧ w1 = wx)
      case first =>
        clear H1 H2 HMY HOS HDR HO1 HSM E5 E6 HEQ HMA
        by_cases hlt : 0 < S.size
        · have e32 : ((S[0].toNat : Int) == 32) = false := by
            have := HSF.out hlt
            rwa [getElem!_pos S 0 hlt] at this
          go_wp2_with fail
          go_meet
          exact ⟨rfl, rfl⟩
        · have hz0 : S.size = 0 := by omega
          go_wp2_with fail
          go_meet
          exact ⟨rfl, rfl⟩
      case rest =>
        obtain ⟨rfl, rfl⟩ := hcut
        cases ha : holdsF (bl S) ls with
        | false =>
          have HA := Lib.hid ha
          rw [HA.out] at E6
          clear HEQ HMA ha
          generalize mayT (bl S) = m at *
          go_wp2_with fail
          have K8 := H1.out w1 A ls n c HLls.out HKls.out (HS.out.below B0.out) HZls.out
          rw [HA.out] at K8
          have K8 := Lib.hid K8
          refine (K8.out).mono ?_
          rintro e v1 ⟨rfl, b1⟩
          have B1 := Lib.hid (B0.out.trans (b1.mono B0.out.size))
          have I1 := Lib.hid (Acl.is_below I0.out b1)
          clear b1
          clear K8
          go_wp2_with fail
          have K9 := H1.out v1 A ls n c HLls.out HKls.out (HS.out.below B1.out) HZls.out
          rw [HA.out] at K9
          have K9 := Lib.hid K9
          refine (K9.out).mono ?_
          rintro e v2 ⟨rfl, b2⟩
          have B2 := Lib.hid (B1.out.trans (b2.mono B1.out.size))
          have I2 := Lib.hid (Acl.is_below I1.out b2)
          clear b2
          clear K9
          go_wp2_with fail
          have BW := Lib.hid ((Below.refl v2.heap.size v2).alloc (Nat.le_refl _) (.cells #[.string ⟨#[112, 114, 111, 120, 121, 45, 97, 117, 116, 104, 111, 114, 105, 122, 97, 116, 105, 111, 110]⟩] 9))
          refine (HDR.out v2 B2.out).mono ?_
          rintro e v3 ⟨uB, oB, rfl, ownB, geB, b3⟩
          have d3 := BW.out.trans (b3.mono BW.out.size)
          clear b3 geB
          have B3 := Lib.hid (B2.out.trans (d3.mono B2.out.size))
          have I3 := Lib.hid (Acl.is_below I2.out d3)
          clear d3
          obtain ⟨AB, cB, hvB⟩ := ownf_src ownB HLBR.out
          subst hvB
          have OB3 := Lib.hid ownB
          clear ownB BW
          obtain ⟨uC, v4, oC, hrC, ownC, tC, hoC⟩ := run_append_srcF v3 (.slice none 0 0) none [] BR (OwnF.nil _) AB nBR cB HLBR.out (ownf_at OB3.out) (by have := HM.out; have := HBBR.out; simp only [List.length_nil]; omega)
          rw [(List.nil_append BR)] at ownC
          have GEC : Hid (∀ b, oC = some b → w.heap.size ≤ b) := Lib.hid (fun b hb => by rcases hoC with h | h; (rw [h] at hb; cases hb); (rw [h] at hb; injection hb with hb; have := B3.out.size; omega))
          have NIC := Lib.hid (fun (h2 : oC = some w.heap.size) => (by have := I3.out.lt; rcases hoC with h | h; (rw [h] at h2; cases h2); (rw [h] at h2; injection h2 with h2; omega) : False))
          have NEBC := Lib.hid (fun (k : Nat) (h1 : oB = some k) (h2 : oC = some k) => (by have := OB3.out.own_lt k h1; rcases hoC with h | h; (rw [h] at h2; cases h2); (rw [h] at h2; injection h2 with h2; omega) : False))
          have B4 := Lib.hid (own_turn B3.out (fun _ h => by cases h) tC (o' := none) (fun _ h => by cases h)).1
          have OB4 := Lib.hid (ownf_turn OB3.out tC (fun _ _ h => by cases h))
          have I4 := Lib.hid (I3.out.kept tC (fun h => by cases h))
          obtain ⟨AC, cC, hvC⟩ := ownf_src ownC HLBR.out
          subst hvC
          have OC4 := Lib.hid ownC
          have HRC := Lib.hid hrC
          clear ownC hrC tC hoC
          go_wp2_with (at_builtin; refine append_by_x rfl (.const (.slice none 0 0)) (.tmp 47) 33 rfl _ _ (.slice AC nBR cC) v4 rfl rfl HRC.out ?_)
          refine (HOS.out v4).mono ?_
          rintro e v5 ⟨uD, oD, rfl, ownD, geD, b5⟩
          have NEBD := Lib.hid (fun (k : Nat) (h1 : oB = some k) (h2 : oD = some k) => (by have := OB4.out.own_lt k h1; have := geD k h2; omega : False))
          have NECD := Lib.hid (fun (k : Nat) (h1 : oC = some k) (h2 : oD = some k) => (by have := OC4.out.own_lt k h1; have := geD k h2; omega : False))
          have GED : Hid (∀ b, oD = some b → w.heap.size ≤ b) := Lib.hid (fun b hb => Nat.le_trans B4.out.size (geD b hb))
          have NID := Lib.hid (fun (h : oD = some w.heap.size) => (by have := geD _ h; have := I4.out.lt; omega : False))
          have B5 := Lib.hid (B4.out.trans (b5.mono B4.out.size))
          have OB5 := Lib.hid (ownf_below OB4.out b5)
          have OC5 := Lib.hid (ownf_below OC4.out b5)
          have I5 := Lib.hid (Acl.is_below I4.out b5)
          clear b5
          obtain ⟨AD, cD, hvD⟩ := ownf_src ownD HLSL.out
          subst hvD
          have OD5 := Lib.hid ownD
          clear ownD geD
          obtain ⟨uE, v6, oE, hrE, ownE, tE, hoE⟩ := run_append_srcF v5 (.slice AC nBR cC) oC BR SL OC5.out AD 1 cD HLSL.out (ownf_at OD5.out) (by have := HM.out; have := HBSL.out; have := HBBR.out; omega)
          rw [HEOW.out] at ownE
          have B6 := Lib.hid (own_turn B5.out GEC.out tE (o' := none) (fun _ h => by cases h)).1
          have OB6 := Lib.hid (ownf_turn OB5.out tE NEBC.out)
          have OD6 := Lib.hid (ownf_turn OD5.out tE (fun k a b => NECD.out k b a))
          have I6 := Lib.hid (I5.out.kept tE (NIC.out))
          obtain ⟨AE, cE, hvE⟩ := ownf_src ownE HLOW.out
          subst hvE
          have OE6 := Lib.hid ownE
          have HRE := Lib.hid hrE
          clear ownE hrE tE hoE
          go_wp2_with (at_builtin; refine append_by_x rfl (.tmp 48) (.tmp 50) 33 rfl _ _ (.slice AE nOW cE) v6 rfl rfl HRE.out ?_)
          have K1 := H1.out v6 AB BR nBR cB HLBR.out HKBR.out (ownf_at OB6.out) HZBR.out
          rw [E1.out] at K1
          have K1 := Lib.hid K1
          refine (K1.out).mono ?_
          rintro e v7 ⟨rfl, b7⟩
          have B7 := Lib.hid (B6.out.trans (b7.mono B6.out.size))
          have OB7 := Lib.hid (ownf_below OB6.out b7)
          have OE7 := Lib.hid (ownf_below OE6.out b7)
          have I7 := Lib.hid (Acl.is_below I6.out b7)
          clear b7
          clear K1
          go_wp2_with fail
          have K2 := H1.out v7 AE OW nOW cE HLOW.out HKOW.out (ownf_at OE7.out) HZOW.out
          rw [E2.out] at K2
          have K2 := Lib.hid K2
          refine (K2.out).mono ?_
          rintro e v8 ⟨rfl, b8⟩
          have B8 := Lib.hid (B7.out.trans (b8.mono B7.out.size))
          have OE8 := Lib.hid (ownf_below OE7.out b8)
          have I8 := Lib.hid (Acl.is_below I7.out b8)
          clear b8
          clear K2
          go_wp2_with fail
          refine (HMY.out v8).mono ?_
          rintro e v9 ⟨rfl, b9⟩
          have B9 := Lib.hid (B8.out.trans (b9.mono B8.out.size))
          have OE9 := Lib.hid (ownf_below OE8.out b9)
          have I9 := Lib.hid (Acl.is_below I8.out b9)
          clear b9
          obtain ⟨uF, v10, oF, hrF, ownF, tF, hoF⟩ := run_append_srcF v9 (.slice none 0 0) none [] OW (OwnF.nil _) AE nOW cE HLOW.out (ownf_at OE9.out) (by have := HM.out; have := HBOW.out; simp only [List.length_nil]; omega)
          rw [(List.nil_append OW)] at ownF
          have GEF : Hid (∀ b, oF = some b → w.heap.size ≤ b) := Lib.hid (fun b hb => by rcases hoF with h | h; (rw [h] at hb; cases hb); (rw [h] at hb; injection hb with hb; have := B9.out.size; omega))
          have NIF := Lib.hid (fun (h2 : oF = some w.heap.size) => (by have := I9.out.lt; rcases hoF with h | h; (rw [h] at h2; cases h2); (rw [h] at h2; injection h2 with h2; omega) : False))
          have NEEF := Lib.hid (fun (k : Nat) (h1 : oE = some k) (h2 : oF = some k) => (by have := OE9.out.own_lt k h1; rcases hoF with h | h; (rw [h] at h2; cases h2); (rw [h] at h2; injection h2 with h2; omega) : False))
          have B10 := Lib.hid (own_turn B9.out (fun _ h => by cases h) tF (o' := none) (fun _ h => by cases h)).1
          have OE10 := Lib.hid (ownf_turn OE9.out tF (fun _ _ h => by cases h))
          have I10 := Lib.hid (I9.out.kept tF (fun h => by cases h))
          obtain ⟨AF, cF, hvF⟩ := ownf_src ownF HLOW.out
          subst hvF
          have OF10 := Lib.hid ownF
          have HRF := Lib.hid hrF
          clear ownF hrF tF hoF
          go_wp2_with (at_builtin; refine append_by_x rfl (.const (.slice none 0 0)) (.tmp 65) 33 rfl _ _ (.slice AF nOW cF) v10 rfl rfl HRF.out ?_)
          refine (HOS.out v10).mono ?_
          rintro e v11 ⟨uG, oG, rfl, ownG, geG, b11⟩
          have NEEG := Lib.hid (fun (k : Nat) (h1 : oE = some k) (h2 : oG = some k) => (by have := OE10.out.own_lt k h1; have := geG k h2; omega : False))
          have NEFG := Lib.hid (fun (k : Nat) (h1 : oF = some k) (h2 : oG = some k) => (by have := OF10.out.own_lt k h1; have := geG k h2; omega : False))
          have GEG : Hid (∀ b, oG = some b → w.heap.size ≤ b) := Lib.hid (fun b hb => Nat.le_trans B10.out.size (geG b hb))
          have NIG := Lib.hid (fun (h : oG = some w.heap.size) => (by have := geG _ h; have := I10.out.lt; omega : False))
          have B11 := Lib.hid (B10.out.trans (b11.mono B10.out.size))
          have OE11 := Lib.hid (ownf_below OE10.out b11)
          have OF11 := Lib.hid (ownf_below OF10.out b11)
          have I11 := Lib.hid (Acl.is_below I10.out b11)
          clear b11
          obtain ⟨AG, cG, hvG⟩ := ownf_src ownG HLSL.out
          subst hvG
          have OG11 := Lib.hid ownG
          clear ownG geG
          obtain ⟨uH, v12, oH, hrH, ownH, tH, hoH⟩ := run_append_srcF v11 (.slice AF nOW cF) oF OW SL OF11.out AG 1 cG HLSL.out (ownf_at OG11.out) (by have := HM.out; have := HBSL.out; have := HBOW.out; omega)
          rw [HETW.out] at ownH
          have B12 := Lib.hid (own_turn B11.out GEF.out tH (o' := none) (fun _ h => by cases h)).1
          have OE12 := Lib.hid (ownf_turn OE11.out tH NEEF.out)
          have OG12 := Lib.hid (ownf_turn OG11.out tH (fun k a b => NEFG.out k b a))
          have I12 := Lib.hid (I11.out.kept tH (NIF.out))
          obtain ⟨AH, cH, hvH⟩ := ownf_src ownH HLTW.out
          subst hvH
          have OH12 := Lib.hid ownH
          have HRH := Lib.hid hrH
          clear ownH hrH tH hoH
          go_wp2_with (at_builtin; refine append_by_x rfl (.tmp 66) (.tmp 68) 33 rfl _ _ (.slice AH nTW cH) v12 rfl rfl HRH.out ?_)
          have K3 := H1.out v12 AH TW nTW cH HLTW.out HKTW.out (ownf_at OH12.out) HZTW.out
          rw [E3.out] at K3
          have K3 := Lib.hid K3
          refine (K3.out).mono ?_
          rintro e v13 ⟨rfl, b13⟩
          have B13 := Lib.hid (B12.out.trans (b13.mono B12.out.size))
          have OE13 := Lib.hid (ownf_below OE12.out b13)
          have OH13 := Lib.hid (ownf_below OH12.out b13)
          have I13 := Lib.hid (Acl.is_below I12.out b13)
          clear b13
          clear K3
          go_wp2_with fail
          refine (HO1.out v13).mono ?_
          rintro e v14 ⟨uJ, oJ, rfl, ownJ, geJ, b14⟩
          have NEEJ := Lib.hid (fun (k : Nat) (h1 : oE = some k) (h2 : oJ = some k) => (by have := OE13.out.own_lt k h1; have := geJ k h2; omega : False))
          have GEJ : Hid (∀ b, oJ = some b → w.heap.size ≤ b) := Lib.hid (fun b hb => Nat.le_trans B13.out.size (geJ b hb))
          have NIJ := Lib.hid (fun (h : oJ = some w.heap.size) => (by have := geJ _ h; have := I13.out.lt; omega : False))
          have B14 := Lib.hid (B13.out.trans (b14.mono B13.out.size))
          have OE14 := Lib.hid (ownf_below OE13.out b14)
          have I14 := Lib.hid (Acl.is_below I13.out b14)
          clear b14
          obtain ⟨AJ, cJ, hvJ⟩ := ownf_src ownJ HLTL.out
          subst hvJ
          have OJ14 := Lib.hid ownJ
          clear ownJ geJ
          obtain ⟨uK, v15, oK, hrK, ownK, tK, hoK⟩ := run_append_srcF v14 (.slice AJ 1 cJ) oJ TL OW OJ14.out AE nOW cE HLOW.out (ownf_at OE14.out) (by have := HM.out; have := HBOW.out; have := HBTL.out; omega)
          rw [HEOT.out] at ownK
          have B15 := Lib.hid (own_turn B14.out GEJ.out tK (o' := none) (fun _ h => by cases h)).1
          have OE15 := Lib.hid (ownf_turn OE14.out tK NEEJ.out)
          have I15 := Lib.hid (I14.out.kept tK (NIJ.out))
          obtain ⟨AK, cK, hvK⟩ := ownf_src ownK HLOT.out
          subst hvK
          have OK15 := Lib.hid ownK
          have HRK := Lib.hid hrK
          clear ownK hrK tK hoK
          go_wp2_with (at_builtin; refine append_by_x rfl (.tmp 75) (.tmp 76) 33 rfl _ _ (.slice AK nOT cK) v15 rfl rfl HRK.out ?_)
          have K4 := H1.out v15 AK OT nOT cK HLOT.out HKOT.out (ownf_at OK15.out) HZOT.out
          rw [E4.out] at K4
          have K4 := Lib.hid K4
          refine (K4.out).mono ?_
          rintro e v16 ⟨rfl, b16⟩
          have B16 := Lib.hid (B15.out.trans (b16.mono B15.out.size))
          have OE16 := Lib.hid (ownf_below OE15.out b16)
          have OK16 := Lib.hid (ownf_below OK15.out b16)
          have I16 := Lib.hid (Acl.is_below I15.out b16)
          clear b16
          clear K4
          have x0 := I16.out.cell 0
          simp only [List.getElem?_cons_zero] at x0
          go_wp2_with fail
          cases hsm : sameN authN ((bl fa), (bl fb)) with
          | true =>
            rw [hsm] at HSM
            have E7 := Lib.hid (E5.out hsm)
            clear hsm x0
            refine (HSM.out v16).mono ?_
            rintro e v17 ⟨rfl, b17⟩
            have B17 := Lib.hid (B16.out.trans (b17.mono B16.out.size))
            have OE17 := Lib.hid (ownf_below OE16.out b17)
            have I17 := Lib.hid (Acl.is_below I16.out b17)
            clear b17
            have y0 := I17.out.cell 0
            have y1 := I17.out.cell 1
            simp only [List.getElem?_cons_zero, List.getElem?_cons_succ] at y0 y1
            have il := Is.made v17 39 (flds FS)
            rw [show flds FS = [.string fa, .string fb] by rw [← HFS.out]; simp [flds, strV, mk_bl]] at il
            have bl0 := (Below.refl v17.heap.size v17).alloc (Nat.le_refl _) (.cells #[.string fa, .string fb] 39)
            have ol : OwnF (v17.alloc (.cells #[.string fa, .string fb] 39)) (.slice (some ⟨v17.heap.size, 0, none⟩) 1 1) (some v17.heap.size) FS := by
              have := row_fld (L := FS) (by rw [show flds FS = [.string fa, .string fb] by rw [← HFS.out]; simp [flds, strV, mk_bl]]; exact il) (by rw [HLFS.out]; decide)
              rwa [HLFS.out] at this
            obtain ⟨uM, wM, oM, hrM, ownM, tM, hoM⟩ := run_append_srcF (v17.alloc (.cells #[.string fa, .string fb] 39)) _ _ FS OW ol AE nOW cE HLOW.out (ownf_at (ownf_below OE17.out bl0)) (by have := HM.out; have := HBOW.out; have := HBFS.out; omega)
            rw [HEFO.out] at ownM
            have BM := Lib.hid (own_turn (B17.out.trans (bl0.mono B17.out.size)) (fun b hb => by injection hb with hb; have := B17.out.size; omega) tM (o' := none) (fun _ h => by cases h)).1
            obtain ⟨AM, cM, hvM⟩ := ownf_src ownM HLFO.out
            subst hvM
            have OM := Lib.hid ownM
            have HRM := Lib.hid hrM
            clear ownM hrM tM hoM ol bl0 il
            go_wp2_with (at_builtin; refine append_by_x rfl (.tmp 85) (.tmp 86) 33 rfl _ _ (.slice AM nFO cM) wM rfl rfl HRM.out ?_)
            have K5 := H1.out wM AM FO nFO cM HLFO.out HKFO.out (ownf_at OM.out) HZFO.out
            rw [E7.out] at K5
            have K5 := Lib.hid K5
            refine (K5.out).mono ?_
            rintro e v18 ⟨rfl, b18⟩
            have B18 := Lib.hid (BM.out.trans (b18.mono BM.out.size))
            have OM18 := Lib.hid (ownf_below OM.out b18)
            clear b18
            go_wp2_with fail
            refine (wakes_any v18 (HP.out.below B18.out)).mono ?_
            rintro e v19 ⟨rfl, b19⟩
            have B19 := Lib.hid (B18.out.trans (b19.mono B18.out.size))
            clear b19
            go_wp2_with fail
            go_ret
            exact ⟨by first | rfl | simp, B19.out⟩
          | false =>
            rw [hsm] at HSM
            have E7 := Lib.hid (E6.out hsm)
            clear hsm x0
            refine (HSM.out v16).mono ?_
            rintro e v17 ⟨rfl, b17⟩
            have B17 := Lib.hid (B16.out.trans (b17.mono B16.out.size))
            have OE17 := Lib.hid (ownf_below OE16.out b17)
            have I17 := Lib.hid (Acl.is_below I16.out b17)
            clear b17
            have y0 := I17.out.cell 0
            have y1 := I17.out.cell 1
            simp only [List.getElem?_cons_zero, List.getElem?_cons_succ] at y0 y1
            have il := Is.made v17 39 (flds FS)
            rw [show flds FS = [.string fa, .string fb] by rw [← HFS.out]; simp [flds, strV, mk_bl]] at il
            have bl0 := (Below.refl v17.heap.size v17).alloc (Nat.le_refl _) (.cells #[.string fa, .string fb] 39)
            have ol : OwnF (v17.alloc (.cells #[.string fa, .string fb] 39)) (.slice (some ⟨v17.heap.size, 0, none⟩) 1 1) (some v17.heap.size) FS := by
              have := row_fld (L := FS) (by rw [show flds FS = [.string fa, .string fb] by rw [← HFS.out]; simp [flds, strV, mk_bl]]; exact il) (by rw [HLFS.out]; decide)
              rwa [HLFS.out] at this
            obtain ⟨uM, wM, oM, hrM, ownM, tM, hoM⟩ := run_append_srcF (v17.alloc (.cells #[.string fa, .string fb] 39)) _ _ FS ls ol A n c HLls.out ((HS.out.below B17.out).below bl0) (by have := HM.out; have := HBls.out; have := HBFS.out; omega)
            rw [HEFL.out] at ownM
            have BM := Lib.hid (own_turn (B17.out.trans (bl0.mono B17.out.size)) (fun b hb => by injection hb with hb; have := B17.out.size; omega) tM (o' := none) (fun _ h => by cases h)).1
            obtain ⟨AM, cM, hvM⟩ := ownf_src ownM HLFL.out
            subst hvM
            have OM := Lib.hid ownM
            have HRM := Lib.hid hrM
            clear ownM hrM tM hoM ol bl0 il
            go_wp2_with (at_builtin; refine append_by_x rfl (.tmp 95) (.tmp 96) 33 rfl _ _ (.slice AM nFL cM) wM rfl rfl HRM.out ?_)
            have K5 := H1.out wM AM FL nFL cM HLFL.out HKFL.out (ownf_at OM.out) HZFL.out
            rw [E7.out] at K5
            have K5 := Lib.hid K5
            refine (K5.out).mono ?_
            rintro e v18 ⟨rfl, b18⟩
            have B18 := Lib.hid (BM.out.trans (b18.mono BM.out.size))
            have OM18 := Lib.hid (ownf_below OM.out b18)
            clear b18
            go_wp2_with fail
            have K6 := H1.out v18 A ls n c HLls.out HKls.out (HS.out.below B18.out) HZls.out
            rw [HA.out] at K6
            have K6 := Lib.hid K6
            refine (K6.out).mono ?_
            rintro e v19 ⟨rfl, b19⟩
            have B19 := Lib.hid (B18.out.trans (b19.mono B18.out.size))
            clear b19
            go_wp2_with fail
            refine (wakes_any v19 (HP.out.below B19.out)).mono ?_
            rintro e v20 ⟨rfl, b20⟩
            have B20 := Lib.hid (B19.out.trans (b20.mono B19.out.size))
            clear b20
            go_wp2_with fail
            go_ret
            exact ⟨by first | rfl | simp, B20.out⟩
        | true =>
          have hm := HMA.out ha
          rw [hm] at HMY E2
          have HA := Lib.hid ha
          rw [HA.out] at E6
          cases hb : holdsF (bl oth) ls with
          | false =>
            have HBB := Lib.hid hb
            clear HEQ HMA ha hb hm
            go_wp2_with fail
            have K8 := H1.out w1 A ls n c HLls.out HKls.out (HS.out.below B0.out) HZls.out
            rw [HA.out] at K8
            have K8 := Lib.hid K8
            refine (K8.out).mono ?_
            rintro e v1 ⟨rfl, b1⟩
            have B1 := Lib.hid (B0.out.trans (b1.mono B0.out.size))
            have I1 := Lib.hid (Acl.is_below I0.out b1)
            clear b1
            clear K8
            go_wp2_with fail
            have K7 := H2.out v1 A ls n c HLls.out HKls.out (HS.out.below B1.out) HZls.out
            rw [HBB.out] at K7
            have K7 := Lib.hid K7
            refine (K7.out).mono ?_
            rintro e v2 ⟨rfl, b2⟩
            have B2 := Lib.hid (B1.out.trans (b2.mono B1.out.size))
            have I2 := Lib.hid (Acl.is_below I1.out b2)
            clear b2
            clear K7
            go_wp2_with fail
            have K9 := H1.out v2 A ls n c HLls.out HKls.out (HS.out.below B2.out) HZls.out
            rw [HA.out] at K9
            have K9 := Lib.hid K9
            refine (K9.out).mono ?_
            rintro e v3 ⟨rfl, b3⟩
            have B3 := Lib.hid (B2.out.trans (b3.mono B2.out.size))
            have I3 := Lib.hid (Acl.is_below I2.out b3)
            clear b3
            clear K9
            go_wp2_with fail
            refine (HMY.out v3).mono ?_
            rintro e v4 ⟨rfl, b4⟩
            have B4 := Lib.hid (B3.out.trans (b4.mono B3.out.size))
            have I4 := Lib.hid (Acl.is_below I3.out b4)
            clear b4
            go_wp2_with fail
            have BW := Lib.hid ((Below.refl v4.heap.size v4).alloc (Nat.le_refl _) (.cells #[.string ⟨#[112, 114, 111, 120, 121, 45, 97, 117, 116, 104, 111, 114, 105, 122, 97, 116, 105, 111, 110]⟩] 9))
            refine (HDR.out v4 B4.out).mono ?_
            rintro e v5 ⟨uB, oB, rfl, ownB, geB, b5⟩
            have d5 := BW.out.trans (b5.mono BW.out.size)
            clear b5 geB
            have B5 := Lib.hid (B4.out.trans (d5.mono B4.out.size))
            have I5 := Lib.hid (Acl.is_below I4.out d5)
            clear d5
            obtain ⟨AB, cB, hvB⟩ := ownf_src ownB HLBR.out
            subst hvB
            have OB5 := Lib.hid ownB
            clear ownB BW
            obtain ⟨uC, v6, oC, hrC, ownC, tC, hoC⟩ := run_append_srcF v5 (.slice none 0 0) none [] BR (OwnF.nil _) AB nBR cB HLBR.out (ownf_at OB5.out) (by have := HM.out; have := HBBR.out; simp only [List.length_nil]; omega)
            rw [(List.nil_append BR)] at ownC
            have GEC : Hid (∀ b, oC = some b → w.heap.size ≤ b) := Lib.hid (fun b hb => by rcases hoC with h | h; (rw [h] at hb; cases hb); (rw [h] at hb; injection hb with hb; have := B5.out.size; omega))
            have NIC := Lib.hid (fun (h2 : oC = some w.heap.size) => (by have := I5.out.lt; rcases hoC with h | h; (rw [h] at h2; cases h2); (rw [h] at h2; injection h2 with h2; omega) : False))
            have NEBC := Lib.hid (fun (k : Nat) (h1 : oB = some k) (h2 : oC = some k) => (by have := OB5.out.own_lt k h1; rcases hoC with h | h; (rw [h] at h2; cases h2); (rw [h] at h2; injection h2 with h2; omega) : False))
            have B6 := Lib.hid (own_turn B5.out (fun _ h => by cases h) tC (o' := none) (fun _ h => by cases h)).1
            have OB6 := Lib.hid (ownf_turn OB5.out tC (fun _ _ h => by cases h))
            have I6 := Lib.hid (I5.out.kept tC (fun h => by cases h))
            obtain ⟨AC, cC, hvC⟩ := ownf_src ownC HLBR.out
            subst hvC
            have OC6 := Lib.hid ownC
            have HRC := Lib.hid hrC
            clear ownC hrC tC hoC
            go_wp2_with (at_builtin; refine append_by_x rfl (.const (.slice none 0 0)) (.tmp 47) 33 rfl _ _ (.slice AC nBR cC) v6 rfl rfl HRC.out ?_)
            refine (HOS.out v6).mono ?_
            rintro e v7 ⟨uD, oD, rfl, ownD, geD, b7⟩
            have NEBD := Lib.hid (fun (k : Nat) (h1 : oB = some k) (h2 : oD = some k) => (by have := OB6.out.own_lt k h1; have := geD k h2; omega : False))
            have NECD := Lib.hid (fun (k : Nat) (h1 : oC = some k) (h2 : oD = some k) => (by have := OC6.out.own_lt k h1; have := geD k h2; omega : False))
            have GED : Hid (∀ b, oD = some b → w.heap.size ≤ b) := Lib.hid (fun b hb => Nat.le_trans B6.out.size (geD b hb))
            have NID := Lib.hid (fun (h : oD = some w.heap.size) => (by have := geD _ h; have := I6.out.lt; omega : False))
            have B7 := Lib.hid (B6.out.trans (b7.mono B6.out.size))
            have OB7 := Lib.hid (ownf_below OB6.out b7)
            have OC7 := Lib.hid (ownf_below OC6.out b7)
            have I7 := Lib.hid (Acl.is_below I6.out b7)
            clear b7
            obtain ⟨AD, cD, hvD⟩ := ownf_src ownD HLSL.out
            subst hvD
            have OD7 := Lib.hid ownD
            clear ownD geD
            obtain ⟨uE, v8, oE, hrE, ownE, tE, hoE⟩ := run_append_srcF v7 (.slice AC nBR cC) oC BR SL OC7.out AD 1 cD HLSL.out (ownf_at OD7.out) (by have := HM.out; have := HBSL.out; have := HBBR.out; omega)
            rw [HEOW.out] at ownE
            have B8 := Lib.hid (own_turn B7.out GEC.out tE (o' := none) (fun _ h => by cases h)).1
            have OB8 := Lib.hid (ownf_turn OB7.out tE NEBC.out)
            have OD8 := Lib.hid (ownf_turn OD7.out tE (fun k a b => NECD.out k b a))
            have I8 := Lib.hid (I7.out.kept tE (NIC.out))
            obtain ⟨AE, cE, hvE⟩ := ownf_src ownE HLOW.out
            subst hvE
            have OE8 := Lib.hid ownE
            have HRE := Lib.hid hrE
            clear ownE hrE tE hoE
            go_wp2_with (at_builtin; refine append_by_x rfl (.tmp 48) (.tmp 50) 33 rfl _ _ (.slice AE nOW cE) v8 rfl rfl HRE.out ?_)
            have K1 := H1.out v8 AB BR nBR cB HLBR.out HKBR.out (ownf_at OB8.out) HZBR.out
            rw [E1.out] at K1
            have K1 := Lib.hid K1
            refine (K1.out).mono ?_
            rintro e v9 ⟨rfl, b9⟩
            have B9 := Lib.hid (B8.out.trans (b9.mono B8.out.size))
            have OB9 := Lib.hid (ownf_below OB8.out b9)
            have OE9 := Lib.hid (ownf_below OE8.out b9)
            have I9 := Lib.hid (Acl.is_below I8.out b9)
            clear b9
            clear K1
            go_wp2_with fail
            have K2 := H1.out v9 AE OW nOW cE HLOW.out HKOW.out (ownf_at OE9.out) HZOW.out
            rw [E2.out] at K2
            have K2 := Lib.hid K2
            refine (K2.out).mono ?_
            rintro e v10 ⟨rfl, b10⟩
            have B10 := Lib.hid (B9.out.trans (b10.mono B9.out.size))
            have OE10 := Lib.hid (ownf_below OE9.out b10)
            have I10 := Lib.hid (Acl.is_below I9.out b10)
            clear b10
            clear K2
            go_wp2_with fail
            refine (HMY.out v10).mono ?_
            rintro e v11 ⟨rfl, b11⟩
            have B11 := Lib.hid (B10.out.trans (b11.mono B10.out.size))
            have OE11 := Lib.hid (ownf_below OE10.out b11)
            have I11 := Lib.hid (Acl.is_below I10.out b11)
            clear b11
            obtain ⟨uF, v12, oF, hrF, ownF, tF, hoF⟩ := run_append_srcF v11 (.slice none 0 0) none [] OW (OwnF.nil _) AE nOW cE HLOW.out (ownf_at OE11.out) (by have := HM.out; have := HBOW.out; simp only [List.length_nil]; omega)
            rw [(List.nil_append OW)] at ownF
            have GEF : Hid (∀ b, oF = some b → w.heap.size ≤ b) := Lib.hid (fun b hb => by rcases hoF with h | h; (rw [h] at hb; cases hb); (rw [h] at hb; injection hb with hb; have := B11.out.size; omega))
            have NIF := Lib.hid (fun (h2 : oF = some w.heap.size) => (by have := I11.out.lt; rcases hoF with h | h; (rw [h] at h2; cases h2); (rw [h] at h2; injection h2 with h2; omega) : False))
            have NEEF := Lib.hid (fun (k : Nat) (h1 : oE = some k) (h2 : oF = some k) => (by have := OE11.out.own_lt k h1; rcases hoF with h | h; (rw [h] at h2; cases h2); (rw [h] at h2; injection h2 with h2; omega) : False))
            have B12 := Lib.hid (own_turn B11.out (fun _ h => by cases h) tF (o' := none) (fun _ h => by cases h)).1
            have OE12 := Lib.hid (ownf_turn OE11.out tF (fun _ _ h => by cases h))
            have I12 := Lib.hid (I11.out.kept tF (fun h => by cases h))
            obtain ⟨AF, cF, hvF⟩ := ownf_src ownF HLOW.out
            subst hvF
            have OF12 := Lib.hid ownF
            have HRF := Lib.hid hrF
            clear ownF hrF tF hoF
            go_wp2_with (at_builtin; refine append_by_x rfl (.const (.slice none 0 0)) (.tmp 65) 33 rfl _ _ (.slice AF nOW cF) v12 rfl rfl HRF.out ?_)
            refine (HOS.out v12).mono ?_
            rintro e v13 ⟨uG, oG, rfl, ownG, geG, b13⟩
            have NEEG := Lib.hid (fun (k : Nat) (h1 : oE = some k) (h2 : oG = some k) => (by have := OE12.out.own_lt k h1; have := geG k h2; omega : False))
            have NEFG := Lib.hid (fun (k : Nat) (h1 : oF = some k) (h2 : oG = some k) => (by have := OF12.out.own_lt k h1; have := geG k h2; omega : False))
            have GEG : Hid (∀ b, oG = some b → w.heap.size ≤ b) := Lib.hid (fun b hb => Nat.le_trans B12.out.size (geG b hb))
            have NIG := Lib.hid (fun (h : oG = some w.heap.size) => (by have := geG _ h; have := I12.out.lt; omega : False))
            have B13 := Lib.hid (B12.out.trans (b13.mono B12.out.size))
            have OE13 := Lib.hid (ownf_below OE12.out b13)
            have OF13 := Lib.hid (ownf_below OF12.out b13)
            have I13 := Lib.hid (Acl.is_below I12.out b13)
            clear b13
            obtain ⟨AG, cG, hvG⟩ := ownf_src ownG HLSL.out
            subst hvG
            have OG13 := Lib.hid ownG
            clear ownG geG
            obtain ⟨uH, v14, oH, hrH, ownH, tH, hoH⟩ := run_append_srcF v13 (.slice AF nOW cF) oF OW SL OF13.out AG 1 cG HLSL.out (ownf_at OG13.out) (by have := HM.out; have := HBSL.out; have := HBOW.out; omega)
            rw [HETW.out] at ownH
            have B14 := Lib.hid (own_turn B13.out GEF.out tH (o' := none) (fun _ h => by cases h)).1
            have OE14 := Lib.hid (ownf_turn OE13.out tH NEEF.out)
            have OG14 := Lib.hid (ownf_turn OG13.out tH (fun k a b => NEFG.out k b a))
            have I14 := Lib.hid (I13.out.kept tH (NIF.out))
            obtain ⟨AH, cH, hvH⟩ := ownf_src ownH HLTW.out
            subst hvH
            have OH14 := Lib.hid ownH
            have HRH := Lib.hid hrH
            clear ownH hrH tH hoH
            go_wp2_with (at_builtin; refine append_by_x rfl (.tmp 66) (.tmp 68) 33 rfl _ _ (.slice AH nTW cH) v14 rfl rfl HRH.out ?_)
            have K3 := H1.out v14 AH TW nTW cH HLTW.out HKTW.out (ownf_at OH14.out) HZTW.out
            rw [E3.out] at K3
            have K3 := Lib.hid K3
            refine (K3.out).mono ?_
            rintro e v15 ⟨rfl, b15⟩
            have B15 := Lib.hid (B14.out.trans (b15.mono B14.out.size))
            have OE15 := Lib.hid (ownf_below OE14.out b15)
            have OH15 := Lib.hid (ownf_below OH14.out b15)
            have I15 := Lib.hid (Acl.is_below I14.out b15)
            clear b15
            clear K3
            go_wp2_with fail
            refine (HO1.out v15).mono ?_
            rintro e v16 ⟨uJ, oJ, rfl, ownJ, geJ, b16⟩
            have NEEJ := Lib.hid (fun (k : Nat) (h1 : oE = some k) (h2 : oJ = some k) => (by have := OE15.out.own_lt k h1; have := geJ k h2; omega : False))
            have GEJ : Hid (∀ b, oJ = some b → w.heap.size ≤ b) := Lib.hid (fun b hb => Nat.le_trans B15.out.size (geJ b hb))
            have NIJ := Lib.hid (fun (h : oJ = some w.heap.size) => (by have := geJ _ h; have := I15.out.lt; omega : False))
            have B16 := Lib.hid (B15.out.trans (b16.mono B15.out.size))
            have OE16 := Lib.hid (ownf_below OE15.out b16)
            have I16 := Lib.hid (Acl.is_below I15.out b16)
            clear b16
            obtain ⟨AJ, cJ, hvJ⟩ := ownf_src ownJ HLTL.out
            subst hvJ
            have OJ16 := Lib.hid ownJ
            clear ownJ geJ
            obtain ⟨uK, v17, oK, hrK, ownK, tK, hoK⟩ := run_append_srcF v16 (.slice AJ 1 cJ) oJ TL OW OJ16.out AE nOW cE HLOW.out (ownf_at OE16.out) (by have := HM.out; have := HBOW.out; have := HBTL.out; omega)
            rw [HEOT.out] at ownK
            have B17 := Lib.hid (own_turn B16.out GEJ.out tK (o' := none) (fun _ h => by cases h)).1
            have OE17 := Lib.hid (ownf_turn OE16.out tK NEEJ.out)
            have I17 := Lib.hid (I16.out.kept tK (NIJ.out))
            obtain ⟨AK, cK, hvK⟩ := ownf_src ownK HLOT.out
            subst hvK
            have OK17 := Lib.hid ownK
            have HRK := Lib.hid hrK
            clear ownK hrK tK hoK
            go_wp2_with (at_builtin; refine append_by_x rfl (.tmp 75) (.tmp 76) 33 rfl _ _ (.slice AK nOT cK) v17 rfl rfl HRK.out ?_)
            have K4 := H1.out v17 AK OT nOT cK HLOT.out HKOT.out (ownf_at OK17.out) HZOT.out
            rw [E4.out] at K4
            have K4 := Lib.hid K4
            refine (K4.out).mono ?_
            rintro e v18 ⟨rfl, b18⟩
            have B18 := Lib.hid (B17.out.trans (b18.mono B17.out.size))
            have OE18 := Lib.hid (ownf_below OE17.out b18)
            have OK18 := Lib.hid (ownf_below OK17.out b18)
            have I18 := Lib.hid (Acl.is_below I17.out b18)
            clear b18
            clear K4
            have x0 := I18.out.cell 0
            simp only [List.getElem?_cons_zero] at x0
            go_wp2_with fail
            cases hsm : sameN authN ((bl fa), (bl fb)) with
            | true =>
              rw [hsm] at HSM
              have E7 := Lib.hid (E5.out hsm)
              clear hsm x0
              refine (HSM.out v18).mono ?_
              rintro e v19 ⟨rfl, b19⟩
              have B19 := Lib.hid (B18.out.trans (b19.mono B18.out.size))
              have OE19 := Lib.hid (ownf_below OE18.out b19)
              have I19 := Lib.hid (Acl.is_below I18.out b19)
              clear b19
              have y0 := I19.out.cell 0
              have y1 := I19.out.cell 1
              simp only [List.getElem?_cons_zero, List.getElem?_cons_succ] at y0 y1
              have il := Is.made v19 39 (flds FS)
              rw [show flds FS = [.string fa, .string fb] by rw [← HFS.out]; simp [flds, strV, mk_bl]] at il
              have bl0 := (Below.refl v19.heap.size v19).alloc (Nat.le_refl _) (.cells #[.string fa, .string fb] 39)
              have ol : OwnF (v19.alloc (.cells #[.string fa, .string fb] 39)) (.slice (some ⟨v19.heap.size, 0, none⟩) 1 1) (some v19.heap.size) FS := by
                have := row_fld (L := FS) (by rw [show flds FS = [.string fa, .string fb] by rw [← HFS.out]; simp [flds, strV, mk_bl]]; exact il) (by rw [HLFS.out]; decide)
                rwa [HLFS.out] at this
              obtain ⟨uM, wM, oM, hrM, ownM, tM, hoM⟩ := run_append_srcF (v19.alloc (.cells #[.string fa, .string fb] 39)) _ _ FS OW ol AE nOW cE HLOW.out (ownf_at (ownf_below OE19.out bl0)) (by have := HM.out; have := HBOW.out; have := HBFS.out; omega)
              rw [HEFO.out] at ownM
              have BM := Lib.hid (own_turn (B19.out.trans (bl0.mono B19.out.size)) (fun b hb => by injection hb with hb; have := B19.out.size; omega) tM (o' := none) (fun _ h => by cases h)).1
              obtain ⟨AM, cM, hvM⟩ := ownf_src ownM HLFO.out
              subst hvM
              have OM := Lib.hid ownM
              have HRM := Lib.hid hrM
              clear ownM hrM tM hoM ol bl0 il
              go_wp2_with (at_builtin; refine append_by_x rfl (.tmp 85) (.tmp 86) 33 rfl _ _ (.slice AM nFO cM) wM rfl rfl HRM.out ?_)
              have K5 := H1.out wM AM FO nFO cM HLFO.out HKFO.out (ownf_at OM.out) HZFO.out
              rw [E7.out] at K5
              have K5 := Lib.hid K5
              refine (K5.out).mono ?_
              rintro e v20 ⟨rfl, b20⟩
              have B20 := Lib.hid (BM.out.trans (b20.mono BM.out.size))
              have OM20 := Lib.hid (ownf_below OM.out b20)
              clear b20
              go_wp2_with fail
              refine (wakes_any v20 (HP.out.below B20.out)).mono ?_
              rintro e v21 ⟨rfl, b21⟩
              have B21 := Lib.hid (B20.out.trans (b21.mono B20.out.size))
              clear b21
              go_wp2_with fail
              go_ret
              exact ⟨by first | rfl | simp, B21.out⟩
            | false =>
              rw [hsm] at HSM
              have E7 := Lib.hid (E6.out hsm)
              clear hsm x0
              refine (HSM.out v18).mono ?_
              rintro e v19 ⟨rfl, b19⟩
              have B19 := Lib.hid (B18.out.trans (b19.mono B18.out.size))
              have OE19 := Lib.hid (ownf_below OE18.out b19)
              have I19 := Lib.hid (Acl.is_below I18.out b19)
              clear b19
              have y0 := I19.out.cell 0
              have y1 := I19.out.cell 1
              simp only [List.getElem?_cons_zero, List.getElem?_cons_succ] at y0 y1
              have il := Is.made v19 39 (flds FS)
              rw [show flds FS = [.string fa, .string fb] by rw [← HFS.out]; simp [flds, strV, mk_bl]] at il
              have bl0 := (Below.refl v19.heap.size v19).alloc (Nat.le_refl _) (.cells #[.string fa, .string fb] 39)
              have ol : OwnF (v19.alloc (.cells #[.string fa, .string fb] 39)) (.slice (some ⟨v19.heap.size, 0, none⟩) 1 1) (some v19.heap.size) FS := by
                have := row_fld (L := FS) (by rw [show flds FS = [.string fa, .string fb] by rw [← HFS.out]; simp [flds, strV, mk_bl]]; exact il) (by rw [HLFS.out]; decide)
                rwa [HLFS.out] at this
              obtain ⟨uM, wM, oM, hrM, ownM, tM, hoM⟩ := run_append_srcF (v19.alloc (.cells #[.string fa, .string fb] 39)) _ _ FS ls ol A n c HLls.out ((HS.out.below B19.out).below bl0) (by have := HM.out; have := HBls.out; have := HBFS.out; omega)
              rw [HEFL.out] at ownM
              have BM := Lib.hid (own_turn (B19.out.trans (bl0.mono B19.out.size)) (fun b hb => by injection hb with hb; have := B19.out.size; omega) tM (o' := none) (fun _ h => by cases h)).1
              obtain ⟨AM, cM, hvM⟩ := ownf_src ownM HLFL.out
              subst hvM
              have OM := Lib.hid ownM
              have HRM := Lib.hid hrM
              clear ownM hrM tM hoM ol bl0 il
              go_wp2_with (at_builtin; refine append_by_x rfl (.tmp 95) (.tmp 96) 33 rfl _ _ (.slice AM nFL cM) wM rfl rfl HRM.out ?_)
              have K5 := H1.out wM AM FL nFL cM HLFL.out HKFL.out (ownf_at OM.out) HZFL.out
              rw [E7.out] at K5
              have K5 := Lib.hid K5
              refine (K5.out).mono ?_
              rintro e v20 ⟨rfl, b20⟩
              have B20 := Lib.hid (BM.out.trans (b20.mono BM.out.size))
              have OM20 := Lib.hid (ownf_below OM.out b20)
              clear b20
              go_wp2_with fail
              have K6 := H1.out v20 A ls n c HLls.out HKls.out (HS.out.below B20.out) HZls.out
              rw [HA.out] at K6
              have K6 := Lib.hid K6
              refine (K6.out).mono ?_
              rintro e v21 ⟨rfl, b21⟩
              have B21 := Lib.hid (B20.out.trans (b21.mono B20.out.size))
              clear b21
              go_wp2_with fail
              refine (wakes_any v21 (HP.out.below B21.out)).mono ?_
              rintro e v22 ⟨rfl, b22⟩
              have B22 := Lib.hid (B21.out.trans (b22.mono B21.out.size))
              clear b22
              go_wp2_with fail
              go_ret
              exact ⟨by first | rfl | simp, B22.out⟩
          | true =>
            have HBB := Lib.hid hb
            have he : S.toList = oth.toList := beq_iff_eq.1 (HEQ.out ha hb)
            clear HEQ HMA ha hb hm
            go_wp2_with fail
            have K8 := H1.out w1 A ls n c HLls.out HKls.out (HS.out.below B0.out) HZls.out
            rw [HA.out] at K8
            have K8 := Lib.hid K8
            refine (K8.out).mono ?_
            rintro e v1 ⟨rfl, b1⟩
            have B1 := Lib.hid (B0.out.trans (b1.mono B0.out.size))
            have I1 := Lib.hid (Acl.is_below I0.out b1)
            clear b1
            clear K8
            go_wp2_with fail
            have K7 := H2.out v1 A ls n c HLls.out HKls.out (HS.out.below B1.out) HZls.out
            rw [HBB.out] at K7
            have K7 := Lib.hid K7
            refine (K7.out).mono ?_
            rintro e v2 ⟨rfl, b2⟩
            have B2 := Lib.hid (B1.out.trans (b2.mono B1.out.size))
            have I2 := Lib.hid (Acl.is_below I1.out b2)
            clear b2
            clear K7
            go_wp2_with fail
            have K9 := H1.out v2 A ls n c HLls.out HKls.out (HS.out.below B2.out) HZls.out
            rw [HA.out] at K9
            have K9 := Lib.hid K9
            refine (K9.out).mono ?_
            rintro e v3 ⟨rfl, b3⟩
            have B3 := Lib.hid (B2.out.trans (b3.mono B2.out.size))
            have I3 := Lib.hid (Acl.is_below I2.out b3)
            clear b3
            clear K9
            go_wp2_with fail
            refine (HMY.out v3).mono ?_
            rintro e v4 ⟨rfl, b4⟩
            have B4 := Lib.hid (B3.out.trans (b4.mono B3.out.size))
            have I4 := Lib.hid (Acl.is_below I3.out b4)
            clear b4
            clear he
            go_wp2_with fail
            have BW := Lib.hid ((Below.refl v4.heap.size v4).alloc (Nat.le_refl _) (.cells #[.string ⟨#[112, 114, 111, 120, 121, 45, 97, 117, 116, 104, 111, 114, 105, 122, 97, 116, 105, 111, 110]⟩] 9))
            refine (HDR.out v4 B4.out).mono ?_
            rintro e v5 ⟨uB, oB, rfl, ownB, geB, b5⟩
            have d5 := BW.out.trans (b5.mono BW.out.size)
            clear b5 geB
            have B5 := Lib.hid (B4.out.trans (d5.mono B4.out.size))
            have I5 := Lib.hid (Acl.is_below I4.out d5)
            clear d5
            obtain ⟨AB, cB, hvB⟩ := ownf_src ownB HLBR.out
            subst hvB
            have OB5 := Lib.hid ownB
            clear ownB BW
            obtain ⟨uC, v6, oC, hrC, ownC, tC, hoC⟩ := run_append_srcF v5 (.slice none 0 0) none [] BR (OwnF.nil _) AB nBR cB HLBR.out (ownf_at OB5.out) (by have := HM.out; have := HBBR.out; simp only [List.length_nil]; omega)
            rw [(List.nil_append BR)] at ownC
            have GEC : Hid (∀ b, oC = some b → w.heap.size ≤ b) := Lib.hid (fun b hb => by rcases hoC with h | h; (rw [h] at hb; cases hb); (rw [h] at hb; injection hb with hb; have := B5.out.size; omega))
            have NIC := Lib.hid (fun (h2 : oC = some w.heap.size) => (by have := I5.out.lt; rcases hoC with h | h; (rw [h] at h2; cases h2); (rw [h] at h2; injection h2 with h2; omega) : False))
            have NEBC := Lib.hid (fun (k : Nat) (h1 : oB = some k) (h2 : oC = some k) => (by have := OB5.out.own_lt k h1; rcases hoC with h | h; (rw [h] at h2; cases h2); (rw [h] at h2; injection h2 with h2; omega) : False))
            have B6 := Lib.hid (own_turn B5.out (fun _ h => by cases h) tC (o' := none) (fun _ h => by cases h)).1
            have OB6 := Lib.hid (ownf_turn OB5.out tC (fun _ _ h => by cases h))
            have I6 := Lib.hid (I5.out.kept tC (fun h => by cases h))
            obtain ⟨AC, cC, hvC⟩ := ownf_src ownC HLBR.out
            subst hvC
            have OC6 := Lib.hid ownC
            have HRC := Lib.hid hrC
            clear ownC hrC tC hoC
            go_wp2_with (at_builtin; refine append_by_x rfl (.const (.slice none 0 0)) (.tmp 47) 33 rfl _ _ (.slice AC nBR cC) v6 rfl rfl HRC.out ?_)
            refine (HOS.out v6).mono ?_
            rintro e v7 ⟨uD, oD, rfl, ownD, geD, b7⟩
            have NEBD := Lib.hid (fun (k : Nat) (h1 : oB = some k) (h2 : oD = some k) => (by have := OB6.out.own_lt k h1; have := geD k h2; omega : False))
            have NECD := Lib.hid (fun (k : Nat) (h1 : oC = some k) (h2 : oD = some k) => (by have := OC6.out.own_lt k h1; have := geD k h2; omega : False))
            have GED : Hid (∀ b, oD = some b → w.heap.size ≤ b) := Lib.hid (fun b hb => Nat.le_trans B6.out.size (geD b hb))
            have NID := Lib.hid (fun (h : oD = some w.heap.size) => (by have := geD _ h; have := I6.out.lt; omega : False))
            have B7 := Lib.hid (B6.out.trans (b7.mono B6.out.size))
            have OB7 := Lib.hid (ownf_below OB6.out b7)
            have OC7 := Lib.hid (ownf_below OC6.out b7)
            have I7 := Lib.hid (Acl.is_below I6.out b7)
            clear b7
            obtain ⟨AD, cD, hvD⟩ := ownf_src ownD HLSL.out
            subst hvD
            have OD7 := Lib.hid ownD
            clear ownD geD
            obtain ⟨uE, v8, oE, hrE, ownE, tE, hoE⟩ := run_append_srcF v7 (.slice AC nBR cC) oC BR SL OC7.out AD 1 cD HLSL.out (ownf_at OD7.out) (by have := HM.out; have := HBSL.out; have := HBBR.out; omega)
            rw [HEOW.out] at ownE
            have B8 := Lib.hid (own_turn B7.out GEC.out tE (o' := none) (fun _ h => by cases h)).1
            have OB8 := Lib.hid (ownf_turn OB7.out tE NEBC.out)
            have OD8 := Lib.hid (ownf_turn OD7.out tE (fun k a b => NECD.out k b a))
            have I8 := Lib.hid (I7.out.kept tE (NIC.out))
            obtain ⟨AE, cE, hvE⟩ := ownf_src ownE HLOW.out
            subst hvE
            have OE8 := Lib.hid ownE
            have HRE := Lib.hid hrE
            clear ownE hrE tE hoE
            go_wp2_with (at_builtin; refine append_by_x rfl (.tmp 48) (.tmp 50) 33 rfl _ _ (.slice AE nOW cE) v8 rfl rfl HRE.out ?_)
            have K1 := H1.out v8 AB BR nBR cB HLBR.out HKBR.out (ownf_at OB8.out) HZBR.out
            rw [E1.out] at K1
            have K1 := Lib.hid K1
            refine (K1.out).mono ?_
            rintro e v9 ⟨rfl, b9⟩
            have B9 := Lib.hid (B8.out.trans (b9.mono B8.out.size))
            have OB9 := Lib.hid (ownf_below OB8.out b9)
            have OE9 := Lib.hid (ownf_below OE8.out b9)
            have I9 := Lib.hid (Acl.is_below I8.out b9)
            clear b9
            clear K1
            go_wp2_with fail
            have K2 := H1.out v9 AE OW nOW cE HLOW.out HKOW.out (ownf_at OE9.out) HZOW.out
            rw [E2.out] at K2
            have K2 := Lib.hid K2
            refine (K2.out).mono ?_
            rintro e v10 ⟨rfl, b10⟩
            have B10 := Lib.hid (B9.out.trans (b10.mono B9.out.size))
            have OE10 := Lib.hid (ownf_below OE9.out b10)
            have I10 := Lib.hid (Acl.is_below I9.out b10)
            clear b10
            clear K2
            go_wp2_with fail
            refine (HMY.out v10).mono ?_
            rintro e v11 ⟨rfl, b11⟩
            have B11 := Lib.hid (B10.out.trans (b11.mono B10.out.size))
            have OE11 := Lib.hid (ownf_below OE10.out b11)
            have I11 := Lib.hid (Acl.is_below I10.out b11)
            clear b11
            obtain ⟨uF, v12, oF, hrF, ownF, tF, hoF⟩ := run_append_srcF v11 (.slice none 0 0) none [] OW (OwnF.nil _) AE nOW cE HLOW.out (ownf_at OE11.out) (by have := HM.out; have := HBOW.out; simp only [List.length_nil]; omega)
            rw [(List.nil_append OW)] at ownF
            have GEF : Hid (∀ b, oF = some b → w.heap.size ≤ b) := Lib.hid (fun b hb => by rcases hoF with h | h; (rw [h] at hb; cases hb); (rw [h] at hb; injection hb with hb; have := B11.out.size; omega))
            have NIF := Lib.hid (fun (h2 : oF = some w.heap.size) => (by have := I11.out.lt; rcases hoF with h | h; (rw [h] at h2; cases h2); (rw [h] at h2; injection h2 with h2; omega) : False))
            have NEEF := Lib.hid (fun (k : Nat) (h1 : oE = some k) (h2 : oF = some k) => (by have := OE11.out.own_lt k h1; rcases hoF with h | h; (rw [h] at h2; cases h2); (rw [h] at h2; injection h2 with h2; omega) : False))
            have B12 := Lib.hid (own_turn B11.out (fun _ h => by cases h) tF (o' := none) (fun _ h => by cases h)).1
            have OE12 := Lib.hid (ownf_turn OE11.out tF (fun _ _ h => by cases h))
            have I12 := Lib.hid (I11.out.kept tF (fun h => by cases h))
            obtain ⟨AF, cF, hvF⟩ := ownf_src ownF HLOW.out
            subst hvF
            have OF12 := Lib.hid ownF
            have HRF := Lib.hid hrF
            clear ownF hrF tF hoF
            go_wp2_with (at_builtin; refine append_by_x rfl (.const (.slice none 0 0)) (.tmp 65) 33 rfl _ _ (.slice AF nOW cF) v12 rfl rfl HRF.out ?_)
            refine (HOS.out v12).mono ?_
            rintro e v13 ⟨uG, oG, rfl, ownG, geG, b13⟩
            have NEEG := Lib.hid (fun (k : Nat) (h1 : oE = some k) (h2 : oG = some k) => (by have := OE12.out.own_lt k h1; have := geG k h2; omega : False))
            have NEFG := Lib.hid (fun (k : Nat) (h1 : oF = some k) (h2 : oG = some k) => (by have := OF12.out.own_lt k h1; have := geG k h2; omega : False))
            have GEG : Hid (∀ b, oG = some b → w.heap.size ≤ b) := Lib.hid (fun b hb => Nat.le_trans B12.out.size (geG b hb))
            have NIG := Lib.hid (fun (h : oG = some w.heap.size) => (by have := geG _ h; have := I12.out.lt; omega : False))
            have B13 := Lib.hid (B12.out.trans (b13.mono B12.out.size))
            have OE13 := Lib.hid (ownf_below OE12.out b13)
            have OF13 := Lib.hid (ownf_below OF12.out b13)
            have I13 := Lib.hid (Acl.is_below I12.out b13)
            clear b13
            obtain ⟨AG, cG, hvG⟩ := ownf_src ownG HLSL.out
            subst hvG
            have OG13 := Lib.hid ownG
            clear ownG geG
            obtain ⟨uH, v14, oH, hrH, ownH, tH, hoH⟩ := run_append_srcF v13 (.slice AF nOW cF) oF OW SL OF13.out AG 1 cG HLSL.out (ownf_at OG13.out) (by have := HM.out; have := HBSL.out; have := HBOW.out; omega)
            rw [HETW.out] at ownH
            have B14 := Lib.hid (own_turn B13.out GEF.out tH (o' := none) (fun _ h => by cases h)).1
            have OE14 := Lib.hid (ownf_turn OE13.out tH NEEF.out)
            have OG14 := Lib.hid (ownf_turn OG13.out tH (fun k a b => NEFG.out k b a))
            have I14 := Lib.hid (I13.out.kept tH (NIF.out))
            obtain ⟨AH, cH, hvH⟩ := ownf_src ownH HLTW.out
            subst hvH
            have OH14 := Lib.hid ownH
            have HRH := Lib.hid hrH
            clear ownH hrH tH hoH
            go_wp2_with (at_builtin; refine append_by_x rfl (.tmp 66) (.tmp 68) 33 rfl _ _ (.slice AH nTW cH) v14 rfl rfl HRH.out ?_)
            have K3 := H1.out v14 AH TW nTW cH HLTW.out HKTW.out (ownf_at OH14.out) HZTW.out
            rw [E3.out] at K3
            have K3 := Lib.hid K3
            refine (K3.out).mono ?_
            rintro e v15 ⟨rfl, b15⟩
            have B15 := Lib.hid (B14.out.trans (b15.mono B14.out.size))
            have OE15 := Lib.hid (ownf_below OE14.out b15)
            have OH15 := Lib.hid (ownf_below OH14.out b15)
            have I15 := Lib.hid (Acl.is_below I14.out b15)
            clear b15
            clear K3
            go_wp2_with fail
            refine (HO1.out v15).mono ?_
            rintro e v16 ⟨uJ, oJ, rfl, ownJ, geJ, b16⟩
            have NEEJ := Lib.hid (fun (k : Nat) (h1 : oE = some k) (h2 : oJ = some k) => (by have := OE15.out.own_lt k h1; have := geJ k h2; omega : False))
            have GEJ : Hid (∀ b, oJ = some b → w.heap.size ≤ b) := Lib.hid (fun b hb => Nat.le_trans B15.out.size (geJ b hb))
            have NIJ := Lib.hid (fun (h : oJ = some w.heap.size) => (by have := geJ _ h; have := I15.out.lt; omega : False))
            have B16 := Lib.hid (B15.out.trans (b16.mono B15.out.size))
            have OE16 := Lib.hid (ownf_below OE15.out b16)
            have I16 := Lib.hid (Acl.is_below I15.out b16)
            clear b16
            obtain ⟨AJ, cJ, hvJ⟩ := ownf_src ownJ HLTL.out
            subst hvJ
            have OJ16 := Lib.hid ownJ
            clear ownJ geJ
            obtain ⟨uK, v17, oK, hrK, ownK, tK, hoK⟩ := run_append_srcF v16 (.slice AJ 1 cJ) oJ TL OW OJ16.out AE nOW cE HLOW.out (ownf_at OE16.out) (by have := HM.out; have := HBOW.out; have := HBTL.out; omega)
            rw [HEOT.out] at ownK
            have B17 := Lib.hid (own_turn B16.out GEJ.out tK (o' := none) (fun _ h => by cases h)).1
            have OE17 := Lib.hid (ownf_turn OE16.out tK NEEJ.out)
            have I17 := Lib.hid (I16.out.kept tK (NIJ.out))
            obtain ⟨AK, cK, hvK⟩ := ownf_src ownK HLOT.out
            subst hvK
            have OK17 := Lib.hid ownK
            have HRK := Lib.hid hrK
            clear ownK hrK tK hoK
            go_wp2_with (at_builtin; refine append_by_x rfl (.tmp 75) (.tmp 76) 33 rfl _ _ (.slice AK nOT cK) v17 rfl rfl HRK.out ?_)
            have K4 := H1.out v17 AK OT nOT cK HLOT.out HKOT.out (ownf_at OK17.out) HZOT.out
            rw [E4.out] at K4
            have K4 := Lib.hid K4
            refine (K4.out).mono ?_
            rintro e v18 ⟨rfl, b18⟩
            have B18 := Lib.hid (B17.out.trans (b18.mono B17.out.size))
            have OE18 := Lib.hid (ownf_below OE17.out b18)
            have OK18 := Lib.hid (ownf_below OK17.out b18)
            have I18 := Lib.hid (Acl.is_below I17.out b18)
            clear b18
            clear K4
            have x0 := I18.out.cell 0
            simp only [List.getElem?_cons_zero] at x0
            go_wp2_with fail
            cases hsm : sameN authN ((bl fa), (bl fb)) with
            | true =>
              rw [hsm] at HSM
              have E7 := Lib.hid (E5.out hsm)
              clear hsm x0
              refine (HSM.out v18).mono ?_
              rintro e v19 ⟨rfl, b19⟩
              have B19 := Lib.hid (B18.out.trans (b19.mono B18.out.size))
              have OE19 := Lib.hid (ownf_below OE18.out b19)
              have I19 := Lib.hid (Acl.is_below I18.out b19)
              clear b19
              have y0 := I19.out.cell 0
              have y1 := I19.out.cell 1
              simp only [List.getElem?_cons_zero, List.getElem?_cons_succ] at y0 y1
              have il := Is.made v19 39 (flds FS)
              rw [show flds FS = [.string fa, .string fb] by rw [← HFS.out]; simp [flds, strV, mk_bl]] at il
              have bl0 := (Below.refl v19.heap.size v19).alloc (Nat.le_refl _) (.cells #[.string fa, .string fb] 39)
              have ol : OwnF (v19.alloc (.cells #[.string fa, .string fb] 39)) (.slice (some ⟨v19.heap.size, 0, none⟩) 1 1) (some v19.heap.size) FS := by
                have := row_fld (L := FS) (by rw [show flds FS = [.string fa, .string fb] by rw [← HFS.out]; simp [flds, strV, mk_bl]]; exact il) (by rw [HLFS.out]; decide)
                rwa [HLFS.out] at this
              obtain ⟨uM, wM, oM, hrM, ownM, tM, hoM⟩ := run_append_srcF (v19.alloc (.cells #[.string fa, .string fb] 39)) _ _ FS OW ol AE nOW cE HLOW.out (ownf_at (ownf_below OE19.out bl0)) (by have := HM.out; have := HBOW.out; have := HBFS.out; omega)
              rw [HEFO.out] at ownM
              have BM := Lib.hid (own_turn (B19.out.trans (bl0.mono B19.out.size)) (fun b hb => by injection hb with hb; have := B19.out.size; omega) tM (o' := none) (fun _ h => by cases h)).1
              obtain ⟨AM, cM, hvM⟩ := ownf_src ownM HLFO.out
              subst hvM
              have OM := Lib.hid ownM
              have HRM := Lib.hid hrM
              clear ownM hrM tM hoM ol bl0 il
              go_wp2_with (at_builtin; refine append_by_x rfl (.tmp 85) (.tmp 86) 33 rfl _ _ (.slice AM nFO cM) wM rfl rfl HRM.out ?_)
              have K5 := H1.out wM AM FO nFO cM HLFO.out HKFO.out (ownf_at OM.out) HZFO.out
              rw [E7.out] at K5
              have K5 := Lib.hid K5
              refine (K5.out).mono ?_
              rintro e v20 ⟨rfl, b20⟩
              have B20 := Lib.hid (BM.out.trans (b20.mono BM.out.size))
              have OM20 := Lib.hid (ownf_below OM.out b20)
              clear b20
              go_wp2_with fail
              refine (wakes_any v20 (HP.out.below B20.out)).mono ?_
              rintro e v21 ⟨rfl, b21⟩
              have B21 := Lib.hid (B20.out.trans (b21.mono B20.out.size))
              clear b21
              go_wp2_with fail
              go_ret
              exact ⟨by first | rfl | simp, B21.out⟩
            | false =>
              rw [hsm] at HSM
              have E7 := Lib.hid (E6.out hsm)
              clear hsm x0
              refine (HSM.out v18).mono ?_
              rintro e v19 ⟨rfl, b19⟩
              have B19 := Lib.hid (B18.out.trans (b19.mono B18.out.size))
              have OE19 := Lib.hid (ownf_below OE18.out b19)
              have I19 := Lib.hid (Acl.is_below I18.out b19)
              clear b19
              have y0 := I19.out.cell 0
              have y1 := I19.out.cell 1
              simp only [List.getElem?_cons_zero, List.getElem?_cons_succ] at y0 y1
              have il := Is.made v19 39 (flds FS)
              rw [show flds FS = [.string fa, .string fb] by rw [← HFS.out]; simp [flds, strV, mk_bl]] at il
              have bl0 := (Below.refl v19.heap.size v19).alloc (Nat.le_refl _) (.cells #[.string fa, .string fb] 39)
              have ol : OwnF (v19.alloc (.cells #[.string fa, .string fb] 39)) (.slice (some ⟨v19.heap.size, 0, none⟩) 1 1) (some v19.heap.size) FS := by
                have := row_fld (L := FS) (by rw [show flds FS = [.string fa, .string fb] by rw [← HFS.out]; simp [flds, strV, mk_bl]]; exact il) (by rw [HLFS.out]; decide)
                rwa [HLFS.out] at this
              obtain ⟨uM, wM, oM, hrM, ownM, tM, hoM⟩ := run_append_srcF (v19.alloc (.cells #[.string fa, .string fb] 39)) _ _ FS ls ol A n c HLls.out ((HS.out.below B19.out).below bl0) (by have := HM.out; have := HBls.out; have := HBFS.out; omega)
              rw [HEFL.out] at ownM
              have BM := Lib.hid (own_turn (B19.out.trans (bl0.mono B19.out.size)) (fun b hb => by injection hb with hb; have := B19.out.size; omega) tM (o' := none) (fun _ h => by cases h)).1
              obtain ⟨AM, cM, hvM⟩ := ownf_src ownM HLFL.out
              subst hvM
              have OM := Lib.hid ownM
              have HRM := Lib.hid hrM
              clear ownM hrM tM hoM ol bl0 il
              go_wp2_with (at_builtin; refine append_by_x rfl (.tmp 95) (.tmp 96) 33 rfl _ _ (.slice AM nFL cM) wM rfl rfl HRM.out ?_)
              have K5 := H1.out wM AM FL nFL cM HLFL.out HKFL.out (ownf_at OM.out) HZFL.out
              rw [E7.out] at K5
              have K5 := Lib.hid K5
              refine (K5.out).mono ?_
              rintro e v20 ⟨rfl, b20⟩
              have B20 := Lib.hid (BM.out.trans (b20.mono BM.out.size))
              have OM20 := Lib.hid (ownf_below OM.out b20)
              clear b20
              go_wp2_with fail
              have K6 := H1.out v20 A ls n c HLls.out HKls.out (HS.out.below B20.out) HZls.out
              rw [HA.out] at K6
              have K6 := Lib.hid K6
              refine (K6.out).mono ?_
              rintro e v21 ⟨rfl, b21⟩
              have B21 := Lib.hid (B20.out.trans (b21.mono B20.out.size))
              clear b21
              go_wp2_with fail
              refine (wakes_any v21 (HP.out.below B21.out)).mono ?_
              rintro e v22 ⟨rfl, b22⟩
              have B22 := Lib.hid (B21.out.trans (b22.mono B21.out.size))
              clear b22
              go_wp2_with fail
              go_ret
              exact ⟨by first | rfl | simp, B22.out⟩
end Go.Proofs.YtopanahgeeolbaaGreatDoor.Aut
