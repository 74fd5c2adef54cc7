/-
  Package hop's Elements, and the document's own.
  Conditions: the list holds at most 1000000000 bytes.
-/
import Derived.Test.YtdcbcjljmjnopaaGreatDoorKF
import Derived.Test.YtdcbcjljmjnopaaGreatDoorVC
import Derived.Test.YtdcbcjljmjnopaaGreatDoorUE
namespace Go.Proofs.YtdcbcjljmjnopaaGreatDoor
open Go.RowKit





end Go.Proofs.YtdcbcjljmjnopaaGreatDoor

namespace Go.Proofs.YtdcbcjljmjnopaaGreatDoor.Hop
open Go.RowKit

theorem flat_snoc (gl : List (List UInt8)) (k : Nat) (x : List UInt8) (h : gl[k]? = some x) : (gl.take (k + 1)).flatMap listF = (gl.take k).flatMap listF ++ listF x := by
  rw [take_snoc gl k x h, List.flatMap_append]
  simp
theorem flat_le (gl : List (List UInt8)) (k : Nat) : ((gl.take k).flatMap listF).length ≤ (gl.flatMap listF).length := by
  conv => rhs; rw [← List.take_append_drop k gl, List.flatMap_append, List.length_append]
  omega
/-- What Elements asks of a list: texts that may be, few fields and elements of that name. -/
structure Few (ls : List Fld) (nm : List UInt8) : Prop where
  len : ls.length * 32 ≤ 140737488355328
  slim : SlimB ls
  gets : (getF ls nm).length ≤ 1000000000
  part : ∀ x ∈ getF ls nm, x.length ≤ 1000000000
  elems : (elemF ls nm).length ≤ 1000000000
  each : ∀ x ∈ elemF ls nm, x.length ≤ 1000000000
theorem few_bulk {ls : List Fld} (h : bulkF ls ≤ 1000000000) (nm : List UInt8) : Few ls nm := by
  have h1 := bulk_len ls
  have h2 := get_len ls nm
  have h3 := elem_bulk nm ls
  exact ⟨by omega, (slim_bulk h).b, by omega, fun x hx => by have := get_part hx; omega, by omega, fun x hx => by have := elem_part hx; omega⟩
set_option maxHeartbeats 4000000 in
set_option maxRecDepth 100000 in
theorem elem_anyB {P : Nat → Prop} (w : World) (A : Option Addr) (ls : List Fld) (n c : Nat) (hn : ls.length = n) (h : SrcF w P A ls) (nm : ByteArray) (hf : Few ls (bl nm)) :
    Calls Tryz.prog 59 #[.slice A n c, .string nm] w (Lists (elemF ls (bl nm)) w) := by
  have CG := get_anyB w A ls n c hn (by rw [← hn]; exact hf.len) h hf.slim nm
  obtain ⟨gl, hgl⟩ : ∃ gl, getF ls (bl nm) = gl := ⟨_, rfl⟩
  have hgn : gl.length ≤ 1000000000 := by have := hf.gets; rw [hgl] at this; exact this
  have HGP := Lib.hid (show ∀ x ∈ gl, x.length ≤ 1000000000 by
    intro x hx
    rw [← hgl] at hx
    exact hf.part x hx)
  have HE := Lib.hid (show elemF ls (bl nm) = gl.flatMap listF by unfold elemF; rw [hgl])
  have HTL := Lib.hid (show (gl.flatMap listF).length ≤ 1000000000 by
    have := hf.elems
    rw [HE.out] at this
    exact this)
  rw [hgl] at CG
  rw [HE.out]
  clear hn hf h hgl HE
  go_enter Tryz.func59, Tryz.ntmps59
  go_wp2_with fail
  refine CG.mono ?_
  rintro e w1 ⟨v1, o1, rfl, own1, _, b1⟩
  obtain ⟨A1, c1, hv1, src1⟩ := own1.src (fun _ => True) (fun _ _ => trivial)
  subst hv1
  have H1 := Lib.hid src1
  have B1 := Lib.hid b1
  clear own1 src1 b1 CG
  obtain ⟨m, hm⟩ : ∃ m, gl.length = m := ⟨_, rfl⟩
  rw [hm] at hgn ⊢
  have HM := Lib.hid hm
  clear hm
  go_wp2_with fail
  go_loopw [5, 12] (fun v vi wr => ∃ (k : Nat) (o : Option Nat) (r : List (List UInt8)), vi = .int .i64 (k : Int) ∧ k ≤ m ∧ Hid ((gl.take k).flatMap listF = r) ∧ Hid (OwnS wr v o r) ∧ Hid (∀ b, o = some b → w1.heap.size ≤ b) ∧ Hid (Below w1.heap.size w1 wr)) (fun _ vi _ => m - (intOf vi).toNat)
  case atStart => exact ⟨0, none, [], rfl, Nat.zero_le _, Lib.hid rfl, Lib.hid (OwnS.nil _), Lib.hid (fun _ h => by cases h), Lib.hid (Below.refl _ _)⟩
  case round =>
    obtain ⟨k, o, r, rfl, hk, HR, HO, HOB, HB⟩ := hrel
    by_cases hlt : k < m
    · obtain ⟨p, x, hx, hat, y0, _, _⟩ := H1.out.at (c := c1) HM.out hlt HB.out
      have HTK := Lib.hid (show (gl.take (k + 1)).flatMap listF = r ++ listF x by rw [flat_snoc gl k x hx, HR.out])
      have HTN := Lib.hid (show r.length + (listF x).length ≤ 1000000000 by
        have h1 := flat_le gl (k + 1)
        rw [HTK.out, List.length_append] at h1
        have := HTL.out
        omega)
      obtain ⟨Xs, hXs⟩ : ∃ Xs : ByteArray, Xs = ⟨x.toArray⟩ := ⟨_, rfl⟩
      have hbx : bl Xs = x := by rw [hXs, bl_mk]
      have hxs : Xs.size ≤ 1000000000 := by rw [← bl_length, hbx]; exact HGP.out x (List.mem_of_getElem? hx)
      have CL := Lib.hid (fun W : World => tx_list Xs W hxs)
      rw [hbx] at CL
      rw [← hXs] at y0
      clear hXs hbx hxs hx
      go_wp2_with fail
      refine (CL.out _).mono ?_
      rintro e w2 ⟨v2, o2, rfl, own2, _, b2⟩
      obtain ⟨A2, c2, hv2, src2⟩ := own2.src (fun _ => True) (fun _ _ => trivial)
      subst hv2
      have B2 := Lib.hid (HB.out.trans (b2.mono HB.out.size))
      have O2 := Lib.hid (HO.out.kept (Turn.of_below (S := fun _ => False) b2) (fun _ _ h => h))
      obtain ⟨v', w', o', hrun, own', t', ho'⟩ := run_append_strs w2 _ o r (listF x) O2.out A2 (listF x).length c2 rfl src2 (by have := HTN.out; omega)
      have HR5 := Lib.hid hrun
      have OO := Lib.hid own'
      have TT := Lib.hid (own_turn B2.out HOB.out t' (fun b hb => by
        rcases ho' b hb with h | h
        · exact .inl h
        · exact .inr h))
      clear hrun own' t' ho' own2 src2 b2 B2 O2 HB
      generalize (listF x).length = q at *
      go_wp2_with (at_builtin; refine append_by rfl (.tmp 16) (.tmp 18) 48 rfl _ _ v' w' rfl rfl HR5.out ?_)
      go_roundw
      case rel => exact ⟨k + 1, o', r ++ listF x, by go_num, hlt, HTK, OO, Lib.hid TT.out.2, Lib.hid TT.out.1⟩
      case measure => simp [intOf]; omega
    · have HQ := Lib.hid (show gl.flatMap listF = r by rw [← HR.out, List.take_of_length_le (by rw [HM.out]; omega)])
      go_wp2_with fail
      go_ret
      rw [HQ.out]
      exact ⟨_, o, rfl, HO.out, fun b hb => Nat.le_trans B1.out.size (HOB.out b hb), B1.out.trans (HB.out.mono B1.out.size)⟩

theorem elem_any {P : Nat → Prop} (w : World) (A : Option Addr) (ls : List Fld) (n c : Nat) (hn : ls.length = n) (hb : bulkF ls ≤ 1000000000) (h : SrcF w P A ls) (nm : ByteArray) :
    Calls Tryz.prog 59 #[.slice A n c, .string nm] w (Lists (elemF ls (bl nm)) w) := elem_anyB w A ls n c hn h nm (few_bulk hb _)
theorem elem_snoc (ls : List Fld) (nm : List UInt8) (k : Nat) (f : Fld) (h : ls[k]? = some f) : elemF (ls.take (k + 1)) nm = elemF (ls.take k) nm ++ (if (lowF f.1 == lowF nm) = true then listF f.2 else []) := by
  rw [take_snoc ls k f h, elem_app, elem_one]
theorem elem_le (ls : List Fld) (nm : List UInt8) (k : Nat) : (elemF (ls.take k) nm).length ≤ (elemF ls nm).length := by
  conv => rhs; rw [← List.take_append_drop k ls, elem_app, List.length_append]
  omega
set_option maxHeartbeats 4000000 in
set_option maxRecDepth 100000 in
theorem relem_any {P : Nat → Prop} (w : World) (A : Option Addr) (ls : List Fld) (n c : Nat) (hn : ls.length = n) (hb : bulkF ls ≤ 1000000000) (h : SrcF w P A ls) (nm : ByteArray) (hnm : nm.size ≤ 140737488351232) :
    Calls Tryz.prog 43 #[.slice A n c, .string nm] w (Lists (elemF ls (bl nm)) w) := by
  have hlen := bulk_len ls
  have hn2 : n ≤ 1000000000 := by omega
  have HN := Lib.hid hn
  have H := Lib.hid h
  have HS := Lib.hid (show ∀ f ∈ ls, f.1.length ≤ 1000000000 ∧ f.2.length ≤ 1000000000 from fun f hf => by have := bulk_mem hf; omega)
  have HTL := Lib.hid (show (elemF ls (bl nm)).length ≤ 1000000000 by have := elem_bulk (bl nm) ls; omega)
  clear hn hb h hlen
  go_enter Tryz.func43, Tryz.ntmps43
  go_wp2_with fail
  go_loopw [5, 6] (fun v vi wr => ∃ (k : Nat) (o : Option Nat) (r : List (List UInt8)), vi = .int .i64 (k : Int) ∧ k ≤ n ∧ Hid (elemF (ls.take k) (bl nm) = r) ∧ Hid (OwnS wr v o r) ∧ Hid (∀ b, o = some b → w.heap.size ≤ b) ∧ Hid (Below w.heap.size w wr)) (fun _ vi _ => n - (intOf vi).toNat)
  case atStart => exact ⟨0, none, [], rfl, Nat.zero_le _, Lib.hid rfl, Lib.hid (OwnS.nil _), Lib.hid (fun _ h => by cases h), Lib.hid (Below.refl _ _)⟩
  case round =>
    obtain ⟨k, o, r, rfl, hk, HR, HO, HOB, HB⟩ := hrel
    by_cases hlt : k < n
    · obtain ⟨p, f, hf, hat, y0, y1, _, _⟩ := H.out.at (c := c) HN.out hlt HB.out
      obtain ⟨s1, s2⟩ := HS.out f (List.mem_of_getElem? hf)
      have HTK := Lib.hid (show elemF (ls.take (k + 1)) (bl nm) = r ++ (if (lowF f.1 == lowF (bl nm)) = true then listF f.2 else []) by rw [elem_snoc ls (bl nm) k f hf, HR.out])
      obtain ⟨Ns, hNs⟩ : ∃ Ns : ByteArray, Ns = ⟨f.1.toArray⟩ := ⟨_, rfl⟩
      have hbn : bl Ns = f.1 := by rw [hNs, bl_mk]
      obtain ⟨Xs, hXs⟩ : ∃ Xs : ByteArray, Xs = ⟨f.2.toArray⟩ := ⟨_, rfl⟩
      have hbx : bl Xs = f.2 := by rw [hXs, bl_mk]
      have CS := Lib.hid (fun W : World => same_any Ns nm W (by rw [← bl_length, hbn]; omega) hnm)
      have CL := Lib.hid (fun W : World => list_any Xs W (by rw [← bl_length, hbx]; exact s2))
      rw [hbn] at CS
      rw [hbx] at CL
      rw [← hNs] at y0
      rw [← hXs] at y1
      have HTN := Lib.hid (show (elemF (ls.take (k + 1)) (bl nm)).length ≤ 1000000000 by have := elem_le ls (bl nm) (k + 1); have := HTL.out; omega)
      clear hNs hbn hXs hbx hf s1 s2
      cases hsm : (lowF f.1 == lowF (bl nm)) with
      | false =>
        rw [hsm] at CS HTK
        clear hsm
        go_wp2_with fail
        refine (CS.out _).mono ?_
        rintro e w2 ⟨rfl, b2⟩
        have B2 := Lib.hid (HB.out.trans (b2.mono HB.out.size))
        have O2 := Lib.hid (HO.out.kept (Turn.of_below (S := fun _ => False) b2) (fun _ _ h => h))
        clear b2
        go_wp2_with fail
        go_roundw
        case rel => exact ⟨k + 1, o, r, by go_num, hlt, Lib.hid (by rw [HTK.out]; simp), O2, HOB, B2⟩
        case measure => simp [intOf]; omega
      | true =>
        rw [hsm] at CS HTK
        clear hsm
        rw [if_pos rfl] at HTK
        go_wp2_with fail
        refine (CS.out _).mono ?_
        rintro e w2 ⟨rfl, b2⟩
        have B2 := Lib.hid (HB.out.trans (b2.mono HB.out.size))
        have O2 := Lib.hid (HO.out.kept (Turn.of_below (S := fun _ => False) b2) (fun _ _ h => h))
        have y12 := (b2.cell (Lib.lt_of_cell y1)).trans y1
        clear b2 y0 y1
        go_wp2_with fail
        refine (CL.out _).mono ?_
        rintro e w3 ⟨v3, o3, rfl, own3, _, b3⟩
        obtain ⟨A3, c3, hv3, src3⟩ := own3.src (fun _ => True) (fun _ _ => trivial)
        subst hv3
        have B3 := Lib.hid (B2.out.trans (b3.mono B2.out.size))
        have O3 := Lib.hid (O2.out.kept (Turn.of_below (S := fun _ => False) b3) (fun _ _ h => h))
        obtain ⟨v', w', o', hrun, own', t', ho'⟩ := run_append_strs w3 _ o r (listF f.2) O3.out A3 (listF f.2).length c3 rfl src3 (by
          have h1 := HTN.out
          rw [HTK.out, List.length_append] at h1
          omega)
        have HR5 := Lib.hid hrun
        have OO := Lib.hid own'
        have TT := Lib.hid (own_turn B3.out HOB.out t' ho')
        clear hrun own' t' ho' own3 src3 b3 B3 O3 HB B2 O2 y12
        generalize (listF f.2).length = q at *
        go_wp2_with (at_builtin; refine append_by rfl (.tmp 20) (.tmp 26) 48 rfl _ _ v' w' rfl rfl HR5.out ?_)
        go_roundw
        case rel => exact ⟨k + 1, o', r ++ listF f.2, by go_num, hlt, HTK, OO, Lib.hid TT.out.2, Lib.hid TT.out.1⟩
        case measure => simp [intOf]; omega
    · have HQ := Lib.hid (show elemF ls (bl nm) = r by rw [← HR.out, List.take_of_length_le (by rw [HN.out]; omega)])
      go_wp2_with fail
      go_ret
      rw [HQ.out]
      exact ⟨_, o, rfl, HO.out, HOB.out, HB.out⟩
end Go.Proofs.YtdcbcjljmjnopaaGreatDoor.Hop
