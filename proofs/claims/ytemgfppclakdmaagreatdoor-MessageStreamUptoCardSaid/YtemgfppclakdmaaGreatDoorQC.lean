/-
  The law MessageStream: walk.
  Conditions: the landed code's contracts; what the argument reads; Go's table of powers of ten.
-/
import Derived.Test.YtemgfppclakdmaaGreatDoorQA
import Derived.Test.YtemgfppclakdmaaGreatDoorMZ
import Derived.Test.YtemgfppclakdmaaGreatDoorML
import Derived.Test.YtemgfppclakdmaaGreatDoorCO
import Derived.Deep.RegionHeld3
namespace Go.Proofs.YtemgfppclakdmaaGreatDoor
open Go.RowKit

theorem add_far (a : Addr) (i j : Nat) : (⟨(a.add i).block, (a.add i).off + (j + 1), none⟩ : Addr) = a.add (i + (j + 1)) := by
  unfold Addr.add
  by_cases hi : i = 0
  · subst hi; simp
  · simp [hi, Nat.add_assoc]
theorem SrcR.at {P : Nat → Prop} {w wr : World} {A : Option Addr} {L : List RqE} {n c k : Nat} (h : SrcR w P A L) (hn : L.length = n) (hlt : k < n) (hB : Below w.heap.size w wr) :
    ∃ (p : Addr) (r : RqE), L[k]? = some r ∧ (∀ Wx, (Instr.indexAt 52 (.slice A n c) (.int .i64 (k : Int))).run Tryz.prog Wx = .ok (.pointer (some p)) Wx) ∧
      wr.cell? p = some (.string r.m) ∧ wr.cell? ⟨p.block, p.off + 1, none⟩ = some (.string r.t) ∧ wr.cell? ⟨p.block, p.off + 2, none⟩ = some (.int .i64 r.k) ∧ wr.cell? ⟨p.block, p.off + 3, none⟩ = some (.slice r.A r.n r.c) ∧ wr.cell? ⟨p.block, p.off + 4, none⟩ = some (.slice r.D r.l r.d) := by
  obtain ⟨ad, hA, hP, hadb, hc⟩ := h (by omega)
  obtain ⟨r, hr⟩ : ∃ r, L[k]? = some r := ⟨L[k]'(by omega), List.getElem?_eq_getElem _⟩
  have key : ∀ j v, r.cells[j]? = some v → wr.cell? (ad.add (k * 5 + j)) = some v := fun j v hv => by
    have := hc k r hr j v hv
    exact (hB.cell (Lib.lt_of_cell this)).trans this
  refine ⟨ad.add (k * 5), r, hr, fun Wx => ?_, key 0 _ rfl, ?_, ?_, ?_, ?_⟩
  · rw [hA]
    exact run_at_size 52 25 5 Tryz.underlying52 reqSize ad n c k hlt Wx
  · rw [add_far _ _ 0]; exact key 1 _ rfl
  · rw [add_far _ _ 1]; exact key 2 _ rfl
  · rw [add_far _ _ 2]; exact key 3 _ rfl
  · rw [add_far _ _ 3]; exact key 4 _ rfl
/-- v1, of the loop's own, has the bytes b; v2, of its own too, and elsewhere, the requests L. -/
structure Str (w X : World) (v1 : Value) (o1 : Option Nat) (b : List UInt8) (v2 : Value) (o2 : Option Nat) (L : List RqE) : Prop where
  own : Own X v1 o1 b
  ownR : OwnR X v2 o2 L
  ne : ∀ k, o1 = some k → o2 ≠ some k
  far1 : ∀ k, o1 = some k → w.heap.size ≤ k
  far2 : ∀ k, o2 = some k → w.heap.size ≤ k
  low : Below w.heap.size w X
section
variable {w X : World} {v1 v2 : Value} {o1 o2 : Option Nat} {b : List UInt8} {L : List RqE}
theorem Str.below {X' : World} (h : Str w X v1 o1 b v2 o2 L) (hb : Below X.heap.size X X') : Str w X' v1 o1 b v2 o2 L :=
  ⟨h.own.kept (Turn.of_below (S := fun _ => False) hb) (fun _ _ h => h), h.ownR.kept (Turn.of_below (S := fun _ => False) hb) (fun _ _ h => h), h.ne, h.far1, h.far2, h.low.trans (hb.mono h.low.size)⟩
/-- append(v1, news...). -/
theorem Str.bytes (h : Str w X v1 o1 b v2 o2 L) (A : Option Addr) (news : List UInt8) (n c : Nat) (hn : news.length = n) (hs : Src X (fun _ => True) A news) (hlen : b.length + n ≤ 1000000) :
    ∃ (v' : Value) (w' : World) (o' : Option Nat), (Builtin.append_ #[22, 22] 22 #[v1, .slice A n c]).run Tryz.prog X = .ok v' w' ∧ Str w w' v' o' (b ++ news) v2 o2 L ∧ Turn (fun k => o1 = some k) X w' := by
  obtain ⟨v', w', o', r, own', t', f'⟩ := run_append_src X v1 o1 b news h.own A n c hn hs (by omega)
  refine ⟨v', w', o', r, ⟨own', h.ownR.kept t' (fun k hk e => h.ne k e hk), fun k hk e => ?_, fun k hk => ?_, h.far2, below_own h.low h.far1 t'⟩, t'⟩
  · rcases f' with f | f
    · exact h.ne k (by rw [← f]; exact hk) e
    · rw [f] at hk; injection hk with hk; have := h.ownR.lt k e; omega
  · rcases f' with f | f
    · exact h.far1 k (by rw [← f]; exact hk)
    · rw [f] at hk; injection hk with hk; have := h.low.size; omega
/-- append(v2, r), r laid in block g. -/
theorem Str.req (h : Str w X v1 o1 b v2 o2 L) (r : RqE) (g : Nat) (hg : Is X g 25 r.cells) (hlen : L.length ≤ 1000) :
    ∃ (v' : Value) (w' : World) (o' : Option Nat), (Builtin.append_ #[52, 52] 52 #[v2, .slice (some ⟨g, 0, none⟩) 1 1]).run Tryz.prog X = .ok v' w' ∧ Str w w' v1 o1 b v' o' (L ++ [r]) ∧ Turn (fun k => o2 = some k) X w' := by
  obtain ⟨v', w', o', hr, own', t', f'⟩ := run_push_req X v2 o2 L r h.ownR g hg hlen
  refine ⟨v', w', o', hr, ⟨h.own.kept t' (fun k hk e => h.ne k hk e), own', fun k hk e => ?_, h.far1, fun k hk => ?_, below_own h.low h.far2 t'⟩, t'⟩
  · rcases f' k e with f | f
    · exact h.ne k hk f
    · have := h.own.lt k hk; omega
  · rcases f' k hk with f | f
    · exact h.far2 k f
    · have := h.low.size; omega
end
end Go.Proofs.YtemgfppclakdmaaGreatDoor

namespace Go.Proofs.YtemgfppclakdmaaGreatDoor
open Go.RowKit

theorem take_put (L : List RqE) (k : Nat) (r : RqE) (h : L[k]? = some r) : inR (L.take (k + 1)) = inR (L.take k) ++ (if r.put.2 = 0 then r.put.1 else []) ∧ wantR (L.take (k + 1)) = wantR (L.take k) ++ (if r.put.2 = 0 then [r] else []) := by
  have e : L.take (k + 1) = L.take k ++ [r] := by rw [List.take_add_one, h]; rfl
  rw [e, inR_append, wantR_append, inR_one, wantR_one]
  exact ⟨rfl, rfl⟩
theorem drop_put (M : List RqE) (j : Nat) (r : RqE) (h : M[j]? = some r) (h0 : r.put.2 = 0) : inR (M.drop j) = r.put.1 ++ inR (M.drop (j + 1)) := by
  obtain ⟨hj, rfl⟩ := List.getElem?_eq_some_iff.1 h
  rw [List.drop_eq_getElem_cons hj, inR_cons, if_pos h0]
theorem putreq_ok {w X : World} {r : RqE} (h : r.Ok w) (hX : Below w.heap.size w X) (hp : Sta.PowT w) : Calls Tryz.prog 19 #[.agg #[.string r.m, .string r.t, .int .i64 r.k, .slice r.A r.n r.c, .slice r.D r.l r.d]] X (PutGot9F r.put X) :=
  putreq_land X r.m r.t r.k r.A r.D r.ls r.bs r.n r.c r.l r.d h.hn h.hl (by have := h.hm; omega) (by have := h.ht; omega) h.hk h.hb (by have := h.hd; omega) (h.f.below hX) (h.s.kept (Turn.of_below (S := fun _ => False) hX) (fun _ _ h => h)) (hp.below hX)
set_option maxHeartbeats 40000000 in
set_option maxRecDepth 100000 in
theorem stream9_law (HC : MsgC) (w : World) (A : Option Addr) (L : List RqE) (n c : Nat) (hn : L.length = n) (hs : SrcR w (fun _ => True) A L) (hok : ∀ r ∈ L, r.Ok w) (hp : Sta.PowT w) :
    Calls Tryz.prog 7 #[.slice A n c] w fun e w' => e = .returned (.bool true) ∧ Below w.heap.size w w' := by
  have HS := Lib.hid hs
  have HN := Lib.hid hn
  have HOK := Lib.hid hok
  have HP := Lib.hid hp
  have CW := Lib.hid (awake9_any HC w hp)
  clear hs hn hok hp
  go_enter Tryz.func7, Tryz.ntmps7
  go_wp2_with fail
  refine CW.out.mono ?_
  rintro e w1 ⟨rfl, b1⟩
  have B1 := Lib.hid b1
  clear b1 CW
  go_wp2_with fail
  go_loopw [3, 4, 5, 6, 7, 8, 18] (fun v3 v4 v5 v6 v7 v8 vi wr => ∃ (k : Nat) (o1 o2 : Option Nat), vi = .int .i64 (k : Int) ∧ k ≤ n ∧ k ≤ 12 ∧ Hid (Str w wr v3 o1 (inR (L.take k)) v4 o2 (wantR (L.take k)))) (fun _ _ _ _ _ _ vi _ => n - (intOf vi).toNat)
  case atStart => exact ⟨0, none, none, rfl, Nat.zero_le _, Nat.zero_le _, Lib.hid ⟨Own.nil _, OwnR.nil _, (fun _ h => by cases h), (fun _ h => by cases h), (fun _ h => by cases h), B1.out⟩⟩
  case round =>
    obtain ⟨k, o1, o2, rfl, hk, hk12, HM⟩ := hrel
    by_cases hlt : k < n
    · obtain ⟨p, r, hr, hat, y0, y1, y2, y3, y4⟩ := HS.out.at (c := c) HN.out hlt HM.out.low
      have bz : Below wr.heap.size wr (wr.alloc (.cells #[.string r.m, .string r.t, .int .i64 r.k, .slice r.A r.n r.c, .slice r.D r.l r.d] 25)) := (Below.refl _ _).alloc (Nat.le_refl _) _
      have M1 := Lib.hid (HM.out.below bz)
      have I1 := Lib.hid (Is.made wr 25 [.string r.m, .string r.t, .int .i64 r.k, .slice r.A r.n r.c, .slice r.D r.l r.d])
      by_cases h12 : k = 12
      · have e12 : ((k : Int) == 12) = true := by simp; omega
        have HK12 := Lib.hid h12
        clear h12 hr bz HM I1
        obtain ⟨wo, hwo⟩ : ∃ wo, wo = wr.alloc (.cells #[.string r.m, .string r.t, .int .i64 r.k, .slice r.A r.n r.c, .slice r.D r.l r.d] 25) := ⟨_, rfl⟩
        rw [← hwo] at M1
        obtain ⟨A1, c1, hv1, hc1, s1, _⟩ := M1.out.own.block
        obtain ⟨A2, c2, hv2, s2⟩ := M1.out.ownR.src (fun _ => True) (fun _ _ => trivial)
        subst hv1 hv2
        have hml := wantR_length (L.take k)
        have htl : (L.take k).length ≤ 12 := by rw [List.length_take]; omega
        have HMM := Lib.hid (fun (r : RqE) (h : r ∈ wantR (L.take k)) => (show r.put.2 = 0 ∧ r.Ok w from ⟨(wantR_mem h).2, HOK.out r (List.mem_of_mem_take (wantR_mem h).1)⟩))
        rw [← inR_want] at s1 hc1 ⊢
        obtain ⟨M, hM⟩ : ∃ M, wantR (L.take k) = M := ⟨_, rfl⟩
        rw [hM] at s1 s2 hc1 hml HMM ⊢
        obtain ⟨m, hm⟩ : ∃ m, M.length = m := ⟨_, rfl⟩
        rw [hm] at hml ⊢
        have hl1 := inR_length M
        rw [hm] at hl1
        obtain ⟨l0, hl0⟩ : ∃ l0, (inR M).length = l0 := ⟨_, rfl⟩
        rw [hl0] at hc1 hl1 ⊢
        have HL0 := Lib.hid hl0
        have HMl := Lib.hid hm
        have S1 := Lib.hid s1
        have S2 := Lib.hid s2
        have DD := Lib.hid M1.out.low
        have hm12 : m ≤ 12 := by omega
        clear hM hm hl0 s1 s2 M1 hml htl
        go_wp2_with fail
        rw [← hwo]
        clear hwo y0 y1 y2 y3 y4
        go_loopw [3, 10, 11, 12, 13, 42] (fun v3 v10 v11 v12 v13 vi wx => ∃ (j ln : Nat) (Aj : Option Addr) (cj : Nat), vi = .int .i64 (j : Int) ∧ j ≤ m ∧ v3 = .slice Aj ln cj ∧ ln ≤ cj ∧ Hid ((inR (M.drop j)).length = ln) ∧ Hid (Src wx (fun _ => True) Aj (inR (M.drop j))) ∧ Hid (Below wo.heap.size wo wx)) (fun _ _ _ _ _ vi _ => m - (intOf vi).toNat)
        case atStart => exact ⟨0, l0, A1, c1, rfl, Nat.zero_le _, rfl, hc1, HL0, S1, Lib.hid (Below.refl _ _)⟩
        case round =>
          obtain ⟨j, ln, Aj, cj, rfl, hj, rfl, hc, HL, HSj, HBj⟩ := hrel
          have BW := Lib.hid (DD.out.trans (HBj.out.mono DD.out.size))
          by_cases hjl : j < m
          · obtain ⟨p, r, hr, hat, y0, y1, y2, y3, y4⟩ := S2.out.at (c := c2) HMl.out hjl HBj.out
            obtain ⟨h0, hok⟩ := HMM.out r (List.mem_of_getElem? hr)
            have hdr := drop_put M j r hr h0
            obtain ⟨hq1, hq2, hq3⟩ := stream_head r (inR (M.drop (j + 1))) h0
            obtain ⟨u, hu⟩ : ∃ u, r.put.1.length = u := ⟨_, rfl⟩
            have hll := HL.out
            rw [hdr, List.length_append, hu] at hll
            obtain ⟨al, hal⟩ : ∃ al, withCL r.ls r.bs.length (decide (r.bs ≠ [])) = al := ⟨_, rfl⟩
            obtain ⟨nw, hnw⟩ : ∃ nw, al.length = nw := ⟨_, rfl⟩
            rw [hal] at hq1 hq3
            rw [hnw, hok.hn] at hq3
            have bz : Below wr.heap.size wr (wr.alloc (.cells #[.string r.m, .string r.t, .int .i64 r.k, .slice r.A r.n r.c, .slice r.D r.l r.d] 25)) := (Below.refl _ _).alloc (Nat.le_refl _) _
            have bwz := BW.out.trans (bz.mono BW.out.size)
            have CQ := Lib.hid ((HC.request (wr.alloc (.cells #[.string r.m, .string r.t, .int .i64 r.k, .slice r.A r.n r.c, .slice r.D r.l r.d] 25)) Aj (inR (M.drop j)) ln cj HL.out hc (by have := inR_length (M.drop j); rw [HL.out, List.length_drop, HMl.out] at this; omega) (HSj.out.kept (Turn.of_below (S := fun _ => False) bz) (fun _ _ h => h)) (HP.out.below bwz)).mono (fun _ _ h => h.told2))
            rw [hdr, hq1] at CQ
            unfold RqTold2 at CQ
            simp only [Option.getD_some, hq2, mk_bl, hnw, hu, hok.hl] at CQ
            obtain ⟨A6, hs6, hsrc6⟩ := run_tail8 Aj ln cj u (by omega) hc
            have S6 := Lib.hid (hsrc6 wr _ _ HL.out HSj.out)
            have hdd : (inR (M.drop j)).drop u = inR (M.drop (j + 1)) := by rw [hdr, ← hu, List.drop_left]
            rw [hdd] at S6
            have HL6 := Lib.hid (show (inR (M.drop (j + 1))).length = ln - u by omega)
            have I1 := Lib.hid (Is.made wr 25 [.string r.m, .string r.t, .int .i64 r.k, .slice r.A r.n r.c, .slice r.D r.l r.d])
            have OKR := Lib.hid hok
            have HRl := Lib.hid hok.hl
            clear hr h0 hok hdr hal hq1 hq2 hu hll hnw hsrc6 hdd HSj HL
            go_wp2_with fail
            refine CQ.out.mono ?_
            rintro e y5 ⟨Af5, cf5, Ab5, cb5, rfl, hcf, sf, sb, b5⟩
            have z5 : Below y5.heap.size y5 (y5.alloc (.cells #[.string r.m, .string r.t, .int .i64 r.k, .slice Af5 nw cf5, .slice Ab5 r.l cb5] 25)) := (Below.refl _ _).alloc (Nat.le_refl _) _
            have J1 := Lib.hid ((I1.out.kept (Turn.of_below (S := fun _ => False) b5) (fun h => h)).kept (Turn.of_below (S := fun _ => False) z5) (fun h => h))
            have J2 := Lib.hid (Is.made y5 25 [.string r.m, .string r.t, .int .i64 r.k, .slice Af5 nw cf5, .slice Ab5 r.l cb5])
            have b15 := bz.trans ((b5.trans (z5.mono b5.size)).mono bz.size)
            have BX := Lib.hid (BW.out.trans (b15.mono BW.out.size))
            have BO := Lib.hid (HBj.out.trans (b15.mono HBj.out.size))
            have S65 := Lib.hid (S6.out.kept (Turn.of_below (S := fun _ => False) b15) (fun _ _ h => h))
            have SB5 := Lib.hid (sb.kept (Turn.of_below (S := fun _ => False) z5) (fun _ _ h => h))
            clear b5 z5 b15 sf sb hcf CQ S6 I1 BW HBj bz bwz
            go_upto_region 17 with fail
            clear y0 y1 y2 y3 y4
            generalize y5.alloc _ = X5 at *
            generalize y5.heap.size = g5 at *
            generalize wr.heap.size = g1 at *
            have a0 : X5.cell? ⟨g5, 0, none⟩ = some (.string r.m) := J2.out.cell 0
            have a1 : X5.cell? ⟨g5, 1, none⟩ = some (.string r.t) := J2.out.cell 1
            have a2 : X5.cell? ⟨g5, 2, none⟩ = some (.int .i64 r.k) := J2.out.cell 2
            have a3 : X5.cell? ⟨g5, 3, none⟩ = some (.slice Af5 nw cf5) := J2.out.cell 3
            have a4 : X5.cell? ⟨g5, 4, none⟩ = some (.slice Ab5 r.l cb5) := J2.out.cell 4
            have b0 : X5.cell? ⟨g1, 0, none⟩ = some (.string r.m) := J1.out.cell 0
            have b1 : X5.cell? ⟨g1, 1, none⟩ = some (.string r.t) := J1.out.cell 1
            have b2 : X5.cell? ⟨g1, 2, none⟩ = some (.int .i64 r.k) := J1.out.cell 2
            have b3 : X5.cell? ⟨g1, 3, none⟩ = some (.slice r.A r.n r.c) := J1.out.cell 3
            have b4 : X5.cell? ⟨g1, 4, none⟩ = some (.slice r.D r.l r.d) := J1.out.cell 4
            have CE := Lib.hid (bequal_any X5 Ab5 r.D r.bs r.bs r.l cb5 r.l r.d HRl.out HRl.out SB5.out (OKR.out.below BX.out).s)
            rw [beq_self_eq_true] at CE
            have d0 : decide ((nw : Int) < (r.n : Int)) = false := decide_eq_false (by omega)
            have d0n : decide (nw < r.n) = false := decide_eq_false (by omega)
            go_wp2_with fail
            refine CE.out.mono ?_
            rintro e w' ⟨rfl, rfl⟩
            go_wp2_with fail
            go_roundw
            case rel => exact ⟨j + 1, ln - u, A6, cj - u, by go_num, hjl, rfl, by omega, HL6, S65, BO⟩
            case measure => simp [intOf]; omega
          · have h0 : ln = 0 := by rw [← HL.out, List.drop_eq_nil_of_le (by have := HMl.out; omega)]; rfl
            subst h0
            go_wp2_with fail
            go_ret
            exact ⟨rfl, BW.out⟩
      · have e12 : ((k : Int) == 12) = false := by simp; omega
        have hk11 : k < 12 := by omega
        have HOKr := Lib.hid (HOK.out r (List.mem_of_getElem? hr))
        obtain ⟨tk1, tk2⟩ := take_put L k r hr
        have CP := Lib.hid (putreq_ok HOKr.out M1.out.low HP.out)
        obtain ⟨pb, pe, hput⟩ : ∃ pb pe, r.put = (pb, pe) := ⟨_, _, rfl⟩
        have hpl : pe = 0 → pb.length ≤ 6144 := fun h => putReq_len (show putReqM (bl r.m) (bl r.t) r.k r.ls r.bs = (pb, 0) by rw [← h, ← hput]; rfl)
        rw [hput] at CP tk1 tk2
        unfold PutGot9F at CP
        simp only at CP tk1 tk2
        have TK1 := Lib.hid tk1
        have TK2 := Lib.hid tk2
        have HPL := Lib.hid hpl
        obtain ⟨pn, hpn⟩ : ∃ pn, pb.length = pn := ⟨_, rfl⟩
        rw [hpn] at CP
        have HPN := Lib.hid hpn
        clear hr tk1 tk2 hput hpl hpn h12
        have HB1 := Lib.hid (show ∀ q, o1 = some q → q < wr.heap.size from fun q hq => HM.out.own.lt q hq)
        have HB2 := Lib.hid (show ∀ q, o2 = some q → q < wr.heap.size from fun q hq => HM.out.ownR.lt q hq)
        have x0 : (wr.alloc (.cells #[.string r.m, .string r.t, .int .i64 r.k, .slice r.A r.n r.c, .slice r.D r.l r.d] 25)).heap.size = wr.heap.size + 1 := by simp
        have HX0 := Lib.hid x0
        clear x0 bz HM
        go_upto_region 9 with fail
        clear y0 y1 y2 y3 y4
        have HX1 := Lib.hid (show wr.heap.size < (wr.alloc (.cells #[.string r.m, .string r.t, .int .i64 r.k, .slice r.A r.n r.c, .slice r.D r.l r.d] 25)).heap.size by rw [HX0.out]; omega)
        clear HX0
        generalize wr.alloc _ = X1 at *
        generalize wr.heap.size = gR at *
        have a0 : X1.cell? ⟨gR, 0, none⟩ = some (.string r.m) := I1.out.cell 0
        have a1 : X1.cell? ⟨gR, 1, none⟩ = some (.string r.t) := I1.out.cell 1
        have a2 : X1.cell? ⟨gR, 2, none⟩ = some (.int .i64 r.k) := I1.out.cell 2
        have a3 : X1.cell? ⟨gR, 3, none⟩ = some (.slice r.A r.n r.c) := I1.out.cell 3
        have a4 : X1.cell? ⟨gR, 4, none⟩ = some (.slice r.D r.l r.d) := I1.out.cell 4
        go_wp2_with fail
        refine CP.out.mono ?_
        rintro e X2 ⟨Ab, cb, rfl, hcb, sb, b2⟩
        have M2 := Lib.hid (M1.out.below b2)
        have I2 := Lib.hid (I1.out.kept (Turn.of_below (S := fun _ => False) b2) (fun h => h))
        have SBb := Lib.hid sb
        have HX2 := Lib.hid (Nat.lt_of_lt_of_le HX1.out b2.size)
        clear sb b2 CP M1 I1 a0 a1 a2 a3 a4
        by_cases hpe : pe = 0
        · subst hpe
          have hpl := HPL.out rfl
          rw [HPN.out] at hpl
          have htl : (inR (L.take k)).length ≤ 73728 := by have h1 := inR_length (L.take k); have h2 : (L.take k).length ≤ 12 := by rw [List.length_take]; omega
                                                           omega
          have hwl : (wantR (L.take k)).length ≤ 1000 := by have h1 := wantR_length (L.take k); have h2 : (L.take k).length ≤ 12 := by rw [List.length_take]; omega
                                                            omega
          simp only [if_true] at TK1 TK2
          have BD : Below X2.heap.size X2 X2.drew := below_drewN (Below.refl X2.heap.size X2) 1
          have BS : Below X2.heap.size X2 (X2.alloc (.cells #[.string r.m, .string r.t, .int .i64 r.k, .slice r.A r.n r.c, .slice r.D r.l r.d] 25)) := (Below.refl _ _).alloc (Nat.le_refl _) _
          have BSD : Below X2.heap.size X2 (X2.alloc (.cells #[.string r.m, .string r.t, .int .i64 r.k, .slice r.A r.n r.c, .slice r.D r.l r.d] 25)).drew := below_drewN BS 1
          have lt1 : ∀ q, o1 = some q → q < X2.heap.size := M2.out.own.lt
          have lt2 : ∀ q, o2 = some q → q < X2.heap.size := M2.out.ownR.lt
          have hsT : Src X2 (fun _ => True) Ab pb := SBb.out.mono (fun _ _ _ => trivial)
          obtain ⟨va, UA, oa, ra, ma, ta⟩ := (M2.out.below BD).bytes Ab pb pn cb HPN.out (hsT.kept (Turn.of_below (S := fun _ => False) BD) (fun _ _ h => h)) (by omega)
          have iA := (I2.out.drew).kept ta (fun e => by have := HB1.out _ e; omega)
          have bUA : Below UA.heap.size UA (UA.alloc (.cells #[.string r.m, .string r.t, .int .i64 r.k, .slice r.A r.n r.c, .slice r.D r.l r.d] 25)) := (Below.refl _ _).alloc (Nat.le_refl _) _
          obtain ⟨vb, UB, ob, rb, mb, tb⟩ := (ma.below bUA).req r UA.heap.size (Is.made UA 25 [.string r.m, .string r.t, .int .i64 r.k, .slice r.A r.n r.c, .slice r.D r.l r.d]) hwl
          have iA2 := iA.kept (Turn.of_below (S := fun _ => False) bUA) (fun h => h)
          have iB := iA2.kept tb (fun e => by have := HB2.out _ e; omega)
          have iS := (I2.out.kept (Turn.of_below (S := fun _ => False) BSD) (fun h => h))
          have iS2 : Is (X2.alloc (.cells #[.string r.m, .string r.t, .int .i64 r.k, .slice r.A r.n r.c, .slice r.D r.l r.d] 25)).drew X2.heap.size 25 [.string r.m, .string r.t, .int .i64 r.k, .slice r.A r.n r.c, .slice r.D r.l r.d] := (Is.made X2 25 [.string r.m, .string r.t, .int .i64 r.k, .slice r.A r.n r.c, .slice r.D r.l r.d]).drew
          obtain ⟨vc, UC, oc, rc, mc, tc⟩ := (M2.out.below BSD).bytes Ab pb pn cb HPN.out (hsT.kept (Turn.of_below (S := fun _ => False) BSD) (fun _ _ h => h)) (by omega)
          have iC := iS.kept tc (fun e => by have := HB1.out _ e; omega)
          obtain ⟨vd, UD, od, rd, md, td⟩ := mc.req r X2.heap.size (iS2.kept tc (fun e => by have := lt1 _ e; omega)) hwl
          have iD := iC.kept td (fun e => by have := HB2.out _ e; omega)
          obtain ⟨ve, UE, oe, re, me, te⟩ := (M2.out.below BSD).req r X2.heap.size iS2 hwl
          have iE := iS.kept te (fun e => by have := HB2.out _ e; omega)
          obtain ⟨vf, UF, of, rf, mf, tf⟩ := me.bytes Ab pb pn cb HPN.out (((SBb.out.kept (Turn.of_below (S := fun _ => False) BSD) (fun _ _ h => h)).kept te (fun q hq e => by have := HB2.out _ e; have := HX1.out; omega)).mono (fun _ _ _ => trivial)) (by omega)
          have iF := iE.kept tf (fun e => by have := HB1.out _ e; omega)
          rw [← TK1.out, ← TK2.out] at mb md mf
          have MB := Lib.hid mb
          have MD := Lib.hid md
          have MF := Lib.hid mf
          have RA := Lib.hid ra
          have RB := Lib.hid rb
          have RC := Lib.hid rc
          have RD := Lib.hid rd
          have RE := Lib.hid re
          have RF := Lib.hid rf
          have KK : ∀ X : World, Is X gR 25 [.string r.m, .string r.t, .int .i64 r.k, .slice r.A r.n r.c, .slice r.D r.l r.d] → X.cell? ⟨gR, 0, none⟩ = some (.string r.m) ∧ X.cell? ⟨gR, 1, none⟩ = some (.string r.t) ∧ X.cell? ⟨gR, 2, none⟩ = some (.int .i64 r.k) ∧ X.cell? ⟨gR, 3, none⟩ = some (.slice r.A r.n r.c) ∧ X.cell? ⟨gR, 4, none⟩ = some (.slice r.D r.l r.d) := fun X h => ⟨h.cell 0, h.cell 1, h.cell 2, h.cell 3, h.cell 4⟩
          have k0 := KK _ I2.out
          have kA := KK _ iA
          have kA2 := KK _ iA2
          have kB := KK _ iB
          have kS := KK _ iS
          have kC := KK _ iC
          have kD := KK _ iD
          have kE := KK _ iE
          have kF := KK _ iF
          have k0d := KK _ I2.out.drew
          clear ra rb rc rd re rf mb md mf ma mc me ta tb tc td te tf iA iA2 iB iC iD iE iF iS iS2 KK hsT lt1 lt2 bUA BS BSD BD hwl htl hpl
          go_upto_region 11 with fail
          go_region_held3 (fun w' => w'.cell? ⟨gR, 0, none⟩ = some (.string r.m) ∧ w'.cell? ⟨gR, 1, none⟩ = some (.string r.t) ∧ w'.cell? ⟨gR, 2, none⟩ = some (.int .i64 r.k) ∧ w'.cell? ⟨gR, 3, none⟩ = some (.slice r.A r.n r.c) ∧ w'.cell? ⟨gR, 4, none⟩ = some (.slice r.D r.l r.d)) (first | (with_reducible exact k0) | (with_reducible exact k0d) | (with_reducible exact kA) | (with_reducible exact kA2) | (with_reducible exact kB) | (with_reducible exact kS) | (with_reducible exact kC) | (with_reducible exact kD) | (with_reducible exact kE) | (with_reducible exact kF) | go_keep)
            (first
              | ((with_reducible (show if _ = true then Oper.wp _ _ _ (X2.drew) _ _ else _)); refine step_append_by rfl (.tmp 32) (.tmp 33) 22 rfl _ _ va UA rfl rfl RA.out ?_)
              | ((with_reducible (show if _ = true then Oper.wp _ _ _ (UA.alloc (.cells #[.string r.m, .string r.t, .int .i64 r.k, .slice r.A r.n r.c, .slice r.D r.l r.d] 25)) _ _ else _)); refine step_append_by rfl (.tmp 35) (.tmp 37) 52 rfl _ _ vb UB rfl rfl RB.out ?_)
              | ((with_reducible (show if _ = true then Oper.wp _ _ _ ((X2.alloc (.cells #[.string r.m, .string r.t, .int .i64 r.k, .slice r.A r.n r.c, .slice r.D r.l r.d] 25)).drew) _ _ else _)); refine step_append_by rfl (.tmp 32) (.tmp 33) 22 rfl _ _ vc UC rfl rfl RC.out ?_)
              | ((with_reducible (show if _ = true then Oper.wp _ _ _ (UC) _ _ else _)); refine step_append_by rfl (.tmp 35) (.tmp 37) 52 rfl _ _ vd UD rfl rfl RD.out ?_)
              | ((with_reducible (show if _ = true then Oper.wp _ _ _ ((X2.alloc (.cells #[.string r.m, .string r.t, .int .i64 r.k, .slice r.A r.n r.c, .slice r.D r.l r.d] 25)).drew) _ _ else _)); refine step_append_by rfl (.tmp 35) (.tmp 37) 52 rfl _ _ ve UE rfl rfl RE.out ?_)
              | ((with_reducible (show if _ = true then Oper.wp _ _ _ (UE) _ _ else _)); refine step_append_by rfl (.tmp 32) (.tmp 33) 22 rfl _ _ vf UF rfl rfl RF.out ?_))
          all_goals
            go_wp2_with fail
            go_roundw
          all_goals
            first
            | exact ⟨k + 1, oa, ob, by go_num, hlt, by omega, MB⟩
            | exact ⟨k + 1, oc, od, by go_num, hlt, by omega, MD⟩
            | exact ⟨k + 1, of, oe, by go_num, hlt, by omega, MF⟩
            | (simp [intOf]; omega)
        · have e0 : ((pe : Int) == 0) = false := by simp; omega
          rw [if_neg hpe, List.append_nil] at TK1 TK2
          have M3 := M2
          rw [← TK1.out, ← TK2.out] at M3
          go_wp2_with fail
          go_roundw
          case rel => exact ⟨k + 1, o1, o2, by go_num, hlt, by omega, M3⟩
          case measure => simp [intOf]; omega
    · obtain ⟨wo, rfl⟩ : ∃ wo, wo = wr := ⟨_, rfl⟩
      obtain ⟨A1, c1, hv1, hc1, s1, _⟩ := HM.out.own.block
      obtain ⟨A2, c2, hv2, s2⟩ := HM.out.ownR.src (fun _ => True) (fun _ _ => trivial)
      subst hv1 hv2
      have hml := wantR_length (L.take k)
      have htl : (L.take k).length ≤ 12 := by rw [List.length_take]; omega
      have HMM := Lib.hid (fun (r : RqE) (h : r ∈ wantR (L.take k)) => (show r.put.2 = 0 ∧ r.Ok w from ⟨(wantR_mem h).2, HOK.out r (List.mem_of_mem_take (wantR_mem h).1)⟩))
      rw [← inR_want] at s1 hc1 ⊢
      obtain ⟨M, hM⟩ : ∃ M, wantR (L.take k) = M := ⟨_, rfl⟩
      rw [hM] at s1 s2 hc1 hml HMM ⊢
      obtain ⟨m, hm⟩ : ∃ m, M.length = m := ⟨_, rfl⟩
      rw [hm] at hml ⊢
      have hl1 := inR_length M
      rw [hm] at hl1
      obtain ⟨l0, hl0⟩ : ∃ l0, (inR M).length = l0 := ⟨_, rfl⟩
      rw [hl0] at hc1 hl1 ⊢
      have HL0 := Lib.hid hl0
      have HMl := Lib.hid hm
      have S1 := Lib.hid s1
      have S2 := Lib.hid s2
      have DD := Lib.hid HM.out.low
      have hm12 : m ≤ 12 := by omega
      clear hM hm hl0 s1 s2 HM hml htl
      go_wp2_with fail
      go_loopw [3, 10, 11, 12, 13, 42] (fun v3 v10 v11 v12 v13 vi wx => ∃ (j ln : Nat) (Aj : Option Addr) (cj : Nat), vi = .int .i64 (j : Int) ∧ j ≤ m ∧ v3 = .slice Aj ln cj ∧ ln ≤ cj ∧ Hid ((inR (M.drop j)).length = ln) ∧ Hid (Src wx (fun _ => True) Aj (inR (M.drop j))) ∧ Hid (Below wo.heap.size wo wx)) (fun _ _ _ _ _ vi _ => m - (intOf vi).toNat)
      case atStart => exact ⟨0, l0, A1, c1, rfl, Nat.zero_le _, rfl, hc1, HL0, S1, Lib.hid (Below.refl _ _)⟩
      case round =>
        obtain ⟨j, ln, Aj, cj, rfl, hj, rfl, hc, HL, HSj, HBj⟩ := hrel
        have BW := Lib.hid (DD.out.trans (HBj.out.mono DD.out.size))
        by_cases hjl : j < m
        · obtain ⟨p, r, hr, hat, y0, y1, y2, y3, y4⟩ := S2.out.at (c := c2) HMl.out hjl HBj.out
          obtain ⟨h0, hok⟩ := HMM.out r (List.mem_of_getElem? hr)
          have hdr := drop_put M j r hr h0
          obtain ⟨hq1, hq2, hq3⟩ := stream_head r (inR (M.drop (j + 1))) h0
          obtain ⟨u, hu⟩ : ∃ u, r.put.1.length = u := ⟨_, rfl⟩
          have hll := HL.out
          rw [hdr, List.length_append, hu] at hll
          obtain ⟨al, hal⟩ : ∃ al, withCL r.ls r.bs.length (decide (r.bs ≠ [])) = al := ⟨_, rfl⟩
          obtain ⟨nw, hnw⟩ : ∃ nw, al.length = nw := ⟨_, rfl⟩
          rw [hal] at hq1 hq3
          rw [hnw, hok.hn] at hq3
          have bz : Below wr.heap.size wr (wr.alloc (.cells #[.string r.m, .string r.t, .int .i64 r.k, .slice r.A r.n r.c, .slice r.D r.l r.d] 25)) := (Below.refl _ _).alloc (Nat.le_refl _) _
          have bwz := BW.out.trans (bz.mono BW.out.size)
          have CQ := Lib.hid ((HC.request (wr.alloc (.cells #[.string r.m, .string r.t, .int .i64 r.k, .slice r.A r.n r.c, .slice r.D r.l r.d] 25)) Aj (inR (M.drop j)) ln cj HL.out hc (by have := inR_length (M.drop j); rw [HL.out, List.length_drop, HMl.out] at this; omega) (HSj.out.kept (Turn.of_below (S := fun _ => False) bz) (fun _ _ h => h)) (HP.out.below bwz)).mono (fun _ _ h => h.told2))
          rw [hdr, hq1] at CQ
          unfold RqTold2 at CQ
          simp only [Option.getD_some, hq2, mk_bl, hnw, hu, hok.hl] at CQ
          obtain ⟨A6, hs6, hsrc6⟩ := run_tail8 Aj ln cj u (by omega) hc
          have S6 := Lib.hid (hsrc6 wr _ _ HL.out HSj.out)
          have hdd : (inR (M.drop j)).drop u = inR (M.drop (j + 1)) := by rw [hdr, ← hu, List.drop_left]
          rw [hdd] at S6
          have HL6 := Lib.hid (show (inR (M.drop (j + 1))).length = ln - u by omega)
          have I1 := Lib.hid (Is.made wr 25 [.string r.m, .string r.t, .int .i64 r.k, .slice r.A r.n r.c, .slice r.D r.l r.d])
          have OKR := Lib.hid hok
          have HRl := Lib.hid hok.hl
          clear hr h0 hok hdr hal hq1 hq2 hu hll hnw hsrc6 hdd HSj HL
          go_wp2_with fail
          refine CQ.out.mono ?_
          rintro e y5 ⟨Af5, cf5, Ab5, cb5, rfl, hcf, sf, sb, b5⟩
          have z5 : Below y5.heap.size y5 (y5.alloc (.cells #[.string r.m, .string r.t, .int .i64 r.k, .slice Af5 nw cf5, .slice Ab5 r.l cb5] 25)) := (Below.refl _ _).alloc (Nat.le_refl _) _
          have J1 := Lib.hid ((I1.out.kept (Turn.of_below (S := fun _ => False) b5) (fun h => h)).kept (Turn.of_below (S := fun _ => False) z5) (fun h => h))
          have J2 := Lib.hid (Is.made y5 25 [.string r.m, .string r.t, .int .i64 r.k, .slice Af5 nw cf5, .slice Ab5 r.l cb5])
          have b15 := bz.trans ((b5.trans (z5.mono b5.size)).mono bz.size)
          have BX := Lib.hid (BW.out.trans (b15.mono BW.out.size))
          have BO := Lib.hid (HBj.out.trans (b15.mono HBj.out.size))
          have S65 := Lib.hid (S6.out.kept (Turn.of_below (S := fun _ => False) b15) (fun _ _ h => h))
          have SB5 := Lib.hid (sb.kept (Turn.of_below (S := fun _ => False) z5) (fun _ _ h => h))
          clear b5 z5 b15 sf sb hcf CQ S6 I1 BW HBj bz bwz
          go_upto_region 17 with fail
          clear y0 y1 y2 y3 y4
          generalize y5.alloc _ = X5 at *
          generalize y5.heap.size = g5 at *
          generalize wr.heap.size = g1 at *
          have a0 : X5.cell? ⟨g5, 0, none⟩ = some (.string r.m) := J2.out.cell 0
          have a1 : X5.cell? ⟨g5, 1, none⟩ = some (.string r.t) := J2.out.cell 1
          have a2 : X5.cell? ⟨g5, 2, none⟩ = some (.int .i64 r.k) := J2.out.cell 2
          have a3 : X5.cell? ⟨g5, 3, none⟩ = some (.slice Af5 nw cf5) := J2.out.cell 3
          have a4 : X5.cell? ⟨g5, 4, none⟩ = some (.slice Ab5 r.l cb5) := J2.out.cell 4
          have b0 : X5.cell? ⟨g1, 0, none⟩ = some (.string r.m) := J1.out.cell 0
          have b1 : X5.cell? ⟨g1, 1, none⟩ = some (.string r.t) := J1.out.cell 1
          have b2 : X5.cell? ⟨g1, 2, none⟩ = some (.int .i64 r.k) := J1.out.cell 2
          have b3 : X5.cell? ⟨g1, 3, none⟩ = some (.slice r.A r.n r.c) := J1.out.cell 3
          have b4 : X5.cell? ⟨g1, 4, none⟩ = some (.slice r.D r.l r.d) := J1.out.cell 4
          have CE := Lib.hid (bequal_any X5 Ab5 r.D r.bs r.bs r.l cb5 r.l r.d HRl.out HRl.out SB5.out (OKR.out.below BX.out).s)
          rw [beq_self_eq_true] at CE
          have d0 : decide ((nw : Int) < (r.n : Int)) = false := decide_eq_false (by omega)
          have d0n : decide (nw < r.n) = false := decide_eq_false (by omega)
          go_wp2_with fail
          refine CE.out.mono ?_
          rintro e w' ⟨rfl, rfl⟩
          go_wp2_with fail
          go_roundw
          case rel => exact ⟨j + 1, ln - u, A6, cj - u, by go_num, hjl, rfl, by omega, HL6, S65, BO⟩
          case measure => simp [intOf]; omega
        · have h0 : ln = 0 := by rw [← HL.out, List.drop_eq_nil_of_le (by have := HMl.out; omega)]; rfl
          subst h0
          go_wp2_with fail
          go_ret
          exact ⟨rfl, BW.out⟩
end Go.Proofs.YtemgfppclakdmaaGreatDoor
