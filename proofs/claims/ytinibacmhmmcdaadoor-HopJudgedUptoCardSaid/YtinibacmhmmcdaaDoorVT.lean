/-
  The law HopJudged: walk.
  Conditions: what the arguments read as; the list and the text hold at most 100000000 bytes.
-/
import Derived.Test.YtinibacmhmmcdaaDoorVY
namespace Go.Proofs.YtinibacmhmmcdaaDoor.Hop
open Go.RowKit

set_option maxHeartbeats 16000000 in
set_option maxRecDepth 100000 in
theorem judged_law {P : Nat → Prop} (w : World) (A : Option Addr) (ls : List Fld) (n c : Nat) (hn : ls.length = n) (hb : bulkF ls ≤ 100000000) (h : SrcF w P A ls) (nmd : ByteArray) (hnm : nmd.size ≤ 100000000) :
    Calls Tryd.prog 5 #[.slice A n c, .string nmd] w fun e w' => e = .returned (.bool true) ∧ Below w.heap.size w w' := by
  have hlen := bulk_len ls
  have hcb : bulkF [([67, 111, 110, 110, 101, 99, 116, 105, 111, 110], bl nmd)] = 13 + nmd.size := by rw [show bulkF [([67, 111, 110, 110, 101, 99, 116, 105, 111, 110], bl nmd)] = 10 + (bl nmd).length + 3 + 0 from rfl, bl_length]; omega
  have HBM := Lib.hid (show bulkF ([([67, 111, 110, 110, 101, 99, 116, 105, 111, 110], bl nmd)] ++ ls) ≤ 1000000000 by rw [bulk_app, hcb]; omega)
  have HNM := Lib.hid (show ([([67, 111, 110, 110, 101, 99, 116, 105, 111, 110], bl nmd)] ++ ls).length = n + 1 by simp [hn])
  have HB := Lib.hid (show bulkF ls ≤ 1000000000 by omega)
  have HN := Lib.hid hn
  have HNL : n ≤ 100000000 := by omega
  have HJ := Lib.hid (fun nm hf => get_judged ls [67, 111, 110, 110, 101, 99, 116, 105, 111, 110] (bl nmd) (by decide) nm hf)
  have bl0 := (Below.refl w.heap.size w).alloc (Nat.le_refl _) (.cells #[.string ⟨#[67, 111, 110, 110, 101, 99, 116, 105, 111, 110]⟩, .string nmd] 32)
  have OK := row_ownF (w := w.alloc (.cells #[.string ⟨#[67, 111, 110, 110, 101, 99, 116, 105, 111, 110]⟩, .string nmd] 32)) (g := w.heap.size) (c := 1) (cur := [.string ⟨#[67, 111, 110, 110, 101, 99, 116, 105, 111, 110]⟩, .string nmd]) (ls := [([67, 111, 110, 110, 101, 99, 116, 105, 111, 110], bl nmd)]) (Is.made w 32 [.string ⟨#[67, 111, 110, 110, 101, 99, 116, 105, 111, 110]⟩, .string nmd]) (by simp) (by decide) (by simp) (by simp [flds, strV, mk_bl])
  obtain ⟨A1, c1, w1, o1, hrun, own1, _, bb, _⟩ := more_app (w.alloc (.cells #[.string ⟨#[67, 111, 110, 110, 101, 99, 116, 105, 111, 110]⟩, .string nmd] 32)) _ (some w.heap.size) [([67, 111, 110, 110, 101, 99, 116, 105, 111, 110], bl nmd)] ls OK A n c (n + 1) hn (by rw [show ([([67, 111, 110, 110, 101, 99, 116, 105, 111, 110], bl nmd)] : List Fld).length = 1 from rfl]; omega) (h.below bl0) (by omega) bl0 (fun b h => by injection h with h; omega)
  have HR1 := Lib.hid hrun
  have S1 := Lib.hid (OwnF.reads own1)
  have L := Lib.hid (h.below bb)
  have X := Lib.hid bb
  clear hlen hcb hn hb h hnm bl0 OK hrun own1 bb
  go_enter Tryd.func5, Tryd.ntmps5
  go_wp2_with (at_builtin; refine append_by rfl (.tmp 13) (.tmp 14) 22 rfl _ _ (.slice A1 (n + 1) c1) w1 rfl rfl HR1.out ?_)
  have C := strip_any w1 A1 ([([67, 111, 110, 110, 101, 99, 116, 105, 111, 110], bl nmd)] ++ ls) (n + 1) c1 HNM.out HBM.out S1.out
  obtain ⟨sl, hsl⟩ : ∃ sl, stripF ([([67, 111, 110, 110, 101, 99, 116, 105, 111, 110], bl nmd)] ++ ls) = sl := ⟨_, rfl⟩
  have HSB := Lib.hid (show bulkF sl ≤ 1000000000 by rw [← hsl]; exact Nat.le_trans (bulk_strip _) HBM.out)
  have HSN := Lib.hid (show sl.length ≤ 1000000000 by have := bulk_len sl; have := HSB.out; omega)
  rw [show ([([67, 111, 110, 110, 101, 99, 116, 105, 111, 110], bl nmd)] ++ ls : List Fld) = ([67, 111, 110, 110, 101, 99, 116, 105, 111, 110], bl nmd) :: ls from rfl] at hsl
  rw [hsl] at HJ
  rw [show ([([67, 111, 110, 110, 101, 99, 116, 105, 111, 110], bl nmd)] ++ ls : List Fld) = ([67, 111, 110, 110, 101, 99, 116, 105, 111, 110], bl nmd) :: ls from rfl, hsl] at C
  clear hsl HR1
  refine C.mono ?_
  rintro e w2 ⟨v2, o2, rfl, own2, _, b⟩
  obtain ⟨A2, c2, hv2, src2⟩ := own2.src (fun _ => True) (fun _ _ => trivial)
  subst hv2
  have S := Lib.hid src2
  have L2 := Lib.hid (L.out.below b)
  have X2 := Lib.hid (X.out.trans (b.mono X.out.size))
  clear own2 src2 C b S1 L X
  obtain ⟨ns, hns⟩ : ∃ ns, sl.length = ns := ⟨_, rfl⟩
  rw [hns]
  have HNS := Lib.hid hns
  clear hns
  go_wp2_with fail
  go_loopw [7] (fun vi wr => ∃ k : Nat, vi = .int .i64 (k : Int) ∧ k ≤ n ∧ Hid (Below w2.heap.size w2 wr)) (fun vi _ => n - (intOf vi).toNat)
  case atStart => exact ⟨0, rfl, Nat.zero_le _, Lib.hid (Below.refl _ _)⟩
  case round =>
    obtain ⟨k, rfl, hk, HX⟩ := hrel
    by_cases hlt : k < n
    · obtain ⟨p, f, hf, hat, y0, _, _, hpl⟩ := L2.out.at (c := c) HN.out hlt HX.out
      obtain ⟨Ns, hNs⟩ : ∃ Ns : ByteArray, Ns = ⟨f.1.toArray⟩ := ⟨_, rfl⟩
      have hbn : bl Ns = f.1 := by rw [hNs, bl_mk]
      rw [← hNs] at y0
      have CF := Lib.hid (forall_any Ns)
      have HJN := Lib.hid (HJ.out (bl Ns))
      clear hNs hbn hf
      have HPL := Lib.hid hpl
      clear hpl
      cases hq : forF (bl Ns) with
      | false =>
        rw [hq] at CF
        clear hq
        go_wp2_with fail
        refine (CF.out _).mono ?_
        rintro e w5 ⟨rfl, b5⟩
        have B5 := Lib.hid (HX.out.trans (b5.mono HX.out.size))
        clear b5 y0
        go_wp2_with fail
        go_roundw
        case rel => exact ⟨k + 1, by go_num, hlt, B5⟩
        case measure => simp [intOf]; omega
      | true =>
        rw [hq] at CF
        have HG := Lib.hid (HJN.out hq)
        clear hq
        go_wp2_with fail
        refine (CF.out _).mono ?_
        rintro e w5 ⟨rfl, b5⟩
        have B5 := Lib.hid (HX.out.trans (b5.mono HX.out.size))
        have y5 : w5.cell? p = some (.string Ns) := (b5.cell (Lib.lt_of_cell y0)).trans y0
        clear b5 y0
        obtain ⟨gl, hgl⟩ : ∃ gl, getF ls (bl Ns) = gl := ⟨_, rfl⟩
        have hgn : gl.length ≤ 100000000 := by have := get_len ls (bl Ns); rw [hgl, HN.out] at this; omega
        rw [hgl] at HG
        have HGL := Lib.hid hgl
        clear hgl
        obtain ⟨m, hm⟩ : ∃ m, gl.length = m := ⟨_, rfl⟩
        have HM := Lib.hid hm
        rw [hm] at hgn
        clear hm
        have d5 := Lib.hid (drew_below (Below.refl w5.heap.size w5))
        have B5d := Lib.hid (B5.out.trans (d5.out.mono B5.out.size))
        have CA := get_any w5.drew A ls n c HN.out (by omega) (L2.out.below B5d.out) (slim_bulk HB.out) Ns
        rw [HGL.out] at CA
        have CB := Lib.hid (fun (Z : World) (hZ : Below w2.heap.size w2 Z) => get_any Z A2 sl ns c2 HNS.out (by have := HSN.out; rw [HNS.out] at this; omega) (S.out.below hZ) (slim_bulk HSB.out) Ns)
        rw [HG.out] at CB
        unfold GotS at CA CB
        go_wp2_with fail
        go_region_held3 (fun w' => w'.cell? p = some (.string Ns)) (first | (with_reducible exact y5) | (with_reducible exact y6) | (with_reducible exact y7) | go_keep)
          (first
            | (go_at_call 23
               (with_reducible refine CA.mono ?_)
               rintro e w6 ⟨v6, o6, rfl, own6, _, b6⟩
               obtain ⟨Aa, ca, hva, sa⟩ := own6.src (fun _ => True) (fun _ _ => trivial)
               rw [HM.out] at hva
               subst hva
               have SA := Lib.hid sa
               have B6 := Lib.hid (B5d.out.trans (b6.mono B5d.out.size))
               have y6 : w6.cell? p = some (.string Ns) := (b6.cell (Lib.lt_of_cell (w := w5.drew) y5)).trans y5
               clear own6 sa b6)
            | (go_at_call 23
               (with_reducible refine (CB.out w6 B6.out).mono ?_)
               rintro e w7 ⟨v7, o7, rfl, own7, _, b7⟩
               obtain ⟨Ab, cb, hvb, sb⟩ := own7.src (fun _ => True) (fun _ _ => trivial)
               rw [HM.out] at hvb
               subst hvb
               have SBB := Lib.hid sb
               have SA7 := Lib.hid (SA.out.below b7)
               have B7 := Lib.hid (B6.out.trans (b7.mono B6.out.size))
               have y7 : w7.cell? p = some (.string Ns) := (b7.cell (Lib.lt_of_cell y6)).trans y6
               clear own7 sb b7))
        all_goals
          have em : ((m : Int) != (m : Int)) = false := by simp
          go_wp2_with fail
          go_loopw [10] (fun vi wr => ∃ j : Nat, vi = .int .i64 (j : Int) ∧ j ≤ m ∧ Hid (Below w7.heap.size w7 wr)) (fun vi _ => m - (intOf vi).toNat)
          case atStart => exact ⟨0, rfl, Nat.zero_le _, Lib.hid (Below.refl _ _)⟩
          case round =>
            obtain ⟨j, rfl, hj, HY⟩ := hrel
            by_cases hjl : j < m
            · obtain ⟨pa, x, hx, hata, ya, _, _⟩ := SA7.out.at (c := ca) HM.out hjl HY.out
              obtain ⟨pb, x', hx', hatb, yb, _, _⟩ := SBB.out.at (c := cb) HM.out hjl HY.out
              obtain rfl : x' = x := Option.some.inj (hx'.symm.trans hx)
              clear hx hx'
              go_wp2_with fail
              go_quiet (fail)
              go_wp2_with fail
              go_roundw
              case rel => exact ⟨j + 1, by go_num, hjl, Lib.hid (HY.out.trans ((quiet_below ⟨nq, rfl⟩).mono HY.out.size))⟩
              case measure => simp [intOf]; omega
            · have B8 := Lib.hid (B7.out.trans (HY.out.mono B7.out.size))
              go_wp2_with fail
              go_roundw
              case rel => exact ⟨k + 1, by go_num, hlt, B8⟩
              case measure => simp [intOf]; omega
    · have B9 := Lib.hid (X2.out.trans (HX.out.mono X2.out.size))
      go_wp2_with fail
      have C := forall_any ⟨#[69, 84, 97, 103]⟩ wr
      rw [show forF (bl ⟨#[69, 84, 97, 103]⟩) = true by decide +kernel] at C
      refine (C).mono ?_
      rintro e w10 ⟨rfl, b⟩
      clear C
      have B10 := Lib.hid (B9.out.trans (b.mono B9.out.size))
      clear B9
      clear b
      go_wp2_with fail
      have C := forall_any ⟨#[99, 97, 99, 104, 101, 45, 99, 111, 110, 116, 114, 111, 108]⟩ w10
      rw [show forF (bl ⟨#[99, 97, 99, 104, 101, 45, 99, 111, 110, 116, 114, 111, 108]⟩) = true by decide +kernel] at C
      refine (C).mono ?_
      rintro e w11 ⟨rfl, b⟩
      clear C
      have B11 := Lib.hid (B10.out.trans (b.mono B10.out.size))
      clear B10
      clear b
      go_wp2_with fail
      have C := forall_any ⟨#[99, 111, 110, 110, 101, 99, 116, 105, 111, 110]⟩ w11
      rw [show forF (bl ⟨#[99, 111, 110, 110, 101, 99, 116, 105, 111, 110]⟩) = false by decide +kernel] at C
      refine (C).mono ?_
      rintro e w12 ⟨rfl, b⟩
      clear C
      have B12 := Lib.hid (B11.out.trans (b.mono B11.out.size))
      clear B11
      clear b
      go_wp2_with fail
      have C := forall_any ⟨#[]⟩ w12
      rw [show forF (bl ⟨#[]⟩) = false by decide +kernel] at C
      refine (C).mono ?_
      rintro e w13 ⟨rfl, b⟩
      clear C
      have B13 := Lib.hid (B12.out.trans (b.mono B12.out.size))
      clear B12
      clear b
      go_wp2_with fail
      have C := forall_any ⟨#[97, 103, 101, 32, 97, 117, 116, 104, 111, 114, 105, 122, 97, 116, 105, 111, 110]⟩ w13
      rw [show forF (bl ⟨#[97, 103, 101, 32, 97, 117, 116, 104, 111, 114, 105, 122, 97, 116, 105, 111, 110]⟩) = false by decide +kernel] at C
      refine (C).mono ?_
      rintro e w14 ⟨rfl, b⟩
      clear C
      have B14 := Lib.hid (B13.out.trans (b.mono B13.out.size))
      clear B13
      clear b
      go_wp2_with fail
      refine ((wakes_any w14)).mono ?_
      rintro e w15 ⟨rfl, b⟩
      have B15 := Lib.hid (B14.out.trans (b.mono B14.out.size))
      clear B14
      clear b
      go_wp2_with fail
      go_ret
      exact ⟨rfl, B15.out⟩
end Go.Proofs.YtinibacmhmmcdaaDoor.Hop
