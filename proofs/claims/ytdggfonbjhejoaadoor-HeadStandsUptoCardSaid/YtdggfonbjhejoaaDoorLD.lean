/-
  The law HeadStands: plain mathematics and walk.
  Conditions: what the arguments read as; both together hold at most 1048576 bytes.
-/
import Derived.Test.YtdggfonbjhejoaaDoorLC
namespace Go.Proofs.YtdggfonbjhejoaaDoor
open Go.RowKit

theorem parse_two (b : List UInt8) (l : List Fld) (n : Nat) (h : parseH b = (l, n, 0)) : 2 ≤ n := by
  cases b with
  | nil => simp [parseH, runF] at h
  | cons c r =>
    unfold parseH at h
    cases hs : stepF 0 c 0 0 [] [] [] with
    | stop l2 n2 e2 =>
      rw [runF_stop hs] at h
      simp only [Prod.mk.injEq] at h
      obtain ⟨_, _, rfl⟩ := h
      unfold stepF at hs
      repeat' split at hs
      all_goals
        first
          | (cases hs; done)
          | omega
          | simp_all
    | go p2 g2 nm2 v2 l2 =>
      rw [runF_go hs] at h
      rcases run_range _ _ _ _ _ _ _ _ _ _ h with ⟨_, h1, _⟩ | ⟨h1, _⟩
      · omega
      · omega
theorem run_more : ∀ (b : List UInt8) (at0 part long : Nat) (nm v : List UInt8) (l l' : List Fld) (n : Nat), at0 ≤ 2048 → runF at0 part long nm v l b = (l', n, 8) → at0 + b.length ≤ 2048
  | [], at0, _, _, _, _, _, _, _, h0, _ => by simpa using h0
  | c :: b, at0, part, long, nm, v, l, l', n, h0, h => by
    cases hs : stepF at0 c part long nm v l with
    | stop l2 n2 e2 =>
      rw [runF_stop hs] at h
      simp only [Prod.mk.injEq] at h
      obtain ⟨_, _, rfl⟩ := h
      rcases step_stop hs with ⟨h1, _⟩ | ⟨h1, _⟩ <;> omega
    | go p2 g2 nm2 v2 l2 =>
      rw [runF_go hs] at h
      have h1 : at0 < 2048 := by
        rcases Nat.lt_or_ge at0 2048 with h1 | h1
        · exact h1
        · rw [show stepF at0 c part long nm v l = .stop [] 0 21 by unfold stepF; rw [if_pos h1]] at hs
          cases hs
      have := run_more b _ _ _ _ _ _ _ _ (by omega) h
      simp only [List.length_cons]
      omega
theorem run_exact : ∀ (b : List UInt8) (at0 part long : Nat) (nm v : List UInt8) (l l' : List Fld) (n : Nat), runF at0 part long nm v l b = (l', n, 0) → runF at0 part long nm v l (b.take (n - at0)) = (l', n, 0)
  | [], _, _, _, _, _, _, _, _, h => by simp [runF] at h
  | c :: b, at0, part, long, nm, v, l, l', n, h => by
    cases hs : stepF at0 c part long nm v l with
    | stop l2 n2 e2 =>
      rw [runF_stop hs] at h
      simp only [Prod.mk.injEq] at h
      obtain ⟨rfl, rfl, rfl⟩ := h
      rcases step_stop hs with ⟨_, _, h3, _⟩ | ⟨h1, _⟩
      · rw [show n2 - at0 = 1 by omega]
        exact runF_stop hs
      · omega
    | go p2 g2 nm2 v2 l2 =>
      rw [runF_go hs] at h
      rcases run_range _ _ _ _ _ _ _ _ _ _ h with ⟨_, h1, _⟩ | ⟨h1, _⟩
      · rw [show n - at0 = (n - (at0 + 1)) + 1 by omega, List.take_succ_cons, runF_go hs]
        exact run_exact b _ _ _ _ _ _ _ _ h
      · omega
/-- Of a beginning that holds all that was read the same is told. -/
theorem head_long (b : List UInt8) (k : Nat) (l : List Fld) (n : Nat) (h : parseH b = (l, n, 0)) (hk : n ≤ k) : parseH (b.take k) = (l, n, 0) := by
  have h1 : parseH (b.take n) = (l, n, 0) := by
    have := run_exact b 0 0 0 [] [] [] l n h
    rwa [Nat.sub_zero] at this
  have h2 : b.take k = b.take n ++ (b.drop n).take (k - n) := by
    rw [← List.take_add, show n + (k - n) = k by omega]
  rw [h2, head_stands _ _ (by rw [h1]; exact (by decide : (0 : Nat) ≠ 8)), h1]
theorem run_small : ∀ (b : List UInt8) (at0 part long : Nat) (nm v : List UInt8) (l l' : List Fld) (n : Nat), at0 ≤ 2048 → v.length ≤ at0 → (∀ f ∈ l, f.2.length ≤ 2048) → runF at0 part long nm v l b = (l', n, 0) → ∀ f ∈ l', f.2.length ≤ 2048
  | [], _, _, _, _, _, _, _, _, _, _, _, h => by simp [runF] at h
  | c :: b, at0, part, long, nm, v, l, l', n, h0, hv, hl, h => by
    cases hs : stepF at0 c part long nm v l with
    | stop l2 n2 e2 =>
      rw [runF_stop hs] at h
      simp only [Prod.mk.injEq] at h
      obtain ⟨rfl, rfl, rfl⟩ := h
      rcases step_stop hs with ⟨_, h2, _, _⟩ | ⟨h1, _⟩
      · rw [h2]; exact hl
      · omega
    | go p2 g2 nm2 v2 l2 =>
      rw [runF_go hs] at h
      have h1 : at0 < 2048 := by
        rcases Nat.lt_or_ge at0 2048 with h1 | h1
        · exact h1
        · rw [show stepF at0 c part long nm v l = .stop [] 0 21 by unfold stepF; rw [if_pos h1]] at hs
          cases hs
      have hh : v2.length ≤ at0 + 1 ∧ ∀ f ∈ l2, f.2.length ≤ 2048 := by
        unfold stepF at hs
        repeat' split at hs
        all_goals
          first
            | (cases hs; done)
            | (injection hs with e1 e2 e3 e4 e5
               subst e1 e2 e3 e4 e5
               refine ⟨by first | omega | (simp <;> omega), ?_⟩
               first
                 | exact hl
                 | (intro f hf
                    rw [List.mem_append, List.mem_singleton] at hf
                    rcases hf with hf | rfl
                    · exact hl f hf
                    · have := trimF_le v
                      simp only
                      omega))
      exact run_small b _ _ _ _ _ _ _ _ (by omega) hh.1 hh.2 h
theorem run_append_two {P P' : Nat → Prop} (w2 : World) (A1 : Option Addr) (pl : List UInt8) (pn c1 : Nat) (hpn : pl.length = pn) (h1 : Src w2 P A1 pl) (B : Option Addr) (bh : List UInt8) (nb cb : Nat) (hb : bh.length = nb) (h2 : Src w2 P' B bh) (hsum : pn + nb ≤ 140737488355328) :
    ∃ (v3 : Value) (w3 : World) (A4 : Option Addr) (c4 : Nat) (w4 : World), (Builtin.append_ #[22, 22] 22 #[.slice none 0 0, .slice A1 pn c1]).run Tryd.prog w2 = .ok v3 w3 ∧ (Builtin.append_ #[22, 22] 22 #[v3, .slice B nb cb]).run Tryd.prog w3 = .ok (.slice A4 (pn + nb) c4) w4 ∧
      pn + nb ≤ c4 ∧ Src w4 (fun _ => True) A4 (pl ++ bh) ∧ Below w2.heap.size w2 w4 := by
  obtain ⟨v3, w3, o3, hrun3, own3, t3, ho3⟩ := run_append_src w2 (.slice none 0 0) none [] pl (Own.nil w2) A1 pn c1 hpn h1 (by simp; omega)
  rw [List.nil_append] at own3
  have hb3 := turn_none t3
  obtain ⟨v4, w4, o4, hrun4, own4, t4, ho4⟩ := run_append_src w3 v3 o3 pl bh own3 B nb cb hb (h2.stay hb3) (by rw [hpn, hb]; omega)
  have hb4 : Below w2.heap.size w2 w4 := hb3.trans ⟨t4.os, t4.tape, t4.output, t4.size, fun b hb => t4.block b (by have := hb3.size; omega) (fun e => by
    rcases ho3 with h | h
    · rw [h] at e; cases e
    · rw [h] at e; injection e with e; omega)⟩
  obtain ⟨A4, c4, hv4, hc4, src4⟩ := own4.srcc (fun _ => True) (fun _ _ => trivial)
  rw [show (pl ++ bh).length = pn + nb by rw [List.length_append, hpn, hb]] at hv4 hc4
  subst hv4
  exact ⟨v3, w3, A4, c4, w4, hrun3, hrun4, hc4, src4, hb4⟩

set_option maxHeartbeats 16000000 in
set_option maxRecDepth 100000 in
theorem stands_law {P P' : Nat → Prop} (HC : HeadC) (w : World) (A : Option Addr) (bs : List UInt8) (n c : Nat) (hn : bs.length = n) (hnc : n ≤ c) (h : Src w P A bs) (B : Option Addr) (bh : List UInt8) (nb cb : Nat) (hb : bh.length = nb) (hsum : n + nb ≤ 1048576) (hB : Src w P' B bh) (at0 : Nat) (hat0 : at0 ≤ 65535) :
    Calls Tryd.prog 6 #[.slice A n c, .slice B nb cb, .int .u16 (at0 : Int)] w fun e w' => e = .returned (.bool true) ∧ Below w.heap.size w w' := by
  obtain ⟨k, hk⟩ : ∃ k, at0 % (n + 1) = k := ⟨_, rfl⟩
  have hkn : k ≤ n := by
    have := Nat.mod_lt at0 (show 0 < n + 1 by omega)
    omega
  have hrem : ((at0 : Int)).tmod ((n : Int) + 1) = (k : Int) := by
    rw [← hk, Int.tmod_eq_emod_of_nonneg (by omega)]
    rfl
  have C1 := Lib.hid (HC.parse w A bs n c hn hnc (by omega) h)
  have HN := Lib.hid hn
  have HNB := Lib.hid hb
  have SA := Lib.hid h
  have SB := Lib.hid hB
  have hL1 : (bs ++ bh).length = n + nb := by rw [List.length_append, hn, hb]
  have HL1 := Lib.hid hL1
  have HTK := Lib.hid (show (bs.take k).length = k by rw [List.length_take, hn]; omega)
  obtain ⟨⟨l, m, e⟩, hR⟩ : ∃ R, parseH bs = R := ⟨_, rfl⟩
  have hrange := run_range bs 0 0 0 [] [] [] l m e hR
  clear hn h hb hB hk hL1
  rcases hrange with ⟨rfl, hm0, hm1, hm2⟩ | ⟨he, rfl, rfl⟩
  · have hm : 2 ≤ m := parse_two bs l m hR
    obtain ⟨hfine, hl32⟩ := parse_fine bs l m hR
    have HF := Lib.hid hfine
    have HSM := Lib.hid (run_small bs 0 0 0 [] [] [] l m (by omega) (by simp) (fun _ h => by cases h) hR)
    have HW := Lib.hid (show parseH (bs ++ bh) = (l, m, 0) by rw [head_stands bs bh (by rw [hR]; exact (by decide : (0 : Nat) ≠ 8)), hR])
    have hmn : m ≤ n := by rw [← HN.out]; omega
    have HSL := Lib.hid (fun h : k < m => head_short bs k l m hR h)
    have HLO := Lib.hid (fun h : m ≤ k => head_long bs k l m hR h)
    rw [hR] at C1
    clear hR hfine hm1
    go_enter Tryd.func6, Tryd.ntmps6
    go_wp2_with fail
    refine C1.out.mono ?_
    rintro e w1 ⟨v1, o1, rfl, own1, _, b1⟩
    obtain ⟨A1, c1, hv1, src1⟩ := own1.src (fun _ => True) (fun _ _ => trivial)
    simp only at hv1 src1
    subst hv1
    have F1 := Lib.hid src1
    have X1 := Lib.hid b1
    clear own1 src1 b1 C1
    obtain ⟨ln, hln⟩ : ∃ ln, l.length = ln := ⟨_, rfl⟩
    rw [hln] at hl32
    simp only [hln]
    have HLN := Lib.hid hln
    have i1 : ¬ (m : Int) < 2 := by omega
    have i2 : ¬ (n : Int) < (m : Int) := by omega
    have i3 : ¬ (2048 : Int) < (m : Int) := by omega
    have i4 : ¬ (32 : Int) < (ln : Int) := by omega
    clear hln
    go_wp2_with fail
    go_loopw [10] (fun vi wr => ∃ j : Nat, vi = .int .i64 (j : Int) ∧ j ≤ ln ∧ Hid (Below w1.heap.size w1 wr)) (fun vi _ => ln - (intOf vi).toNat)
    case atStart => exact ⟨0, rfl, Nat.zero_le _, Lib.hid (Below.refl _ _)⟩
    case round =>
      obtain ⟨j, rfl, hj, HB⟩ := hrel
      by_cases hlt : j < ln
      · obtain ⟨p, f, hf, hat, y0, y1, _, hpb⟩ := F1.out.at (c := c1) HLN.out hlt HB.out
        obtain ⟨t1, t2, t3⟩ := HF.out f (List.mem_of_getElem? hf)
        obtain ⟨Nm, hNm⟩ : ∃ Nm : ByteArray, Nm = ⟨f.1.toArray⟩ := ⟨_, rfl⟩
        obtain ⟨Vl, hVl⟩ : ∃ Vl : ByteArray, Vl = ⟨f.2.toArray⟩ := ⟨_, rfl⟩
        rw [← hNm] at y0
        rw [← hVl] at y1
        have q1 : f.1 = bl Nm := by rw [hNm, bl_mk]
        have q2 : f.2 = bl Vl := by rw [hVl, bl_mk]
        rw [q1] at t1
        rw [q2] at t2 t3
        have hvs : Vl.size ≤ 140737488351232 := by
          have h1 := HSM.out f (List.mem_of_getElem? hf)
          rw [q2, bl_length] at h1
          omega
        have CT := Lib.hid (fun X : World => ty_token Nm X)
        have CV := Lib.hid (fun X : World => ty_visible Vl X)
        have CR := Lib.hid (fun X : World => ty_trim Vl X hvs)
        rw [t1] at CT
        rw [t2] at CV
        unfold Text at CR
        rw [t3, mk_bl] at CR
        have y0' := y0
        have B1 : Hid (Below w1.heap.size w1 wr.drew) := Lib.hid (below_drewN HB.out 1)
        have Z : Hid (∀ X : World, Below wr.heap.size wr X → X.cell? p = some (.string Nm) ∧ X.cell? ⟨p.block, p.off + 1, none⟩ = some (.string Vl)) := Lib.hid (fun X hX => ⟨(hX.cell (Lib.lt_of_cell y0)).trans y0, (hX.cell (Lib.lt_of_cell y1)).trans y1⟩)
        have D0 : Hid (Below wr.heap.size wr wr.drew) := Lib.hid (below_drewN (Below.refl _ _) 1)
        clear hf hNm hVl q1 q2 t1 t2 t3 hvs y0'
        go_wp2_with fail
        go_region_held3 (fun w' => w'.cell? p = some (.string Nm) ∧ w'.cell? ⟨p.block, p.off + 1, none⟩ = some (.string Vl)) (first | exact ⟨y0, y1⟩ | exact z5 | exact z6 | exact z7 | go_keep)
          (first
            | (go_at_call 25
               (with_reducible refine (CT.out wr.drew).mono ?_)
               rintro e w5 ⟨rfl, b5⟩
               have D5 := Lib.hid (D0.out.trans (b5.mono D0.out.size))
               have z5 := Z.out w5 D5.out
               clear b5)
            | (go_at_call 26
               (with_reducible refine (CV.out w5).mono ?_)
               rintro e w6 ⟨rfl, b6⟩
               have D6 := Lib.hid (D5.out.trans (b6.mono D5.out.size))
               have z6 := Z.out w6 D6.out
               clear b6)
            | (go_at_call 27
               (with_reducible refine (CR.out w6).mono ?_)
               rintro e w7 ⟨rfl, b7⟩
               have D7 := Lib.hid (D6.out.trans (b7.mono D6.out.size))
               have z7 := Z.out w7 D7.out
               clear b7))
        all_goals
          go_wp2_with fail
          go_roundw
          case rel => exact ⟨j + 1, by go_num, hlt, Lib.hid (HB.out.trans (D7.out.mono HB.out.size))⟩
          case measure => simp [intOf]; omega
      · have X2 := Lib.hid (X1.out.trans (HB.out.mono X1.out.size))
        have F2 := Lib.hid (F1.out.below HB.out)
        clear HB F1 X1
        obtain ⟨v3, w3, A4, c4, w4, hrun3, hrun4, hc4, src4, b4⟩ := run_append_two wr A bs n c HN.out (SA.out.stay X2.out) B bh nb cb HNB.out (SB.out.stay X2.out) (by omega)
        have R3 := Lib.hid hrun3
        have R4 := Lib.hid hrun4
        have S4 := Lib.hid src4
        have X4 := Lib.hid (X2.out.trans (b4.mono X2.out.size))
        have Y4 := Lib.hid b4
        clear hrun3 hrun4 src4 b4
        go_wp2_with (at_builtin; first | (refine append_by rfl _ (.tmp 114) 22 rfl _ _ v3 w3 rfl rfl R3.out ?_) | (refine append_by rfl (.tmp 115) (.tmp 116) 22 rfl _ _ _ w4 rfl rfl R4.out ?_))
        have C5 := HC.parse w4 A4 (bs ++ bh) (n + nb) c4 HL1.out hc4 (by omega) S4.out
        rw [HW.out] at C5
        refine C5.mono ?_
        rintro e w5 ⟨v5, o5, rfl, own5, _, b5⟩
        obtain ⟨A5, c5, hv5, src5⟩ := own5.src (fun _ => True) (fun _ _ => trivial)
        simp only at hv5 src5
        rw [HLN.out] at hv5
        subst hv5
        have X5 := Lib.hid (X4.out.trans (b5.mono X4.out.size))
        have F5 := Lib.hid (F2.out.below (Y4.out.trans (b5.mono Y4.out.size)))
        have CS := rsame_any w5 A1 A5 l l ln ln c1 c5 HLN.out HLN.out (by omega) F5.out src5
        rw [show (l == l) = true by simp] at CS
        have CS' := Lib.hid CS
        clear own5 src5 b5 C5 R3 R4 S4 X4 Y4 F2 X2 CS
        go_wp2_with fail
        refine CS'.out.mono ?_
        rintro e w6 ⟨rfl, b6⟩
        have X6 := Lib.hid (X5.out.trans (b6.mono X5.out.size))
        have F6 := Lib.hid (F5.out.below b6)
        obtain ⟨A6, hsl, hsrc⟩ := run_front A n c k (by omega)
        have S6 := Lib.hid (hsrc w6 _ bs HN.out hkn (SA.out.stay X6.out))
        have wr1 : IntKind.i64.wrap ((n : Int) + 1) = (n : Int) + 1 := by rw [IntKind.wrap_i64]; omega
        have i5 : ¬ ((n : Int) + 1 = 0) := by omega
        clear b6 CS' X5 F5 hsrc
        go_wp2_with fail
        have C7 := HC.parse w6 A6 (bs.take k) k c HTK.out (by omega) (by omega) S6.out
        by_cases hkm : k < m
        · rw [HSL.out hkm] at C7
          refine C7.mono ?_
          rintro e w7 ⟨v7, o7, rfl, own7, _, b7⟩
          obtain ⟨A7, c7, hv7, _⟩ := own7.src (fun _ => True) (fun _ _ => trivial)
          simp only [List.length_nil] at hv7
          subst hv7
          have X7 := Lib.hid (X6.out.trans (b7.mono X6.out.size))
          have i6 : (k : Int) < (m : Int) := by omega
          clear own7 b7 C7 X6 S6 F6
          go_wp2_with fail
          refine (wakes_head HC w7).mono ?_
          rintro e w9 ⟨rfl, b9⟩
          have X9 := Lib.hid (X7.out.trans (b9.mono X7.out.size))
          clear b9
          go_wp2_with fail
          go_ret
          exact ⟨rfl, X9.out⟩
        · rw [HLO.out (by omega)] at C7
          refine C7.mono ?_
          rintro e w7 ⟨v7, o7, rfl, own7, _, b7⟩
          obtain ⟨A7, c7, hv7, src7⟩ := own7.src (fun _ => True) (fun _ _ => trivial)
          simp only at hv7 src7
          rw [HLN.out] at hv7
          subst hv7
          have X7 := Lib.hid (X6.out.trans (b7.mono X6.out.size))
          have CS := rsame_any w7 A7 A1 l l ln ln c7 c1 HLN.out HLN.out (by omega) src7 (F6.out.below b7)
          rw [show (l == l) = true by simp] at CS
          have CS' := Lib.hid CS
          clear own7 src7 b7 C7 X6 S6 F6 CS
          go_wp2_with fail
          refine CS'.out.mono ?_
          rintro e w8 ⟨rfl, b8⟩
          have X8 := Lib.hid (X7.out.trans (b8.mono X7.out.size))
          clear b8 CS' X7
          go_wp2_with fail
          refine (wakes_head HC w8).mono ?_
          rintro e w9 ⟨rfl, b9⟩
          have X9 := Lib.hid (X8.out.trans (b9.mono X8.out.size))
          clear b9
          go_wp2_with fail
          go_ret
          exact ⟨rfl, X9.out⟩
  · rcases he with rfl | rfl | rfl
    · have hR' := Lib.hid hR
      rw [hR] at C1
      have hlen := run_more bs 0 0 0 [] [] [] [] 0 (by omega) hR
      have HN' := HN.out
      have i0 : ¬ (2048 : Int) < (n : Int) := by omega
      clear hlen HN'
      have HPRE := Lib.hid (head_prefix bs k)
      rw [hR] at HPRE
      clear hR
      go_enter Tryd.func6, Tryd.ntmps6
      go_wp2_with fail
      refine C1.out.mono ?_
      rintro e w1 ⟨v1, o1, rfl, own1, _, b1⟩
      obtain ⟨A1, c1, hv1, src1⟩ := own1.src (fun _ => True) (fun _ _ => trivial)
      simp only [List.length_nil] at hv1
      subst hv1
      have X1 := Lib.hid b1
      have F1 := Lib.hid src1
      clear own1 src1 b1 C1
      go_wp2_with fail
      go_loopw [10] (fun vi wr => vi = .int .i64 0 ∧ Hid (Below w1.heap.size w1 wr)) (fun vi _ => 0)
      case atStart => exact ⟨rfl, Lib.hid (Below.refl _ _)⟩
      case round =>
        obtain ⟨rfl, HB⟩ := hrel
        have X2 := Lib.hid (X1.out.trans (HB.out.mono X1.out.size))
        have F2 := Lib.hid (F1.out.below HB.out)
        clear HB F1 X1
        obtain ⟨v3, w3, A4, c4, w4, hrun3, hrun4, hc4, src4, b4⟩ := run_append_two wr A bs n c HN.out (SA.out.stay X2.out) B bh nb cb HNB.out (SB.out.stay X2.out) (by omega)
        have R3 := Lib.hid hrun3
        have R4 := Lib.hid hrun4
        have S4 := Lib.hid src4
        have X4 := Lib.hid (X2.out.trans (b4.mono X2.out.size))
        have Y4 := Lib.hid b4
        clear hrun3 hrun4 src4 b4
        go_wp2_with (at_builtin; first | (refine append_by rfl _ (.tmp 114) 22 rfl _ _ v3 w3 rfl rfl R3.out ?_) | (refine append_by rfl (.tmp 115) (.tmp 116) 22 rfl _ _ _ w4 rfl rfl R4.out ?_))
        have C5 := HC.parse w4 A4 (bs ++ bh) (n + nb) c4 HL1.out hc4 (by omega) S4.out
        obtain ⟨⟨l5, m5, e5⟩, h5⟩ : ∃ R5, parseH (bs ++ bh) = R5 := ⟨_, rfl⟩
        rw [h5] at C5
        refine C5.mono ?_
        rintro e w5 ⟨v5, o5, rfl, own5, _, b5⟩
        obtain ⟨A5, c5, hv5, src5⟩ := own5.src (fun _ => True) (fun _ _ => trivial)
        simp only at hv5
        subst hv5
        have X6 := Lib.hid (X4.out.trans (b5.mono X4.out.size))
        obtain ⟨A6, hsl, hsrc⟩ := run_front A n c k (by omega)
        have S6 := Lib.hid (hsrc w5 _ bs HN.out hkn (SA.out.stay X6.out))
        have wr1 : IntKind.i64.wrap ((n : Int) + 1) = (n : Int) + 1 := by rw [IntKind.wrap_i64]; omega
        have i5 : ¬ ((n : Int) + 1 = 0) := by omega
        clear own5 src5 b5 C5 R3 R4 S4 X4 Y4 F2 X2 hsrc h5
        go_wp2_with fail
        have C7 := HC.parse w5 A6 (bs.take k) k c HTK.out (by omega) (by omega) S6.out
        rw [show parseH (bs.take k) = ([], 0, 8) by rcases HPRE.out with h | h <;> exact h] at C7
        refine C7.mono ?_
        rintro e w7 ⟨v7, o7, rfl, own7, _, b7⟩
        obtain ⟨A7, c7, hv7, _⟩ := own7.src (fun _ => True) (fun _ _ => trivial)
        simp only [List.length_nil] at hv7
        subst hv7
        have X7 := Lib.hid (X6.out.trans (b7.mono X6.out.size))
        clear own7 b7 C7 X6 S6
        go_wp2_with fail
        refine (wakes_head HC w7).mono ?_
        rintro e w9 ⟨rfl, b9⟩
        have X9 := Lib.hid (X7.out.trans (b9.mono X7.out.size))
        clear b9
        go_wp2_with fail
        go_ret
        exact ⟨rfl, X9.out⟩
    · have hR' := Lib.hid hR
      rw [hR] at C1
      have HW := Lib.hid (show parseH (bs ++ bh) = ([], 0, 20) by rw [head_stands bs bh (by rw [hR]; exact (by decide : (20 : Nat) ≠ 8)), hR])
      have HPRE := Lib.hid (head_prefix bs k)
      rw [hR] at HPRE
      clear hR
      go_enter Tryd.func6, Tryd.ntmps6
      go_wp2_with fail
      refine C1.out.mono ?_
      rintro e w1 ⟨v1, o1, rfl, own1, _, b1⟩
      obtain ⟨A1, c1, hv1, src1⟩ := own1.src (fun _ => True) (fun _ _ => trivial)
      simp only [List.length_nil] at hv1
      subst hv1
      have X1 := Lib.hid b1
      have F1 := Lib.hid src1
      clear own1 src1 b1 C1
      go_wp2_with fail
      go_loopw [10] (fun vi wr => vi = .int .i64 0 ∧ Hid (Below w1.heap.size w1 wr)) (fun vi _ => 0)
      case atStart => exact ⟨rfl, Lib.hid (Below.refl _ _)⟩
      case round =>
        obtain ⟨rfl, HB⟩ := hrel
        have X2 := Lib.hid (X1.out.trans (HB.out.mono X1.out.size))
        have F2 := Lib.hid (F1.out.below HB.out)
        clear HB F1 X1
        obtain ⟨v3, w3, A4, c4, w4, hrun3, hrun4, hc4, src4, b4⟩ := run_append_two wr A bs n c HN.out (SA.out.stay X2.out) B bh nb cb HNB.out (SB.out.stay X2.out) (by omega)
        have R3 := Lib.hid hrun3
        have R4 := Lib.hid hrun4
        have S4 := Lib.hid src4
        have X4 := Lib.hid (X2.out.trans (b4.mono X2.out.size))
        have Y4 := Lib.hid b4
        clear hrun3 hrun4 src4 b4
        go_wp2_with (at_builtin; first | (refine append_by rfl _ (.tmp 114) 22 rfl _ _ v3 w3 rfl rfl R3.out ?_) | (refine append_by rfl (.tmp 115) (.tmp 116) 22 rfl _ _ _ w4 rfl rfl R4.out ?_))
        have C5 := HC.parse w4 A4 (bs ++ bh) (n + nb) c4 HL1.out hc4 (by omega) S4.out
        rw [HW.out] at C5
        refine C5.mono ?_
        rintro e w5 ⟨v5, o5, rfl, own5, _, b5⟩
        obtain ⟨A5, c5, hv5, src5⟩ := own5.src (fun _ => True) (fun _ _ => trivial)
        simp only [List.length_nil] at hv5
        subst hv5
        have X5 := Lib.hid (X4.out.trans (b5.mono X4.out.size))
        have F5 := Lib.hid (F2.out.below (Y4.out.trans (b5.mono Y4.out.size)))
        have CS := rsame_any w5 A1 A5 [] [] 0 0 c1 c5 rfl rfl (by omega) F5.out src5
        rw [show (([] : List Fld) == []) = true by rfl] at CS
        have CS' := Lib.hid CS
        clear own5 src5 b5 C5 R3 R4 S4 X4 Y4 F2 X2 CS
        go_wp2_with fail
        refine CS'.out.mono ?_
        rintro e w6 ⟨rfl, b6⟩
        have X6 := Lib.hid (X5.out.trans (b6.mono X5.out.size))
        have F6 := Lib.hid (F5.out.below b6)
        obtain ⟨A6, hsl, hsrc⟩ := run_front A n c k (by omega)
        have S6 := Lib.hid (hsrc w6 _ bs HN.out hkn (SA.out.stay X6.out))
        have wr1 : IntKind.i64.wrap ((n : Int) + 1) = (n : Int) + 1 := by rw [IntKind.wrap_i64]; omega
        have i5 : ¬ ((n : Int) + 1 = 0) := by omega
        clear b6 CS' X5 F5 hsrc
        go_wp2_with fail
        have C7 := HC.parse w6 A6 (bs.take k) k c HTK.out (by omega) (by omega) S6.out
        rcases HPRE.out with hp | hp
        · rw [hp] at C7
          refine C7.mono ?_
          rintro e w7 ⟨v7, o7, rfl, own7, _, b7⟩
          obtain ⟨A7, c7, hv7, src7⟩ := own7.src (fun _ => True) (fun _ _ => trivial)
          simp only [List.length_nil] at hv7
          subst hv7
          have X7 := Lib.hid (X6.out.trans (b7.mono X6.out.size))
          have CS := rsame_any w7 A7 A1 [] [] 0 0 c7 c1 rfl rfl (by omega) src7 (F6.out.below b7)
          rw [show (([] : List Fld) == []) = true by rfl] at CS
          have CS' := Lib.hid CS
          clear own7 src7 b7 C7 X6 S6 F6 CS
          go_wp2_with fail
          refine CS'.out.mono ?_
          rintro e w8 ⟨rfl, b8⟩
          have X8 := Lib.hid (X7.out.trans (b8.mono X7.out.size))
          clear b8 CS' X7
          go_wp2_with fail
          refine (wakes_head HC w8).mono ?_
          rintro e w9 ⟨rfl, b9⟩
          have X9 := Lib.hid (X8.out.trans (b9.mono X8.out.size))
          clear b9
          go_wp2_with fail
          go_ret
          exact ⟨rfl, X9.out⟩
        · rw [hp] at C7
          refine C7.mono ?_
          rintro e w7 ⟨v7, o7, rfl, own7, _, b7⟩
          obtain ⟨A7, c7, hv7, _⟩ := own7.src (fun _ => True) (fun _ _ => trivial)
          simp only [List.length_nil] at hv7
          subst hv7
          have X7 := Lib.hid (X6.out.trans (b7.mono X6.out.size))
          clear own7 b7 C7 X6 S6 F6
          go_wp2_with fail
          refine (wakes_head HC w7).mono ?_
          rintro e w9 ⟨rfl, b9⟩
          have X9 := Lib.hid (X7.out.trans (b9.mono X7.out.size))
          clear b9
          go_wp2_with fail
          go_ret
          exact ⟨rfl, X9.out⟩
    · have hR' := Lib.hid hR
      rw [hR] at C1
      have HW := Lib.hid (show parseH (bs ++ bh) = ([], 0, 21) by rw [head_stands bs bh (by rw [hR]; exact (by decide : (21 : Nat) ≠ 8)), hR])
      have HPRE := Lib.hid (head_prefix bs k)
      rw [hR] at HPRE
      clear hR
      go_enter Tryd.func6, Tryd.ntmps6
      go_wp2_with fail
      refine C1.out.mono ?_
      rintro e w1 ⟨v1, o1, rfl, own1, _, b1⟩
      obtain ⟨A1, c1, hv1, src1⟩ := own1.src (fun _ => True) (fun _ _ => trivial)
      simp only [List.length_nil] at hv1
      subst hv1
      have X1 := Lib.hid b1
      have F1 := Lib.hid src1
      clear own1 src1 b1 C1
      go_wp2_with fail
      go_loopw [10] (fun vi wr => vi = .int .i64 0 ∧ Hid (Below w1.heap.size w1 wr)) (fun vi _ => 0)
      case atStart => exact ⟨rfl, Lib.hid (Below.refl _ _)⟩
      case round =>
        obtain ⟨rfl, HB⟩ := hrel
        have X2 := Lib.hid (X1.out.trans (HB.out.mono X1.out.size))
        have F2 := Lib.hid (F1.out.below HB.out)
        clear HB F1 X1
        obtain ⟨v3, w3, A4, c4, w4, hrun3, hrun4, hc4, src4, b4⟩ := run_append_two wr A bs n c HN.out (SA.out.stay X2.out) B bh nb cb HNB.out (SB.out.stay X2.out) (by omega)
        have R3 := Lib.hid hrun3
        have R4 := Lib.hid hrun4
        have S4 := Lib.hid src4
        have X4 := Lib.hid (X2.out.trans (b4.mono X2.out.size))
        have Y4 := Lib.hid b4
        clear hrun3 hrun4 src4 b4
        go_wp2_with (at_builtin; first | (refine append_by rfl _ (.tmp 114) 22 rfl _ _ v3 w3 rfl rfl R3.out ?_) | (refine append_by rfl (.tmp 115) (.tmp 116) 22 rfl _ _ _ w4 rfl rfl R4.out ?_))
        have C5 := HC.parse w4 A4 (bs ++ bh) (n + nb) c4 HL1.out hc4 (by omega) S4.out
        rw [HW.out] at C5
        refine C5.mono ?_
        rintro e w5 ⟨v5, o5, rfl, own5, _, b5⟩
        obtain ⟨A5, c5, hv5, src5⟩ := own5.src (fun _ => True) (fun _ _ => trivial)
        simp only [List.length_nil] at hv5
        subst hv5
        have X5 := Lib.hid (X4.out.trans (b5.mono X4.out.size))
        have F5 := Lib.hid (F2.out.below (Y4.out.trans (b5.mono Y4.out.size)))
        have CS := rsame_any w5 A1 A5 [] [] 0 0 c1 c5 rfl rfl (by omega) F5.out src5
        rw [show (([] : List Fld) == []) = true by rfl] at CS
        have CS' := Lib.hid CS
        clear own5 src5 b5 C5 R3 R4 S4 X4 Y4 F2 X2 CS
        go_wp2_with fail
        refine CS'.out.mono ?_
        rintro e w6 ⟨rfl, b6⟩
        have X6 := Lib.hid (X5.out.trans (b6.mono X5.out.size))
        have F6 := Lib.hid (F5.out.below b6)
        obtain ⟨A6, hsl, hsrc⟩ := run_front A n c k (by omega)
        have S6 := Lib.hid (hsrc w6 _ bs HN.out hkn (SA.out.stay X6.out))
        have wr1 : IntKind.i64.wrap ((n : Int) + 1) = (n : Int) + 1 := by rw [IntKind.wrap_i64]; omega
        have i5 : ¬ ((n : Int) + 1 = 0) := by omega
        clear b6 CS' X5 F5 hsrc
        go_wp2_with fail
        have C7 := HC.parse w6 A6 (bs.take k) k c HTK.out (by omega) (by omega) S6.out
        rcases HPRE.out with hp | hp
        · rw [hp] at C7
          refine C7.mono ?_
          rintro e w7 ⟨v7, o7, rfl, own7, _, b7⟩
          obtain ⟨A7, c7, hv7, src7⟩ := own7.src (fun _ => True) (fun _ _ => trivial)
          simp only [List.length_nil] at hv7
          subst hv7
          have X7 := Lib.hid (X6.out.trans (b7.mono X6.out.size))
          have CS := rsame_any w7 A7 A1 [] [] 0 0 c7 c1 rfl rfl (by omega) src7 (F6.out.below b7)
          rw [show (([] : List Fld) == []) = true by rfl] at CS
          have CS' := Lib.hid CS
          clear own7 src7 b7 C7 X6 S6 F6 CS
          go_wp2_with fail
          refine CS'.out.mono ?_
          rintro e w8 ⟨rfl, b8⟩
          have X8 := Lib.hid (X7.out.trans (b8.mono X7.out.size))
          clear b8 CS' X7
          go_wp2_with fail
          refine (wakes_head HC w8).mono ?_
          rintro e w9 ⟨rfl, b9⟩
          have X9 := Lib.hid (X8.out.trans (b9.mono X8.out.size))
          clear b9
          go_wp2_with fail
          go_ret
          exact ⟨rfl, X9.out⟩
        · rw [hp] at C7
          refine C7.mono ?_
          rintro e w7 ⟨v7, o7, rfl, own7, _, b7⟩
          obtain ⟨A7, c7, hv7, _⟩ := own7.src (fun _ => True) (fun _ _ => trivial)
          simp only [List.length_nil] at hv7
          subst hv7
          have X7 := Lib.hid (X6.out.trans (b7.mono X6.out.size))
          clear own7 b7 C7 X6 S6 F6
          go_wp2_with fail
          refine (wakes_head HC w7).mono ?_
          rintro e w9 ⟨rfl, b9⟩
          have X9 := Lib.hid (X7.out.trans (b9.mono X7.out.size))
          clear b9
          go_wp2_with fail
          go_ret
          exact ⟨rfl, X9.out⟩
end Go.Proofs.YtdggfonbjhejoaaDoor
