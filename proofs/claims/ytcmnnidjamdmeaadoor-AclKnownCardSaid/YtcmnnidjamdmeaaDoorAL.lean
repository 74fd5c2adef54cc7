/-
  The law AclFirst, walked.
  Conditions: lists of at most 1048576 rules, whose Methods lie in memory; Go's table of powers of ten is as its text lays it.
-/
import Derived.Test.YtcmnnidjamdmeaaDoorAK
import Derived.Deep.RegionHeld3
namespace Go.Proofs.YtcmnnidjamdmeaaDoor.Acl
open Go.RowKit

theorem mat_snoc (q : RuE → Bool) (L : List RuE) (k : Nat) (r : RuE) (h : L[k]? = some r) : (L.take (k + 1)).filter q = (L.take k).filter q ++ (if q r = true then [r] else []) := by
  rw [take_snoc L k r h, List.filter_append]
  cases hq : q r <;> simp [hq]
theorem append_by_g {P : Program} {w : World} {ops : Array Oper} {rest : List Oper} {o : Oper} {a : Act} {Q : Exit → Act → World → Prop} (hw : Region.wanted o (yielded ops a.tmps) = true) (s x : Operand) (t : TypeId)
    (ho : o.op = .call { callee := .builtin .append, args := #[s, x], argTypes := #[t, t] }) (v xv v' : Value) (w' : World) (hs : a.eval s = v) (hx : a.eval x = xv)
    (hrun : (Builtin.append_ #[t, t] o.type #[v, xv]).run P w = .ok v' w') (h : wpList P ops Q rest (a.put o.dst v') w') : wpList P ops Q (o :: rest) a w := by
  refine wpList_step fun K hK => ?_
  rw [if_pos hw]
  unfold Oper.wp execOp
  simp only [ho, resolve, invoke, builtin, Sem.run_bind, Sem.run_pure, Result.andThen_ok, List.map_toArray, List.map_cons, List.map_nil, hs, hx, hrun]
  exact hK _ _ h
theorem below_drew {B : Nat} {a w : World} (h : Below B a w) : Below B a w.drew := ⟨h.os, h.tape, h.output, h.size, h.block⟩
theorem run_front_ru (A : Option Addr) (n c k : Nat) (hk : k ≤ c) : ∃ A', (∀ W : World, (Instr.slice 22 (.slice A n c) none (some (.int .i64 (k : Int))) none).run Tryd.prog W = .ok (.slice A' k c) W) ∧
    ∀ (w : World) (P : Nat → Prop) (ls : List RuE), ls.length = n → k ≤ n → SrcU w P A ls → SrcU w P A' (ls.take k) := by
  obtain ⟨sz, hsz⟩ : ∃ sz, (if c = 0 then A else A.map (·.add (0 * sz))) = A := by
    refine ⟨0, ?_⟩
    split
    · rfl
    · cases A with
      | none => rfl
      | some a => simp [Addr.add]
  refine ⟨if c = 0 then A else A.map (·.add (0 * 5)), fun W => ?_, fun w P ls hn hkn h => ?_⟩
  · simp [Instr.slice, run_underlying Tryd.underlying22, Instr.sliceBounds, Instr.sliceBound, asIntOf, hk]
  · have : (if c = 0 then A else A.map (·.add (0 * 5))) = A := by
      split
      · rfl
      · cases A with
        | none => rfl
        | some a => simp [Addr.add]
    rw [this]
    exact h.take k
theorem row_own {w : World} {g : Nat} {L : List RuE} (h : Is w g 25 (rus L)) (hl : L.length ≤ maxLen) : OwnU w (.slice (some ⟨g, 0, none⟩) L.length L.length) (some g) L :=
  ⟨⟨rus_length L, .inr ⟨g, L.length, (rus L).toArray, rfl, Nat.zero_le _, h, Nat.le_refl _, hl, by simpa using rus_length L, by rw [← rus_length L]; simp⟩⟩, rfl⟩
set_option maxHeartbeats 8000000 in
set_option maxRecDepth 100000 in
theorem first_law (w : World) (A : Option Addr) (L : List RuE) (n c : Nat) (hn : L.length = n) (hmax : n ≤ 1048576) (hs : SrcU w (fun _ => True) A L) (hok : ∀ r ∈ L, r.Ok w) (A1 : Option Addr) (L1 : List RuE) (n1 c1 : Nat) (hn1 : L1.length = n1) (hmax1 : n1 ≤ 1048576) (hs1 : SrcU w (fun _ => True) A1 L1) (hok1 : ∀ r ∈ L1, r.Ok w) (r : RuE) (hr : r.Ok w) (h : ByteArray) (p : Int) (m : ByteArray) (hz2 : h.size ≤ 9223372036854775807) (hp : PowTab w) :
    Calls Tryd.prog 4 #[.slice A n c, .slice A1 n1 c1, .agg #[.bool r.al, .string r.h, .int .i64 r.lo, .int .i64 r.hi, .slice r.A r.n r.c], .string h, .int .i64 p, .string m] w fun e w' => e = .returned (.bool true) ∧ Below w.heap.size w w' := by
  have HN := Lib.hid hn
  have H := Lib.hid hs
  have HO := Lib.hid hok
  have HN1 := Lib.hid hn1
  have H1 := Lib.hid hs1
  have HO1 := Lib.hid hok1
  have HR := Lib.hid hr
  have HP := Lib.hid hp
  have HH := Lib.hid hz2
  have I0 := Lib.hid (Ok.box (w := w) (r := r))
  have B0 : Hid (Below w.heap.size w (w.alloc (.cells #[.bool r.al, .string r.h, .int .i64 r.lo, .int .i64 r.hi, .slice r.A r.n r.c] 25))) := Lib.hid ((Below.refl _ _).alloc (Nat.le_refl _) _)
  have CM := Lib.hid (fun (r : RuE) (W : World) (hW : r.Ok W) => matches_any r h p m W hW hz2)
  have CA := Lib.hid (fun (W : World) (hB : Below w.heap.size w W) => admits_any (P := fun _ => True) W A L n c hn (by omega) (hs.below hB) (fun r hr => (hok r hr).below hB) h p m hz2)
  have CA1 := Lib.hid (fun (W : World) (hB : Below w.heap.size w W) => admits_any (P := fun _ => True) W A1 L1 n1 c1 hn1 (by omega) (hs1.below hB) (fun r hr => (hok1 r hr).below hB) h p m hz2)
  clear hn hs hok hn1 hs1 hok1 hr hz2 hp
  go_enter Tryd.func4, Tryd.ntmps4
  go_wp2_with fail
  refine (CA.out _ B0.out).mono ?_
  rintro e w1 ⟨rfl, b1⟩
  have I1 := Lib.hid (is_below I0.out b1)
  have hlt0 : w.heap.size < w1.heap.size := by have := b1.size; simp at this; omega
  have BW := Lib.hid (B0.out.trans (b1.mono B0.out.size))
  clear b1 I0 B0
  go_wp2_with fail
  go_loopw [14, 15, 16] (fun v14 v15 vi wr => ∃ (k : Nat) (om oo : Option Nat), vi = .int .i64 (k : Int) ∧ k ≤ n ∧ Hid (Duo w1 wr v14 om ((L.take k).filter (matchF (bl h) p (bl m))) v15 oo ((L.take k).filter (fun r => !matchF (bl h) p (bl m) r)))) (fun _ _ vi _ => n - (intOf vi).toNat)
  case atStart => exact ⟨0, none, none, rfl, Nat.zero_le _, Lib.hid (Duo.start w1 w1 (Below.refl _ _))⟩
  case round =>
    obtain ⟨k, om, oo, rfl, hk, HD⟩ := hrel
    have BR := Lib.hid (BW.out.trans (HD.out.bel.mono BW.out.size))
    by_cases hlt : k < n
    · obtain ⟨pa, x, hx, hat, hpb, y0, y1, y2, y3, y4⟩ := SrcU.at (c := c) H.out HN.out hlt BR.out
      have hms := mat_snoc (matchF (bl h) p (bl m)) L k x hx
      have hns := mat_snoc (fun r => !matchF (bl h) p (bl m) r) L k x hx
      have hin := List.mem_of_getElem? hx
      have hl1 : (L.take k).length ≤ k := by rw [List.length_take]; omega
      have hl2 := Nat.le_trans (List.length_filter_le (matchF (bl h) p (bl m)) (L.take k)) hl1
      have hl3 := Nat.le_trans (List.length_filter_le (fun r => !matchF (bl h) p (bl m) r) (L.take k)) hl1
      have CM1 := CM.out x wr ((HO.out x hin).below BR.out)
      clear hx hin hl1
      cases hm : matchF (bl h) p (bl m) x with
      | true =>
        rw [hm] at CM1
        simp [hm] at hms hns
        have CM1 := Lib.hid CM1
        clear hm
        go_wp2_with fail
        refine CM1.out.mono ?_
        rintro e w5 ⟨rfl, b5⟩
        have D5 := Lib.hid (HD.out.below b5)
        obtain ⟨v', w', o', hrun, hd'⟩ := Duo.push D5.out x (by omega)
        have z0 := (b5.cell (show pa.block < wr.heap.size by have := BR.out.size; omega)).trans y0
        have z1 := (b5.cell (p := ⟨pa.block, pa.off + 1, none⟩) (show pa.block < wr.heap.size by have := BR.out.size; omega)).trans y1
        have z2 := (b5.cell (p := ⟨pa.block, pa.off + 2, none⟩) (show pa.block < wr.heap.size by have := BR.out.size; omega)).trans y2
        have z3 := (b5.cell (p := ⟨pa.block, pa.off + 3, none⟩) (show pa.block < wr.heap.size by have := BR.out.size; omega)).trans y3
        have z4 := (b5.cell (p := ⟨pa.block, pa.off + 4, none⟩) (show pa.block < wr.heap.size by have := BR.out.size; omega)).trans y4
        have HRU := Lib.hid hrun
        have D' := Lib.hid hd'
        have HMS := Lib.hid hms
        have HNS := Lib.hid hns
        clear hrun hd' b5 CM1 hms hns hl2 hl3 hpb y0 y1 y2 y3 y4
        go_wp2_with (at_builtin; refine append_by rfl (.tmp 37) (.tmp 42) 22 rfl _ _ v' w' rfl rfl HRU.out ?_)
        go_roundw
        case rel => exact ⟨k + 1, o', oo, by go_num, hlt, by rw [HMS.out, HNS.out]; exact D'⟩
        case measure => simp [intOf]; omega
      | false =>
        rw [hm] at CM1
        simp [hm] at hms hns
        have CM1 := Lib.hid CM1
        clear hm
        go_wp2_with fail
        refine CM1.out.mono ?_
        rintro e w5 ⟨rfl, b5⟩
        have D5 := Lib.hid (HD.out.below b5)
        obtain ⟨v', w', o', hrun, hd'⟩ := Duo.push D5.out.swap x (by omega)
        have z0 := (b5.cell (show pa.block < wr.heap.size by have := BR.out.size; omega)).trans y0
        have z1 := (b5.cell (p := ⟨pa.block, pa.off + 1, none⟩) (show pa.block < wr.heap.size by have := BR.out.size; omega)).trans y1
        have z2 := (b5.cell (p := ⟨pa.block, pa.off + 2, none⟩) (show pa.block < wr.heap.size by have := BR.out.size; omega)).trans y2
        have z3 := (b5.cell (p := ⟨pa.block, pa.off + 3, none⟩) (show pa.block < wr.heap.size by have := BR.out.size; omega)).trans y3
        have z4 := (b5.cell (p := ⟨pa.block, pa.off + 4, none⟩) (show pa.block < wr.heap.size by have := BR.out.size; omega)).trans y4
        have HRU := Lib.hid hrun
        have D' := Lib.hid hd'.swap
        have HMS := Lib.hid hms
        have HNS := Lib.hid hns
        clear hrun hd' b5 CM1 hms hns hl2 hl3 hpb y0 y1 y2 y3 y4
        go_wp2_with (at_builtin; refine append_by rfl (.tmp 44) (.tmp 49) 22 rfl _ _ v' w' rfl rfl HRU.out ?_)
        go_roundw
        case rel => exact ⟨k + 1, om, o', by go_num, hlt, by rw [HMS.out, HNS.out]; exact D'⟩
        case measure => simp [intOf]; omega
    · have hk' : L.take k = L := List.take_of_length_le (by rw [HN.out]; omega)
      rw [hk'] at HD
      clear hk'
      have HSO := Lib.hid (admit_sorted (h := bl h) (p := p) (m := bl m) L)
      have HAP := Lib.hid (admit_app (h := bl h) (p := p) (m := bl m) L L1)
      have HCO := Lib.hid (admit_cons (h := bl h) (p := p) (m := bl m) r L)
      have hlm := List.length_filter_le (matchF (bl h) p (bl m)) L
      have hlo := List.length_filter_le (fun r => !matchF (bl h) p (bl m) r) L
      rw [HN.out] at hlm hlo
      have HMM := Lib.hid (fun x (hx : x ∈ L.filter (matchF (bl h) p (bl m))) => (List.mem_filter.1 hx).1)
      have HMO := Lib.hid (fun x (hx : x ∈ L.filter (fun r => !matchF (bl h) p (bl m) r)) => (List.mem_filter.1 hx).1)
      cases hM : L.filter (matchF (bl h) p (bl m)) with
      | nil =>
        have hno := any_hits L hM
        rw [hM] at HD
        obtain ⟨Am, cm, hvm, _, _⟩ := HD.out.own.src (fun _ => True) (fun _ _ => trivial)
        rw [admit_none hno] at *
        rw [hno, if_neg (by simp)] at HAP
        obtain ⟨v2, w2, o2, hrun2, hd2⟩ := Duo.app (Duo.start w1 wr HD.out.bel) L A n c HN.out (H.out.below BR.out) (by rw [HN.out]; simp; omega)
        obtain ⟨v3, w3, o3, hrun3, hd3⟩ := Duo.app hd2 L1 A1 n1 c1 HN1.out (H1.out.below (BW.out.trans (hd2.bel.mono BW.out.size))) (by rw [List.nil_append, HN.out, HN1.out]; omega)
        simp only [List.length_nil] at hvm
        subst hvm
        obtain ⟨A3, c3, hv3, _, hsrc3⟩ := hd3.own.src (fun _ => True) (fun _ _ => trivial)
        have B3 := Lib.hid (BW.out.trans (hd3.bel.mono BW.out.size))
        have C3 := admits_any w3 A3 (([] ++ L) ++ L1) (([] ++ L) ++ L1).length c3 rfl (by rw [List.nil_append, List.length_append, HN.out, HN1.out]; omega) hsrc3 (fun x hx => by
          rcases List.mem_append.1 hx with hx | hx
          · exact (HO.out x (by simpa using hx)).below B3.out
          · exact (HO1.out x hx).below B3.out) h p m HH.out
        rw [List.nil_append, HAP.out] at C3
        subst hv3
        rw [List.nil_append] at hrun3
        have HRU2 := Lib.hid hrun2
        have HRU3 := Lib.hid hrun3
        have C3 := Lib.hid C3
        clear hrun2 hrun3 hd2 hd3 hsrc3 hno hM HMM HMO HSO HCO HAP
        generalize (L ++ L1).length = nl at *
        generalize admitF L1 (bl h) p (bl m) = b1 at *
        go_wp2_with (first | (at_builtin; refine append_by_g rfl (.const (.slice none 0 0)) (.tmp 57) 22 rfl _ _ v2 w2 rfl rfl HRU2.out ?_) | (at_builtin; refine append_by_g rfl (.tmp 58) (.tmp 59) 22 rfl _ _ (.slice A3 nl c3) w3 rfl rfl HRU3.out ?_))
        refine C3.out.mono ?_
        rintro e w4 ⟨rfl, b4⟩
        have B4 := Lib.hid (B3.out.trans (b4.mono B3.out.size))
        go_wp2_with fail
        refine (CA1.out w4 B4.out).mono ?_
        rintro e w5 ⟨rfl, b5⟩
        have B5 := Lib.hid (B4.out.trans (b5.mono B4.out.size))
        clear b4 b5 C3 HRU2 HRU3
        go_wp2_with fail
        refine (wakes_any w5 (HP.out.below B5.out)).mono ?_
        rintro e w6 ⟨rfl, b6⟩
        go_wp2_with fail
        go_ret
        exact ⟨rfl, B5.out.trans (b6.mono B5.out.size)⟩
      | cons r0 l0 =>
        have hhd := admit_head L r0 l0 hM
        have hany : L.any (matchF (bl h) p (bl m)) = true := by
          have : r0 ∈ L.filter (matchF (bl h) p (bl m)) := by rw [hM]; exact List.mem_cons_self ..
          exact List.any_eq_true.2 ⟨r0, (List.mem_filter.1 this).1, (List.mem_filter.1 this).2⟩
        rw [hany, if_pos rfl] at HAP
        rw [hM] at HD HSO HMM hlm
        have hh1 := hhd.1
        rw [hh1] at CA HSO HAP HCO ⊢
        clear hh1
        obtain ⟨Am, cm, hvm, hnc, hsrcm⟩ := HD.out.own.src (fun _ => True) (fun _ _ => trivial)
        obtain ⟨nm, hnm⟩ : ∃ nm, (r0 :: l0).length = nm := ⟨_, rfl⟩
        have hpos : 0 < nm := by rw [← hnm]; simp
        rw [hnm] at hvm hnc hlm
        subst hvm
        obtain ⟨pa, x0, hx0, hat, hpb, y0, _⟩ := SrcU.at (c := cm) hsrcm hnm hpos (Below.refl _ _)
        obtain rfl : r0 = x0 := by simpa using hx0
        have hat0 : ∀ Wx, (Instr.indexAt 22 (.slice Am nm cm) (.int .i64 0)).run Tryd.prog Wx = .ok (.pointer (some pa)) Wx := hat
        obtain ⟨Af, hf, hfs⟩ := run_front_ru Am nm cm 1 (by omega)
        have hf1 : ∀ W : World, (Instr.slice 22 (.slice Am nm cm) none (some (.int .i64 1)) none).run Tryd.prog W = .ok (.slice Af 1 cm) W := hf
        have e0 : ((nm : Int) == 0) = false := beq_eq_false_iff_ne.2 (by omega)
        have e0' : ¬ (nm : Int) = 0 := by omega
        have CF := admits_any wr Af [r0] 1 cm rfl (by decide) (by simpa using hfs wr _ _ hnm hpos hsrcm) (fun x hx => (HO.out x (HMM.out x (by simp at hx; rw [hx]; exact List.mem_cons_self ..))).below BR.out) h p m HH.out
        rw [hhd.2] at CF
        have CF := Lib.hid CF
        have Y0 := Lib.hid y0
        have HSM := Lib.hid hsrcm
        have HNM := Lib.hid hnm
        clear hat hf hfs hx0 hsrcm hany hhd hM hpb hnm
        go_wp2_with fail
        refine CF.out.mono ?_
        rintro e w5 ⟨rfl, b5⟩
        have B5 := Lib.hid (BR.out.trans (b5.mono BR.out.size))
        obtain ⟨v6, w6, o6, hrun6, hd6⟩ := Duo.app (HD.out.below b5).swap (r0 :: l0) Am nm cm HNM.out (HSM.out.below b5) (by rw [HNM.out]; omega)
        have B6 := Lib.hid (BW.out.trans (hd6.bel.mono BW.out.size))
        obtain ⟨A6, c6, hv6, _, hsrc6⟩ := hd6.own.src (fun _ => True) (fun _ _ => trivial)
        have C6 := admits_any w6 A6 _ _ c6 rfl (by rw [List.length_append, HNM.out]; omega) hsrc6 (fun x hx => by
          rcases List.mem_append.1 hx with hx | hx
          · exact (HO.out x (HMO.out x hx)).below B6.out
          · exact (HO.out x (HMM.out x hx)).below B6.out) h p m HH.out
        rw [HSO.out] at C6
        generalize ((L.filter (fun r => !matchF (bl h) p (bl m) r)) ++ (r0 :: l0)).length = n6 at *
        subst hv6
        have HRU6 := Lib.hid hrun6
        have C6 := Lib.hid C6
        have BL6 := Lib.hid hd6.bel
        have HI := Lib.hid HD.out.bel
        clear hrun6 hd6 hsrc6 b5 CF y0 Y0 HSO
        go_wp2_with (at_builtin; refine append_by_g rfl (.tmp 92) (.tmp 93) 22 rfl _ _ (.slice A6 n6 c6) w6 rfl rfl HRU6.out ?_)
        refine C6.out.mono ?_
        rintro e w7 ⟨rfl, b7⟩
        have BL7 := Lib.hid (BL6.out.trans (b7.mono BL6.out.size))
        have B7 := Lib.hid (B6.out.trans (b7.mono B6.out.size))
        obtain ⟨v8, w8, o8, hrun8, hd8⟩ := Duo.app (Duo.start w1 w7 BL7.out) L A n c HN.out (H.out.below B7.out) (by rw [HN.out]; simp; omega)
        obtain ⟨v9, w9, o9, hrun9, hd9⟩ := Duo.app hd8 L1 A1 n1 c1 HN1.out (H1.out.below (BW.out.trans (hd8.bel.mono BW.out.size))) (by rw [List.nil_append, HN.out, HN1.out]; omega)
        obtain ⟨A9, c9, hv9, _, hsrc9⟩ := hd9.own.src (fun _ => True) (fun _ _ => trivial)
        have B9 := Lib.hid (BW.out.trans (hd9.bel.mono BW.out.size))
        have C9 := admits_any w9 A9 (([] ++ L) ++ L1) (([] ++ L) ++ L1).length c9 rfl (by rw [List.nil_append, List.length_append, HN.out, HN1.out]; omega) hsrc9 (fun x hx => by
          rcases List.mem_append.1 hx with hx | hx
          · exact (HO.out x (by simpa using hx)).below B9.out
          · exact (HO1.out x hx).below B9.out) h p m HH.out
        rw [List.nil_append, HAP.out] at C9
        subst hv9
        rw [List.nil_append] at hrun9
        have HRU8 := Lib.hid hrun8
        have HRU9 := Lib.hid hrun9
        have C9 := Lib.hid C9
        have BL9 := Lib.hid hd9.bel
        clear hrun8 hrun9 hd8 hd9 hsrc9 b7 C6 HRU6 HAP
        generalize (L ++ L1).length = nl at *
        go_wp2_with (first | (at_builtin; refine append_by_g rfl (.const (.slice none 0 0)) (.tmp 103) 22 rfl _ _ v8 w8 rfl rfl HRU8.out ?_) | (at_builtin; refine append_by_g rfl (.tmp 104) (.tmp 105) 22 rfl _ _ (.slice A9 nl c9) w9 rfl rfl HRU9.out ?_))
        refine C9.out.mono ?_
        rintro e wa ⟨rfl, ba⟩
        have BLa := Lib.hid (BL9.out.trans (ba.mono BL9.out.size))
        have Ba := Lib.hid (B9.out.trans (ba.mono B9.out.size))
        have Ia := Lib.hid (is_below I1.out BLa.out)
        have ib := Ok.box (w := wa) (r := r)
        have hbb : Below wa.heap.size wa (wa.alloc (.cells #[.bool r.al, .string r.h, .int .i64 r.lo, .int .i64 r.hi, .slice r.A r.n r.c] 25)) := (Below.refl _ _).alloc (Nat.le_refl _) _
        have own0 : OwnU (wa.alloc (.cells #[.bool r.al, .string r.h, .int .i64 r.lo, .int .i64 r.hi, .slice r.A r.n r.c] 25)) (.slice (some ⟨wa.heap.size, 0, none⟩) 1 1) (some wa.heap.size) [r] := row_own (L := [r]) (by simpa [rus] using ib) (show 1 ≤ maxLen by decide)
        have hd10 : Duo w1 (wa.alloc (.cells #[.bool r.al, .string r.h, .int .i64 r.lo, .int .i64 r.hi, .slice r.A r.n r.c] 25)) (.slice (some ⟨wa.heap.size, 0, none⟩) 1 1) (some wa.heap.size) [r] (.slice none 0 0) none [] :=
          ⟨own0, OwnU.nil _, fun b hb => (by injection hb with hb; rw [← hb]; exact BLa.out.size), fun _ hb => (by cases hb), fun _ _ hb => (by cases hb), BLa.out.trans (hbb.mono BLa.out.size)⟩
        obtain ⟨v11, w11, o11, hrun11, hd11⟩ := Duo.app hd10 L A n c HN.out (H.out.below (Ba.out.trans (hbb.mono Ba.out.size))) (by rw [HN.out]; simp; omega)
        have B11 := Lib.hid (BW.out.trans (hd11.bel.mono BW.out.size))
        obtain ⟨A11, c11, hv11, _, hsrc11⟩ := hd11.own.src (fun _ => True) (fun _ _ => trivial)
        have hl11 : ([r] ++ L).length = n + 1 := by rw [List.length_append, HN.out]; simp; omega
        rw [hl11] at hv11
        subst hv11
        have CZ := Lib.hid (fun (W : World) (hB : Below w11.heap.size w11 W) => admits_any W A11 ([r] ++ L) (n + 1) c11 hl11 (by omega) (hsrc11.below hB) (fun x hx => by
          rcases List.mem_append.1 hx with hx | hx
          · simp at hx; rw [hx]; exact HR.out.below (B11.out.trans (hB.mono B11.out.size))
          · exact (HO.out x hx).below (B11.out.trans (hB.mono B11.out.size))) h p m HH.out)
        rw [show admitF ([r] ++ L) (bl h) p (bl m) = _ from HCO.out] at CZ
        have CMr := CM.out r w11 (HR.out.below B11.out)
        have HRU11 := Lib.hid hrun11
        have I11 := Lib.hid (is_below I1.out hd11.bel)
        obtain ⟨y0, y1, y2, y3, y4⟩ := cells5 Ia.out
        obtain ⟨z0, z1, z2, z3, z4⟩ := cells5 I11.out
        clear hrun11 hd11 hd10 own0 hbb ib hl11 hsrc11 HCO HRU8 HRU9 ba C9
        cases hm : matchF (bl h) p (bl m) r with
        | true =>
          rw [hm] at CMr
          rw [hm, if_pos rfl] at CZ
          have CMr := Lib.hid CMr
          clear hm
          go_wp2_with (at_builtin; refine append_by rfl (.tmp 115) (.tmp 116) 22 rfl _ _ (.slice A11 (n + 1) c11) w11 rfl rfl HRU11.out ?_)
          refine CMr.out.mono ?_
          rintro e w12 ⟨rfl, b12⟩
          have x0 := (cells5 (is_below I11.out b12)).1
          have B12 := Lib.hid (B11.out.trans (b12.mono B11.out.size))
          have BD : Hid (Below w.heap.size w w12.drew) := Lib.hid (below_drew B12.out)
          have CZ1 := Lib.hid (CZ.out w12.drew (below_drew b12))
          clear z0 z1 z2 z3 z4 y0 y1 y2 y3 y4 CZ CMr HRU11 b12
          go_wp2_with fail
          go_region_held3 (fun w' => w'.cell? ⟨w.heap.size, 0, none⟩ = some (.bool r.al)) (first | exact x0 | exact x1 | exact x2 | go_keep)
            (first | (go_at_call 14; (with_reducible refine CZ1.out.mono ?_); rintro e w13 ⟨rfl, b13⟩; have x1 : w13.cell? ⟨w.heap.size, 0, none⟩ = some (.bool r.al) := (b13.cell (Lib.lt_of_cell (w := w12.drew) x0)).trans x0; have B13 := Lib.hid (BD.out.trans (b13.mono BD.out.size)); clear b13) | (go_at_call 16; (with_reducible refine (wakes_any w13 (HP.out.below B13.out)).mono ?_); rintro e w14 ⟨rfl, b14⟩; have x2 : w14.cell? ⟨w.heap.size, 0, none⟩ = some (.bool r.al) := (b14.cell (Lib.lt_of_cell (w := w13) x1)).trans x1; have B14 := Lib.hid (B13.out.trans (b14.mono B13.out.size)); clear b14))
          all_goals
            go_wp2_with fail
            go_ret
            exact ⟨rfl, B14.out⟩
        | false =>
          rw [hm] at CMr
          rw [hm, if_neg (by simp)] at CZ
          have CMr := Lib.hid CMr
          clear hm
          go_wp2_with (at_builtin; refine append_by rfl (.tmp 115) (.tmp 116) 22 rfl _ _ (.slice A11 (n + 1) c11) w11 rfl rfl HRU11.out ?_)
          refine CMr.out.mono ?_
          rintro e w12 ⟨rfl, b12⟩
          have B12 := Lib.hid (B11.out.trans (b12.mono B11.out.size))
          go_wp2_with fail
          refine (CZ.out w12 b12).mono ?_
          rintro e w13 ⟨rfl, b13⟩
          have B13 := Lib.hid (B12.out.trans (b13.mono B12.out.size))
          clear b12 b13
          go_wp2_with fail
          refine (wakes_any w13 (HP.out.below B13.out)).mono ?_
          rintro e w14 ⟨rfl, b14⟩
          go_wp2_with fail
          go_ret
          exact ⟨rfl, B13.out.trans (b14.mono B13.out.size)⟩
end Go.Proofs.YtcmnnidjamdmeaaDoor.Acl
