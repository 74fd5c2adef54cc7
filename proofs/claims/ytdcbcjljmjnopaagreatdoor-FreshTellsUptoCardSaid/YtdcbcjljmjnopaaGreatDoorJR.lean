/-
  The document's own fields, moment, Date, least, ahead, lasting, told.
  Conditions: the list holds at most 1000000000 bytes.
-/
import Derived.Test.YtdcbcjljmjnopaaGreatDoorJD
import Derived.Test.YtdcbcjljmjnopaaGreatDoorDW
import Derived.Test.YtdcbcjljmjnopaaGreatDoorHD
import Derived.Test.YtdcbcjljmjnopaaGreatDoorND
namespace Go.Proofs.YtdcbcjljmjnopaaGreatDoor.Fre
open Go.RowKit Hop Con

set_option maxHeartbeats 4000000 in
set_option maxRecDepth 100000 in
theorem rfields_any {P : Nat → Prop} (w : World) (st : Int) (rr : ByteArray) (mk : Int) (A : Option Addr) (n c : Nat) (D : Option Addr) (l d : Nat) (ls : List Fld) (hn : ls.length = n) (hb : bulkF ls ≤ 1000000000) (h : SrcF w P A ls) (nm : ByteArray) (hnm : nm.size ≤ 140737488351232) :
    Calls Tryz.prog 27 #[(.agg #[.int .i64 st, .string rr, .int .i64 mk, .slice A n c, .slice D l d]), .string nm] w (GotS (getF ls (bl nm)) w) := by
  have hlen := bulk_len ls
  have hn9 : n ≤ 1000000000 := by omega
  have hb0 : Below w.heap.size w (w.alloc (.cells #[.int .i64 st, .string rr, .int .i64 mk, .slice A n c, .slice D l d] 26)) := (Below.refl _ _).alloc (Nat.le_refl _) _
  have HX := Lib.hid (RBox.made w 26 st rr mk A n c D l d)
  have B0 := Lib.hid hb0
  have HN := Lib.hid hn
  have H := Lib.hid (h.below hb0)
  have HS := Lib.hid (slim_bulk hb)
  have HM := Lib.hid hnm
  clear hn h hb hnm hlen hb0
  go_enter Tryz.func27, Tryz.ntmps27
  go_wp2_with fail
  go_loopw [5, 6] (fun v vi wr => ∃ (k : Nat) (o : Option Nat) (r : List (List UInt8)), vi = .int .i64 (k : Int) ∧ k ≤ n ∧ Hid (getF (ls.take k) (bl nm) = r) ∧ Hid (OwnS wr v o r) ∧ Hid (∀ b, o = some b → (w.alloc (.cells #[.int .i64 st, .string rr, .int .i64 mk, .slice A n c, .slice D l d] 26)).heap.size ≤ b) ∧ Hid (Below (w.alloc (.cells #[.int .i64 st, .string rr, .int .i64 mk, .slice A n c, .slice D l d] 26)).heap.size (w.alloc (.cells #[.int .i64 st, .string rr, .int .i64 mk, .slice A n c, .slice D l d] 26)) wr)) (fun _ vi _ => n - (intOf vi).toNat)
  case atStart => exact ⟨0, none, [], rfl, Nat.zero_le _, Lib.hid rfl, Lib.hid (OwnS.nil _), Lib.hid (fun _ h => by cases h), Lib.hid (Below.refl _ _)⟩
  case round =>
    obtain ⟨k, o, r, rfl, hk, HR, HO, HOB, HB⟩ := hrel
    obtain ⟨x0, x1, x2, x3, x4⟩ := HX.out.below HB.out
    by_cases hlt : k < n
    · obtain ⟨p, f, hf, hat, y0, y1, _, hpb⟩ := H.out.at (c := c) HN.out hlt HB.out
      obtain ⟨s1, s2⟩ := HS.out f (List.mem_of_getElem? hf)
      have HTK := Lib.hid (show getF (ls.take (k + 1)) (bl nm) = r ++ (if sameN (bl nm) f = true then [f.2] else []) by rw [take_snoc ls k f hf, getF_snoc, HR.out])
      have hrl : r.length ≤ n := by
        have h1 := getF_length (ls.take k) (bl nm)
        rw [HR.out, List.length_take, HN.out] at h1
        omega
      have HRL := Lib.hid hrl
      obtain ⟨Nm, hNm⟩ : ∃ Nm : ByteArray, Nm = ⟨f.1.toArray⟩ := ⟨_, rfl⟩
      have b1 : f.1 = bl Nm := by rw [hNm, bl_mk]
      rw [← hNm] at y0
      have HSN := Lib.hid (show sameN (bl nm) f = (lowF (bl Nm) == lowF (bl nm)) by unfold sameN; rw [b1])
      rw [b1, bl_length] at s1
      have CS := Lib.hid (fun X : World => same_any Nm nm X s1 HM.out)
      rw [← HSN.out] at CS
      clear hNm b1 hf HSN hrl
      generalize sameN (bl nm) f = b at *
      go_wp2_with fail
      refine (CS.out _).mono ?_
      rintro e w5 ⟨rfl, b5⟩
      have B5 := Lib.hid (HB.out.trans (b5.mono HB.out.size))
      have y5 : w5.cell? ⟨p.block, p.off + 1, none⟩ = some (.string ⟨f.2.toArray⟩) := (b5.cell (Lib.lt_of_cell y1)).trans y1
      have O5 := Lib.hid (HO.out.kept (Turn.of_below (S := fun _ => False) b5) (fun _ _ h => h))
      have x3' : w5.cell? ⟨w.heap.size, 3, none⟩ = some (.slice A n c) := (b5.cell (Lib.lt_of_cell x3)).trans x3
      clear b5 y0 y1 x0 x1 x2 x3 x4
      cases b
      · go_wp2_with fail
        go_roundw
        case rel => exact ⟨k + 1, o, r, by go_num, hlt, Lib.hid (by rw [HTK.out]; simp), O5, HOB, B5⟩
        case measure => simp [intOf]; omega
      · obtain ⟨v', w', o', hrun, own', t', ho'⟩ := run_push_str w5 _ o r f.2 O5.out (by have := HRL.out; omega)
        have HR5 := Lib.hid hrun
        have OO := Lib.hid own'
        have TT := Lib.hid (own_turn B5.out HOB.out t' ho')
        clear hrun own' t' ho'
        generalize f.2 = x at *
        go_wp2_with (at_builtin; refine append_by rfl (.tmp 22) (.tmp 29) 48 rfl _ _ v' w' rfl rfl HR5.out ?_)
        go_roundw
        case rel => exact ⟨k + 1, o', r ++ [x], by go_num, hlt, Lib.hid (by rw [HTK.out]; simp), OO, Lib.hid TT.out.2, Lib.hid TT.out.1⟩
        case measure => simp [intOf]; omega
    · have HQ := Lib.hid (show getF ls (bl nm) = r by rw [← HR.out, List.take_of_length_le (by rw [HN.out]; omega)])
      go_wp2_with fail
      go_ret
      exact ⟨_, o, rfl, by rw [HQ.out]; exact HO.out, fun b hb => Nat.le_trans B0.out.size (HOB.out b hb), B0.out.trans (HB.out.mono B0.out.size)⟩

theorem rleast_any (x y r : Int) (hr : r = min x y) (w : World) : Calls Tryz.prog 26 #[.int .u64 x, .int .u64 y] w (Same (.int .u64 r) w) := by
  by_cases h : x < y
  · obtain rfl : x = r := by omega
    clear hr
    go_enter Tryz.func26, Tryz.ntmps26
    go_wp2_with fail
    go_ret
    exact ⟨rfl, rfl⟩
  · obtain rfl : y = r := by omega
    clear hr
    go_enter Tryz.func26, Tryz.ntmps26
    go_wp2_with fail
    go_ret
    exact ⟨rfl, rfl⟩
theorem rahead_any (x y r : Int) (h0 : 0 ≤ x) (h1 : y < 18446744073709551616) (hr : r = max 0 (y - x)) (w : World) : Calls Tryz.prog 28 #[.int .u64 x, .int .u64 y] w (Same (.int .u64 r) w) := by
  by_cases h : y < x
  · obtain rfl : r = 0 := by omega
    clear hr
    go_enter Tryz.func28, Tryz.ntmps28
    go_wp2_with fail
    go_ret
    exact ⟨rfl, rfl⟩
  · have hw : IntKind.u64.wrap (y - x) = r := by rw [wrap_u64 _ (by omega)]; omega
    clear hr
    go_enter Tryz.func28, Tryz.ntmps28
    go_wp2_with fail
    go_ret
    exact ⟨rfl, rfl⟩

set_option maxHeartbeats 4000000 in
theorem rlasting_any (st : Int) (w : World) : Calls Tryz.prog 29 #[.int .i64 st] w (Same (.bool (livesB st)) w) := by
  by_cases hm : st = 200 ∨ st = 203 ∨ st = 204 ∨ st = 300 ∨ st = 301 ∨ st = 308 ∨ st = 404 ∨ st = 405 ∨ st = 410 ∨ st = 414 ∨ st = 501
  · rcases hm with rfl | rfl | rfl | rfl | rfl | rfl | rfl | rfl | rfl | rfl | rfl
    all_goals
      go_enter Tryz.func29, Tryz.ntmps29
      go_wp2_with fail
      go_ret
      exact ⟨rfl, rfl⟩
  · have hl : livesB st = false := by
      unfold livesB
      simp only [List.any_cons, List.any_nil, Bool.or_false, Bool.or_eq_false_iff, beq_eq_false_iff_ne]
      omega
    rw [hl]
    clear hl
    have e0 : (st == 200) = false := beq_eq_false_iff_ne.2 (by omega)
    have e1 : (st == 203) = false := beq_eq_false_iff_ne.2 (by omega)
    have e2 : (st == 204) = false := beq_eq_false_iff_ne.2 (by omega)
    have e3 : (st == 300) = false := beq_eq_false_iff_ne.2 (by omega)
    have e4 : (st == 301) = false := beq_eq_false_iff_ne.2 (by omega)
    have e5 : (st == 308) = false := beq_eq_false_iff_ne.2 (by omega)
    have e6 : (st == 404) = false := beq_eq_false_iff_ne.2 (by omega)
    have e7 : (st == 405) = false := beq_eq_false_iff_ne.2 (by omega)
    have e8 : (st == 410) = false := beq_eq_false_iff_ne.2 (by omega)
    have e9 : (st == 414) = false := beq_eq_false_iff_ne.2 (by omega)
    have e10 : (st == 501) = false := beq_eq_false_iff_ne.2 (by omega)
    clear hm
    go_enter Tryz.func29, Tryz.ntmps29
    go_wp2_with fail
    go_ret
    exact ⟨rfl, rfl⟩

set_option maxHeartbeats 4000000 in
theorem rmoment_any {P : Nat → Prop} (w : World) (st : Int) (rr : ByteArray) (mk : Int) (A : Option Addr) (n c : Nat) (D : Option Addr) (l d : Nat) (ls : List Fld) (hn : ls.length = n) (hb : bulkF ls ≤ 1000000000) (h : SrcF w P A ls) (nm : ByteArray) (hnm : nm.size ≤ 140737488351232) :
    Calls Tryz.prog 20 #[(.agg #[.int .i64 st, .string rr, .int .i64 mk, .slice A n c, .slice D l d]), .string nm] w (MomentTold (momentF ls (bl nm)) w) := by
  have hlen := bulk_len ls
  have hb0 : Below w.heap.size w (w.alloc (.cells #[.int .i64 st, .string rr, .int .i64 mk, .slice A n c, .slice D l d] 26)) := (Below.refl _ _).alloc (Nat.le_refl _) _
  have C := rfields_any (w.alloc (.cells #[.int .i64 st, .string rr, .int .i64 mk, .slice A n c, .slice D l d] 26)) st rr mk A n c D l d ls hn hb (h.below hb0) nm hnm
  unfold GotS at C
  have hg := get_len ls (bl nm)
  have hgl : (getF ls (bl nm)).length ≤ 1000000000 := by omega
  have HM := Lib.hid (show momentF ls (bl nm) = ((sayM (soleF (getF ls (bl nm)))).1, (sayM (soleF (getF ls (bl nm)))).2 == 0) from rfl)
  unfold MomentTold
  rw [HM.out]
  have B0 := Lib.hid hb0
  clear hn hb h hlen hg hnm HM hb0
  generalize getF ls (bl nm) = gl at *
  by_cases h1 : gl.length = 1
  · obtain ⟨x, rfl⟩ := List.length_eq_one_iff.1 h1
    have HS := Lib.hid (show soleF [x] = x from rfl)
    rw [HS.out]
    obtain ⟨xs, hxs⟩ : ∃ xs : ByteArray, xs = ⟨x.toArray⟩ := ⟨_, rfl⟩
    have CP := Lib.hid (fun X : World => rparse_any xs X)
    unfold ParseTold at CP
    rw [show parseF xs = sayM x by rw [hxs]; rfl] at CP
    have hs := sayM_cases x
    have HXS := Lib.hid hxs
    clear HS hxs
    generalize sayM x = q at *
    obtain ⟨q1, q2⟩ := q
    simp only at hs CP ⊢
    rcases hs with ⟨rfl, _⟩ | hq
    · go_enter Tryz.func20, Tryz.ntmps20
      go_wp2_with fail
      refine C.mono ?_
      rintro e w1 ⟨v1, o1, rfl, own1, _, b1⟩
      obtain ⟨A1, c1, hv1, src1⟩ := own1.src (fun _ => True) (fun _ _ => trivial)
      rw [show ([x] : List (List UInt8)).length = 1 from rfl] at hv1
      subst hv1
      have B1 := Lib.hid (B0.out.trans (b1.mono B0.out.size))
      clear own1 b1 C
      obtain ⟨p, x', hx, hat, y0, _, _⟩ := src1.at (c := c1) (k := 0) (n := 1) rfl (by decide) (Below.refl _ _)
      obtain rfl : x = x' := Option.some.inj hx
      have hat' : ∀ Wx, (Instr.indexAt 48 (.slice A1 1 c1) (.int .i64 0)).run Tryz.prog Wx = .ok (.pointer (some p)) Wx := hat
      rw [← HXS.out] at y0
      clear hx hat src1 h1 hgl HXS
      go_wp2_with fail
      refine (CP.out _).mono ?_
      rintro e w2 ⟨rfl, b2⟩
      have B2 := Lib.hid (B1.out.trans (b2.mono B1.out.size))
      clear b2 CP
      go_wp2_with fail
      go_ret2
      exact ⟨rfl, B2.out⟩
    · injection hq with hq1 hq2
      subst hq1 hq2
      go_enter Tryz.func20, Tryz.ntmps20
      go_wp2_with fail
      refine C.mono ?_
      rintro e w1 ⟨v1, o1, rfl, own1, _, b1⟩
      obtain ⟨A1, c1, hv1, src1⟩ := own1.src (fun _ => True) (fun _ _ => trivial)
      rw [show ([x] : List (List UInt8)).length = 1 from rfl] at hv1
      subst hv1
      have B1 := Lib.hid (B0.out.trans (b1.mono B0.out.size))
      clear own1 b1 C
      obtain ⟨p, x', hx, hat, y0, _, _⟩ := src1.at (c := c1) (k := 0) (n := 1) rfl (by decide) (Below.refl _ _)
      obtain rfl : x = x' := Option.some.inj hx
      have hat' : ∀ Wx, (Instr.indexAt 48 (.slice A1 1 c1) (.int .i64 0)).run Tryz.prog Wx = .ok (.pointer (some p)) Wx := hat
      rw [← HXS.out] at y0
      clear hx hat src1 h1 hgl HXS
      go_wp2_with fail
      refine (CP.out _).mono ?_
      rintro e w2 ⟨rfl, b2⟩
      have B2 := Lib.hid (B1.out.trans (b2.mono B1.out.size))
      clear b2 CP
      go_wp2_with fail
      go_ret2
      exact ⟨rfl, B2.out⟩
  · have HS := Lib.hid (sole_other gl h1)
    rw [HS.out, sayM_nil]
    generalize hm : gl.length = m at *
    have hne : ((m : Int) == 1) = false := beq_eq_false_iff_ne.2 (by omega)
    go_enter Tryz.func20, Tryz.ntmps20
    go_wp2_with fail
    refine C.mono ?_
    rintro e w1 ⟨v1, o1, rfl, own1, _, b1⟩
    obtain ⟨A1, c1, hv1, _⟩ := own1.src (fun _ => True) (fun _ _ => trivial)
    rw [hm] at hv1
    subst hv1
    have B1 := Lib.hid (B0.out.trans (b1.mono B0.out.size))
    clear own1 b1 C hm
    go_wp2_with fail
    go_ret2
    exact ⟨rfl, B1.out⟩

theorem rdate_any {P : Nat → Prop} (w : World) (st : Int) (rr : ByteArray) (mk : Int) (A : Option Addr) (n c : Nat) (D : Option Addr) (l d : Nat) (ls : List Fld) (hn : ls.length = n) (hb : bulkF ls ≤ 1000000000) (h : SrcF w P A ls) :
    Calls Tryz.prog 8 #[(.agg #[.int .i64 st, .string rr, .int .i64 mk, .slice A n c, .slice D l d])] w (MomentTold (momentF ls dateN) w) := by
  have hb0 : Below w.heap.size w (w.alloc (.cells #[.int .i64 st, .string rr, .int .i64 mk, .slice A n c, .slice D l d] 26)) := (Below.refl _ _).alloc (Nat.le_refl _) _
  have C := rmoment_any (w.alloc (.cells #[.int .i64 st, .string rr, .int .i64 mk, .slice A n c, .slice D l d] 26)) st rr mk A n c D l d ls hn hb (h.below hb0) ⟨#[100, 97, 116, 101]⟩ (by decide)
  rw [show bl ⟨#[100, 97, 116, 101]⟩ = dateN from rfl] at C
  unfold MomentTold at *
  have B0 := Lib.hid hb0
  clear hn hb h hb0
  generalize momentF ls dateN = q at *
  obtain ⟨q1, q2⟩ := q
  go_enter Tryz.func8, Tryz.ntmps8
  go_wp2_with fail
  refine C.mono ?_
  rintro e w1 ⟨rfl, b1⟩
  go_wp2_with fail
  go_ret2
  exact ⟨rfl, B0.out.trans (b1.mono B0.out.size)⟩

set_option maxHeartbeats 4000000 in
theorem rtold_any {P : Nat → Prop} (w : World) (st : Int) (rr : ByteArray) (mk : Int) (A : Option Addr) (n c : Nat) (D : Option Addr) (l d : Nat) (ls : List Fld) (hn : ls.length = n) (hb : bulkF ls ≤ 1000000000) (h : SrcF w P A ls) :
    Calls Tryz.prog 32 #[(.agg #[.int .i64 st, .string rr, .int .i64 mk, .slice A n c, .slice D l d])] w fun e w' => e = .returned (.int .u64 (toldF ls : Nat)) ∧ Below w.heap.size w w' := by
  have hlen := bulk_len ls
  have hb0 : Below w.heap.size w (w.alloc (.cells #[.int .i64 st, .string rr, .int .i64 mk, .slice A n c, .slice D l d] 26)) := (Below.refl _ _).alloc (Nat.le_refl _) _
  have C := rfields_any (w.alloc (.cells #[.int .i64 st, .string rr, .int .i64 mk, .slice A n c, .slice D l d] 26)) st rr mk A n c D l d ls hn hb (h.below hb0) ⟨#[97, 103, 101]⟩ (by decide)
  rw [show bl ⟨#[97, 103, 101]⟩ = oldN from rfl] at C
  unfold GotS at C
  have hg := get_len ls oldN
  have hgl : (getF ls oldN).length ≤ 1000000000 := by omega
  have HGP : Hid (∀ x ∈ getF ls oldN, x.length ≤ 1000000000) := Lib.hid (fun x hx => by have := get_part hx; omega)
  have HM := Lib.hid (show toldF ls = sayA (soleF (getF ls oldN)) from rfl)
  rw [HM.out]
  have B0 := Lib.hid hb0
  clear hn hb h hlen hg HM hb0
  generalize getF ls oldN = gl at *
  by_cases h1 : gl.length = 1
  · obtain ⟨x, rfl⟩ := List.length_eq_one_iff.1 h1
    have HS := Lib.hid (show soleF [x] = x from rfl)
    rw [HS.out]
    obtain ⟨xs, hxs⟩ : ∃ xs : ByteArray, xs = ⟨x.toArray⟩ := ⟨_, rfl⟩
    have hbx : bl xs = x := by rw [hxs, bl_mk]
    have CP := Lib.hid (fun X : World => rdecimal_any xs X (by rw [← bl_length, hbx]; have := HGP.out x (by simp); omega))
    unfold RRead at CP
    rw [hbx] at CP
    have hs := read_cases x
    have HA := Lib.hid (show sayA x = if (readF 10 x).2 = 3 then M31 else min (readF 10 x).1 M31 from rfl)
    have HXS := Lib.hid hxs
    clear HS hxs hbx HGP
    generalize readF 10 x = q at *
    obtain ⟨q1, q2⟩ := q
    simp only at hs CP HA
    have CL := Lib.hid (fun X : World => rleast_any (q1 : Int) 2147483648 ((min q1 2147483648 : Nat) : Int) (by omega) X)
    rcases hs with rfl | rfl | hq
    all_goals
      try
        injection hq with hq1 hq2
        subst hq1 hq2
      go_enter Tryz.func32, Tryz.ntmps32
      go_wp2_with fail
      refine C.mono ?_
      rintro e w1 ⟨v1, o1, rfl, own1, _, b1⟩
      obtain ⟨A1, c1, hv1, src1⟩ := own1.src (fun _ => True) (fun _ _ => trivial)
      rw [show ([x] : List (List UInt8)).length = 1 from rfl] at hv1
      subst hv1
      have B1 := Lib.hid (B0.out.trans (b1.mono B0.out.size))
      clear own1 b1 C
      obtain ⟨p, x', hx, hat, y0, _, _⟩ := src1.at (c := c1) (k := 0) (n := 1) rfl (by decide) (Below.refl _ _)
      obtain rfl : x = x' := Option.some.inj hx
      have hat' : ∀ Wx, (Instr.indexAt 48 (.slice A1 1 c1) (.int .i64 0)).run Tryz.prog Wx = .ok (.pointer (some p)) Wx := hat
      rw [← HXS.out] at y0
      clear hx hat src1 h1 hgl HXS
      go_wp2_with fail
      refine (CP.out _).mono ?_
      rintro e w2 ⟨rfl, rfl⟩
      clear CP
      go_wp2_with fail
      try
        refine (CL.out _).mono ?_
        rintro e w3 ⟨rfl, rfl⟩
        go_wp2_with fail
      go_ret
      exact ⟨by rw [HA.out]; rfl, B1.out⟩
  · have HS := Lib.hid (sole_other gl h1)
    rw [HS.out, sayA_nil]
    generalize hm : gl.length = m at *
    have hne : ((m : Int) == 1) = false := beq_eq_false_iff_ne.2 (by omega)
    go_enter Tryz.func32, Tryz.ntmps32
    go_wp2_with fail
    refine C.mono ?_
    rintro e w1 ⟨v1, o1, rfl, own1, _, b1⟩
    obtain ⟨A1, c1, hv1, _⟩ := own1.src (fun _ => True) (fun _ _ => trivial)
    rw [hm] at hv1
    subst hv1
    have B1 := Lib.hid (B0.out.trans (b1.mono B0.out.size))
    clear own1 b1 C hm
    go_wp2_with fail
    go_ret
    exact ⟨rfl, B1.out⟩
end Go.Proofs.YtdcbcjljmjnopaaGreatDoor.Fre
