/-
  What the document's own Matches, Admits answer.
  Conditions: those that each theorem names.
-/
import Derived.Test.YtcmnnidjamdmeaaDoorAD
import Derived.StillTailTactics
namespace Go.Proofs.YtcmnnidjamdmeaaDoor.Acl
open Go.RowKit

/-- A rule's Host is the host itself, as the document's own walk asks it. -/
def selfF (nm h : List UInt8) : Bool := nm == [42] || (nm == h && !(decide (h.head? = some 46)))
theorem covers_dot {nm h : List UInt8} (h0 : nm.head? = some 46) : coversF nm h = endsF nm h ∧ selfF nm h = false := by
  refine ⟨by unfold coversF; rw [if_pos h0], ?_⟩
  unfold selfF
  have h1 : (nm == [42]) = false := beq_eq_false_iff_ne.2 (by rintro rfl; simp at h0)
  rw [h1, Bool.false_or]
  by_cases he : nm = h
  · subst he
    rw [decide_eq_true h0]
    simp
  · rw [beq_eq_false_iff_ne.2 he, Bool.false_and]
theorem covers_no {nm h : List UInt8} (h0 : ¬ nm.head? = some 46) : coversF nm h = selfF nm h := by
  unfold coversF selfF
  rw [if_neg h0]
  by_cases he : nm = h
  · subst he
    rw [decide_eq_false h0]
    simp
  · rw [beq_eq_false_iff_ne.2 he, Bool.false_and]
def dotF (nm h : List UInt8) : Bool := decide (nm.head? = some 46) && endsF nm h
theorem covers_or (nm h : List UInt8) : coversF nm h = (selfF nm h || dotF nm h) := by
  unfold dotF
  by_cases h0 : nm.head? = some 46
  · rw [(covers_dot h0).1, (covers_dot h0).2, decide_eq_true h0, Bool.true_and, Bool.false_or]
  · rw [covers_no h0, decide_eq_false h0, Bool.false_and, Bool.or_false]
theorem below_dn {B : Nat} {a w : World} (h : Below B a w) (n : Nat) : Below B a (w.drewN n) := ⟨h.os, h.tape, h.output, h.size, h.block⟩
theorem head_at (s : ByteArray) (h : 0 < s.size) : (bl s).head? = some s[0] := by
  rw [List.head?_eq_getElem?]
  exact bl_get s 0 h
theorem head_byte (s : ByteArray) (h : 0 < s.size) : decide ((bl s).head? = some 46) = ((s[0].toNat : Int) == 46) := by
  rw [head_at s h, Bool.eq_iff_iff, decide_eq_true_eq, beq_iff_eq, Option.some.injEq, ← UInt8.toNat_inj]
  show s[0].toNat = 46 ↔ _
  omega
theorem head_nil (s : ByteArray) (h : ¬ 0 < s.size) : (bl s).head? = none := by
  have : bl s = [] := List.eq_nil_of_length_eq_zero (by rw [bl_length]; omega)
  rw [this]; rfl
set_option maxHeartbeats 4000000 in
set_option maxRecDepth 100000 in
theorem rmatches_any (r : RuE) (h : ByteArray) (p : Int) (m : ByteArray) (w : World) (hr : r.Ok w) (hz1 : r.h.size ≤ 4000000) (hz2 : h.size ≤ 4000000) (hz3 : r.n ≤ 4000000) :
    Calls Tryd.prog 13 #[.agg #[.bool r.al, .string r.h, .int .i64 r.lo, .int .i64 r.hi, .slice r.A r.n r.c], .string h, .int .i64 p, .string m] w fun e w' => e = .returned (.bool (matchF (bl h) p (bl m) r)) ∧ Below w.heap.size w w' := by
  have HM := Lib.hid (show matchF (bl h) p (bl m) r = (coversF (bl r.h) (bl h) && ((decide (r.lo ≤ p) && decide (p ≤ r.hi)) && (r.ms.isEmpty || r.ms.any (fun x => x == bl m)))) from rfl)
  have I0 := Lib.hid (Ok.box (w := w) (r := r))
  have B0 : Hid (Below w.heap.size w (w.alloc (.cells #[.bool r.al, .string r.h, .int .i64 r.lo, .int .i64 r.hi, .slice r.A r.n r.c] 25))) := Lib.hid ((Below.refl _ _).alloc (Nat.le_refl _) _)
  have HR := Lib.hid hr
  have HMT := Lib.hid (show r.ms.isEmpty = decide (r.n = 0) by rw [← hr.hn]; cases r.ms <;> simp)
  clear hr
  by_cases h1 : r.lo ≤ p
  rotate_left
  · have HR0 := Lib.hid (show matchF (bl h) p (bl m) r = false by rw [HM.out, decide_eq_false h1, Bool.false_and, Bool.false_and, Bool.and_false])
    have e1 : p < r.lo := by omega
    clear h1
    go_enter Tryd.func13, Tryd.ntmps13
    go_wp2_with fail
    go_ret
    exact ⟨ret_bool HR0.out.symm, B0.out⟩
  have e1 : ¬ p < r.lo := by omega
  by_cases h2 : p ≤ r.hi
  rotate_left
  · have HR0 := Lib.hid (show matchF (bl h) p (bl m) r = false by rw [HM.out, decide_eq_false h2, Bool.and_false, Bool.false_and, Bool.and_false])
    have e2 : r.hi < p := by omega
    clear h1 h2
    go_enter Tryd.func13, Tryd.ntmps13
    go_wp2_with fail
    go_ret
    exact ⟨ret_bool HR0.out.symm, B0.out⟩
  have e2 : ¬ r.hi < p := by omega
  rw [decide_eq_true h1, decide_eq_true h2, Bool.and_self, Bool.true_and] at HM
  clear h1 h2
  go_enter Tryd.func13, Tryd.ntmps13
  go_upto_region 3 with fail
  have y1 := I0.out.cell 1
  have y4 := I0.out.cell 4
  simp only [RuE.cells, List.getElem?_cons_zero, List.getElem?_cons_succ] at y1 y4
  generalize hw1 : w.alloc (.cells #[.bool r.al, .string r.h, .int .i64 r.lo, .int .i64 r.hi, .slice r.A r.n r.c] 25) = w1 at *
  clear hw1
  go_cut [9] (fun v wx => v = .bool (selfF (bl r.h) (bl h)) ∧ w1 = wx)
  case first =>
    have q1 : (r.h.toList == [42]) = (bl r.h == [42]) := by rw [Lib.toList_data]; rfl
    have q2 : (r.h.toList == h.toList) = (bl r.h == bl h) := eq_str r.h h
    have HS := Lib.hid (show selfF (bl r.h) (bl h) = (bl r.h == [42] || (bl r.h == bl h && !(decide ((bl h).head? = some 46)))) from rfl)
    cases hb : bl r.h == [42] with
    | true =>
      have p1 : r.h.toList = [42] := by rw [hb] at q1; exact beq_iff_eq.1 q1
      rw [hb, Bool.true_or] at HS
      rw [hb] at q1
      clear hb q2
      go_wp2_with fail
      all_goals go_meet
      exact ⟨by rw [HS.out], rfl⟩
    | false =>
      have p1 : ¬ r.h.toList = [42] := by rw [hb] at q1; exact beq_eq_false_iff_ne.1 q1
      rw [hb, Bool.false_or] at HS
      rw [hb] at q1
      clear hb
      cases hb2 : bl r.h == bl h with
      | false =>
        rw [hb2, Bool.false_and] at HS
        rw [hb2] at q2
        have p2 : ¬ r.h.toList = h.toList := beq_eq_false_iff_ne.1 q2
        clear hb2
        go_wp2_with fail
        all_goals go_meet
        exact ⟨by rw [HS.out], rfl⟩
      | true =>
        rw [hb2, Bool.true_and] at HS
        rw [hb2] at q2
        have p2 : r.h.toList = h.toList := beq_iff_eq.1 q2
        rw [p2] at p1 q1
        clear hb2
        by_cases h0 : 0 < h.size
        · have hd := head_byte h h0
          cases hq : ((h[0].toNat : Int) == 46) with
          | true =>
            rw [hd, hq] at HS
            clear hd
            go_wp2_with fail
            all_goals go_meet
            exact ⟨by rw [HS.out]; rfl, rfl⟩
          | false =>
            rw [hd, hq] at HS
            clear hd
            go_wp2_with fail
            all_goals go_meet
            exact ⟨by rw [HS.out]; rfl, rfl⟩
        · have h9 : h.size = 0 := by omega
          rw [head_nil h h0] at HS
          clear h0
          go_wp2_with fail
          all_goals go_meet
          exact ⟨by rw [HS.out]; rfl, rfl⟩
  case rest =>
    obtain ⟨rfl, rfl⟩ := hcut
    go_upto_region 5 with fail
    go_cut [69] (fun v wx => v = .bool (dotF (bl r.h) (bl h)) ∧ ∃ nq, wx = w1.drewN nq)
    case first =>
      have HD := Lib.hid (show dotF (bl r.h) (bl h) = (decide ((bl r.h).head? = some 46) && endsF (bl r.h) (bl h)) from rfl)
      by_cases h0 : 0 < r.h.size
      · have hd := head_byte r.h h0
        have h0' : (0 : Int) < (r.h.size : Int) := by omega
        cases hq : ((r.h[0].toNat : Int) == 46) with
        | true =>
          rw [hd, hq, Bool.true_and] at HD
          clear hd
          by_cases hlt : r.h.size < h.size
          · have c1 : (0 : Int) < (h.size : Int) - (r.h.size : Int) := by omega
            have c2 : (0 : Int) ≤ (h.size : Int) - (r.h.size : Int) := by omega
            have c3 : (h.size : Int) - (r.h.size : Int) ≤ (h.size : Int) := by omega
            have c4 : ((h.size : Int) - (r.h.size : Int)).toNat = h.size - r.h.size := by omega
            have x1 : (h.extract (h.size - r.h.size) h.size).toList = (bl h).drop ((bl h).length - (bl r.h).length) := by
              rw [Lib.toList_data]
              show bl _ = _
              rw [extract_bl, piece_back, bl_length, bl_length]
            have x2 : r.h.toList = bl r.h := Lib.toList_data _
            have HE := Lib.hid (show endsF (bl r.h) (bl h) = ((bl h).drop ((bl h).length - (bl r.h).length) == bl r.h) by
              unfold endsF
              rw [bl_length, bl_length, decide_eq_true hlt, Bool.true_and])
            have d1 : (r.h.size : Int) < (h.size : Int) := by omega
            have d2 : (r.h.size : Int) ≤ (h.size : Int) := by omega
            have d3 : r.h.size ≤ h.size := by omega
            generalize (bl h).drop ((bl h).length - (bl r.h).length) = D at *
            rw [HE.out] at HD
            cases hq2 : (D == bl r.h) with
            | true =>
              have x3 : ((h.extract (h.size - r.h.size) h.size).toList == r.h.toList) = true := by rw [x1, x2, hq2]
              have x4 : (h.extract (h.size - r.h.size) h.size).toList = r.h.toList := beq_iff_eq.1 x3
              rw [hq2] at HD
              clear x1 x2 hq2 HE
              go_quiet (fail)
              go_wp2_with fail
              all_goals go_meet
              exact ⟨by rw [HD.out], nq, rfl⟩
            | false =>
              have x3 : ((h.extract (h.size - r.h.size) h.size).toList == r.h.toList) = false := by rw [x1, x2, hq2]
              have x4 : ¬ (h.extract (h.size - r.h.size) h.size).toList = r.h.toList := beq_eq_false_iff_ne.1 x3
              rw [hq2] at HD
              clear x1 x2 hq2 HE
              go_quiet (fail)
              go_wp2_with fail
              all_goals go_meet
              exact ⟨by rw [HD.out], nq, rfl⟩
          · have c1 : ¬ (0 : Int) < (h.size : Int) - (r.h.size : Int) := by omega
            rw [show endsF (bl r.h) (bl h) = false by unfold endsF; rw [bl_length, bl_length, decide_eq_false hlt, Bool.false_and]] at HD
            have d1 : ¬ (r.h.size : Int) < (h.size : Int) := by omega
            go_quiet (fail)
            go_wp2_with fail
            all_goals go_meet
            exact ⟨by rw [HD.out], nq, rfl⟩
        | false =>
          rw [hd, hq, Bool.false_and] at HD
          clear hd
          go_quiet (fail)
          go_wp2_with fail
          all_goals go_meet
          exact ⟨by rw [HD.out], nq, rfl⟩
      · have h9' : ¬ (0 : Int) < (r.h.size : Int) := by omega
        rw [head_nil r.h h0] at HD
        go_quiet (fail)
        go_wp2_with fail
        all_goals go_meet
        exact ⟨by rw [HD.out]; rfl, nq, rfl⟩
    case rest =>
      obtain ⟨rfl, nq, rfl⟩ := hcut
      have HB2 := Lib.hid (below_dn B0.out nq)
      have I2 := Lib.hid (I0.out.drewN nq)
      have y2 := I2.out.cell 4
      simp only [RuE.cells, List.getElem?_cons_zero, List.getElem?_cons_succ] at y2
      have HC := Lib.hid (covers_or (bl r.h) (bl h))
      generalize hw2 : w1.drewN nq = w2 at *
      clear hw2 y1 y4 I0 B0 I2
      generalize selfF (bl r.h) (bl h) = a1 at *
      generalize dotF (bl r.h) (bl h) = a2 at *
      cases a2 with
      | false =>
        cases a1 with
        | false =>
          have HC1 := Lib.hid (show matchF (bl h) p (bl m) r = false by rw [HM.out, HC.out]; rfl)
          clear HC HM
          go_wp2_with fail
          go_ret
          exact ⟨ret_bool HC1.out.symm, HB2.out⟩
        | true =>
          have HC1 := Lib.hid (show matchF (bl h) p (bl m) r = (r.ms.isEmpty || r.ms.any (fun x => x == bl m)) by rw [HM.out, HC.out]; rfl)
          clear HC HM
          go_wp2_with fail
          go_loopw [11] (fun vi wr => ∃ k : Nat, vi = .int .i64 (k : Int) ∧ k ≤ r.n ∧ Hid ((r.ms.take k).any (fun x => x == bl m) = false) ∧ w2 = wr) (fun vi _ => r.n - (intOf vi).toNat)
          case atStart => exact ⟨0, rfl, Nat.zero_le _, Lib.hid rfl, rfl⟩
          case round =>
            obtain ⟨k, rfl, hk, HE, rfl⟩ := hrel
            by_cases hlt : k < r.n
            · obtain ⟨pa, x, hx, hat, z2⟩ := srcs_at (c := r.c) (srcs_below HR.out.s HB2.out) HR.out.hn hlt (Below.refl _ _)
              have HTK := Lib.hid (show (r.ms.take (k + 1)).any (fun x => x == bl m) = (x == bl m) by rw [take_snoc r.ms k x hx, List.any_append, HE.out]; simp)
              have q2 : ((⟨x.toArray⟩ : ByteArray).toList == m.toList) = (x == bl m) := by rw [eq_str, bl_mk]
              have HX := Lib.hid (List.mem_of_getElem? hx)
              clear hx
              obtain ⟨X, hX⟩ : ∃ X : ByteArray, (⟨x.toArray⟩ : ByteArray) = X := ⟨_, rfl⟩
              rw [hX] at z2 q2
              clear hX
              cases hb : (x == bl m) with
              | true =>
                rw [hb] at q2
                have p2 : X.toList = m.toList := beq_iff_eq.1 q2
                have HT := Lib.hid (show r.ms.any (fun x => x == bl m) = true from List.any_eq_true.2 ⟨x, HX.out, hb⟩)
                clear hb
                go_wp2_with fail
                go_ret
                exact ⟨ret_bool (by rw [HC1.out, HT.out, Bool.or_true]), HB2.out⟩
              | false =>
                rw [hb] at q2 HTK
                have p2 : ¬ X.toList = m.toList := beq_eq_false_iff_ne.1 q2
                clear hb
                go_wp2_with fail
                go_roundw
                case rel => exact ⟨k + 1, by go_num, hlt, HTK, trivial⟩
                case measure => simp [intOf]; omega
            · have HN := Lib.hid (show r.ms.any (fun x => x == bl m) = false by rw [← HE.out, List.take_of_length_le (by rw [HR.out.hn]; omega)])
              by_cases h0 : r.n = 0
              · have e0 : ((r.n : Int) == 0) = true := by rw [h0]; rfl
                have e0' : (r.n : Int) = 0 := by omega
                have HF := Lib.hid (show matchF (bl h) p (bl m) r = true by rw [HC1.out, HMT.out, decide_eq_true h0, Bool.true_or])
                clear h0
                go_wp2_with fail
                go_ret
                exact ⟨ret_bool HF.out.symm, HB2.out⟩
              · have e0 : ((r.n : Int) == 0) = false := beq_eq_false_iff_ne.2 (by omega)
                have e0' : ¬ (r.n : Int) = 0 := by omega
                have HF := Lib.hid (show matchF (bl h) p (bl m) r = false by rw [HC1.out, HMT.out, decide_eq_false h0, HN.out, Bool.or_false])
                clear h0
                go_wp2_with fail
                go_ret
                exact ⟨ret_bool HF.out.symm, HB2.out⟩
      | true =>
        rw [Bool.or_true] at HC
        have HC1 := Lib.hid (show matchF (bl h) p (bl m) r = (r.ms.isEmpty || r.ms.any (fun x => x == bl m)) by rw [HM.out, HC.out]; rfl)
        clear HC HM
        go_wp2_with fail
        go_loopw [11] (fun vi wr => ∃ k : Nat, vi = .int .i64 (k : Int) ∧ k ≤ r.n ∧ Hid ((r.ms.take k).any (fun x => x == bl m) = false) ∧ w2 = wr) (fun vi _ => r.n - (intOf vi).toNat)
        case atStart => exact ⟨0, rfl, Nat.zero_le _, Lib.hid rfl, rfl⟩
        case round =>
          obtain ⟨k, rfl, hk, HE, rfl⟩ := hrel
          by_cases hlt : k < r.n
          · obtain ⟨pa, x, hx, hat, z2⟩ := srcs_at (c := r.c) (srcs_below HR.out.s HB2.out) HR.out.hn hlt (Below.refl _ _)
            have HTK := Lib.hid (show (r.ms.take (k + 1)).any (fun x => x == bl m) = (x == bl m) by rw [take_snoc r.ms k x hx, List.any_append, HE.out]; simp)
            have q2 : ((⟨x.toArray⟩ : ByteArray).toList == m.toList) = (x == bl m) := by rw [eq_str, bl_mk]
            have HX := Lib.hid (List.mem_of_getElem? hx)
            clear hx
            obtain ⟨X, hX⟩ : ∃ X : ByteArray, (⟨x.toArray⟩ : ByteArray) = X := ⟨_, rfl⟩
            rw [hX] at z2 q2
            clear hX
            cases hb : (x == bl m) with
            | true =>
              rw [hb] at q2
              have p2 : X.toList = m.toList := beq_iff_eq.1 q2
              have HT := Lib.hid (show r.ms.any (fun x => x == bl m) = true from List.any_eq_true.2 ⟨x, HX.out, hb⟩)
              clear hb
              go_wp2_with fail
              go_ret
              exact ⟨ret_bool (by rw [HC1.out, HT.out, Bool.or_true]), HB2.out⟩
            | false =>
              rw [hb] at q2 HTK
              have p2 : ¬ X.toList = m.toList := beq_eq_false_iff_ne.1 q2
              clear hb
              go_wp2_with fail
              go_roundw
              case rel => exact ⟨k + 1, by go_num, hlt, HTK, trivial⟩
              case measure => simp [intOf]; omega
          · have HN := Lib.hid (show r.ms.any (fun x => x == bl m) = false by rw [← HE.out, List.take_of_length_le (by rw [HR.out.hn]; omega)])
            by_cases h0 : r.n = 0
            · have e0 : ((r.n : Int) == 0) = true := by rw [h0]; rfl
              have e0' : (r.n : Int) = 0 := by omega
              have HF := Lib.hid (show matchF (bl h) p (bl m) r = true by rw [HC1.out, HMT.out, decide_eq_true h0, Bool.true_or])
              clear h0
              go_wp2_with fail
              go_ret
              exact ⟨ret_bool HF.out.symm, HB2.out⟩
            · have e0 : ((r.n : Int) == 0) = false := beq_eq_false_iff_ne.2 (by omega)
              have e0' : ¬ (r.n : Int) = 0 := by omega
              have HF := Lib.hid (show matchF (bl h) p (bl m) r = false by rw [HC1.out, HMT.out, decide_eq_false h0, HN.out, Bool.or_false])
              clear h0
              go_wp2_with fail
              go_ret
              exact ⟨ret_bool HF.out.symm, HB2.out⟩
end Go.Proofs.YtcmnnidjamdmeaaDoor.Acl
