/-
  What the document's own May, All answer.
  Conditions: those that each theorem names.
-/
import Derived.Test.YtopanahgeeolbaaGreatDoorAG
namespace Go.Proofs.YtopanahgeeolbaaGreatDoor.Acl
open Go.RowKit

/-- A Host without the '.' that it begins with, unless that is all. -/
def cutN (s : List UInt8) : List UInt8 := if 1 < s.length ∧ s.head? = some 46 then s.tail else s
theorem host_cut (s : List UInt8) : hostF s = (s == [42] || Uri.namedF (cutN s)) := by
  unfold hostF trimF cutN
  by_cases h0 : s.head? = some 46
  · rw [if_pos h0]
    by_cases h1 : 1 < s.length
    · rw [if_pos ⟨h1, h0⟩]
    · rw [if_neg (fun h => h1 h.1)]
      match s, h0, h1 with
      | [a], h0, _ =>
        simp only [List.head?_cons, Option.some.injEq] at h0
        subst h0
        decide
      | a :: b :: l, _, h1 => exact absurd (by simp) h1
  · rw [if_neg h0, if_neg (fun h => h0 h.2)]
set_option maxHeartbeats 8000000 in
set_option maxRecDepth 100000 in
theorem rmay_any (r : RuE) (w : World) (hr : r.Ok w) (hz : r.Small) :
    Calls Tryz.prog 50 #[.agg #[.bool r.al, .string r.h, .int .i64 r.lo, .int .i64 r.hi, .slice r.A r.n r.c]] w fun e w' => e = .returned (.bool (mayF r)) ∧ Below w.heap.size w w' := by
  have HM := Lib.hid (show mayF r = (hostF (bl r.h) && ((decide (1 ≤ r.lo) && (decide (r.lo ≤ r.hi) && decide (r.hi ≤ 65535))) && (decide (r.n ≤ 8) && r.ms.all tokF))) from rfl)
  have I0 := Lib.hid (Ok.box (w := w) (r := r))
  have B0 : Hid (Below w.heap.size w (w.alloc (.cells #[.bool r.al, .string r.h, .int .i64 r.lo, .int .i64 r.hi, .slice r.A r.n r.c] 51))) := Lib.hid ((Below.refl _ _).alloc (Nat.le_refl _) _)
  have HR := Lib.hid hr
  have HZ := Lib.hid hz
  have HH0 := Lib.hid (host_cut (bl r.h))
  have q1 : (r.h.toList == [42]) = (bl r.h == [42]) := by rw [Lib.toList_data]; rfl
  clear hr hz
  by_cases h1 : 1 < r.h.size
  · have g0 : 0 < r.h.size := by omega
    have d0 := head_byte r.h g0
    have g1 : (1 : Int) < (r.h.size : Int) := by omega
    cases hd : ((r.h[0].toNat : Int) == 46) with
    | true =>
      obtain ⟨T, hT⟩ : ∃ T : ByteArray, r.h.extract 1 r.h.size = T := ⟨_, rfl⟩
      have HT := Lib.hid (show cutN (bl r.h) = bl T by
        unfold cutN
        rw [if_pos ⟨by rw [bl_length]; exact h1, by rw [hd] at d0; exact of_decide_eq_true d0⟩, ← hT, extract_bl, piece_back, List.drop_one])
      have g2 : (1 : Int) ≤ (r.h.size : Int) := by omega
      have CN := Lib.hid (fun W : World => Uri.rnamed_any T W (by rw [← hT]; have := extract_size r.h 1 r.h.size; have := HZ.out.h; omega))
      clear d0
      cases hb : bl r.h == [42] with
      | true =>
        have p1 : r.h.toList = [42] := by rw [hb] at q1; exact beq_iff_eq.1 q1
        have HH := Lib.hid (show hostF (bl r.h) = true by rw [HH0.out, hb]; rfl)
        rw [hb] at q1
        clear hb CN HH0
        have HM1 := Lib.hid (show mayF r = ((decide (1 ≤ r.lo) && (decide (r.lo ≤ r.hi) && decide (r.hi ≤ 65535))) && (decide (r.n ≤ 8) && r.ms.all tokF)) by rw [HM.out, HH.out]; rfl)
        clear HM HH
        by_cases h0 : 1 ≤ r.lo
        rotate_left
        · have HR0 := Lib.hid (show mayF r = false by rw [HM1.out, decide_eq_false h0]; simp)
          have e0 : r.lo < 1 := by omega
          clear h0
          go_enter Tryz.func50, Tryz.ntmps50
          go_wp2_with fail
          go_ret
          exact ⟨ret_bool HR0.out.symm, B0.out⟩
        have e0 : ¬ r.lo < 1 := by omega
        by_cases h1 : r.hi ≤ 65535
        rotate_left
        · have HR0 := Lib.hid (show mayF r = false by rw [HM1.out, decide_eq_false h1]; simp)
          have e1 : 65535 < r.hi := by omega
          clear h1
          go_enter Tryz.func50, Tryz.ntmps50
          go_wp2_with fail
          go_ret
          exact ⟨ret_bool HR0.out.symm, B0.out⟩
        have e1 : ¬ 65535 < r.hi := by omega
        by_cases h2 : r.lo ≤ r.hi
        rotate_left
        · have HR0 := Lib.hid (show mayF r = false by rw [HM1.out, decide_eq_false h2]; simp)
          have e2 : r.hi < r.lo := by omega
          clear h2
          go_enter Tryz.func50, Tryz.ntmps50
          go_wp2_with fail
          go_ret
          exact ⟨ret_bool HR0.out.symm, B0.out⟩
        have e2 : ¬ r.hi < r.lo := by omega
        by_cases h3 : r.n ≤ 8
        rotate_left
        · have HR0 := Lib.hid (show mayF r = false by rw [HM1.out, decide_eq_false h3]; simp)
          have e3 : (8 : Int) < (r.n : Int) := by omega
          clear h3
          go_enter Tryz.func50, Tryz.ntmps50
          go_wp2_with fail
          go_ret
          exact ⟨ret_bool HR0.out.symm, B0.out⟩
        have e3 : ¬ (8 : Int) < (r.n : Int) := by omega
        have HM2 := Lib.hid (show mayF r = r.ms.all tokF by rw [HM1.out, decide_eq_true h0, decide_eq_true h1, decide_eq_true h2, decide_eq_true h3]; simp)
        clear HM1 h0 h1 h2
        go_enter Tryz.func50, Tryz.ntmps50
        go_wp2_with fail
        generalize hw2 : (w.alloc (.cells #[.bool r.al, .string r.h, .int .i64 r.lo, .int .i64 r.hi, .slice r.A r.n r.c] 51)) = w2 at *
        clear hw2
        have I2 := I0
        have B2 := B0
        go_loopw [4] (fun vi wr => ∃ k : Nat, vi = .int .i64 (k : Int) ∧ k ≤ r.n ∧ Hid ((r.ms.take k).all tokF = true) ∧ w2 = wr) (fun vi _ => r.n - (intOf vi).toNat)
        case atStart => exact ⟨0, rfl, Nat.zero_le _, Lib.hid rfl, rfl⟩
        case round =>
          obtain ⟨k, rfl, hk, HE, rfl⟩ := hrel
          have y4 := I2.out.cell 4
          simp only [RuE.cells, List.getElem?_cons_zero, List.getElem?_cons_succ] at y4
          by_cases hlt : k < r.n
          · obtain ⟨pa, x, hx, hat, z2⟩ := srcs_at (c := r.c) (srcs_below HR.out.s B2.out) HR.out.hn hlt (Below.refl _ _)
            have HTK := Lib.hid (show (r.ms.take (k + 1)).all tokF = tokF x by rw [take_snoc r.ms k x hx, List.all_append, HE.out]; simp)
            have hin := List.mem_of_getElem? hx
            have HIN := Lib.hid hin
            have CT := token_any ⟨x.toArray⟩ w2 (by rw [← bl_length, bl_mk]; have := HZ.out.ms x hin; unfold maxLen; omega)
            rw [bl_mk] at CT
            clear hx hin
            cases hb : tokF x with
            | true =>
              rw [hb] at CT HTK
              have CT := Lib.hid CT
              clear hb
              go_wp2_with fail
              refine CT.out.mono ?_
              rintro e w5 ⟨rfl, rfl⟩
              go_wp2_with fail
              go_roundw
              case rel => exact ⟨k + 1, by go_num, hlt, HTK, trivial⟩
              case measure => simp [intOf]; omega
            | false =>
              have HF := Lib.hid (show mayF r = false by
                rw [HM2.out, Bool.eq_false_iff]
                intro h
                have := List.all_eq_true.1 h x HIN.out
                rw [hb] at this
                cases this)
              rw [hb] at CT
              have CT := Lib.hid CT
              clear hb
              go_wp2_with fail
              refine CT.out.mono ?_
              rintro e w5 ⟨rfl, rfl⟩
              go_wp2_with fail
              go_ret
              exact ⟨ret_bool HF.out.symm, B2.out⟩
          · have HF := Lib.hid (show mayF r = true by rw [HM2.out, ← HE.out, List.take_of_length_le (by rw [HR.out.hn]; omega)])
            go_wp2_with fail
            go_ret
            exact ⟨ret_bool HF.out.symm, B2.out⟩
      | false =>
        have p1 : ¬ r.h.toList = [42] := by rw [hb] at q1; exact beq_eq_false_iff_ne.1 q1
        have HH := Lib.hid (show hostF (bl r.h) = Uri.namedF (bl T) by rw [HH0.out, hb, Bool.false_or, HT.out])
        rw [hb] at q1
        clear hb HH0
        cases hq : Uri.namedF (bl T) with
        | false =>
          rw [hq] at CN HH
          have HR0 := Lib.hid (show mayF r = false by rw [HM.out, HH.out]; rfl)
          clear hq
          go_enter Tryz.func50, Tryz.ntmps50
          go_wp2_with fail
          refine (CN.out _).mono ?_
          rintro e w2 ⟨rfl, b2⟩
          have I2 := Lib.hid (is_below I0.out b2)
          have y2 := I2.out.cell 2
          have y3 := I2.out.cell 3
          have y4 := I2.out.cell 4
          simp only [RuE.cells, List.getElem?_cons_zero, List.getElem?_cons_succ] at y2 y3 y4
          have B2 := Lib.hid (B0.out.trans (b2.mono B0.out.size))
          clear b2
          go_wp2_with fail
          go_ret
          exact ⟨ret_bool HR0.out.symm, B2.out⟩
        | true =>
          rw [hq] at CN HH
          clear hq
          have HM1 := Lib.hid (show mayF r = ((decide (1 ≤ r.lo) && (decide (r.lo ≤ r.hi) && decide (r.hi ≤ 65535))) && (decide (r.n ≤ 8) && r.ms.all tokF)) by rw [HM.out, HH.out]; rfl)
          clear HM HH
          by_cases h0 : 1 ≤ r.lo
          rotate_left
          · have HR0 := Lib.hid (show mayF r = false by rw [HM1.out, decide_eq_false h0]; simp)
            have e0 : r.lo < 1 := by omega
            clear h0
            go_enter Tryz.func50, Tryz.ntmps50
            go_wp2_with fail
            refine (CN.out _).mono ?_
            rintro e w2 ⟨rfl, b2⟩
            have I2 := Lib.hid (is_below I0.out b2)
            have y2 := I2.out.cell 2
            have y3 := I2.out.cell 3
            have y4 := I2.out.cell 4
            simp only [RuE.cells, List.getElem?_cons_zero, List.getElem?_cons_succ] at y2 y3 y4
            have B2 := Lib.hid (B0.out.trans (b2.mono B0.out.size))
            clear b2
            go_wp2_with fail
            go_ret
            exact ⟨ret_bool HR0.out.symm, B2.out⟩
          have e0 : ¬ r.lo < 1 := by omega
          by_cases h1 : r.hi ≤ 65535
          rotate_left
          · have HR0 := Lib.hid (show mayF r = false by rw [HM1.out, decide_eq_false h1]; simp)
            have e1 : 65535 < r.hi := by omega
            clear h1
            go_enter Tryz.func50, Tryz.ntmps50
            go_wp2_with fail
            refine (CN.out _).mono ?_
            rintro e w2 ⟨rfl, b2⟩
            have I2 := Lib.hid (is_below I0.out b2)
            have y2 := I2.out.cell 2
            have y3 := I2.out.cell 3
            have y4 := I2.out.cell 4
            simp only [RuE.cells, List.getElem?_cons_zero, List.getElem?_cons_succ] at y2 y3 y4
            have B2 := Lib.hid (B0.out.trans (b2.mono B0.out.size))
            clear b2
            go_wp2_with fail
            go_ret
            exact ⟨ret_bool HR0.out.symm, B2.out⟩
          have e1 : ¬ 65535 < r.hi := by omega
          by_cases h2 : r.lo ≤ r.hi
          rotate_left
          · have HR0 := Lib.hid (show mayF r = false by rw [HM1.out, decide_eq_false h2]; simp)
            have e2 : r.hi < r.lo := by omega
            clear h2
            go_enter Tryz.func50, Tryz.ntmps50
            go_wp2_with fail
            refine (CN.out _).mono ?_
            rintro e w2 ⟨rfl, b2⟩
            have I2 := Lib.hid (is_below I0.out b2)
            have y2 := I2.out.cell 2
            have y3 := I2.out.cell 3
            have y4 := I2.out.cell 4
            simp only [RuE.cells, List.getElem?_cons_zero, List.getElem?_cons_succ] at y2 y3 y4
            have B2 := Lib.hid (B0.out.trans (b2.mono B0.out.size))
            clear b2
            go_wp2_with fail
            go_ret
            exact ⟨ret_bool HR0.out.symm, B2.out⟩
          have e2 : ¬ r.hi < r.lo := by omega
          by_cases h3 : r.n ≤ 8
          rotate_left
          · have HR0 := Lib.hid (show mayF r = false by rw [HM1.out, decide_eq_false h3]; simp)
            have e3 : (8 : Int) < (r.n : Int) := by omega
            clear h3
            go_enter Tryz.func50, Tryz.ntmps50
            go_wp2_with fail
            refine (CN.out _).mono ?_
            rintro e w2 ⟨rfl, b2⟩
            have I2 := Lib.hid (is_below I0.out b2)
            have y2 := I2.out.cell 2
            have y3 := I2.out.cell 3
            have y4 := I2.out.cell 4
            simp only [RuE.cells, List.getElem?_cons_zero, List.getElem?_cons_succ] at y2 y3 y4
            have B2 := Lib.hid (B0.out.trans (b2.mono B0.out.size))
            clear b2
            go_wp2_with fail
            go_ret
            exact ⟨ret_bool HR0.out.symm, B2.out⟩
          have e3 : ¬ (8 : Int) < (r.n : Int) := by omega
          have HM2 := Lib.hid (show mayF r = r.ms.all tokF by rw [HM1.out, decide_eq_true h0, decide_eq_true h1, decide_eq_true h2, decide_eq_true h3]; simp)
          clear HM1 h0 h1 h2
          go_enter Tryz.func50, Tryz.ntmps50
          go_wp2_with fail
          refine (CN.out _).mono ?_
          rintro e w2 ⟨rfl, b2⟩
          have I2 := Lib.hid (is_below I0.out b2)
          have y2 := I2.out.cell 2
          have y3 := I2.out.cell 3
          have y4 := I2.out.cell 4
          simp only [RuE.cells, List.getElem?_cons_zero, List.getElem?_cons_succ] at y2 y3 y4
          have B2 := Lib.hid (B0.out.trans (b2.mono B0.out.size))
          clear b2
          go_wp2_with fail
          go_loopw [4] (fun vi wr => ∃ k : Nat, vi = .int .i64 (k : Int) ∧ k ≤ r.n ∧ Hid ((r.ms.take k).all tokF = true) ∧ w2 = wr) (fun vi _ => r.n - (intOf vi).toNat)
          case atStart => exact ⟨0, rfl, Nat.zero_le _, Lib.hid rfl, rfl⟩
          case round =>
            obtain ⟨k, rfl, hk, HE, rfl⟩ := hrel
            have y4 := I2.out.cell 4
            simp only [RuE.cells, List.getElem?_cons_zero, List.getElem?_cons_succ] at y4
            by_cases hlt : k < r.n
            · obtain ⟨pa, x, hx, hat, z2⟩ := srcs_at (c := r.c) (srcs_below HR.out.s B2.out) HR.out.hn hlt (Below.refl _ _)
              have HTK := Lib.hid (show (r.ms.take (k + 1)).all tokF = tokF x by rw [take_snoc r.ms k x hx, List.all_append, HE.out]; simp)
              have hin := List.mem_of_getElem? hx
              have HIN := Lib.hid hin
              have CT := token_any ⟨x.toArray⟩ w2 (by rw [← bl_length, bl_mk]; have := HZ.out.ms x hin; unfold maxLen; omega)
              rw [bl_mk] at CT
              clear hx hin
              cases hb : tokF x with
              | true =>
                rw [hb] at CT HTK
                have CT := Lib.hid CT
                clear hb
                go_wp2_with fail
                refine CT.out.mono ?_
                rintro e w5 ⟨rfl, rfl⟩
                go_wp2_with fail
                go_roundw
                case rel => exact ⟨k + 1, by go_num, hlt, HTK, trivial⟩
                case measure => simp [intOf]; omega
              | false =>
                have HF := Lib.hid (show mayF r = false by
                  rw [HM2.out, Bool.eq_false_iff]
                  intro h
                  have := List.all_eq_true.1 h x HIN.out
                  rw [hb] at this
                  cases this)
                rw [hb] at CT
                have CT := Lib.hid CT
                clear hb
                go_wp2_with fail
                refine CT.out.mono ?_
                rintro e w5 ⟨rfl, rfl⟩
                go_wp2_with fail
                go_ret
                exact ⟨ret_bool HF.out.symm, B2.out⟩
            · have HF := Lib.hid (show mayF r = true by rw [HM2.out, ← HE.out, List.take_of_length_le (by rw [HR.out.hn]; omega)])
              go_wp2_with fail
              go_ret
              exact ⟨ret_bool HF.out.symm, B2.out⟩
    | false =>
      obtain ⟨T, hT⟩ : ∃ T : ByteArray, r.h = T := ⟨_, rfl⟩
      have HT := Lib.hid (show cutN (bl r.h) = bl T by
        unfold cutN
        rw [if_neg (fun h => by rw [decide_eq_true h.2, hd] at d0; cases d0), hT])
      have CN := Lib.hid (fun W : World => Uri.rnamed_any T W (by rw [← hT]; exact HZ.out.h))
      clear d0
      subst hT
      cases hb : bl r.h == [42] with
      | true =>
        have p1 : r.h.toList = [42] := by rw [hb] at q1; exact beq_iff_eq.1 q1
        have HH := Lib.hid (show hostF (bl r.h) = true by rw [HH0.out, hb]; rfl)
        rw [hb] at q1
        clear hb CN HH0
        have HM1 := Lib.hid (show mayF r = ((decide (1 ≤ r.lo) && (decide (r.lo ≤ r.hi) && decide (r.hi ≤ 65535))) && (decide (r.n ≤ 8) && r.ms.all tokF)) by rw [HM.out, HH.out]; rfl)
        clear HM HH
        by_cases h0 : 1 ≤ r.lo
        rotate_left
        · have HR0 := Lib.hid (show mayF r = false by rw [HM1.out, decide_eq_false h0]; simp)
          have e0 : r.lo < 1 := by omega
          clear h0
          go_enter Tryz.func50, Tryz.ntmps50
          go_wp2_with fail
          go_ret
          exact ⟨ret_bool HR0.out.symm, B0.out⟩
        have e0 : ¬ r.lo < 1 := by omega
        by_cases h1 : r.hi ≤ 65535
        rotate_left
        · have HR0 := Lib.hid (show mayF r = false by rw [HM1.out, decide_eq_false h1]; simp)
          have e1 : 65535 < r.hi := by omega
          clear h1
          go_enter Tryz.func50, Tryz.ntmps50
          go_wp2_with fail
          go_ret
          exact ⟨ret_bool HR0.out.symm, B0.out⟩
        have e1 : ¬ 65535 < r.hi := by omega
        by_cases h2 : r.lo ≤ r.hi
        rotate_left
        · have HR0 := Lib.hid (show mayF r = false by rw [HM1.out, decide_eq_false h2]; simp)
          have e2 : r.hi < r.lo := by omega
          clear h2
          go_enter Tryz.func50, Tryz.ntmps50
          go_wp2_with fail
          go_ret
          exact ⟨ret_bool HR0.out.symm, B0.out⟩
        have e2 : ¬ r.hi < r.lo := by omega
        by_cases h3 : r.n ≤ 8
        rotate_left
        · have HR0 := Lib.hid (show mayF r = false by rw [HM1.out, decide_eq_false h3]; simp)
          have e3 : (8 : Int) < (r.n : Int) := by omega
          clear h3
          go_enter Tryz.func50, Tryz.ntmps50
          go_wp2_with fail
          go_ret
          exact ⟨ret_bool HR0.out.symm, B0.out⟩
        have e3 : ¬ (8 : Int) < (r.n : Int) := by omega
        have HM2 := Lib.hid (show mayF r = r.ms.all tokF by rw [HM1.out, decide_eq_true h0, decide_eq_true h1, decide_eq_true h2, decide_eq_true h3]; simp)
        clear HM1 h0 h1 h2
        go_enter Tryz.func50, Tryz.ntmps50
        go_wp2_with fail
        generalize hw2 : (w.alloc (.cells #[.bool r.al, .string r.h, .int .i64 r.lo, .int .i64 r.hi, .slice r.A r.n r.c] 51)) = w2 at *
        clear hw2
        have I2 := I0
        have B2 := B0
        go_loopw [4] (fun vi wr => ∃ k : Nat, vi = .int .i64 (k : Int) ∧ k ≤ r.n ∧ Hid ((r.ms.take k).all tokF = true) ∧ w2 = wr) (fun vi _ => r.n - (intOf vi).toNat)
        case atStart => exact ⟨0, rfl, Nat.zero_le _, Lib.hid rfl, rfl⟩
        case round =>
          obtain ⟨k, rfl, hk, HE, rfl⟩ := hrel
          have y4 := I2.out.cell 4
          simp only [RuE.cells, List.getElem?_cons_zero, List.getElem?_cons_succ] at y4
          by_cases hlt : k < r.n
          · obtain ⟨pa, x, hx, hat, z2⟩ := srcs_at (c := r.c) (srcs_below HR.out.s B2.out) HR.out.hn hlt (Below.refl _ _)
            have HTK := Lib.hid (show (r.ms.take (k + 1)).all tokF = tokF x by rw [take_snoc r.ms k x hx, List.all_append, HE.out]; simp)
            have hin := List.mem_of_getElem? hx
            have HIN := Lib.hid hin
            have CT := token_any ⟨x.toArray⟩ w2 (by rw [← bl_length, bl_mk]; have := HZ.out.ms x hin; unfold maxLen; omega)
            rw [bl_mk] at CT
            clear hx hin
            cases hb : tokF x with
            | true =>
              rw [hb] at CT HTK
              have CT := Lib.hid CT
              clear hb
              go_wp2_with fail
              refine CT.out.mono ?_
              rintro e w5 ⟨rfl, rfl⟩
              go_wp2_with fail
              go_roundw
              case rel => exact ⟨k + 1, by go_num, hlt, HTK, trivial⟩
              case measure => simp [intOf]; omega
            | false =>
              have HF := Lib.hid (show mayF r = false by
                rw [HM2.out, Bool.eq_false_iff]
                intro h
                have := List.all_eq_true.1 h x HIN.out
                rw [hb] at this
                cases this)
              rw [hb] at CT
              have CT := Lib.hid CT
              clear hb
              go_wp2_with fail
              refine CT.out.mono ?_
              rintro e w5 ⟨rfl, rfl⟩
              go_wp2_with fail
              go_ret
              exact ⟨ret_bool HF.out.symm, B2.out⟩
          · have HF := Lib.hid (show mayF r = true by rw [HM2.out, ← HE.out, List.take_of_length_le (by rw [HR.out.hn]; omega)])
            go_wp2_with fail
            go_ret
            exact ⟨ret_bool HF.out.symm, B2.out⟩
      | false =>
        have p1 : ¬ r.h.toList = [42] := by rw [hb] at q1; exact beq_eq_false_iff_ne.1 q1
        have HH := Lib.hid (show hostF (bl r.h) = Uri.namedF (bl r.h) by rw [HH0.out, hb, Bool.false_or, HT.out])
        rw [hb] at q1
        clear hb HH0
        cases hq : Uri.namedF (bl r.h) with
        | false =>
          rw [hq] at CN HH
          have HR0 := Lib.hid (show mayF r = false by rw [HM.out, HH.out]; rfl)
          clear hq
          go_enter Tryz.func50, Tryz.ntmps50
          go_wp2_with fail
          refine (CN.out _).mono ?_
          rintro e w2 ⟨rfl, b2⟩
          have I2 := Lib.hid (is_below I0.out b2)
          have y2 := I2.out.cell 2
          have y3 := I2.out.cell 3
          have y4 := I2.out.cell 4
          simp only [RuE.cells, List.getElem?_cons_zero, List.getElem?_cons_succ] at y2 y3 y4
          have B2 := Lib.hid (B0.out.trans (b2.mono B0.out.size))
          clear b2
          go_wp2_with fail
          go_ret
          exact ⟨ret_bool HR0.out.symm, B2.out⟩
        | true =>
          rw [hq] at CN HH
          clear hq
          have HM1 := Lib.hid (show mayF r = ((decide (1 ≤ r.lo) && (decide (r.lo ≤ r.hi) && decide (r.hi ≤ 65535))) && (decide (r.n ≤ 8) && r.ms.all tokF)) by rw [HM.out, HH.out]; rfl)
          clear HM HH
          by_cases h0 : 1 ≤ r.lo
          rotate_left
          · have HR0 := Lib.hid (show mayF r = false by rw [HM1.out, decide_eq_false h0]; simp)
            have e0 : r.lo < 1 := by omega
            clear h0
            go_enter Tryz.func50, Tryz.ntmps50
            go_wp2_with fail
            refine (CN.out _).mono ?_
            rintro e w2 ⟨rfl, b2⟩
            have I2 := Lib.hid (is_below I0.out b2)
            have y2 := I2.out.cell 2
            have y3 := I2.out.cell 3
            have y4 := I2.out.cell 4
            simp only [RuE.cells, List.getElem?_cons_zero, List.getElem?_cons_succ] at y2 y3 y4
            have B2 := Lib.hid (B0.out.trans (b2.mono B0.out.size))
            clear b2
            go_wp2_with fail
            go_ret
            exact ⟨ret_bool HR0.out.symm, B2.out⟩
          have e0 : ¬ r.lo < 1 := by omega
          by_cases h1 : r.hi ≤ 65535
          rotate_left
          · have HR0 := Lib.hid (show mayF r = false by rw [HM1.out, decide_eq_false h1]; simp)
            have e1 : 65535 < r.hi := by omega
            clear h1
            go_enter Tryz.func50, Tryz.ntmps50
            go_wp2_with fail
            refine (CN.out _).mono ?_
            rintro e w2 ⟨rfl, b2⟩
            have I2 := Lib.hid (is_below I0.out b2)
            have y2 := I2.out.cell 2
            have y3 := I2.out.cell 3
            have y4 := I2.out.cell 4
            simp only [RuE.cells, List.getElem?_cons_zero, List.getElem?_cons_succ] at y2 y3 y4
            have B2 := Lib.hid (B0.out.trans (b2.mono B0.out.size))
            clear b2
            go_wp2_with fail
            go_ret
            exact ⟨ret_bool HR0.out.symm, B2.out⟩
          have e1 : ¬ 65535 < r.hi := by omega
          by_cases h2 : r.lo ≤ r.hi
          rotate_left
          · have HR0 := Lib.hid (show mayF r = false by rw [HM1.out, decide_eq_false h2]; simp)
            have e2 : r.hi < r.lo := by omega
            clear h2
            go_enter Tryz.func50, Tryz.ntmps50
            go_wp2_with fail
            refine (CN.out _).mono ?_
            rintro e w2 ⟨rfl, b2⟩
            have I2 := Lib.hid (is_below I0.out b2)
            have y2 := I2.out.cell 2
            have y3 := I2.out.cell 3
            have y4 := I2.out.cell 4
            simp only [RuE.cells, List.getElem?_cons_zero, List.getElem?_cons_succ] at y2 y3 y4
            have B2 := Lib.hid (B0.out.trans (b2.mono B0.out.size))
            clear b2
            go_wp2_with fail
            go_ret
            exact ⟨ret_bool HR0.out.symm, B2.out⟩
          have e2 : ¬ r.hi < r.lo := by omega
          by_cases h3 : r.n ≤ 8
          rotate_left
          · have HR0 := Lib.hid (show mayF r = false by rw [HM1.out, decide_eq_false h3]; simp)
            have e3 : (8 : Int) < (r.n : Int) := by omega
            clear h3
            go_enter Tryz.func50, Tryz.ntmps50
            go_wp2_with fail
            refine (CN.out _).mono ?_
            rintro e w2 ⟨rfl, b2⟩
            have I2 := Lib.hid (is_below I0.out b2)
            have y2 := I2.out.cell 2
            have y3 := I2.out.cell 3
            have y4 := I2.out.cell 4
            simp only [RuE.cells, List.getElem?_cons_zero, List.getElem?_cons_succ] at y2 y3 y4
            have B2 := Lib.hid (B0.out.trans (b2.mono B0.out.size))
            clear b2
            go_wp2_with fail
            go_ret
            exact ⟨ret_bool HR0.out.symm, B2.out⟩
          have e3 : ¬ (8 : Int) < (r.n : Int) := by omega
          have HM2 := Lib.hid (show mayF r = r.ms.all tokF by rw [HM1.out, decide_eq_true h0, decide_eq_true h1, decide_eq_true h2, decide_eq_true h3]; simp)
          clear HM1 h0 h1 h2
          go_enter Tryz.func50, Tryz.ntmps50
          go_wp2_with fail
          refine (CN.out _).mono ?_
          rintro e w2 ⟨rfl, b2⟩
          have I2 := Lib.hid (is_below I0.out b2)
          have y2 := I2.out.cell 2
          have y3 := I2.out.cell 3
          have y4 := I2.out.cell 4
          simp only [RuE.cells, List.getElem?_cons_zero, List.getElem?_cons_succ] at y2 y3 y4
          have B2 := Lib.hid (B0.out.trans (b2.mono B0.out.size))
          clear b2
          go_wp2_with fail
          go_loopw [4] (fun vi wr => ∃ k : Nat, vi = .int .i64 (k : Int) ∧ k ≤ r.n ∧ Hid ((r.ms.take k).all tokF = true) ∧ w2 = wr) (fun vi _ => r.n - (intOf vi).toNat)
          case atStart => exact ⟨0, rfl, Nat.zero_le _, Lib.hid rfl, rfl⟩
          case round =>
            obtain ⟨k, rfl, hk, HE, rfl⟩ := hrel
            have y4 := I2.out.cell 4
            simp only [RuE.cells, List.getElem?_cons_zero, List.getElem?_cons_succ] at y4
            by_cases hlt : k < r.n
            · obtain ⟨pa, x, hx, hat, z2⟩ := srcs_at (c := r.c) (srcs_below HR.out.s B2.out) HR.out.hn hlt (Below.refl _ _)
              have HTK := Lib.hid (show (r.ms.take (k + 1)).all tokF = tokF x by rw [take_snoc r.ms k x hx, List.all_append, HE.out]; simp)
              have hin := List.mem_of_getElem? hx
              have HIN := Lib.hid hin
              have CT := token_any ⟨x.toArray⟩ w2 (by rw [← bl_length, bl_mk]; have := HZ.out.ms x hin; unfold maxLen; omega)
              rw [bl_mk] at CT
              clear hx hin
              cases hb : tokF x with
              | true =>
                rw [hb] at CT HTK
                have CT := Lib.hid CT
                clear hb
                go_wp2_with fail
                refine CT.out.mono ?_
                rintro e w5 ⟨rfl, rfl⟩
                go_wp2_with fail
                go_roundw
                case rel => exact ⟨k + 1, by go_num, hlt, HTK, trivial⟩
                case measure => simp [intOf]; omega
              | false =>
                have HF := Lib.hid (show mayF r = false by
                  rw [HM2.out, Bool.eq_false_iff]
                  intro h
                  have := List.all_eq_true.1 h x HIN.out
                  rw [hb] at this
                  cases this)
                rw [hb] at CT
                have CT := Lib.hid CT
                clear hb
                go_wp2_with fail
                refine CT.out.mono ?_
                rintro e w5 ⟨rfl, rfl⟩
                go_wp2_with fail
                go_ret
                exact ⟨ret_bool HF.out.symm, B2.out⟩
            · have HF := Lib.hid (show mayF r = true by rw [HM2.out, ← HE.out, List.take_of_length_le (by rw [HR.out.hn]; omega)])
              go_wp2_with fail
              go_ret
              exact ⟨ret_bool HF.out.symm, B2.out⟩
  · obtain ⟨T, hT⟩ : ∃ T : ByteArray, r.h = T := ⟨_, rfl⟩
    have HT := Lib.hid (show cutN (bl r.h) = bl T by
      unfold cutN
      rw [if_neg (fun h => h1 (by have := h.1; rwa [bl_length] at this)), hT])
    have CN := Lib.hid (fun W : World => Uri.rnamed_any T W (by rw [← hT]; exact HZ.out.h))
    have g1 : ¬ (1 : Int) < (r.h.size : Int) := by omega
    subst hT
    cases hb : bl r.h == [42] with
    | true =>
      have p1 : r.h.toList = [42] := by rw [hb] at q1; exact beq_iff_eq.1 q1
      have HH := Lib.hid (show hostF (bl r.h) = true by rw [HH0.out, hb]; rfl)
      rw [hb] at q1
      clear hb CN HH0
      have HM1 := Lib.hid (show mayF r = ((decide (1 ≤ r.lo) && (decide (r.lo ≤ r.hi) && decide (r.hi ≤ 65535))) && (decide (r.n ≤ 8) && r.ms.all tokF)) by rw [HM.out, HH.out]; rfl)
      clear HM HH
      by_cases h0 : 1 ≤ r.lo
      rotate_left
      · have HR0 := Lib.hid (show mayF r = false by rw [HM1.out, decide_eq_false h0]; simp)
        have e0 : r.lo < 1 := by omega
        clear h0
        go_enter Tryz.func50, Tryz.ntmps50
        go_wp2_with fail
        go_ret
        exact ⟨ret_bool HR0.out.symm, B0.out⟩
      have e0 : ¬ r.lo < 1 := by omega
      by_cases h1 : r.hi ≤ 65535
      rotate_left
      · have HR0 := Lib.hid (show mayF r = false by rw [HM1.out, decide_eq_false h1]; simp)
        have e1 : 65535 < r.hi := by omega
        clear h1
        go_enter Tryz.func50, Tryz.ntmps50
        go_wp2_with fail
        go_ret
        exact ⟨ret_bool HR0.out.symm, B0.out⟩
      have e1 : ¬ 65535 < r.hi := by omega
      by_cases h2 : r.lo ≤ r.hi
      rotate_left
      · have HR0 := Lib.hid (show mayF r = false by rw [HM1.out, decide_eq_false h2]; simp)
        have e2 : r.hi < r.lo := by omega
        clear h2
        go_enter Tryz.func50, Tryz.ntmps50
        go_wp2_with fail
        go_ret
        exact ⟨ret_bool HR0.out.symm, B0.out⟩
      have e2 : ¬ r.hi < r.lo := by omega
      by_cases h3 : r.n ≤ 8
      rotate_left
      · have HR0 := Lib.hid (show mayF r = false by rw [HM1.out, decide_eq_false h3]; simp)
        have e3 : (8 : Int) < (r.n : Int) := by omega
        clear h3
        go_enter Tryz.func50, Tryz.ntmps50
        go_wp2_with fail
        go_ret
        exact ⟨ret_bool HR0.out.symm, B0.out⟩
      have e3 : ¬ (8 : Int) < (r.n : Int) := by omega
      have HM2 := Lib.hid (show mayF r = r.ms.all tokF by rw [HM1.out, decide_eq_true h0, decide_eq_true h1, decide_eq_true h2, decide_eq_true h3]; simp)
      clear HM1 h0 h1 h2
      go_enter Tryz.func50, Tryz.ntmps50
      go_wp2_with fail
      generalize hw2 : (w.alloc (.cells #[.bool r.al, .string r.h, .int .i64 r.lo, .int .i64 r.hi, .slice r.A r.n r.c] 51)) = w2 at *
      clear hw2
      have I2 := I0
      have B2 := B0
      go_loopw [4] (fun vi wr => ∃ k : Nat, vi = .int .i64 (k : Int) ∧ k ≤ r.n ∧ Hid ((r.ms.take k).all tokF = true) ∧ w2 = wr) (fun vi _ => r.n - (intOf vi).toNat)
      case atStart => exact ⟨0, rfl, Nat.zero_le _, Lib.hid rfl, rfl⟩
      case round =>
        obtain ⟨k, rfl, hk, HE, rfl⟩ := hrel
        have y4 := I2.out.cell 4
        simp only [RuE.cells, List.getElem?_cons_zero, List.getElem?_cons_succ] at y4
        by_cases hlt : k < r.n
        · obtain ⟨pa, x, hx, hat, z2⟩ := srcs_at (c := r.c) (srcs_below HR.out.s B2.out) HR.out.hn hlt (Below.refl _ _)
          have HTK := Lib.hid (show (r.ms.take (k + 1)).all tokF = tokF x by rw [take_snoc r.ms k x hx, List.all_append, HE.out]; simp)
          have hin := List.mem_of_getElem? hx
          have HIN := Lib.hid hin
          have CT := token_any ⟨x.toArray⟩ w2 (by rw [← bl_length, bl_mk]; have := HZ.out.ms x hin; unfold maxLen; omega)
          rw [bl_mk] at CT
          clear hx hin
          cases hb : tokF x with
          | true =>
            rw [hb] at CT HTK
            have CT := Lib.hid CT
            clear hb
            go_wp2_with fail
            refine CT.out.mono ?_
            rintro e w5 ⟨rfl, rfl⟩
            go_wp2_with fail
            go_roundw
            case rel => exact ⟨k + 1, by go_num, hlt, HTK, trivial⟩
            case measure => simp [intOf]; omega
          | false =>
            have HF := Lib.hid (show mayF r = false by
              rw [HM2.out, Bool.eq_false_iff]
              intro h
              have := List.all_eq_true.1 h x HIN.out
              rw [hb] at this
              cases this)
            rw [hb] at CT
            have CT := Lib.hid CT
            clear hb
            go_wp2_with fail
            refine CT.out.mono ?_
            rintro e w5 ⟨rfl, rfl⟩
            go_wp2_with fail
            go_ret
            exact ⟨ret_bool HF.out.symm, B2.out⟩
        · have HF := Lib.hid (show mayF r = true by rw [HM2.out, ← HE.out, List.take_of_length_le (by rw [HR.out.hn]; omega)])
          go_wp2_with fail
          go_ret
          exact ⟨ret_bool HF.out.symm, B2.out⟩
    | false =>
      have p1 : ¬ r.h.toList = [42] := by rw [hb] at q1; exact beq_eq_false_iff_ne.1 q1
      have HH := Lib.hid (show hostF (bl r.h) = Uri.namedF (bl r.h) by rw [HH0.out, hb, Bool.false_or, HT.out])
      rw [hb] at q1
      clear hb HH0
      cases hq : Uri.namedF (bl r.h) with
      | false =>
        rw [hq] at CN HH
        have HR0 := Lib.hid (show mayF r = false by rw [HM.out, HH.out]; rfl)
        clear hq
        go_enter Tryz.func50, Tryz.ntmps50
        go_wp2_with fail
        refine (CN.out _).mono ?_
        rintro e w2 ⟨rfl, b2⟩
        have I2 := Lib.hid (is_below I0.out b2)
        have y2 := I2.out.cell 2
        have y3 := I2.out.cell 3
        have y4 := I2.out.cell 4
        simp only [RuE.cells, List.getElem?_cons_zero, List.getElem?_cons_succ] at y2 y3 y4
        have B2 := Lib.hid (B0.out.trans (b2.mono B0.out.size))
        clear b2
        go_wp2_with fail
        go_ret
        exact ⟨ret_bool HR0.out.symm, B2.out⟩
      | true =>
        rw [hq] at CN HH
        clear hq
        have HM1 := Lib.hid (show mayF r = ((decide (1 ≤ r.lo) && (decide (r.lo ≤ r.hi) && decide (r.hi ≤ 65535))) && (decide (r.n ≤ 8) && r.ms.all tokF)) by rw [HM.out, HH.out]; rfl)
        clear HM HH
        by_cases h0 : 1 ≤ r.lo
        rotate_left
        · have HR0 := Lib.hid (show mayF r = false by rw [HM1.out, decide_eq_false h0]; simp)
          have e0 : r.lo < 1 := by omega
          clear h0
          go_enter Tryz.func50, Tryz.ntmps50
          go_wp2_with fail
          refine (CN.out _).mono ?_
          rintro e w2 ⟨rfl, b2⟩
          have I2 := Lib.hid (is_below I0.out b2)
          have y2 := I2.out.cell 2
          have y3 := I2.out.cell 3
          have y4 := I2.out.cell 4
          simp only [RuE.cells, List.getElem?_cons_zero, List.getElem?_cons_succ] at y2 y3 y4
          have B2 := Lib.hid (B0.out.trans (b2.mono B0.out.size))
          clear b2
          go_wp2_with fail
          go_ret
          exact ⟨ret_bool HR0.out.symm, B2.out⟩
        have e0 : ¬ r.lo < 1 := by omega
        by_cases h1 : r.hi ≤ 65535
        rotate_left
        · have HR0 := Lib.hid (show mayF r = false by rw [HM1.out, decide_eq_false h1]; simp)
          have e1 : 65535 < r.hi := by omega
          clear h1
          go_enter Tryz.func50, Tryz.ntmps50
          go_wp2_with fail
          refine (CN.out _).mono ?_
          rintro e w2 ⟨rfl, b2⟩
          have I2 := Lib.hid (is_below I0.out b2)
          have y2 := I2.out.cell 2
          have y3 := I2.out.cell 3
          have y4 := I2.out.cell 4
          simp only [RuE.cells, List.getElem?_cons_zero, List.getElem?_cons_succ] at y2 y3 y4
          have B2 := Lib.hid (B0.out.trans (b2.mono B0.out.size))
          clear b2
          go_wp2_with fail
          go_ret
          exact ⟨ret_bool HR0.out.symm, B2.out⟩
        have e1 : ¬ 65535 < r.hi := by omega
        by_cases h2 : r.lo ≤ r.hi
        rotate_left
        · have HR0 := Lib.hid (show mayF r = false by rw [HM1.out, decide_eq_false h2]; simp)
          have e2 : r.hi < r.lo := by omega
          clear h2
          go_enter Tryz.func50, Tryz.ntmps50
          go_wp2_with fail
          refine (CN.out _).mono ?_
          rintro e w2 ⟨rfl, b2⟩
          have I2 := Lib.hid (is_below I0.out b2)
          have y2 := I2.out.cell 2
          have y3 := I2.out.cell 3
          have y4 := I2.out.cell 4
          simp only [RuE.cells, List.getElem?_cons_zero, List.getElem?_cons_succ] at y2 y3 y4
          have B2 := Lib.hid (B0.out.trans (b2.mono B0.out.size))
          clear b2
          go_wp2_with fail
          go_ret
          exact ⟨ret_bool HR0.out.symm, B2.out⟩
        have e2 : ¬ r.hi < r.lo := by omega
        by_cases h3 : r.n ≤ 8
        rotate_left
        · have HR0 := Lib.hid (show mayF r = false by rw [HM1.out, decide_eq_false h3]; simp)
          have e3 : (8 : Int) < (r.n : Int) := by omega
          clear h3
          go_enter Tryz.func50, Tryz.ntmps50
          go_wp2_with fail
          refine (CN.out _).mono ?_
          rintro e w2 ⟨rfl, b2⟩
          have I2 := Lib.hid (is_below I0.out b2)
          have y2 := I2.out.cell 2
          have y3 := I2.out.cell 3
          have y4 := I2.out.cell 4
          simp only [RuE.cells, List.getElem?_cons_zero, List.getElem?_cons_succ] at y2 y3 y4
          have B2 := Lib.hid (B0.out.trans (b2.mono B0.out.size))
          clear b2
          go_wp2_with fail
          go_ret
          exact ⟨ret_bool HR0.out.symm, B2.out⟩
        have e3 : ¬ (8 : Int) < (r.n : Int) := by omega
        have HM2 := Lib.hid (show mayF r = r.ms.all tokF by rw [HM1.out, decide_eq_true h0, decide_eq_true h1, decide_eq_true h2, decide_eq_true h3]; simp)
        clear HM1 h0 h1 h2
        go_enter Tryz.func50, Tryz.ntmps50
        go_wp2_with fail
        refine (CN.out _).mono ?_
        rintro e w2 ⟨rfl, b2⟩
        have I2 := Lib.hid (is_below I0.out b2)
        have y2 := I2.out.cell 2
        have y3 := I2.out.cell 3
        have y4 := I2.out.cell 4
        simp only [RuE.cells, List.getElem?_cons_zero, List.getElem?_cons_succ] at y2 y3 y4
        have B2 := Lib.hid (B0.out.trans (b2.mono B0.out.size))
        clear b2
        go_wp2_with fail
        go_loopw [4] (fun vi wr => ∃ k : Nat, vi = .int .i64 (k : Int) ∧ k ≤ r.n ∧ Hid ((r.ms.take k).all tokF = true) ∧ w2 = wr) (fun vi _ => r.n - (intOf vi).toNat)
        case atStart => exact ⟨0, rfl, Nat.zero_le _, Lib.hid rfl, rfl⟩
        case round =>
          obtain ⟨k, rfl, hk, HE, rfl⟩ := hrel
          have y4 := I2.out.cell 4
          simp only [RuE.cells, List.getElem?_cons_zero, List.getElem?_cons_succ] at y4
          by_cases hlt : k < r.n
          · obtain ⟨pa, x, hx, hat, z2⟩ := srcs_at (c := r.c) (srcs_below HR.out.s B2.out) HR.out.hn hlt (Below.refl _ _)
            have HTK := Lib.hid (show (r.ms.take (k + 1)).all tokF = tokF x by rw [take_snoc r.ms k x hx, List.all_append, HE.out]; simp)
            have hin := List.mem_of_getElem? hx
            have HIN := Lib.hid hin
            have CT := token_any ⟨x.toArray⟩ w2 (by rw [← bl_length, bl_mk]; have := HZ.out.ms x hin; unfold maxLen; omega)
            rw [bl_mk] at CT
            clear hx hin
            cases hb : tokF x with
            | true =>
              rw [hb] at CT HTK
              have CT := Lib.hid CT
              clear hb
              go_wp2_with fail
              refine CT.out.mono ?_
              rintro e w5 ⟨rfl, rfl⟩
              go_wp2_with fail
              go_roundw
              case rel => exact ⟨k + 1, by go_num, hlt, HTK, trivial⟩
              case measure => simp [intOf]; omega
            | false =>
              have HF := Lib.hid (show mayF r = false by
                rw [HM2.out, Bool.eq_false_iff]
                intro h
                have := List.all_eq_true.1 h x HIN.out
                rw [hb] at this
                cases this)
              rw [hb] at CT
              have CT := Lib.hid CT
              clear hb
              go_wp2_with fail
              refine CT.out.mono ?_
              rintro e w5 ⟨rfl, rfl⟩
              go_wp2_with fail
              go_ret
              exact ⟨ret_bool HF.out.symm, B2.out⟩
          · have HF := Lib.hid (show mayF r = true by rw [HM2.out, ← HE.out, List.take_of_length_le (by rw [HR.out.hn]; omega)])
            go_wp2_with fail
            go_ret
            exact ⟨ret_bool HF.out.symm, B2.out⟩

set_option maxHeartbeats 4000000 in
set_option maxRecDepth 100000 in
theorem rall_any {P : Nat → Prop} (w : World) (A : Option Addr) (L : List RuE) (n c : Nat) (hn : L.length = n) (hmax : n ≤ 4000000) (hs : SrcU w P A L) (hok : ∀ r ∈ L, r.Ok w) (hz : ∀ r ∈ L, r.Small) :
    Calls Tryz.prog 29 #[.slice A n c] w fun e w' => e = .returned (.bool (allF L)) ∧ Below w.heap.size w w' := by
  have HN := Lib.hid hn
  have H := Lib.hid hs
  have HO := Lib.hid hok
  have HZ := Lib.hid hz
  have HF := Lib.hid (show allF L = (decide (n ≤ 16) && L.all mayF) by unfold allF; rw [hn])
  clear hn hs hok hz
  go_enter Tryz.func29, Tryz.ntmps29
  go_wp2_with fail
  go_loopw [3] (fun vi wr => ∃ k : Nat, vi = .int .i64 (k : Int) ∧ k ≤ n ∧ Hid ((L.take k).all mayF = true) ∧ Hid (Below w.heap.size w wr)) (fun vi _ => n - (intOf vi).toNat)
  case atStart => exact ⟨0, rfl, Nat.zero_le _, Lib.hid rfl, Lib.hid (Below.refl _ _)⟩
  case round =>
    obtain ⟨k, rfl, hk, HE, HB⟩ := hrel
    by_cases hlt : k < n
    · obtain ⟨pa, r, hx, hat, hpb, y0, y1, y2, y3, y4⟩ := SrcU.at (c := c) H.out HN.out hlt HB.out
      have HTK := Lib.hid (show (L.take (k + 1)).all mayF = mayF r by rw [take_snoc L k r hx, List.all_append, HE.out]; simp)
      have hin := List.mem_of_getElem? hx
      have HIN := Lib.hid hin
      have C := rmay_any r wr ((HO.out r hin).below HB.out) (HZ.out r hin)
      clear hx hpb hin
      cases hm : mayF r with
      | true =>
        rw [hm] at C HTK
        have C := Lib.hid C
        clear hm
        go_wp2_with fail
        refine C.out.mono ?_
        rintro e w5 ⟨rfl, b5⟩
        have B5 := Lib.hid (HB.out.trans (b5.mono HB.out.size))
        clear b5
        go_wp2_with fail
        go_roundw
        case rel => exact ⟨k + 1, by go_num, hlt, HTK, B5⟩
        case measure => simp [intOf]; omega
      | false =>
        have HF := Lib.hid (show allF L = false by
          rw [HF.out, Bool.and_eq_false_iff]
          right
          rw [Bool.eq_false_iff]
          intro h
          have := List.all_eq_true.1 h r HIN.out
          rw [hm] at this
          cases this)
        rw [hm] at C
        have C := Lib.hid C
        clear hm
        go_wp2_with fail
        refine C.out.mono ?_
        rintro e w5 ⟨rfl, b5⟩
        have B5 := Lib.hid (HB.out.trans (b5.mono HB.out.size))
        clear b5
        go_wp2_with fail
        go_ret
        exact ⟨ret_bool HF.out.symm, B5.out⟩
    · have hall : L.all mayF = true := by rw [← HE.out, List.take_of_length_le (by rw [HN.out]; omega)]
      rw [hall, Bool.and_true] at HF
      clear hall
      by_cases h16 : n ≤ 16
      · rw [decide_eq_true h16] at HF
        have e1 : (n : Int) ≤ 16 := by omega
        clear h16
        go_wp2_with fail
        go_ret
        exact ⟨ret_bool HF.out.symm, HB.out⟩
      · rw [decide_eq_false h16] at HF
        have e1 : ¬ (n : Int) ≤ 16 := by omega
        clear h16
        go_wp2_with fail
        go_ret
        exact ⟨ret_bool HF.out.symm, HB.out⟩
end Go.Proofs.YtopanahgeeolbaaGreatDoor.Acl
