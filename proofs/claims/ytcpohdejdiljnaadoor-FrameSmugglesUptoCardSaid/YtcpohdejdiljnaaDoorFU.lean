/-
  What the reference's Request and Response answer.
  Conditions: those that each theorem names.
-/
import Derived.Test.YtcpohdejdiljnaaDoorFT
namespace Go.Proofs.YtcpohdejdiljnaaDoor
open Go.RowKit

/-- What the reference's Request answers, by what is sure. -/
def askK (minor : Int) (sure : Bool) (b : Kd) : Kd := if minor ≠ 0 ∧ minor ≠ 1 then (0, 0, 1) else if sure = false then (0, 0, 22) else b
def tellK (status : Int) (m : List UInt8) (minor : Int) (sure : Bool) (b : Kd) : Kd :=
  if minor ≠ 0 ∧ minor ≠ 1 then (0, 0, 1)
  else if status < 100 ∨ 599 < status then (0, 0, 1)
  else if sure = false then (0, 0, 22)
  else if bodyF status m = false then (0, 0, 0)
  else if b.2.2 = 0 ∧ b.1 = 0 then (3, b.2) else b

set_option maxHeartbeats 4000000 in
set_option maxRecDepth 100000 in
theorem rrequest_any {P : Nat → Prop} (minor : Int) (w : World) (A : Option Addr) (ls : List Fld) (n c : Nat) (hn : ls.length = n) (h : SrcF w P A ls) (hm : Meek ls) :
    Calls Tryd.prog 9 #[.int .i64 minor, .slice A n c] w (Tells (reqK minor ls) w) := by
  have C1 := Lib.hid (fun (X : World) (hX : Below w.heap.size w X) => sure_any minor X A ls n c hn (by have := hm.fit.few; omega) (h.below hX) hm.thin hm.fit.lens hm.fit.cods hm.tx hm.tc)
  have C2 := Lib.hid (fun (X : World) (hX : Below w.heap.size w X) => rbody_any X A ls n c hn (h.below hX) hm)
  have HR := Lib.hid (show reqK minor ls = askK minor (sureK minor (getF ls lenN).length (getF ls codN).length (elsF (getF ls lenN)) (elsF (getF ls codN))) (bodyK (getF ls codN).length (elsF (getF ls lenN))) from reqK_sure minor ls)
  clear hn h hm
  generalize sureK minor (getF ls lenN).length (getF ls codN).length (elsF (getF ls lenN)) (elsF (getF ls codN)) = q at *
  generalize bodyK (getF ls codN).length (elsF (getF ls lenN)) = b at *
  generalize reqK minor ls = R at *
  obtain ⟨k, l, e⟩ := b
  unfold Tells kdV at C2
  simp only at C2
  unfold askK at HR
  by_cases hm : minor ≠ 0 ∧ minor ≠ 1
  · have q1 : (minor != 0) = true := by simpa using hm.1
    have q2 : (minor != 1) = true := by simpa using hm.2
    have HF := Lib.hid (HR.out.trans (if_pos hm))
    clear hm C1 C2
    go_enter Tryd.func9, Tryd.ntmps9
    go_wp2_with fail
    go_ret3
    exact ⟨tells3 (by rw [HF.out]; exact ⟨rfl, rfl, rfl⟩), Below.refl _ _⟩
  · have HM := Lib.hid (HR.out.trans (if_neg hm))
    have hq : (minor != 0) = false ∨ ((minor != 0) = true ∧ (minor != 1) = false) := by
      by_cases h0 : minor = 0
      · exact .inl (by simpa using h0)
      · exact .inr ⟨by simpa using h0, by simp; omega⟩
    clear hm HR
    rcases hq with q1 | ⟨q1, q2⟩
    all_goals
      cases q with
      | false =>
        have HF := Lib.hid (HM.out.trans (if_pos rfl))
        go_enter Tryd.func9, Tryd.ntmps9
        go_wp2_with fail
        refine (C1.out _ (Below.refl _ _)).mono ?_
        rintro x w1 ⟨rfl, b1⟩
        have B1 := Lib.hid b1
        clear b1
        go_wp2_with fail
        go_ret3
        exact ⟨tells3 (by rw [HF.out]; exact ⟨rfl, rfl, rfl⟩), B1.out⟩
      | true =>
        have HF := Lib.hid (HM.out.trans (if_neg (by simp)))
        go_enter Tryd.func9, Tryd.ntmps9
        go_wp2_with fail
        refine (C1.out _ (Below.refl _ _)).mono ?_
        rintro x w1 ⟨rfl, b1⟩
        have B1 := Lib.hid b1
        clear b1
        go_wp2_with fail
        refine (C2.out _ B1.out).mono ?_
        rintro x w2 ⟨rfl, b2⟩
        have B2 := Lib.hid (B1.out.trans (b2.mono B1.out.size))
        clear b2
        go_wp2_with fail
        go_ret3
        exact ⟨tells3 (by rw [HF.out]; exact ⟨rfl, rfl, rfl⟩), B2.out⟩

set_option maxHeartbeats 4000000 in
set_option maxRecDepth 100000 in
theorem rtell_any {P : Nat → Prop} (status : Int) (m : ByteArray) (minor : Int) (w : World) (A : Option Addr) (ls : List Fld) (n c : Nat) (hn : ls.length = n) (h : SrcF w P A ls) (hm : Meek ls) :
    Calls Tryd.prog 11 #[.int .i64 status, .string m, .int .i64 minor, .slice A n c] w (Tells (tellK status (bl m) minor (sureK minor (getF ls lenN).length (getF ls codN).length (elsF (getF ls lenN)) (elsF (getF ls codN))) (bodyK (getF ls codN).length (elsF (getF ls lenN)))) w) := by
  have C1 := Lib.hid (fun (X : World) (hX : Below w.heap.size w X) => sure_any minor X A ls n c hn (by have := hm.fit.few; omega) (h.below hX) hm.thin hm.fit.lens hm.fit.cods hm.tx hm.tc)
  have C2 := Lib.hid (fun (X : World) (hX : Below w.heap.size w X) => rbody_any X A ls n c hn (h.below hX) hm)
  clear hn h hm
  generalize sureK minor (getF ls lenN).length (getF ls codN).length (elsF (getF ls lenN)) (elsF (getF ls codN)) = q at *
  generalize bodyK (getF ls codN).length (elsF (getF ls lenN)) = b at *
  obtain ⟨k, l, e⟩ := b
  unfold Tells kdV at C2
  simp only at C2
  have HR := Lib.hid (show tellK status (bl m) minor q (k, l, e) = if minor ≠ 0 ∧ minor ≠ 1 then (0, 0, 1) else if status < 100 ∨ 599 < status then (0, 0, 1) else if q = false then (0, 0, 22) else if bodyF status (bl m) = false then (0, 0, 0) else if e = 0 ∧ k = 0 then (3, l, e) else (k, l, e) from rfl)
  have HB := Lib.hid (show bodyF status (bl m) = if m.toList = [72, 69, 65, 68] ∨ status < 200 ∨ status = 204 ∨ status = 304 then false else (m.toList != [67, 79, 78, 78, 69, 67, 84]) || decide (300 ≤ status) by rw [toList_bl]; rfl)
  by_cases hm : minor ≠ 0 ∧ minor ≠ 1
  · have q1 : (minor != 0) = true := by simpa using hm.1
    have q2 : (minor != 1) = true := by simpa using hm.2
    have HF := Lib.hid (HR.out.trans (if_pos hm))
    clear hm C1 C2
    go_enter Tryd.func11, Tryd.ntmps11
    go_wp2_with fail
    go_ret3
    exact ⟨tells3 (by rw [HF.out]; exact ⟨rfl, rfl, rfl⟩), Below.refl _ _⟩
  · have HM := Lib.hid (HR.out.trans (if_neg hm))
    have hq : (minor != 0) = false ∨ ((minor != 0) = true ∧ (minor != 1) = false) := by
      by_cases h0 : minor = 0
      · exact .inl (by simpa using h0)
      · exact .inr ⟨by simpa using h0, by simp; omega⟩
    clear hm HR
    rcases hq with q1 | ⟨q1, q2⟩
    all_goals
      by_cases hs : status < 100 ∨ 599 < status
      · have HF := Lib.hid (HM.out.trans (if_pos hs))
        have hs2 : decide (status < 100) = true ∨ (decide (status < 100) = false ∧ decide (599 < status) = true) := by
          by_cases h : status < 100
          · exact .inl (decide_eq_true h)
          · exact .inr ⟨decide_eq_false h, decide_eq_true (by omega)⟩
        clear hs
        rcases hs2 with s1 | ⟨s1, s2⟩
        all_goals
          go_enter Tryd.func11, Tryd.ntmps11
          go_wp2_with fail
          go_ret3
          exact ⟨tells3 (by rw [HF.out]; exact ⟨rfl, rfl, rfl⟩), Below.refl _ _⟩
      · have HS := Lib.hid (HM.out.trans (if_neg hs))
        have s1 : decide (status < 100) = false := decide_eq_false (by omega)
        have s2 : decide (599 < status) = false := decide_eq_false (by omega)
        clear hs HM
        cases q with
        | false =>
          have HF := Lib.hid (HS.out.trans (if_pos rfl))
          go_enter Tryd.func11, Tryd.ntmps11
          go_wp2_with fail
          refine (C1.out _ (Below.refl _ _)).mono ?_
          rintro x w1 ⟨rfl, b1⟩
          have B1 := Lib.hid b1
          clear b1
          go_wp2_with fail
          go_ret3
          exact ⟨tells3 (by rw [HF.out]; exact ⟨rfl, rfl, rfl⟩), B1.out⟩
        | true =>
          have HF := Lib.hid (HS.out.trans (if_neg (by simp)))
          clear HS
          by_cases hb : bodyF status (bl m) = false
          · have HG := Lib.hid (HF.out.trans (if_pos hb))
            have hc : (m.toList == [72, 69, 65, 68]) = true ∨ ((m.toList == [72, 69, 65, 68]) = false ∧ (decide (status < 200) = true ∨ (decide (status < 200) = false ∧ ((status == 204) = true ∨ ((status == 204) = false ∧ ((status == 304) = true ∨ ((status == 304) = false ∧ (m.toList == [67, 79, 78, 78, 69, 67, 84]) = true ∧ decide (200 ≤ status) = true ∧ decide (status < 300) = true))))))) := by
              rw [HB.out] at hb
              by_cases t1 : m.toList = [72, 69, 65, 68]
              · exact .inl (beq_iff_eq.2 t1)
              · refine .inr ⟨beq_eq_false_iff_ne.2 t1, ?_⟩
                by_cases t2 : status < 200
                · exact .inl (decide_eq_true t2)
                · refine .inr ⟨decide_eq_false t2, ?_⟩
                  by_cases t3 : status = 204
                  · exact .inl (beq_iff_eq.2 t3)
                  · refine .inr ⟨beq_eq_false_iff_ne.2 t3, ?_⟩
                    by_cases t4 : status = 304
                    · exact .inl (beq_iff_eq.2 t4)
                    · refine .inr ⟨beq_eq_false_iff_ne.2 t4, ?_⟩
                      rw [if_neg (fun k => k.elim t1 fun k => k.elim t2 fun k => k.elim t3 t4), Bool.or_eq_false_iff] at hb
                      obtain ⟨u1, u2⟩ := hb
                      have u3 := of_decide_eq_false u2
                      refine ⟨?_, decide_eq_true (by omega), decide_eq_true (by omega)⟩
                      unfold bne at u1
                      generalize (m.toList == [67, 79, 78, 78, 69, 67, 84]) = z at *
                      cases z
                      · cases u1
                      · rfl
            clear hb HF HB
            rcases hc with c1 | ⟨c1, c2 | ⟨c2, c3 | ⟨c3, c4 | ⟨c4, c5, c6, c7⟩⟩⟩⟩
            all_goals
              go_enter Tryd.func11, Tryd.ntmps11
              go_wp2_with fail
              refine (C1.out _ (Below.refl _ _)).mono ?_
              rintro x w1 ⟨rfl, b1⟩
              have B1 := Lib.hid b1
              clear b1
              go_wp2_with fail
              go_ret3
              exact ⟨tells3 (by rw [HG.out]; exact ⟨rfl, rfl, rfl⟩), B1.out⟩
          · have HG := Lib.hid (HF.out.trans (if_neg hb))
            have hc : (m.toList == [72, 69, 65, 68]) = false ∧ decide (status < 200) = false ∧ (status == 204) = false ∧ (status == 304) = false ∧ decide (200 ≤ status) = true ∧ ((m.toList == [67, 79, 78, 78, 69, 67, 84]) = false ∨ ((m.toList == [67, 79, 78, 78, 69, 67, 84]) = true ∧ decide (status < 300) = false)) := by
              rw [HB.out] at hb
              simp only [beq_iff_eq, beq_eq_false_iff_ne, decide_eq_true_eq, decide_eq_false_iff_not]
              split at hb
              · simp at hb
              · next h =>
                simp at hb
                by_cases hx : m.toList = [67, 79, 78, 78, 69, 67, 84]
                · have := hb hx
                  exact ⟨fun k => h (.inl k), by omega, by omega, by omega, by omega, .inr ⟨hx, by omega⟩⟩
                · exact ⟨fun k => h (.inl k), by omega, by omega, by omega, by omega, .inl hx⟩
            obtain ⟨c1, c2, c3, c4, c6, c57⟩ := hc
            have he : ((e : Int) == 0) = false ∨ (((e : Int) == 0) = true ∧ (((k : Int) == 0) = true ∨ ((k : Int) == 0) = false)) := by
              cases (e : Int) == 0 <;> cases (k : Int) == 0 <;> simp
            clear hb HF HB
            rcases c57 with c5 | ⟨c5, c7⟩
            all_goals
              rcases he with d1 | ⟨d1, d2 | d2⟩
              all_goals
                go_enter Tryd.func11, Tryd.ntmps11
                go_wp2_with fail
                refine (C1.out _ (Below.refl _ _)).mono ?_
                rintro x w1 ⟨rfl, b1⟩
                have B1 := Lib.hid b1
                clear b1
                go_wp2_with fail
                refine (C2.out _ B1.out).mono ?_
                rintro x w2 ⟨rfl, b2⟩
                have B2 := Lib.hid (B1.out.trans (b2.mono B1.out.size))
                clear b2
                go_wp2_with fail
                go_ret3
                refine ⟨tells3 ?_, B2.out⟩
                rw [HG.out]
                simp only [beq_iff_eq, beq_eq_false_iff_ne, ne_eq] at d1
                try simp only [beq_iff_eq, beq_eq_false_iff_ne, ne_eq] at d2
                first
                  | (rw [if_neg (by omega)]; exact ⟨rfl, rfl, rfl⟩)
                  | (rw [if_pos (by omega)]; exact ⟨rfl, rfl, rfl⟩)

theorem kindL_cons (x : List UInt8) (r : List (List UInt8)) : kindL (x :: r) = if (readF 10 x).2 ≠ 0 ∨ 4096 < (readF 10 x).1 then (0, 0, 21) else (1, (readF 10 x).1, 0) := rfl
theorem kindL_none (xs : List (List UInt8)) (b : Nat) (h1 : (bodyK b xs).2.2 = 0) (h2 : (bodyK b xs).1 = 0) : bodyK b xs = (0, 0, 0) := by
  unfold bodyK at *
  by_cases hb : b = 0
  · subst hb
    simp only [ne_eq, not_true_eq_false, if_false] at *
    cases xs with
    | nil => rfl
    | cons x r =>
      rw [kindL_cons] at *
      split at h1
      · simp at h1
      · next hc => rw [if_neg hc] at h2; simp at h2
  · simp [hb] at h2
theorem bodyK_err (xs : List (List UInt8)) (b : Nat) : (bodyK b xs).2.2 = 0 ∨ bodyK b xs = (0, 0, 21) := by
  unfold bodyK
  split
  · exact .inl rfl
  · cases xs with
    | nil => exact .inl rfl
    | cons x r =>
      rw [kindL_cons]
      split
      · exact .inr rfl
      · exact .inl rfl
theorem tell_res (status : Int) (m : List UInt8) (minor : Int) (sure : Bool) (b : Nat) (xs : List (List UInt8)) : tellK status m minor sure (bodyK b xs) = resK status m (askK minor sure (bodyK b xs)) := by
  unfold tellK resK askK
  have h1 := kindL_none xs b
  have h2 := bodyK_err xs b
  generalize bodyK b xs = p at *
  obtain ⟨k, l, e⟩ := p
  simp only at h1 h2
  by_cases hm : minor ≠ 0 ∧ minor ≠ 1
  · simp only [if_pos hm]
    split <;> simp
  · simp only [if_neg hm]
    by_cases hs : status < 100 ∨ 599 < status
    · simp only [if_pos hs]
    · simp only [if_neg hs]
      cases sure with
      | false => simp
      | true =>
        simp only [Bool.true_eq_false, if_false]
        by_cases hb : bodyF status m = false
        · rcases h2 with rfl | h2
          · simp [hb]
          · simp only [Prod.mk.injEq] at h2
            obtain ⟨rfl, rfl, rfl⟩ := h2
            simp [hb]
        · rcases h2 with rfl | h2
          · by_cases hk : k = 0
            · subst hk
              have := h1 rfl rfl
              simp only [Prod.mk.injEq, true_and, and_true] at this
              subst this
              simp [hb]
            · simp [hb, hk]
          · simp only [Prod.mk.injEq] at h2
            obtain ⟨rfl, rfl, rfl⟩ := h2
            simp [hb]
theorem rresponse_any {P : Nat → Prop} (status : Int) (m : ByteArray) (minor : Int) (w : World) (A : Option Addr) (ls : List Fld) (n c : Nat) (hn : ls.length = n) (h : SrcF w P A ls) (hm : Meek ls) :
    Calls Tryd.prog 11 #[.int .i64 status, .string m, .int .i64 minor, .slice A n c] w (Tells (resK status (bl m) (reqK minor ls)) w) := by
  have := rtell_any status m minor w A ls n c hn h hm
  rw [tell_res] at this
  rw [show reqK minor ls = askK minor _ _ from reqK_sure minor ls]
  exact this
end Go.Proofs.YtcpohdejdiljnaaDoor
