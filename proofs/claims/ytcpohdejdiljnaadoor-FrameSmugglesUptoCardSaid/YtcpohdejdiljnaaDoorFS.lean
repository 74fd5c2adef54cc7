/-
  What the reference's Sure answers.
  Conditions: those that each theorem names.
-/
import Derived.Test.YtcpohdejdiljnaaDoorFR
namespace Go.Proofs.YtcpohdejdiljnaaDoor
open Go.RowKit

/-- Two lengths say the same. -/
def sameP (p q : Nat × Nat) (y x : List UInt8) : Bool := (q.2 == p.2 && q.1 == p.1) && (p.2 != 3 || y == x)
def sameR (x y : List UInt8) : Bool := sameP (readF 10 x) (readF 10 y) y x
theorem sameR_rd (x y : List UInt8) : sameR x y = (rdF y == rdF x) := by
  unfold sameR sameP rdF
  rcases readF_cases x with hx | hx | ⟨n, hn, hx⟩ <;> rcases readF_cases y with hy | hy | ⟨m, hm, hy⟩ <;> rw [hx, hy, Bool.eq_iff_iff] <;> simp
  all_goals first | done | (constructor <;> (intro h; exact h.symm)) | (constructor <;> (intro h; omega))
theorem sameR_self (x : List UInt8) : sameR x x = true := by rw [sameR_rd]; simp
theorem rd_form (x : List UInt8) : (rdF x).2.2 = (readF 10 x).2 := by
  unfold rdF
  split
  · next h => exact h.symm
  · rfl
theorem sureL_is (x : List UInt8) (r : List (List UInt8)) : sureL (x :: r) = ((readF 10 x).2 != 5 && (x :: r).all (sameR x)) := by
  have e : ∀ y, okL (rdF x) y = (sameR x y && (rdF x).2.2 != 5) := fun y => by
    unfold okL
    rw [sameR_rd]
    cases h : (rdF y == rdF x)
    · simp
    · rw [eq_of_beq h]
  show (x :: r).all (okL (rdF x)) = _
  rw [← rd_form]
  cases h : ((rdF x).2.2 != 5)
  · simp only [List.all_cons, e, h]
    simp
  · rw [Bool.true_and]
    congr 1
    funext y
    rw [e, h, Bool.and_true]
/-- Are the lengths sure? -/
def sureK (minor : Int) (a b : Nat) (xs cs : List (List UInt8)) : Bool :=
  if a ≠ 0 ∧ b ≠ 0 then false
  else if b ≠ 0 then decide (minor = 1 ∧ cs.length = 1 ∧ cs.all isChk = true)
  else if a = 0 then true
  else if xs.length = 0 then false
  else sureL xs
theorem nth_zero (xs : List (List UInt8)) (x : List UInt8) (h : xs[0]? = some x) : ∃ r, xs = x :: r := by
  cases xs with
  | nil => simp at h
  | cons y r => simp at h; exact ⟨r, by rw [h]⟩

theorem all_no {p : List UInt8 → Bool} {l : List (List UInt8)} {k : Nat} {x : List UInt8} (h : l[k]? = some x) (hp : p x = false) : l.all p = false := by
  rw [← Bool.not_eq_true, List.all_eq_true]
  intro hall
  rw [hall x (List.mem_of_getElem? h)] at hp
  cases hp
theorem ret_is {a b : Bool} (h : b = a) : Ending.returned (.bool a) = Ending.returned (.bool b) := by rw [h]
theorem SrcS.first {P : Nat → Prop} {w : World} {A : Option Addr} {ls : List (List UInt8)} {c : Nat} (h : SrcS w P A ls) (hlt : 0 < ls.length) :
    ∃ (p : Addr) (x : List UInt8), ls[0]? = some x ∧ (∀ Wx, (Instr.indexAt 37 (.slice A ls.length c) (.int .i64 0)).run Tryd.prog Wx = .ok (.pointer (some p)) Wx) ∧ w.cell? p = some (.string ⟨x.toArray⟩) ∧ p.block < w.heap.size := by
  obtain ⟨p, x, h1, h2, h3, _, h5⟩ := h.at (c := c) rfl hlt (Below.refl _ _)
  exact ⟨p, x, h1, h2, h3, h5⟩

set_option maxHeartbeats 8000000 in
set_option maxRecDepth 100000 in
theorem sure_any {P : Nat → Prop} (minor : Int) (w : World) (A : Option Addr) (ls : List Fld) (n c : Nat) (hn : ls.length = n) (hmax : n ≤ 1000000000000) (h : SrcF w P A ls) (hs : Thin ls)
    (hx : (elsF (getF ls lenN)).length ≤ 1000000000000) (hc : (elsF (getF ls codN)).length ≤ 1000000000000) (tx : SlimS (elsF (getF ls lenN))) (tc : SlimS (elsF (getF ls codN))) :
    Calls Tryd.prog 25 #[.int .i64 minor, .slice A n c] w fun e w' =>
      e = .returned (.bool (sureK minor (getF ls lenN).length (getF ls codN).length (elsF (getF ls lenN)) (elsF (getF ls codN)))) ∧ Below w.heap.size w w' := by
  have C1 := Lib.hid (elements_any w A ls n c hn hmax h hs ⟨#[99, 111, 110, 116, 101, 110, 116, 45, 108, 101, 110, 103, 116, 104]⟩ (by decide) hx)
  have C2 := Lib.hid (fun (X : World) (hX : Below w.heap.size w X) => elements_any X A ls n c hn hmax (h.below hX) hs ⟨#[116, 114, 97, 110, 115, 102, 101, 114, 45, 101, 110, 99, 111, 100, 105, 110, 103]⟩ (by decide) hc)
  rw [show bl ⟨#[99, 111, 110, 116, 101, 110, 116, 45, 108, 101, 110, 103, 116, 104]⟩ = lenN from rfl] at C1
  rw [show bl ⟨#[116, 114, 97, 110, 115, 102, 101, 114, 45, 101, 110, 99, 111, 100, 105, 110, 103]⟩ = codN from rfl] at C2
  have TX := Lib.hid tx
  have TC := Lib.hid tc
  clear hn h hs tx tc hmax
  generalize (getF ls lenN).length = a at *
  generalize (getF ls codN).length = b at *
  generalize elsF (getF ls lenN) = xs at *
  generalize elsF (getF ls codN) = cs at *
  have HK := Lib.hid (show sureK minor a b xs cs = if a ≠ 0 ∧ b ≠ 0 then false else if b ≠ 0 then decide (minor = 1 ∧ cs.length = 1 ∧ cs.all isChk = true) else if a = 0 then true else if xs.length = 0 then false else sureL xs from rfl)
  generalize sureK minor a b xs cs = R at *
  go_enter Tryd.func25, Tryd.ntmps25
  go_wp2_with fail
  refine C1.out.mono ?_
  rintro e w1 ⟨v1, o1, rfl, own1, ho1, b1⟩
  have B1 := Lib.hid b1
  obtain ⟨A1, c1, hv1, src1⟩ := own1.src (fun _ => True) (fun _ _ => trivial)
  subst hv1
  have R1 := Lib.hid src1
  have C3 := Lib.hid (C2.out w1 b1)
  clear own1 ho1 b1 src1 C1 C2
  go_wp2_with fail
  refine C3.out.mono ?_
  rintro e w2 ⟨v2, o2, rfl, own2, ho2, b2⟩
  obtain ⟨A2, c2, hv2, src2⟩ := own2.src (fun _ => True) (fun _ _ => trivial)
  subst hv2
  have R2 := Lib.hid src2
  have R3 := Lib.hid (R1.out.kept (Turn.of_below (S := fun _ => False) b2) (fun _ _ h => h))
  have B2 := Lib.hid (B1.out.trans (b2.mono B1.out.size))
  clear own2 ho2 b2 src2 C3 R1 B1
  by_cases hb : 0 < b
  · have e2 : decide ((0 : Int) < (b : Int)) = true := by simpa using hb
    have e2n : decide (0 < b) = true := by simpa using hb
    by_cases ha : 0 < a
    · have e1 : decide ((0 : Int) < (a : Int)) = true := by simpa using ha
      have e1n : decide (0 < a) = true := by simpa using ha
      have HR := Lib.hid (HK.out.trans (if_pos ⟨by omega, by omega⟩))
      clear HK ha hb
      go_wp2_with fail
      go_ret
      exact ⟨ret_is HR.out, B2.out⟩
    · have e1 : decide ((0 : Int) < (a : Int)) = false := by simpa using ha
      have e1n : decide (0 < a) = false := by simpa using ha
      have HR := Lib.hid ((HK.out.trans (if_neg (fun h => ha (by omega)))).trans (if_pos (by omega)))
      clear HK ha hb
      cases q1 : (minor == 1) with
      | false =>
        have HF := Lib.hid (HR.out.trans (decide_eq_false (fun h => by rw [h.1] at q1; cases q1)))
        go_wp2_with fail
        go_ret
        exact ⟨ret_is HF.out, B2.out⟩
      | true =>
        cases q2 : ((cs.length : Int) == 1) with
        | false =>
          have HF := Lib.hid (HR.out.trans (decide_eq_false (fun h => by rw [h.2.1] at q2; cases q2)))
          go_wp2_with fail
          go_ret
          exact ⟨ret_is HF.out, B2.out⟩
        | true =>
          have hl : cs.length = 1 := by have := eq_of_beq q2; omega
          obtain ⟨p0, x0, hx0, hat0, hc0, _⟩ := R2.out.first (c := c2) (by omega)
          obtain ⟨r0, hr0⟩ := nth_zero cs x0 hx0
          have hr1 : r0 = [] := by rw [hr0] at hl; simpa using hl
          have CS := Lib.hid (same_any ⟨x0.toArray⟩ ⟨#[99, 104, 117, 110, 107, 101, 100]⟩ w2 (by rw [← bl_length, bl_mk]; exact TC.out x0 (List.mem_of_getElem? hx0)) (by decide))
          rw [bl_mk] at CS
          have HF := Lib.hid (HR.out.trans (show decide (minor = 1 ∧ cs.length = 1 ∧ cs.all isChk = true) = (lowF x0 == lowF (bl ⟨#[99, 104, 117, 110, 107, 101, 100]⟩)) by
            rw [hr0, hr1, Bool.eq_iff_iff]
            simp only [decide_eq_true_eq, eq_of_beq q1, List.length_singleton, List.all_cons, List.all_nil, Bool.and_true, true_and]
            rfl))
          generalize (lowF x0 == lowF (bl ⟨#[99, 104, 117, 110, 107, 101, 100]⟩)) = q at *
          clear hx0 hr0 hr1 HR hl
          obtain ⟨xl, hxl⟩ : ∃ xl : ByteArray, xl = ⟨x0.toArray⟩ := ⟨_, rfl⟩
          rw [← hxl] at hc0 CS
          clear hxl
          go_wp2_with fail
          refine CS.out.mono ?_
          rintro e w3 ⟨rfl, b3⟩
          go_wp2_with fail
          go_ret
          exact ⟨ret_is HF.out, B2.out.trans (b3.mono B2.out.size)⟩
  · have e2 : decide ((0 : Int) < (b : Int)) = false := by simpa using hb
    have e2n : decide (0 < b) = false := by simpa using hb
    have HR := Lib.hid ((HK.out.trans (if_neg (fun h => hb (by omega)))).trans (if_neg (fun h => hb (by omega))))
    by_cases ha : a = 0
    · have e1 : decide ((0 : Int) < (a : Int)) = false := by simp; omega
      have e1n : decide (0 < a) = false := by simp; omega
      have e3 : ((a : Int) == 0) = true := by simpa using ha
      have HF := Lib.hid (HR.out.trans (if_pos ha))
      clear HK HR ha hb
      go_wp2_with fail
      go_ret
      exact ⟨ret_is HF.out, B2.out⟩
    have e1 : decide ((0 : Int) < (a : Int)) = true := by simp; omega
    have e1n : decide (0 < a) = true := by simp; omega
    have e3 : ((a : Int) == 0) = false := by simpa using ha
    by_cases hx0 : xs.length = 0
    · have e4 : ((xs.length : Int) == 0) = true := by simpa using hx0
      have HF := Lib.hid ((HR.out.trans (if_neg ha)).trans (if_pos hx0))
      clear HK HR ha hb hx0
      go_wp2_with fail
      go_ret
      exact ⟨ret_is HF.out, B2.out⟩
    have e4 : ((xs.length : Int) == 0) = false := by simpa using hx0
    have HF := Lib.hid ((HR.out.trans (if_neg ha)).trans (if_neg hx0))
    obtain ⟨p0, x0, hg0, hat0, hc0, hp0⟩ := R3.out.first (c := c1) (by omega)
    obtain ⟨r0, hr0⟩ := nth_zero xs x0 hg0
    have HU := Lib.hid (show R = ((readF 10 x0).2 != 5 && xs.all (sameR x0)) by rw [HF.out, hr0]; exact sureL_is x0 r0)
    have CD := Lib.hid (fun X : World => rdecimal_any ⟨x0.toArray⟩ X (by rw [← bl_length, bl_mk]; have := TX.out x0 (List.mem_of_getElem? hg0); omega))
    rw [bl_mk] at CD
    have HSA := Lib.hid (show ∀ y, sameR x0 y = sameP (readF 10 x0) (readF 10 y) y x0 from fun _ => rfl)
    have HSS := Lib.hid (show (xs.take 1).all (sameR x0) = true by rw [hr0]; simp [sameR_self])
    clear HK HR HF ha hb hg0 hr0
    generalize readF 10 x0 = p at *
    obtain ⟨n0, e0⟩ := p
    unfold RRead at CD
    simp only at CD HU
    obtain ⟨xl, hxl⟩ : ∃ xl : ByteArray, xl = ⟨x0.toArray⟩ := ⟨_, rfl⟩
    have HX := Lib.hid hxl
    rw [← hxl] at hc0 CD
    clear hxl
    cases q5 : ((e0 : Int) == 5) with
    | true =>
      have HF := Lib.hid (show R = false by rw [HU.out, show (e0 != 5) = false by have := eq_of_beq q5; simp; omega]; rfl)
      go_wp2_with fail
      refine (CD.out _).mono ?_
      rintro e w3 ⟨rfl, rfl⟩
      go_wp2_with fail
      go_ret
      exact ⟨ret_is HF.out, B2.out⟩
    | false =>
      have HV := Lib.hid (show R = xs.all (sameR x0) by rw [HU.out, show (e0 != 5) = true by have := ne_of_beq_false q5; simp; omega]; rfl)
      go_wp2_with fail
      refine (CD.out _).mono ?_
      rintro e w3 ⟨rfl, rfl⟩
      go_wp2_with fail
      go_loopw [11] (fun vi wr => ∃ (k : Nat), vi = .int .i64 (k : Int) ∧ 1 ≤ k ∧ k ≤ xs.length ∧ Hid ((xs.take k).all (sameR x0) = true) ∧ Hid (Below w2.heap.size w2 wr)) (fun vi _ => xs.length - (intOf vi).toNat)
      case atStart => exact ⟨1, rfl, Nat.le_refl _, by omega, HSS, Lib.hid (Below.refl _ _)⟩
      case round =>
        obtain ⟨k, rfl, hk1, hk, HA, HB⟩ := hrel
        by_cases hlt : k < xs.length
        · obtain ⟨p1, xk, hgk, hat1, hc1, _, _⟩ := R3.out.at (c := c1) rfl hlt HB.out
          have hc2 := (HB.out.cell (Lib.lt_of_cell hc0)).trans hc0
          have CK := Lib.hid (fun X : World => rdecimal_any ⟨xk.toArray⟩ X (by rw [← bl_length, bl_mk]; have := TX.out xk (List.mem_of_getElem? hgk); omega))
          rw [bl_mk] at CK
          have HN := Lib.hid (show sameR x0 xk = false → R = false from fun h => HV.out.trans (all_no hgk h))
          have HY := Lib.hid (show sameR x0 xk = true → (xs.take (k + 1)).all (sameR x0) = true from fun h => by rw [take_snoc xs k xk hgk, List.all_append, HA.out]; simp [h])
          rw [HSA.out xk] at HN HY
          clear hgk
          generalize readF 10 xk = pk at *
          obtain ⟨nk, ek⟩ := pk
          unfold RRead at CK
          unfold sameP at HN HY
          simp only at CK HN HY
          obtain ⟨yl, hyl⟩ : ∃ yl : ByteArray, yl = ⟨xk.toArray⟩ := ⟨_, rfl⟩
          have HT := Lib.hid (show (yl.toList == xl.toList) = (xk == x0) by rw [hyl, HX.out, Lib.toList_data, Lib.toList_data])
          rw [← hyl] at hc1 CK
          clear hyl
          cases s1 : ((ek : Int) != (e0 : Int)) with
          | true =>
            have HF := Lib.hid (HN.out (by rw [show (ek == e0) = false by have := bne_iff_ne.1 s1; simp; omega]; rfl))
            go_wp2_with fail
            refine (CK.out _).mono ?_
            rintro e w3 ⟨rfl, rfl⟩
            go_wp2_with fail
            go_ret
            exact ⟨ret_is HF.out, B2.out.trans (HB.out.mono B2.out.size)⟩
          | false =>
            have t1 : (ek == e0) = true := by have := bne_eq_false_iff_eq.1 s1; simp; omega
            cases s2 : ((nk : Int) != (n0 : Int)) with
            | true =>
              have HF := Lib.hid (HN.out (by rw [show (nk == n0) = false by have := bne_iff_ne.1 s2; simp; omega, Bool.and_false]; rfl))
              clear t1
              go_wp2_with fail
              refine (CK.out _).mono ?_
              rintro e w3 ⟨rfl, rfl⟩
              go_wp2_with fail
              go_ret
              exact ⟨ret_is HF.out, B2.out.trans (HB.out.mono B2.out.size)⟩
            | false =>
              have t2 : (nk == n0) = true := by have := bne_eq_false_iff_eq.1 s2; simp; omega
              cases s3 : ((e0 : Int) == 3) with
              | false =>
                have HZ := Lib.hid (HY.out (by rw [t1, t2, show (e0 != 3) = true by have := ne_of_beq_false s3; simp; omega]; rfl))
                clear t1 t2
                go_wp2_with fail
                refine (CK.out _).mono ?_
                rintro e w3 ⟨rfl, rfl⟩
                go_wp2_with fail
                go_quiet (fail)
                go_wp2_with fail
                go_roundw
                case rel => exact ⟨k + 1, by go_num, by omega, hlt, HZ, Lib.hid (below_drewN HB.out _)⟩
                case measure => simp [intOf]; omega
              | true =>
                have t3 : (e0 != 3) = false := by have := eq_of_beq s3; simp; omega
                cases s4 : (yl.toList == xl.toList) with
                | true =>
                  have HZ := Lib.hid (HY.out (by rw [t1, t2, ← HT.out, s4, Bool.or_true]; rfl))
                  clear t1 t2 t3
                  go_wp2_with fail
                  refine (CK.out _).mono ?_
                  rintro e w3 ⟨rfl, rfl⟩
                  go_wp2_with fail
                  go_quiet (fail)
                  go_wp2_with fail
                  go_roundw
                  case rel => exact ⟨k + 1, by go_num, by omega, hlt, HZ, Lib.hid (below_drewN HB.out _)⟩
                  case measure => simp [intOf]; omega
                | false =>
                  have HF := Lib.hid (HN.out (by rw [t1, t2, t3, ← HT.out, s4]; rfl))
                  clear t1 t2 t3
                  go_wp2_with fail
                  refine (CK.out _).mono ?_
                  rintro e w3 ⟨rfl, rfl⟩
                  go_wp2_with fail
                  go_quiet (fail)
                  go_wp2_with fail
                  go_ret
                  exact ⟨ret_is HF.out, below_drewN (B2.out.trans (HB.out.mono B2.out.size)) _⟩
        · have HF := Lib.hid (show R = true by
            have := HA.out
            rw [List.take_of_length_le (by omega)] at this
            rw [HV.out, this])
          go_wp2_with fail
          go_ret
          exact ⟨ret_is HF.out, B2.out.trans (HB.out.mono B2.out.size)⟩
end Go.Proofs.YtcpohdejdiljnaaDoor
