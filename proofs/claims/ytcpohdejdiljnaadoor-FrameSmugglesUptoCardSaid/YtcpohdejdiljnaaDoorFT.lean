/-
  What the reference's body, Request and Response answer.
  Conditions: those that each theorem names.
-/
import Derived.Test.YtcpohdejdiljnaaDoorFS
import Derived.Test.YtcpohdejdiljnaaDoorFG
namespace Go.Proofs.YtcpohdejdiljnaaDoor
open Go.RowKit

/-- The kind of a body whose lengths are sure. -/
def kindL : List (List UInt8) → Kd
  | [] => (0, 0, 0)
  | x :: _ => if (readF 10 x).2 ≠ 0 ∨ 4096 < (readF 10 x).1 then (0, 0, 21) else (1, (readF 10 x).1, 0)
def bodyK (b : Nat) (xs : List (List UInt8)) : Kd := if b ≠ 0 then (2, 0, 0) else kindL xs
theorem len_kind (xs : List (List UInt8)) : lenF xs = if xs.length = 0 then (0, 0, 22) else if sureL xs = false then (0, 0, 22) else kindL xs := by
  unfold lenF
  cases xs with
  | nil => rfl
  | cons x r =>
    by_cases h : sureL (x :: r) = false
    · rw [if_pos (.inr h), if_neg (by simp), if_pos h]
    · rw [if_neg (fun k => k.elim (fun k => by simp at k) h), if_neg (fun k : (x :: r).length = 0 => by simp at k), if_neg h]
      rw [sureL_is] at h
      have h5 : (readF 10 x).2 ≠ 5 := by
        intro h5
        rw [h5] at h
        simp at h
      show (if (rdF x).2.2 = 3 ∨ 4096 < (rdF x).1 then _ else _) = if (readF 10 x).2 ≠ 0 ∨ 4096 < (readF 10 x).1 then _ else _
      rcases readF_cases x with hx | hx | ⟨n, hn, hx⟩
      · rw [hx] at h5; simp at h5
      · simp [rdF, hx]
      · simp [rdF, hx, firstF]
theorem req_core (minor : Int) (a b : Nat) (xs cs : List (List UInt8)) (hx : a = 0 → xs = []) : (if a ≠ 0 ∧ b ≠ 0 then ((0, 0, 22) : Kd) else if b ≠ 0 then codF minor cs else if a ≠ 0 then lenF xs else (0, 0, 0)) = if sureK minor a b xs cs = false then (0, 0, 22) else bodyK b xs := by
  unfold sureK bodyK
  by_cases ha : a = 0
  · subst ha
    obtain rfl := hx rfl
    by_cases hb : b = 0
    · subst hb; simp [kindL]
    · simp only [ne_eq, not_true_eq_false, false_and, if_false, hb, not_false_eq_true, if_true]
      unfold codF
      by_cases h : cs.length = 1 ∧ minor = 1 ∧ cs.all isChk = true
      · rw [if_pos h, if_neg (by rw [decide_eq_true ⟨h.2.1, h.1, h.2.2⟩]; simp)]
      · rw [if_neg h, if_pos (decide_eq_false (fun k => h ⟨k.2.1, k.1, k.2.2⟩))]
  · by_cases hb : b = 0
    · subst hb
      simp only [ne_eq, ha, not_false_eq_true, not_true_eq_false, and_false, if_false, if_true, len_kind]
      by_cases hl : xs.length = 0 <;> simp [hl]
    · simp [ha, hb]
theorem reqK_sure (minor : Int) (ls : List Fld) : reqK minor ls = if minor ≠ 0 ∧ minor ≠ 1 then (0, 0, 1) else if sureK minor (getF ls lenN).length (getF ls codN).length (elsF (getF ls lenN)) (elsF (getF ls codN)) = false then (0, 0, 22) else bodyK (getF ls codN).length (elsF (getF ls lenN)) := by
  unfold reqK
  split
  · rfl
  · have e : ∀ l : List (List UInt8), (l ≠ []) = (l.length ≠ 0) := fun l => by simp
    simp only [e]
    exact req_core _ _ _ _ _ (fun h => by rw [List.eq_nil_of_length_eq_zero h]; rfl)

/-- The word of what a list of fields asks of the reference. -/
structure Meek (ls : List Fld) : Prop where
  fit : Fit ls
  thin : Thin ls
  tx : SlimS (elsF (getF ls lenN))
  tc : SlimS (elsF (getF ls codN))

set_option maxHeartbeats 4000000 in
set_option maxRecDepth 100000 in
theorem rbody_any {P : Nat → Prop} (w : World) (A : Option Addr) (ls : List Fld) (n c : Nat) (hn : ls.length = n) (h : SrcF w P A ls) (hm : Meek ls) :
    Calls Tryd.prog 26 #[.slice A n c] w (Tells (bodyK (getF ls codN).length (elsF (getF ls lenN))) w) := by
  have C1 := Lib.hid (elements_any w A ls n c hn (by have := hm.fit.few; omega) h hm.thin ⟨#[116, 114, 97, 110, 115, 102, 101, 114, 45, 101, 110, 99, 111, 100, 105, 110, 103]⟩ (by decide) hm.fit.cods)
  have C2 := Lib.hid (fun (X : World) (hX : Below w.heap.size w X) => elements_any X A ls n c hn (by have := hm.fit.few; omega) (h.below hX) hm.thin ⟨#[99, 111, 110, 116, 101, 110, 116, 45, 108, 101, 110, 103, 116, 104]⟩ (by decide) hm.fit.lens)
  rw [bl_cod] at C1
  rw [bl_len] at C2
  have TX := Lib.hid hm.tx
  clear hn h hm
  generalize (getF ls codN).length = b at *
  generalize elsF (getF ls lenN) = xs at *
  generalize elsF (getF ls codN) = cs at *
  go_enter Tryd.func26, Tryd.ntmps26
  go_wp2_with fail
  refine C1.out.mono ?_
  rintro e w1 ⟨v1, o1, rfl, own1, ho1, b1⟩
  have B1 := Lib.hid b1
  have C3 := Lib.hid (C2.out w1 b1)
  clear own1 ho1 b1 C1 C2
  by_cases hb : 0 < b
  · have e2 : decide ((0 : Int) < (b : Int)) = true := by simpa using hb
    have e2n : decide (0 < b) = true := by simpa using hb
    have HR := Lib.hid (show bodyK b xs = (2, 0, 0) from if_pos (by omega))
    clear hb C3
    go_wp2_with fail
    go_ret3
    exact ⟨tells3 (by rw [HR.out]; exact ⟨rfl, rfl, rfl⟩), B1.out⟩
  · have e2 : decide ((0 : Int) < (b : Int)) = false := by simpa using hb
    have e2n : decide (0 < b) = false := by simpa using hb
    have HR := Lib.hid (show bodyK b xs = kindL xs from if_neg (by omega))
    clear hb
    go_wp2_with fail
    refine C3.out.mono ?_
    rintro e w2 ⟨v2, o2, rfl, own2, ho2, b2⟩
    have B2 := Lib.hid (B1.out.trans (b2.mono B1.out.size))
    obtain ⟨A2, c2, hv2, src2⟩ := own2.src (fun _ => True) (fun _ _ => trivial)
    subst hv2
    have R2 := Lib.hid src2
    clear own2 ho2 b2 src2 C3
    by_cases hl : xs.length = 0
    · have e3 : ((xs.length : Int) == 0) = true := by simpa using hl
      have HQ := Lib.hid (show kindL xs = (0, 0, 0) by have : xs = [] := by simpa using hl
                                                       rw [this]; rfl)
      clear hl
      go_wp2_with fail
      go_ret3
      exact ⟨tells3 (by rw [HR.out, HQ.out]; exact ⟨rfl, rfl, rfl⟩), B2.out⟩
    · have e3 : ((xs.length : Int) == 0) = false := beq_eq_false_iff_ne.2 (by omega)
      obtain ⟨p0, x0, hg0, hat0, hc0, hb0⟩ := R2.out.first (c := c2) (by omega)
      obtain ⟨r, hr0⟩ := nth_zero xs x0 hg0
      have HQ := Lib.hid (show kindL xs = if (readF 10 x0).2 ≠ 0 ∨ 4096 < (readF 10 x0).1 then (0, 0, 21) else (1, (readF 10 x0).1, 0) by rw [hr0]; rfl)
      have CD := Lib.hid (fun X : World => rdecimal_any ⟨x0.toArray⟩ X (by rw [← bl_length, bl_mk]; have := TX.out x0 (List.mem_of_getElem? hg0); omega))
      rw [bl_mk] at CD
      clear hl hr0 hg0
      generalize readF 10 x0 = p at *
      obtain ⟨m, f⟩ := p
      unfold RRead at CD
      simp only at CD HQ
      by_cases hf : f = 0
      · have e4 : ((f : Int) != 0) = false := by subst hf; rfl
        by_cases hbig : 4096 < m
        · have e5 : decide ((4096 : Int) < (m : Int)) = true := by simp; omega
          have e5n : decide (4096 < m) = true := by simpa using hbig
          have HF := Lib.hid (HQ.out.trans (if_pos (.inr hbig)))
          clear hf hbig
          go_wp2_with fail
          refine (CD.out _).mono ?_
          rintro e w3 ⟨rfl, rfl⟩
          go_wp2_with fail
          go_ret3
          exact ⟨tells3 (by rw [HR.out, HF.out]; exact ⟨rfl, rfl, rfl⟩), by first | exact B2.out | exact below_drewN B2.out _⟩
        · have e5 : decide ((4096 : Int) < (m : Int)) = false := by simp; omega
          have e5n : decide (4096 < m) = false := by simpa using hbig
          have HF := Lib.hid (HQ.out.trans (if_neg (by omega)))
          clear hf hbig
          go_wp2_with fail
          refine (CD.out _).mono ?_
          rintro e w3 ⟨rfl, rfl⟩
          go_wp2_with fail
          go_ret3
          exact ⟨tells3 (by rw [HR.out, HF.out]; exact ⟨rfl, rfl, rfl⟩), by first | exact B2.out | exact below_drewN B2.out _⟩
      · have e4 : ((f : Int) != 0) = true := by simp; omega
        have HF := Lib.hid (HQ.out.trans (if_pos (.inl hf)))
        clear hf
        go_wp2_with fail
        refine (CD.out _).mono ?_
        rintro e w3 ⟨rfl, rfl⟩
        go_wp2_with fail
        go_ret3
        exact ⟨tells3 (by rw [HR.out, HF.out]; exact ⟨rfl, rfl, rfl⟩), by first | exact B2.out | exact below_drewN B2.out _⟩
end Go.Proofs.YtcpohdejdiljnaaDoor
