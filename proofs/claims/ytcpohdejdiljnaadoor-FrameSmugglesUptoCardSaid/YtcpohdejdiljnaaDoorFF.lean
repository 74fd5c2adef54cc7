/-
  Package frame's calls: what a request and what a response are.
  Conditions: those that each theorem names.
-/
import Derived.Test.YtcpohdejdiljnaaDoorFE
import Derived.Test.YtcpohdejdiljnaaDoorKF
namespace Go.Proofs.YtcpohdejdiljnaaDoor
open Go.RowKit

/-- The word of what a list of fields asks: places, sizes. -/
structure Fit (ls : List Fld) : Prop where
  few : ls.length ≤ 1000000000000
  slim : Slim ls
  lens : (elsF (getF ls lenN)).length ≤ 1000000000000
  cods : (elsF (getF ls codN)).length ≤ 1000000000000
theorem Slim.get {ls : List Fld} (h : Slim ls) (nm : List UInt8) : SlimS (getF ls nm) := by
  intro x hx
  unfold getF at hx
  obtain ⟨f, hf, rfl⟩ := List.mem_map.1 hx
  exact (h f (List.mem_filter.1 hf).1).2
theorem bl_len : bl ⟨#[99, 111, 110, 116, 101, 110, 116, 45, 108, 101, 110, 103, 116, 104]⟩ = lenN := rfl
theorem bl_cod : bl ⟨#[116, 114, 97, 110, 115, 102, 101, 114, 45, 101, 110, 99, 111, 100, 105, 110, 103]⟩ = codN := rfl
theorem reqK_is (minor : Int) (ls : List Fld) (hm : minor = 0 ∨ minor = 1) : reqK minor ls = if (getF ls lenN).length ≠ 0 ∧ (getF ls codN).length ≠ 0 then (0, 0, 22) else if (getF ls codN).length ≠ 0 then codF minor (elsF (getF ls codN)) else if (getF ls lenN).length ≠ 0 then lenF (elsF (getF ls lenN)) else (0, 0, 0) := by
  have e : ∀ l : List (List UInt8), (l ≠ []) = (l.length ≠ 0) := fun l => by simp
  unfold reqK
  rw [if_neg (by omega)]
  simp only [e]

set_option maxHeartbeats 4000000 in
set_option maxRecDepth 100000 in
theorem request_any {P : Nat → Prop} (minor : Int) (w : World) (A : Option Addr) (ls : List Fld) (n c : Nat) (hn : ls.length = n) (h : SrcF w P A ls) (hf : Fit ls) :
    Calls Tryd.prog 8 #[.int .i64 minor, .slice A n c] w (Tells (reqK minor ls) w) := by
  by_cases hm : minor = 0 ∨ minor = 1
  · have hmax : n * 32 ≤ 140737488355328 := by have := hf.few; omega
    have C1 := Lib.hid (get_any w A ls n c hn hmax h hf.slim ⟨#[99, 111, 110, 116, 101, 110, 116, 45, 108, 101, 110, 103, 116, 104]⟩)
    have C2 := Lib.hid (fun (X : World) (hX : Below w.heap.size w X) => get_any X A ls n c hn hmax (h.below hX) hf.slim ⟨#[116, 114, 97, 110, 115, 102, 101, 114, 45, 101, 110, 99, 111, 100, 105, 110, 103]⟩)
    rw [bl_len] at C1
    rw [bl_cod] at C2
    have HK := Lib.hid (reqK_is minor ls hm)
    have S1 := Lib.hid (hf.slim.get lenN)
    have S2 := Lib.hid (hf.slim.get codN)
    have L1 := Lib.hid hf.lens
    have L2 := Lib.hid hf.cods
    have N1 := Lib.hid (Nat.le_trans (getF_length ls lenN) hf.few)
    have N2 := Lib.hid (Nat.le_trans (getF_length ls codN) hf.few)
    clear h hf hn hmax
    generalize getF ls lenN = lv at *
    generalize getF ls codN = cv at *
    generalize reqK minor ls = R at *
    have hq : (minor != 0) = false ∨ ((minor != 0) = true ∧ (minor != 1) = false) := by
      rcases hm with rfl | rfl
      · exact .inl rfl
      · exact .inr ⟨rfl, rfl⟩
    clear hm
    rcases hq with q1 | ⟨q1, q2⟩
    all_goals
      go_enter Tryd.func8, Tryd.ntmps8
      go_wp2_with fail
      refine C1.out.mono ?_
      rintro e w1 ⟨v1, o1, rfl, own1, ho1, b1⟩
      have B1 := Lib.hid b1
      obtain ⟨A1, c1, hv1, src1⟩ := own1.src (fun _ => True) (fun _ _ => trivial)
      subst hv1
      have R1 := Lib.hid src1
      have C3 := Lib.hid (C2.out w1 b1)
      clear own1 ho1 b1 src1 C1 C2
      go_wp2_with fail
      refine C3.out.mono ?_
      rintro e w2 ⟨v2, o2, rfl, own2, ho2, b2⟩
      obtain ⟨A2, c2, hv2, src2⟩ := own2.src (fun _ => True) (fun _ _ => trivial)
      subst hv2
      have R2 := Lib.hid src2
      have R3 := Lib.hid (R1.out.kept (Turn.of_below (S := fun _ => False) b2) (fun _ _ h => h))
      have B2 := Lib.hid (B1.out.trans (b2.mono B1.out.size))
      clear own2 ho2 b2 src2 C3
      by_cases ha : (0 : Int) < (lv.length : Int)
      · have e1 : decide ((0 : Int) < (lv.length : Int)) = true := by simpa using ha
        have e1n : decide (0 < lv.length) = true := by simpa using ha
        have ha' : lv.length ≠ 0 := by omega
        by_cases hb : (0 : Int) < (cv.length : Int)
        · have e2 : decide ((0 : Int) < (cv.length : Int)) = true := by simpa using hb
          have e2n : decide (0 < cv.length) = true := by simpa using hb
          have HR := Lib.hid (HK.out.trans (if_pos ⟨ha', by omega⟩))
          clear HK ha ha' hb
          go_wp2_with fail
          go_ret3
          exact ⟨by first | (rw [HR.out]; done) | (rw [HR.out]; rfl), B2.out⟩
        · have e2 : decide ((0 : Int) < (cv.length : Int)) = false := by simpa using hb
          have e2n : decide (0 < cv.length) = false := by simpa using hb
          have hb' : ¬ cv.length ≠ 0 := by omega
          have HR := Lib.hid ((HK.out.trans (if_neg (fun h => hb' h.2))).trans ((if_neg hb').trans (if_pos ha')))
          have CF := Lib.hid (lengths_any w2 A1 lv lv.length c1 rfl R3.out S1.out N1.out L1.out)
          clear HK ha ha' hb hb'
          generalize lenF (elsF lv) = K at *
          unfold Tells kdV at *
          go_wp2_with fail
          refine CF.out.mono ?_
          rintro e w3 ⟨rfl, b3⟩
          go_wp2_with fail
          go_ret3
          exact ⟨by first | (rw [HR.out]; done) | (rw [HR.out]; rfl), B2.out.trans (b3.mono B2.out.size)⟩
      · have e1 : decide ((0 : Int) < (lv.length : Int)) = false := by simpa using ha
        have e1n : decide (0 < lv.length) = false := by simpa using ha
        have ha' : ¬ lv.length ≠ 0 := by omega
        by_cases hb : (0 : Int) < (cv.length : Int)
        · have e2 : decide ((0 : Int) < (cv.length : Int)) = true := by simpa using hb
          have e2n : decide (0 < cv.length) = true := by simpa using hb
          have HR := Lib.hid ((HK.out.trans (if_neg (fun h => ha' h.1))).trans (if_pos (by omega)))
          have CF := Lib.hid (codings_any minor w2 A2 cv cv.length c2 rfl R2.out S2.out N2.out L2.out)
          clear HK ha ha' hb
          generalize codF minor (elsF cv) = K at *
          unfold Tells kdV at *
          go_wp2_with fail
          refine CF.out.mono ?_
          rintro e w3 ⟨rfl, b3⟩
          go_wp2_with fail
          go_ret3
          exact ⟨by first | (rw [HR.out]; done) | (rw [HR.out]; rfl), B2.out.trans (b3.mono B2.out.size)⟩
        · have e2 : decide ((0 : Int) < (cv.length : Int)) = false := by simpa using hb
          have e2n : decide (0 < cv.length) = false := by simpa using hb
          have hb' : ¬ cv.length ≠ 0 := by omega
          have HR := Lib.hid ((HK.out.trans (if_neg (fun h => hb' h.2))).trans ((if_neg hb').trans (if_neg ha')))
          clear HK ha ha' hb hb'
          go_wp2_with fail
          go_ret3
          exact ⟨by first | (rw [HR.out]; done) | (rw [HR.out]; rfl), B2.out⟩
  · have e1 : (minor != 0) = true := by simp; omega
    have e2 : (minor != 1) = true := by simp; omega
    have HR : reqK minor ls = (0, 0, 1) := by unfold reqK; exact if_pos (by omega)
    rw [HR]
    clear h hf hn hm HR
    go_enter Tryd.func8, Tryd.ntmps8
    go_wp2_with fail
    go_ret3
    exact ⟨rfl, Below.refl _ _⟩
end Go.Proofs.YtcpohdejdiljnaaDoor
