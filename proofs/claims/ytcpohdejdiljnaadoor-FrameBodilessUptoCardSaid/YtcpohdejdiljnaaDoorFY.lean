/-
  The law FrameBodiless: plain mathematics, walk.
  Conditions: what the arguments read as.
-/
import Derived.Test.YtcpohdejdiljnaaDoorFW
namespace Go.Proofs.YtcpohdejdiljnaaDoor
open Go.RowKit

def ErrOk (p : Kd) : Prop := p.2.2 = 0 ∨ p.2.2 = 1 ∨ p.2.2 = 21 ∨ p.2.2 = 22
theorem reqK_err (mi : Int) (ls : List Fld) : ErrOk (reqK mi ls) := by
  rw [reqK_sure]
  split
  · exact .inr (.inl rfl)
  · split
    · exact .inr (.inr (.inr rfl))
    · rcases bodyK_err (elsF (getF ls lenN)) (getF ls codN).length with h | h
      · exact .inl h
      · rw [h]; exact .inr (.inr (.inl rfl))
def wantF (st : Int) (f : Nat) : Nat := if st < 100 ∨ 599 < st then 1 else if f = 21 then 0 else f
theorem bodyF_head (st : Int) : bodyF st [72, 69, 65, 68] = false := if_pos (.inl rfl)
theorem res_head (st : Int) (p : Kd) (hp : ErrOk p) : resK st [72, 69, 65, 68] p = (0, 0, wantF st p.2.2) := by
  unfold resK wantF
  obtain ⟨k, l, e⟩ := p
  unfold ErrOk at hp
  simp only at *
  split
  · rfl
  · rcases hp with rfl | rfl | rfl | rfl
    · rw [if_neg (by omega), if_pos (bodyF_head st)]; rfl
    · rw [if_pos (.inl rfl)]; rfl
    · rw [if_neg (by omega), if_pos (bodyF_head st)]; rfl
    · rw [if_pos (.inr rfl)]; rfl
theorem res_sure (s : Int) (m : List UInt8) (p : Kd) (h1 : 100 ≤ s) (h2 : s ≤ 599) (hb : bodyF s m = false) : ∃ g, resK s m p = (0, 0, g) ∧ (g = 0 ∨ g = p.2.2) := by
  unfold resK
  rw [if_neg (by omega)]
  split
  · exact ⟨_, rfl, .inr rfl⟩
  · first | exact ⟨0, rfl, .inl rfl⟩ | (rw [if_pos hb]; exact ⟨0, rfl, .inl rfl⟩)
theorem res_none (s : Int) (m : List UInt8) (p : Kd) (hs : s = 100 ∨ s = 199 ∨ s = 204 ∨ s = 304) : ∃ g, resK s m p = (0, 0, g) ∧ (g = 0 ∨ g = p.2.2) :=
  res_sure s m p (by omega) (by omega) (if_pos (by omega))
theorem res_conn (p : Kd) : ∃ g, resK 299 [67, 79, 78, 78, 69, 67, 84] p = (0, 0, g) ∧ (g = 0 ∨ g = p.2.2) :=
  res_sure 299 _ p (by omega) (by omega) (by decide)

set_option maxHeartbeats 8000000 in
set_option maxRecDepth 100000 in
theorem bodiless_law {P : Nat → Prop} (st : Int) (m : ByteArray) (mi : Int) (w : World) (A : Option Addr) (ls : List Fld) (n c : Nat) (hn : ls.length = n) (h : SrcF w P A ls) (hb : bulkF ls ≤ 100000000) :
    Calls Tryd.prog 6 #[.agg #[.int .i64 st, .string m, .int .i64 mi, .slice A n c]] w fun e w' => e = .returned (.bool true) ∧ Below w.heap.size w w' := by
  subst hn
  have hm := Meek.small (ls := ls) (by omega)
  have bx0 := BoxAt.made w 24 st m mi (.slice A ls.length c)
  have b0 := ((Below.refl w.heap.size w).alloc (Nat.le_refl _) (.cells #[.int .i64 st, .string m, .int .i64 mi, .slice A ls.length c] 24))
  have D0 := Lib.hid b0
  have BX := Lib.hid bx0
  have hp := reqK_err mi ls
  have CR := Lib.hid (fun (s : Int) (t : ByteArray) (X : World) (hX : Below w.heap.size w X) => response_any s t mi X A ls ls.length c rfl (h.below hX) hm.fit)
  have CQ := Lib.hid (fun (X : World) (hX : Below w.heap.size w X) => request_any mi X A ls ls.length c rfl (h.below hX) hm.fit)
  generalize reqK mi ls = p at *
  have C1 := Lib.hid (CR.out st ⟨#[72, 69, 65, 68]⟩)
  rw [show bl ⟨#[72, 69, 65, 68]⟩ = [72, 69, 65, 68] from rfl, res_head st p hp] at C1
  obtain ⟨g3, hg3, hgf3⟩ := res_conn p
  have C3 := Lib.hid (CR.out 299 ⟨#[67, 79, 78, 78, 69, 67, 84]⟩)
  rw [show bl ⟨#[67, 79, 78, 78, 69, 67, 84]⟩ = [67, 79, 78, 78, 69, 67, 84] from rfl, hg3] at C3
  have C2 := Lib.hid (show ∀ s : Int, (s = 100 ∨ s = 199 ∨ s = 204 ∨ s = 304) → ∃ g : Nat, (g = 0 ∨ g = p.2.2) ∧ ∀ X, Below w.heap.size w X → Calls Tryd.prog 10 #[.int .i64 s, .string m, .int .i64 mi, .slice A ls.length c] X (Tells (0, 0, g) X) from fun s hs => by
    obtain ⟨g, hg, hgf⟩ := res_none s (bl m) p hs
    have := CR.out s m
    rw [hg] at this
    exact ⟨g, hgf, this⟩)
  obtain ⟨k, l, f⟩ := p
  simp only at hgf3 C1 C2
  unfold Tells kdV at C1 C2 C3 CQ
  simp only at C1 C2 C3 CQ
  have CW := Lib.hid (fun X : World => awake_any X)
  have hst : (decide (st < 100) = true ∧ wantF st f = 1) ∨ (decide (st < 100) = false ∧ decide (599 < st) = true ∧ wantF st f = 1) ∨ (decide (st < 100) = false ∧ decide (599 < st) = false ∧ wantF st f = if f = 21 then 0 else f) := by
    by_cases s1 : st < 100
    · exact .inl ⟨decide_eq_true s1, if_pos (.inl s1)⟩
    · by_cases s2 : 599 < st
      · exact .inr (.inl ⟨decide_eq_false s1, decide_eq_true s2, if_pos (.inr s2)⟩)
      · exact .inr (.inr ⟨decide_eq_false s1, decide_eq_false s2, if_neg (by omega)⟩)
  have hf : ((f : Int) == 21) = true ∧ (if f = 21 then 0 else f) = 0 ∨ ((f : Int) == 21) = false ∧ (if f = 21 then 0 else f) = f := by
    by_cases h : f = 21
    · exact .inl ⟨by subst h; rfl, if_pos h⟩
    · exact .inr ⟨by simp; omega, if_neg h⟩
  have hg3' : ((g3 : Int) == 0) = true ∨ (((g3 : Int) == 0) = false ∧ ((g3 : Int) == (f : Int)) = true) := by
    by_cases h : g3 = 0
    · exact .inl (by subst h; rfl)
    · exact .inr ⟨by simp; omega, by simp; omega⟩
  clear h hb hm bx0 b0 CR hp hg3 hgf3
  generalize (if f = 21 then 0 else f) = F at *
  generalize wantF st f = G at *
  obtain ⟨k0, k1, k2, k3⟩ := BX.out
  rcases hf with ⟨f1, hF⟩ | ⟨f1, hF⟩
  all_goals
    rcases hst with ⟨s1, hG⟩ | ⟨s1, s2, hG⟩ | ⟨s1, s2, hG⟩
    all_goals
      try have eG1 : ((G : Int) != 1) = false := by rw [hG]; rfl
      try have eG0 : ((G : Int) != 0) = false := by rw [hG, hF]; rfl
      try have eGf : ((G : Int) != (f : Int)) = false := by rw [hG, hF]; simp
      have ef : ((f : Int) != (f : Int)) = false := by simp
      clear hG hF
      go_enter Tryd.func6, Tryd.ntmps6
      go_wp2_with fail
      refine (C1.out _ D0.out).mono ?_
      rintro e w1 ⟨rfl, b1⟩
      have D1 := Lib.hid (D0.out.trans (b1.mono D0.out.size))
      obtain ⟨k0, k1, k2, k3⟩ := BX.out.below b1
      have BX1 := Lib.hid (BX.out.below b1)
      clear b1
      go_wp2_with fail
      refine (CQ.out _ D1.out).mono ?_
      rintro e w2 ⟨rfl, b2⟩
      have D2 := Lib.hid (D1.out.trans (b2.mono D1.out.size))
      obtain ⟨k0, k1, k2, k3⟩ := BX1.out.below b2
      have BX2 := Lib.hid (BX1.out.below b2)
      clear b2
      go_wp2_with fail
      have D3 := Lib.hid (D2.out.alloc D2.out.size (.cells #[.int .i64 100, .int .i64 199, .int .i64 204, .int .i64 304] 3))
      have BX3 := Lib.hid (BX2.out.below ((Below.refl _ _).alloc (Nat.le_refl _) (.cells #[.int .i64 100, .int .i64 199, .int .i64 204, .int .i64 304] 3)))
      have HI := Lib.hid (Is.made w2 3 [.int .i64 100, .int .i64 199, .int .i64 204, .int .i64 304])
      go_loopw [62, 11, 66, 12, 13, 14] (fun vi v1 v2 v3 v4 v5 wr => ∃ k : Nat, vi = .int .i64 (k : Int) ∧ k ≤ 4 ∧ Hid (Below (w2.alloc (.cells #[.int .i64 100, .int .i64 199, .int .i64 204, .int .i64 304] 3)).heap.size (w2.alloc (.cells #[.int .i64 100, .int .i64 199, .int .i64 204, .int .i64 304] 3)) wr)) (fun vi _ _ _ _ _ _ => 4 - (intOf vi).toNat)
      case atStart => exact ⟨0, rfl, Nat.zero_le _, Lib.hid (Below.refl _ _)⟩
      case round =>
        obtain ⟨k, rfl, hk, HB⟩ := hrel
        obtain ⟨k0, k1, k2, k3⟩ := BX3.out.below HB.out
        have BX4 := Lib.hid (BX3.out.below HB.out)
        have D4 := Lib.hid (D3.out.trans (HB.out.mono D3.out.size))
        by_cases hlt : k < 4
        · obtain ⟨s, hs, hc⟩ : ∃ s : Int, (s = 100 ∨ s = 199 ∨ s = 204 ∨ s = 304) ∧ wr.cell? ⟨w2.heap.size, 0 + k, none⟩ = some (.int .i64 s) := by
            have hi := (HI.out.kept (Turn.of_below (S := fun _ => False) HB.out) (fun h => h)).cell (0 + k)
            obtain rfl | rfl | rfl | rfl : k = 0 ∨ k = 1 ∨ k = 2 ∨ k = 3 := by omega
            · exact ⟨100, by omega, hi⟩
            · exact ⟨199, by omega, hi⟩
            · exact ⟨204, by omega, hi⟩
            · exact ⟨304, by omega, hi⟩
          have hat := run_at 46 3 Tryd.underlying46 (by kernel_rfl) ⟨w2.heap.size, 0, none⟩ 4 4 k hlt
          rw [add_at, Nat.zero_add] at hat
          rw [Nat.zero_add] at hc
          obtain ⟨g, hg, hC⟩ := C2.out s hs
          have CS := Lib.hid hC
          have hg' : ((g : Int) != 0) = false ∨ (((g : Int) != 0) = true ∧ ((g : Int) != (f : Int)) = false) := by
            by_cases h : g = 0
            · exact .inl (by subst h; rfl)
            · exact .inr ⟨by simp; omega, by simp; omega⟩
          clear hs hg hC
          rcases hg' with g1 | ⟨g1, g2⟩
          all_goals
            go_wp2_with fail
            refine (CS.out _ D4.out).mono ?_
            rintro e w5 ⟨rfl, b5⟩
            have B5 := Lib.hid (HB.out.trans (b5.mono HB.out.size))
            clear b5
            go_wp2_with fail
            go_roundw
            case rel => exact ⟨k + 1, by go_num, hlt, B5⟩
            case measure => simp [intOf]; omega
        · go_wp2_with fail
          refine (C3.out _ D4.out).mono ?_
          rintro e w5 ⟨rfl, b5⟩
          have D5 := Lib.hid (D4.out.trans (b5.mono D4.out.size))
          clear b5
          go_wp2_with fail
          refine (CW.out _).mono ?_
          rintro e w6 ⟨rfl, b6⟩
          have D6 := Lib.hid (D5.out.trans (b6.mono D5.out.size))
          clear b6
          rcases hg3' with z1 | ⟨z1, z2⟩
          all_goals
            go_wp2_with fail
            go_ret
            exact ⟨rfl, D6.out⟩
end Go.Proofs.YtcpohdejdiljnaaDoor
