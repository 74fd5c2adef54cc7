/-
  The law ChunkStays: walk.
  Conditions: what the arguments read as; the landed code's contracts.
-/
import Derived.Test.YtilgljnmdfejmaaDoorCG
namespace Go.Proofs.YtilgljnmdfejmaaDoor
open Go.RowKit

set_option maxHeartbeats 16000000 in
set_option maxRecDepth 100000 in
theorem stays8_law (HC : ChunkC) (w : World) (A : Option Addr) (bs : List UInt8) (n c : Nat) (hn : bs.length = n) (hnc : n ≤ c) (hmax : n ≤ 100000000) (h : Src w (fun _ => True) A bs) (A' : Option Addr) (tl : List UInt8) (n' c' : Nat) (hn' : tl.length = n') (hmax' : n' ≤ 100000000) (h' : Src w (fun _ => True) A' tl) (hz : ZeroTab w) :
    Calls Tryd.prog 6 #[.slice A n c, .slice A' n' c'] w fun e w' => e = .returned (.bool true) ∧ Below w.heap.size w w' := by
  subst hn hn'
  have C1 := Lib.hid (HC.take w A bs bs.length c rfl hnc (by omega) h)
  have CW := Lib.hid (fun (X : World) (hX : Below w.heap.size w X) => awake8_any HC X (hz.below hX))
  have H := Lib.hid h
  have H' := Lib.hid h'
  have hr := takeF_range bs
  have hst := take_stays bs tl
  have HCT := Lib.hid HC.take
  unfold TakeGot at C1
  generalize hT : takeF bs = R at *
  obtain ⟨rb, ru, re⟩ := R
  simp only at C1 hr hst
  clear h h' hz hT HC
  by_cases h8 : re = 8
  · have e1 : ((re : Int) == 8) = true := by subst h8; rfl
    have hz2 : ((ru : Int) == 0) = true ∧ ((rb.length : Int) == 0) = true := by
      rcases hr with ⟨h0, _⟩ | ⟨_, h1, h2⟩
      · omega
      · rw [h1, h2]; exact ⟨rfl, rfl⟩
    obtain ⟨z1, z2⟩ := hz2
    clear hr hst h8
    go_enter Tryd.func6, Tryd.ntmps6
    go_wp2_with fail
    refine C1.out.mono ?_
    rintro e w1 ⟨v1, o1, rfl, own1, f1, b1⟩
    obtain ⟨A1, c1, hv1, _, s1, g1⟩ := own1.block
    subst hv1
    have B1 := Lib.hid b1
    clear own1 f1 b1 s1 g1
    go_wp2_with fail
    refine (CW.out _ B1.out).mono ?_
    rintro e w2 ⟨rfl, b2⟩
    have B2 := Lib.hid (B1.out.trans (b2.mono B1.out.size))
    clear b2
    go_wp2_with fail
    go_ret
    exact ⟨rfl, B2.out⟩
  · have e1 : ((re : Int) == 8) = false := by simp; omega
    have hst2 := hst h8
    have e3 : ((re : Int) == (re : Int)) = true := by simp
    have e4 : ((ru : Int) == (ru : Int)) = true := by simp
    have e5 : decide ((rb.length : Int) ≤ 4096) = true := decide_eq_true (by
      rcases hr with ⟨_, h, _⟩ | ⟨_, h, _⟩
      · omega
      · rw [h]; simp)
    have e6 : decide ((ru : Int) ≤ (bs.length : Int)) = true := decide_eq_true (by
      rcases hr with ⟨_, _, _, h⟩ | ⟨_, _, h⟩
      · omega
      · omega)
    have e6n : decide (ru ≤ bs.length) = true := by simpa using e6
    have e7 : decide ((rb.length : Int) ≤ (ru : Int)) = true := decide_eq_true (by
      rcases hr with ⟨_, _, h, _⟩ | ⟨_, h, h'⟩
      · omega
      · rw [h, h']; simp)
    have e7n : decide (rb.length ≤ ru) = true := by simpa using e7
    have e8 : ((re : Int) == 0) = true ∨ (((re : Int) == 0) = false ∧ ((ru : Int) == 0) = true ∧ ((rb.length : Int) == 0) = true) := by
      rcases hr with ⟨h0, _⟩ | ⟨h0, h1, h2⟩
      · exact .inl (by subst h0; rfl)
      · refine .inr ⟨by simp; omega, ?_⟩
        rw [h1, h2]; exact ⟨rfl, rfl⟩
    clear hr hst h8
    go_enter Tryd.func6, Tryd.ntmps6
    go_wp2_with fail
    refine C1.out.mono ?_
    rintro e w1 ⟨v1, o1, rfl, own1, f1, b1⟩
    obtain ⟨A1, c1, hv1, _, s1, g1⟩ := own1.block
    subst hv1
    have B1 := Lib.hid b1
    have S1 := Lib.hid s1
    have b2 : Below w.heap.size w (w1.alloc (.cells #[] 5)) := b1.alloc b1.size _
    have hs2 : ∀ {A : Option Addr} {l : List UInt8}, Src w (fun _ => True) A l → ∀ {X : World}, Below w.heap.size w X → Src X (fun _ => True) A l := fun h _ hX => h.kept (Turn.of_below (S := fun _ => False) hX) (fun _ _ h => h)
    obtain ⟨v3, w3, o3, r3, own3, t3, f3⟩ := run_append_src (w1.alloc (.cells #[] 5)) _ _ [] bs (Own.built w1) A bs.length c rfl (hs2 H.out b2) (by simp; omega)
    rw [List.nil_append] at own3
    have b3 : Below w.heap.size w w3 := below_own b2 (fun b hb => by injection hb with hb; have := b1.size; omega) t3
    have f3' : ∀ b, o3 = some b → w.heap.size ≤ b := fun b hb => by
      have := b1.size
      rcases f3 with h | h
      · rw [h] at hb; injection hb with hb; omega
      · rw [h] at hb; injection hb with hb; simp at hb; omega
    obtain ⟨v4, w4, o4, r4, own4, t4, f4⟩ := run_append_src w3 v3 o3 bs tl own3 A' tl.length c' rfl (hs2 H'.out b3) (by omega)
    have b4 : Below w.heap.size w w4 := below_own b3 f3' t4
    have hlen : (bs ++ tl).length = bs.length + tl.length := List.length_append
    obtain ⟨A4, c4, hv4, hc4, s4, g4⟩ := own4.block
    subst hv4
    have K13 : Turn (fun b => w1.heap.size ≤ b) w1 w4 := by
      have u1 : Turn (fun b => w1.heap.size ≤ b) w1 (w1.alloc (.cells #[] 5)) := (Turn.refl _ _).alloc _
      have u2 : Turn (fun b => w1.heap.size ≤ b) w1 w3 := u1.trans t3 (fun k hk h => by injection h with h; omega)
      refine u2.trans t4 (fun k hk h => ?_)
      rcases f3 with h3 | h3
      · rw [h3] at h; injection h with h; omega
      · rw [h3] at h; injection h with h; simp at h; omega
    have S14 := Lib.hid (show Src w4 (fun _ => True) A1 rb from by
      have hq : Src w1 (fun b => ¬ w1.heap.size ≤ b) A1 rb := fun h0 => by
        obtain ⟨ad, x1, _, x3, x4⟩ := s1 h0
        exact ⟨ad, x1, by omega, x3, x4⟩
      exact (hq.kept K13 (fun k h => h)).mono (fun _ _ _ => trivial))
    have C2 := Lib.hid (HCT.out w4 A4 (bs ++ tl) _ c4 rfl hc4 (by omega) s4)
    rw [hst2] at C2
    unfold TakeGot at C2
    simp only at C2
    have R3 := Lib.hid r3
    have R4 := Lib.hid r4
    have B4 := Lib.hid b4
    clear own1 f1 b1 s1 g1 b2 hs2 own3 t3 f3 f3' b3 own4 t4 f4 b4 g4 s4 r3 r4 K13
    rw [hlen] at C2 hc4 R4
    go_wp2_with (first
      | (at_builtin; refine append_by rfl (.tmp 30) (.tmp 31) 22 rfl _ _ v3 w3 rfl rfl R3.out ?_)
      | (at_builtin; refine append_by rfl (.tmp 32) (.tmp 33) 22 rfl _ _ _ w4 rfl rfl R4.out ?_))
    refine C2.out.mono ?_
    rintro e w5 ⟨v5, o5, rfl, own5, f5, b5⟩
    obtain ⟨A5, c5, hv5, _, s5, g5⟩ := own5.block
    subst hv5
    have B5 := Lib.hid (B4.out.trans (b5.mono B4.out.size))
    have S15 := Lib.hid (S14.out.kept (Turn.of_below (S := fun _ => False) b5) (fun _ _ h => h))
    have S5 := Lib.hid s5
    clear own5 f5 b5 s5 g5
    go_wp2_with fail
    refine (CW.out _ B5.out).mono ?_
    rintro e w6 ⟨rfl, b6⟩
    have B6 := Lib.hid (B5.out.trans (b6.mono B5.out.size))
    have CE := Lib.hid (bequal_any w6 A1 A5 rb rb rb.length c1 rb.length c5 rfl rfl (S15.out.kept (Turn.of_below (S := fun _ => False) b6) (fun _ _ h => h)) (S5.out.kept (Turn.of_below (S := fun _ => False) b6) (fun _ _ h => h)))
    rw [show (rb == rb) = true by simp] at CE
    clear b6
    rcases e8 with e8 | ⟨e8, e9, e10⟩
    all_goals
      go_wp2_with fail
      refine CE.out.mono ?_
      rintro e w7 ⟨rfl, rfl⟩
      go_wp2_with fail
      go_ret
      exact ⟨rfl, B6.out⟩
end Go.Proofs.YtilgljnmdfejmaaDoor
