/-
  The laws DateBack, DateKnown: walks.
  Conditions: the tables and the variable that are read hold what their texts lay.
-/
import Derived.Test.YtcnfobjmddncgaaDoorDX
namespace Go.Proofs.YtcnfobjmddncgaaDoor
open Go.RowKit

theorem parse_cases (s : ByteArray) : (∃ m, m ≤ LastN ∧ parseF s = (m, 0) ∧ textF m = (bl s, 0)) ∨ parseF s = (0, 5) := by
  unfold parseF
  split
  · rename_i h
    exact .inl ⟨_, h.2.1, rfl, by rw [← h.2.2]; exact if_pos h.2.1⟩
  · exact .inr rfl
/-- A call's two answers, known. -/
def Two (a b : Value) (w : World) (e : Ending) (w' : World) : Prop := e = .returned (.tuple #[a, b]) ∧ Below w.heap.size w w'

set_option maxHeartbeats 8000000 in
theorem back_law (n : Nat) (hn64 : n < 18446744073709551616) (s : ByteArray) (w : World) (ht : DTabs w) : Calls Tryd.prog 5 #[.int .u64 (n : Int), .string s] w fun e w' => e = .returned (.bool true) ∧ Below w.heap.size w w' := by
  have HT := Lib.hid ht
  clear ht
  have CK := Lib.hid wakes_any
  have part : ∀ (X : World), DTabs X → (∃ m : Nat, m ≤ LastN ∧ Calls Tryd.prog 11 #[.string s] X (Two (.int .u64 (m : Int)) (.int .i64 0) X) ∧ ∀ Y, DTabs Y → Calls Tryd.prog 8 #[.int .u64 (m : Int)] Y (Two (.string s) (.int .i64 0) Y)) ∨
      Calls Tryd.prog 11 #[.string s] X (Two (.int .u64 0) (.int .i64 5) X) := fun X hX => by
    rcases parse_cases s with ⟨m, h1, h2, h3⟩ | h
    · refine .inl ⟨m, h1, parse_at s _ _ (by rw [h2]; exact ⟨rfl, rfl⟩) X hX, fun Y hY => text_at _ m rfl s 0 (by rw [h3]; exact ⟨mk_bl s, rfl⟩) Y hY⟩
    · exact .inr (parse_at s _ _ (by rw [h]; exact ⟨rfl, rfl⟩) X hX)
  have PART := Lib.hid part
  clear part
  by_cases hn : n ≤ LastN
  · have i0 : (n : Int) ≤ 253402300799 := by unfold LastN at hn; omega
    obtain ⟨t, hT⟩ : ∃ t : ByteArray, t = ⟨(momF n).toArray⟩ := ⟨_, rfl⟩
    have hts : t.size = 29 := by rw [← bl_length, hT, bl_mk, momF_len]
    have C1 := Lib.hid (fun (X : World) h => text_at _ n rfl t 0 (by rw [show textF n = (momF n, 0) from if_pos hn, hT]; exact ⟨rfl, rfl⟩) X h)
    have C2 := Lib.hid (fun (X : World) h => parse_at t n 0 (by rw [parse_mom t n hn (by rw [hT, bl_mk])]; exact ⟨rfl, rfl⟩) X h)
    clear hT hn
    go_enter Tryd.func5, Tryd.ntmps5
    go_wp2_with fail
    refine (C1.out _ HT.out).mono ?_
    rintro e w1 ⟨rfl, b1⟩
    have B1 := Lib.hid b1
    clear b1
    go_wp2_with fail
    refine (C2.out _ (HT.out.below B1.out)).mono ?_
    rintro e w2 ⟨rfl, b2⟩
    have B2 := Lib.hid (B1.out.trans (b2.mono B1.out.size))
    clear b2 B1
    go_wp2_with fail
    rcases PART.out w2 (HT.out.below B2.out) with ⟨m, hm, CP, CT⟩ | CP
    · have CT := Lib.hid CT
      have HM := Lib.hid hm
      clear hm
      refine CP.mono ?_
      rintro e w3 ⟨rfl, b3⟩
      have B3 := Lib.hid (B2.out.trans (b3.mono B2.out.size))
      clear b3 B2 CP
      go_wp2_with fail
      refine (CT.out _ (HT.out.below B3.out)).mono ?_
      rintro e w4 ⟨rfl, b4⟩
      have B4 := Lib.hid (B3.out.trans (b4.mono B3.out.size))
      clear b4 B3
      go_wp2_with fail
      refine (CK.out _ (HT.out.below B4.out)).mono ?_
      rintro e w5 ⟨rfl, b5⟩
      have B5 := Lib.hid (B4.out.trans (b5.mono B4.out.size))
      clear b5 B4
      go_wp2_with fail
      go_ret
      exact ⟨rfl, B5.out⟩
    · refine CP.mono ?_
      rintro e w3 ⟨rfl, b3⟩
      have B3 := Lib.hid (B2.out.trans (b3.mono B2.out.size))
      clear b3 B2 CP
      go_wp2_with fail
      refine (CK.out _ (HT.out.below B3.out)).mono ?_
      rintro e w5 ⟨rfl, b5⟩
      have B5 := Lib.hid (B3.out.trans (b5.mono B3.out.size))
      clear b5 B3
      go_wp2_with fail
      go_ret
      exact ⟨rfl, B5.out⟩
  · have i0 : ¬ (n : Int) ≤ 253402300799 := by unfold LastN at hn; omega
    have C1 := Lib.hid (fun (X : World) h => text_at _ n rfl ⟨#[]⟩ 3 (by rw [show textF n = ([], 3) from if_neg hn]; exact ⟨rfl, rfl⟩) X h)
    clear hn
    go_enter Tryd.func5, Tryd.ntmps5
    go_wp2_with fail
    refine (C1.out _ HT.out).mono ?_
    rintro e w2 ⟨rfl, b2⟩
    have B2 := Lib.hid b2
    clear b2
    go_wp2_with fail
    rcases PART.out w2 (HT.out.below B2.out) with ⟨m, hm, CP, CT⟩ | CP
    · have CT := Lib.hid CT
      have HM := Lib.hid hm
      clear hm
      refine CP.mono ?_
      rintro e w3 ⟨rfl, b3⟩
      have B3 := Lib.hid (B2.out.trans (b3.mono B2.out.size))
      clear b3 B2 CP
      go_wp2_with fail
      refine (CT.out _ (HT.out.below B3.out)).mono ?_
      rintro e w4 ⟨rfl, b4⟩
      have B4 := Lib.hid (B3.out.trans (b4.mono B3.out.size))
      clear b4 B3
      go_wp2_with fail
      refine (CK.out _ (HT.out.below B4.out)).mono ?_
      rintro e w5 ⟨rfl, b5⟩
      have B5 := Lib.hid (B4.out.trans (b5.mono B4.out.size))
      clear b5 B4
      go_wp2_with fail
      go_ret
      exact ⟨rfl, B5.out⟩
    · refine CP.mono ?_
      rintro e w3 ⟨rfl, b3⟩
      have B3 := Lib.hid (B2.out.trans (b3.mono B2.out.size))
      clear b3 B2 CP
      go_wp2_with fail
      refine (CK.out _ (HT.out.below B3.out)).mono ?_
      rintro e w5 ⟨rfl, b5⟩
      have B5 := Lib.hid (B3.out.trans (b5.mono B3.out.size))
      clear b5 B3
      go_wp2_with fail
      go_ret
      exact ⟨rfl, B5.out⟩
end Go.Proofs.YtcnfobjmddncgaaDoor
