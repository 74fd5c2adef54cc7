/-
  What the document's own text functions do (the reference): Trim.
  Conditions: those that each theorem names.
-/
import Derived.Test.YtdcbcjljmjnopaaGreatDoorRB
namespace Go.Proofs.YtdcbcjljmjnopaaGreatDoor
open Go.RowKit

def blankB (c : UInt8) : Bool := c == 32 || c == 9
def ltrim (l : List UInt8) : List UInt8 := l.dropWhile blankB
def rtrim (l : List UInt8) : List UInt8 := (l.reverse.dropWhile blankB).reverse
def trimF (l : List UInt8) : List UInt8 := rtrim (ltrim l)
theorem blankB_nat (c : UInt8) : blankB c = (((c.toNat : Int) == 32) || ((c.toNat : Int) == 9)) := by
  unfold blankB
  rw [Bool.eq_iff_iff]
  simp [← UInt8.toNat_inj]
  omega
theorem ltrim_yes (c : UInt8) (l : List UInt8) (h : blankB c = true) : ltrim (c :: l) = ltrim l := by simp [ltrim, h]
theorem ltrim_no (c : UInt8) (l : List UInt8) (h : blankB c = false) : ltrim (c :: l) = c :: l := by simp [ltrim, h]
theorem rtrim_yes (c : UInt8) (l : List UInt8) (h : blankB c = true) : rtrim (l ++ [c]) = rtrim l := by simp [rtrim, h]
theorem rtrim_no (c : UInt8) (l : List UInt8) (h : blankB c = false) : rtrim (l ++ [c]) = l ++ [c] := by simp [rtrim, h]

set_option maxHeartbeats 1000000 in
set_option maxRecDepth 100000 in
theorem trim_any (s : ByteArray) (w : World) (hs : s.size ≤ 140737488351232) : Calls Tryz.prog 88 #[.string s] w fun e w' => e = .returned (.string ⟨(trimF (bl s)).toArray⟩) ∧ w = w' := by
  go_enter Tryz.func88, Tryz.ntmps88
  go_wp2
  go_loop [3] (fun i => ∃ k : Nat, k ≤ s.size ∧ i = .int .i64 k ∧ ltrim ((bl s).drop k) = ltrim (bl s)) (fun i => s.size - (intOf i).toNat)
  case atStart => exact ⟨0, Nat.zero_le _, rfl, rfl⟩
  case round =>
    obtain ⟨k, hk, rfl, hl⟩ := hrel
    have HL := Lib.hid hl
    clear hl
    have hex : (k < s.size ∧ ∃ h : k < s.size, blankB s[k] = true) ∨ ((k < s.size → ∃ h : k < s.size, blankB s[k] = false) ∧ ltrim (bl s) = (bl s).drop k) := by
      by_cases hlt : k < s.size
      · cases hb : blankB s[k] with
        | true => exact .inl ⟨hlt, hlt, hb⟩
        | false =>
          refine .inr ⟨fun _ => ⟨hlt, hb⟩, ?_⟩
          rw [← HL.out, bl_drop s k hlt, ltrim_no _ _ hb]
      · refine .inr ⟨fun h => absurd h hlt, ?_⟩
        rw [← HL.out, List.drop_of_length_le (by rw [bl_length]; omega)]
        rfl
    rcases hex with ⟨hlt, _, hb⟩ | ⟨hno, hD⟩
    · have HLL := Lib.hid (show ltrim ((bl s).drop (k + 1)) = ltrim (bl s) by rw [← HL.out, bl_drop s k hlt, ltrim_yes _ _ hb])
      rw [blankB_nat] at hb
      cases e1 : ((s[k].toNat : Int) == 32) with
      | true =>
        clear hb
        go_wp2
        exact ⟨⟨k + 1, hlt, by simp, HLL.out⟩, by simp [intOf]; omega⟩
      | false =>
        rw [e1, Bool.false_or] at hb
        go_wp2
        exact ⟨⟨k + 1, hlt, by simp, HLL.out⟩, by simp [intOf]; omega⟩
    · have HD := Lib.hid hD
      clear hD
      by_cases hlt : k < s.size
      case' pos =>
        obtain ⟨_, hb⟩ := hno hlt
        rw [blankB_nat, Bool.or_eq_false_iff] at hb
        obtain ⟨e1, e2⟩ := hb
        clear hno
        go_wp2
        clear e1 e2
      case' neg =>
        clear hno
        go_wp2
      all_goals
        go_loop [4] (fun i => ∃ m : Nat, k ≤ m ∧ m ≤ s.size ∧ i = .int .i64 m ∧ rtrim (piece s k m) = trimF (bl s)) (fun i => (intOf i).toNat - k)
        case atStart => exact ⟨s.size, hk, Nat.le_refl _, rfl, by rw [trimF, HD.out, piece, List.take_of_length_le (by rw [List.length_drop, bl_length]; exact Nat.le_refl _)]⟩
        case round =>
          obtain ⟨m, hkm, hms, rfl, hr⟩ := hrel
          have HR := Lib.hid hr
          clear hr
          by_cases hlm : k < m
          · have hm1 : m - 1 < s.size := by omega
            cases hb : blankB (s[m - 1]'hm1) with
            | true =>
              have HRR := Lib.hid (show rtrim (piece s k (m - 1)) = trimF (bl s) by rw [← HR.out, piece_last s k m hlm hms, rtrim_yes _ _ hb])
              rw [blankB_nat] at hb
              cases e1 : (((s[m - 1]'hm1).toNat : Int) == 32) with
              | true =>
                clear hb
                go_wp2
                all_goals exact ⟨⟨m - 1, by omega, by omega, by rw [show ((m - 1 : Nat) : Int) = (m : Int) - 1 by omega], HRR.out⟩, by simp [intOf]; omega⟩
              | false =>
                rw [e1, Bool.false_or] at hb
                go_wp2
                all_goals exact ⟨⟨m - 1, by omega, by omega, by rw [show ((m - 1 : Nat) : Int) = (m : Int) - 1 by omega], HRR.out⟩, by simp [intOf]; omega⟩
            | false =>
              have HRR := Lib.hid (show piece s k m = trimF (bl s) by rw [← HR.out, piece_last s k m hlm hms, rtrim_no _ _ hb])
              rw [blankB_nat, Bool.or_eq_false_iff] at hb
              obtain ⟨e1, e2⟩ := hb
              go_wp2
              all_goals
                go_ret
                exact ⟨by rw [← HRR.out, ← bl_extract]; rfl, rfl⟩
          · obtain rfl : m = k := by omega
            have HRR := Lib.hid (show trimF (bl s) = [] by rw [← HR.out, piece_self]; rfl)
            go_wp2
            go_ret
            exact ⟨by rw [HRR.out]; rfl, rfl⟩
end Go.Proofs.YtdcbcjljmjnopaaGreatDoor
