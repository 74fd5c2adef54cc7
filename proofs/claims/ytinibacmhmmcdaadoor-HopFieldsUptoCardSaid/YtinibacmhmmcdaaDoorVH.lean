/-
  The document's own second.
  Conditions: a text of at most 140737488351232 bytes.
-/
import Derived.Test.YtinibacmhmmcdaaDoorVA
import Derived.WalkKit
namespace Go.Proofs.YtinibacmhmmcdaaDoor.Hop
open Go.RowKit

def wordB (c : UInt8) : Bool := !blankB c
theorem partF_is (l : List UInt8) : partF l = (l.dropWhile blankB).takeWhile wordB := rfl
theorem restF_is (l : List UInt8) : restF l = (l.dropWhile blankB).dropWhile wordB := rfl
theorem piece_step (s : ByteArray) (f k : Nat) (h : f ≤ k) (hk : k < s.size) : piece s f (k + 1) = piece s f k ++ [s[k]] := by
  have := piece_last s f (k + 1) (by omega) (by omega)
  simpa using this
set_option maxHeartbeats 4000000 in
set_option maxRecDepth 100000 in
theorem second_any (s : ByteArray) (w : World) (hs : s.size ≤ 140737488351232) : Calls Tryd.prog 43 #[.string s] w fun e w' => e = .returned (.string ⟨(secondF (bl s)).toArray⟩) ∧ w = w' := by
  go_enter Tryd.func43, Tryd.ntmps43
  go_wp2
  go_loop [3, 4] (fun vi vn => ∃ k : Nat, vi = .int .i64 (k : Int) ∧ k ≤ s.size ∧ ((vn = .int .i64 0 ∧ Hid ((bl s).drop k = bl s)) ∨ (vn = .int .i64 1 ∧ Hid ((bl s).drop k = restF (bl s))))) (fun _ vn => 2 - (intOf vn).toNat)
  case atStart => exact ⟨0, rfl, Nat.zero_le _, .inl ⟨rfl, Lib.hid rfl⟩⟩
  case round =>
    obtain ⟨k, rfl, hk, hor⟩ := hrel
    rcases hor with ⟨rfl, HX⟩ | ⟨rfl, HX⟩
    all_goals
      have hHX := HX.out
      generalize hYY : (bl s).drop k = Y at HX hHX
      go_wp2
      go_loop [3] (fun vi => ∃ m : Nat, vi = .int .i64 (m : Int) ∧ m ≤ s.size ∧ Hid (((bl s).drop m).dropWhile blankB = Y.dropWhile blankB)) (fun vi => s.size - (intOf vi).toNat)
      case atStart => exact ⟨k, rfl, hk, Lib.hid (by rw [hYY])⟩
      case round =>
        clear hYY
        obtain ⟨m, rfl, hm, HL⟩ := hrel
        have hex : (m < s.size ∧ ∃ h : m < s.size, blankB s[m] = true) ∨ ((m < s.size → ∃ h : m < s.size, blankB s[m] = false) ∧ Y.dropWhile blankB = (bl s).drop m) := by
          by_cases hlt : m < s.size
          · cases hb : blankB s[m] with
            | true => exact .inl ⟨hlt, hlt, hb⟩
            | false =>
              refine .inr ⟨fun _ => ⟨hlt, hb⟩, ?_⟩
              rw [← HL.out, bl_drop s m hlt, List.dropWhile_cons, hb]
              rfl
          · refine .inr ⟨fun h => absurd h hlt, ?_⟩
            rw [← HL.out, List.drop_of_length_le (by rw [bl_length]; omega)]
            rfl
        rcases hex with ⟨hlt, _, hb⟩ | ⟨hno, hD⟩
        · have HLL := Lib.hid (show ((bl s).drop (m + 1)).dropWhile blankB = Y.dropWhile blankB by rw [← HL.out, bl_drop s m hlt, List.dropWhile_cons, hb]; rfl)
          rw [blankB_nat] at hb
          cases e1 : ((s[m].toNat : Int) == 32) with
          | true =>
            clear hb
            go_wp2
            exact ⟨⟨m + 1, by simp, hlt, HLL⟩, by simp [intOf]; omega⟩
          | false =>
            rw [e1, Bool.false_or] at hb
            go_wp2
            exact ⟨⟨m + 1, by simp, hlt, HLL⟩, by simp [intOf]; omega⟩
        · have HD := Lib.hid hD
          clear hD HL
          by_cases hlt : m < s.size
          case' pos =>
            obtain ⟨_, hb⟩ := hno hlt
            rw [blankB_nat, Bool.or_eq_false_iff] at hb
            obtain ⟨e1, e2⟩ := hb
            clear hno
            go_wp2
            clear e1 e2
          case' neg =>
            clear hno
            go_wp2
          all_goals
            go_loop [3] (fun vi => ∃ q : Nat, vi = .int .i64 (q : Int) ∧ m ≤ q ∧ q ≤ s.size ∧ Hid (piece s m q ++ ((bl s).drop q).takeWhile wordB = partF Y) ∧ Hid (((bl s).drop q).dropWhile wordB = restF Y)) (fun vi => s.size - (intOf vi).toNat)
            case atStart => exact ⟨m, rfl, Nat.le_refl _, hm, Lib.hid (by rw [piece_self, partF_is, HD.out]; rfl), Lib.hid (by rw [restF_is, HD.out])⟩
            case round =>
              obtain ⟨q, rfl, hmq, hq, HP, HR⟩ := hrel
              by_cases hlq : q < s.size
              · cases hb : blankB s[q] with
                | false =>
                  have HP2 := Lib.hid (show piece s m (q + 1) ++ ((bl s).drop (q + 1)).takeWhile wordB = partF Y by
                    rw [← HP.out, bl_drop s q hlq, List.takeWhile_cons, show wordB s[q] = true by unfold wordB; rw [hb]; rfl, piece_step s m q hmq hlq]
                    simp)
                  have HR2 := Lib.hid (show ((bl s).drop (q + 1)).dropWhile wordB = restF Y by
                    rw [← HR.out, bl_drop s q hlq, List.dropWhile_cons, show wordB s[q] = true by unfold wordB; rw [hb]; rfl]
                    rfl)
                  rw [blankB_nat, Bool.or_eq_false_iff] at hb
                  obtain ⟨e1, e2⟩ := hb
                  have e3 : ((s[q].toNat : Int) != 32) = true := by simpa using e1
                  have e4 : ((s[q].toNat : Int) != 9) = true := by simpa using e2
                  clear e1 e2
                  go_wp2
                  exact ⟨⟨q + 1, by simp, by omega, hlq, HP2, HR2⟩, by simp [intOf]; omega⟩
                | true =>
                  have HP2 := Lib.hid (show piece s m q = partF Y by
                    rw [← HP.out, bl_drop s q hlq, List.takeWhile_cons, show wordB s[q] = false by unfold wordB; rw [hb]; rfl]
                    simp)
                  have HR2 := Lib.hid (show (bl s).drop q = restF Y by
                    rw [← HR.out, bl_drop s q hlq, List.dropWhile_cons, show wordB s[q] = false by unfold wordB; rw [hb]; rfl]
                    rfl)
                  rw [blankB_nat] at hb
                  clear HP HR
                  cases e1 : ((s[q].toNat : Int) == 32) with
                  | true =>
                    have e3 : ((s[q].toNat : Int) != 32) = false := by simpa using e1
                    clear e1 hb
                    go_wp2
                    first
                      | exact ⟨⟨q, rfl, hq, .inr ⟨rfl, Lib.hid (by rw [HR2.out, ← hHX])⟩⟩, by simp [intOf]⟩
                      | (go_ret
                         rw [bl_extract, HP2.out]
                         exact ⟨by rw [show secondF (bl s) = partF Y by rw [hHX]; rfl]; rfl, rfl⟩)
                  | false =>
                    rw [e1, Bool.false_or] at hb
                    have e3 : ((s[q].toNat : Int) != 32) = true := by simpa using e1
                    have e4 : ((s[q].toNat : Int) != 9) = false := by simpa using hb
                    clear e1 hb
                    go_wp2
                    first
                      | exact ⟨⟨q, rfl, hq, .inr ⟨rfl, Lib.hid (by rw [HR2.out, ← hHX])⟩⟩, by simp [intOf]⟩
                      | (go_ret
                         rw [bl_extract, HP2.out]
                         exact ⟨by rw [show secondF (bl s) = partF Y by rw [hHX]; rfl]; rfl, rfl⟩)
              · have hqe : q = s.size := by omega
                have HP2 := Lib.hid (show piece s m q = partF Y by
                  rw [← HP.out, List.drop_of_length_le (by rw [bl_length]; omega)]
                  simp)
                have HR2 := Lib.hid (show (bl s).drop q = restF Y by
                  rw [← HR.out, List.drop_of_length_le (by rw [bl_length]; omega)]
                  rfl)
                clear HP HR hqe
                go_wp2
                first
                  | exact ⟨⟨q, rfl, hq, .inr ⟨rfl, Lib.hid (by rw [HR2.out, ← hHX])⟩⟩, by simp [intOf]⟩
                  | (go_ret
                     rw [bl_extract, HP2.out]
                     exact ⟨by rw [show secondF (bl s) = partF Y by rw [hHX]; rfl]; rfl, rfl⟩)
end Go.Proofs.YtinibacmhmmcdaaDoor.Hop
