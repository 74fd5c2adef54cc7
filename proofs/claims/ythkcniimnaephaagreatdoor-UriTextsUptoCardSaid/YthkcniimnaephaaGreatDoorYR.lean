/-
  What the reference's small functions of package uri answer: hex, letter, cut, port, octet, number, decimal.
  Conditions: those that each theorem names.
-/
import Derived.Test.YthkcniimnaephaaGreatDoorYB
import Derived.Test.YthkcniimnaephaaGreatDoorRB
import Derived.Test.YthkcniimnaephaaGreatDoorNE
import Derived.IntWalk
namespace Go.Proofs.YthkcniimnaephaaGreatDoor.Uri
open Go.RowKit

theorem byte_int (c d : UInt8) : ((c.toNat : Int) == (d.toNat : Int)) = (c == d) := by
  rw [Bool.eq_iff_iff, beq_iff_eq, beq_iff_eq]
  constructor
  · intro h; exact UInt8.toNat_inj.1 (by omega)
  · rintro rfl; rfl

set_option maxHeartbeats 1000000 in
theorem rhex_any (c : UInt8) (w : World) : Calls Tryz.prog 49 #[.int .u8 (c.toNat : Int)] w fun e w' => e = .returned (.bool (hexB c)) ∧ w = w' := by
  have HS := Lib.hid (show hexB c = ((decide (48 ≤ c.toNat) && decide (c.toNat ≤ 57)) || (decide (97 ≤ c.toNat) && decide (c.toNat ≤ 102)) || (decide (65 ≤ c.toNat) && decide (c.toNat ≤ 70))) from rfl)
  go_enter Tryz.func49, Tryz.ntmps49
  go_wp2
  all_goals
    go_ret
    refine ⟨ret_bool ?_, rfl⟩
    rw [HS.out]
    clear HS
    rw [Bool.eq_iff_iff]
    simp
  all_goals omega
def alB (c : UInt8) : Bool := (decide (97 ≤ c.toNat) && decide (c.toNat ≤ 122)) || (decide (65 ≤ c.toNat) && decide (c.toNat ≤ 90)) || (decide (48 ≤ c.toNat) && decide (c.toNat ≤ 57))
set_option maxHeartbeats 1000000 in
theorem rletter_any (c : UInt8) (w : World) : Calls Tryz.prog 50 #[.int .u8 (c.toNat : Int)] w fun e w' => e = .returned (.bool (alB c)) ∧ w = w' := by
  have HS := Lib.hid (show alB c = ((decide (97 ≤ c.toNat) && decide (c.toNat ≤ 122)) || (decide (65 ≤ c.toNat) && decide (c.toNat ≤ 90)) || (decide (48 ≤ c.toNat) && decide (c.toNat ≤ 57))) from rfl)
  go_enter Tryz.func50, Tryz.ntmps50
  go_wp2
  all_goals
    go_ret
    refine ⟨ret_bool ?_, rfl⟩
    rw [HS.out]
    clear HS
    rw [Bool.eq_iff_iff]
    simp
  all_goals omega

/-! ## cut -/
/-- What stands ahead of the first byte that p says, and what begins there. -/
def cutB (p : UInt8 → Bool) : List UInt8 → List UInt8 × List UInt8
  | [] => ([], [])
  | c :: l => if p c = true then ([], c :: l) else (c :: (cutB p l).1, (cutB p l).2)
theorem cutB_hit (p : UInt8 → Bool) : ∀ (a : List UInt8) (c : UInt8) (b : List UInt8), a.all (fun c => !p c) = true → p c = true → cutB p (a ++ c :: b) = (a, c :: b)
  | [], c, b, _, h => by rw [List.nil_append]; unfold cutB; rw [if_pos h]
  | x :: a, c, b, ha, h => by
    simp only [List.all_cons, Bool.and_eq_true, Bool.not_eq_true'] at ha
    rw [List.cons_append]
    unfold cutB
    rw [ha.1, if_neg (by simp), cutB_hit p a c b (by simpa using ha.2) h]
theorem cutB_none (p : UInt8 → Bool) : ∀ l : List UInt8, l.all (fun c => !p c) = true → cutB p l = (l, [])
  | [], _ => rfl
  | c :: l, h => by
    simp only [List.all_cons, Bool.and_eq_true, Bool.not_eq_true'] at h
    unfold cutB
    rw [h.1, if_neg (by simp), cutB_none p l (by simpa using h.2)]
theorem cutB_end : ∀ l : List UInt8, cutB endB l = cutA l
  | [] => rfl
  | c :: l => by unfold cutB cutA; rw [cutB_end l]
theorem cutB_colon (l : List UInt8) : (58 ∉ l ∧ cutB (fun c => c == 58) l = (l, []) ∧ cutC 58 l = (l, [])) ∨ ∃ a b, cutB (fun c => c == 58) l = (a, 58 :: b) ∧ cutC 58 l = (a, b) ∧ 58 ∈ l := by
  rcases cutC_or 58 l with ⟨hn, hc⟩ | ⟨a, b, hl, ha, hc⟩
  · refine .inl ⟨hn, cutB_none _ l ?_, hc⟩
    rw [List.all_eq_true]
    intro c hm
    have : c ≠ 58 := fun e => hn (e ▸ hm)
    simpa using this
  · refine .inr ⟨a, b, ?_, hc, by rw [hl]; simp⟩
    rw [hl]
    refine cutB_hit _ a 58 b ?_ rfl
    rw [List.all_eq_true]
    intro c hm
    have : c ≠ 58 := fun e => ha (e ▸ hm)
    simpa using this
theorem take_no (s : ByteArray) (p : UInt8 → Bool) (k : Nat) (h : k < s.size) (h1 : ((bl s).take k).all (fun c => !p c) = true) (h2 : p s[k] = false) : ((bl s).take (k + 1)).all (fun c => !p c) = true := by
  rw [bl_take s k h, List.all_append, h1]
  simp [h2]
theorem no_take (m : ByteArray) (c : UInt8) (k : Nat) (h : k < m.size) (h1 : ((bl m).take k).contains c = false) (h2 : (c == m[k]) = false) : ((bl m).take (k + 1)).contains c = false := by
  rw [bl_take m k h, List.contains_eq_any_beq, List.any_append, ← List.contains_eq_any_beq, h1]
  simp [h2]
set_option maxHeartbeats 4000000 in
set_option maxRecDepth 100000 in
theorem rcut_any (s m : ByteArray) (p : UInt8 → Bool) (hp : ∀ c, (bl m).contains c = p c) (w : World) (hs : s.size ≤ 1125899906842624) (hm : m.size ≤ 1000) :
    Calls Tryz.prog 38 #[.string s, .string m] w fun e w' => e = .returned (.tuple #[.string ⟨(cutB p (bl s)).1.toArray⟩, .string ⟨(cutB p (bl s)).2.toArray⟩]) ∧ Below w.heap.size w w' := by
  have HPP := Lib.hid hp
  clear hp
  go_enter Tryz.func38, Tryz.ntmps38
  go_wp2_with fail
  go_loopw [6] (fun vi wr => ∃ k : Nat, vi = .int .i64 (k : Int) ∧ k ≤ s.size ∧ Hid (((bl s).take k).all (fun c => !p c) = true) ∧ Hid (Below w.heap.size w wr)) (fun vi _ => s.size - (intOf vi).toNat)
  case atStart => exact ⟨0, rfl, Nat.zero_le _, Lib.hid rfl, Lib.hid (Below.refl _ _)⟩
  case round =>
    obtain ⟨k, rfl, hk, HA, HB⟩ := hrel
    obtain ⟨wo, rfl⟩ : ∃ wo, wo = wr := ⟨_, rfl⟩
    by_cases hlt : k < s.size
    · have HTN := Lib.hid (take_no s p k hlt HA.out)
      have HG := Lib.hid (bl_get s k hlt)
      go_wp2_with fail
      go_loopw [7] (fun vj wr => ∃ j : Nat, vj = .int .i64 (j : Int) ∧ j ≤ m.size ∧ Hid (((bl m).take j).contains s[k] = false) ∧ Hid (Below w.heap.size w wr)) (fun vj _ => m.size - (intOf vj).toNat)
      case atStart => exact ⟨0, rfl, Nat.zero_le _, Lib.hid rfl, HB⟩
      case round =>
        obtain ⟨j, rfl, hj, HC, HB1⟩ := hrel
        by_cases hjl : j < m.size
        · have HNT := Lib.hid (no_take m s[k] j hjl HC.out)
          have hbi := byte_int s[k] m[j]
          have c1 : (0 : Int) ≤ (k : Int) := by omega
          have c2 : (k : Int) < (s.size : Int) := by omega
          have c3 : (j : Int) < (m.size : Int) := by omega
          have c4 : (k : Int) ≤ (s.size : Int) := by omega
          cases heq : (s[k] == m[j]) with
          | true =>
            rw [heq] at hbi
            have hmem : (bl m).contains s[k] = true := by
              rw [beq_iff_eq.1 heq]
              have := List.mem_of_getElem? (bl_get m j hjl)
              simpa using this
            have HPK := Lib.hid (show p s[k] = true by rw [← HPP.out]; exact hmem)
            have hl : bl s = (bl s).take k ++ s[k] :: (bl s).drop (k + 1) := by
              rw [← bl_drop s k hlt, List.take_append_drop]
            have HX := Lib.hid (show cutB p (bl s) = ((bl s).take k, (bl s).drop k) by
              have h1 := cutB_hit p ((bl s).take k) s[k] ((bl s).drop (k + 1)) HA.out HPK.out
              rw [← hl] at h1
              rw [h1, ← bl_drop s k hlt])
            have X1 := Lib.hid (show s.extract 0 k = ⟨((bl s).take k).toArray⟩ by rw [bl_extract, piece_front])
            have X2 := Lib.hid (show s.extract k s.size = ⟨((bl s).drop k).toArray⟩ by rw [bl_extract, piece_back])
            clear heq hmem hl HTN HNT
            go_wp2_with fail
            go_quiet (fail)
            have HB2 : Hid (Below w.heap.size w (wr.drewN nq)) := Lib.hid (below_drewN HB1.out nq)
            generalize World.drewN wr nq = w2 at *
            go_wp2_with fail
            go_quiet (fail)
            have HB3 : Hid (Below w.heap.size w (w2.drewN nq)) := Lib.hid (below_drewN HB2.out nq)
            go_wp2_with fail
            go_ret2
            refine ⟨?_, HB3.out⟩
            rw [HX.out]
            simp only
            rw [← X1.out, ← X2.out]
            rfl
          | false =>
            rw [heq] at hbi
            have HN := Lib.hid (HNT.out heq)
            clear heq HNT
            go_wp2_with fail
            go_quiet (fail)
            have HB2 : Hid (Below w.heap.size w (wr.drewN nq)) := Lib.hid (below_drewN HB1.out nq)
            go_wp2_with fail
            go_roundw
            case rel => exact ⟨j + 1, by go_num, hjl, HN, HB2⟩
            case measure => simp [intOf]; omega
        · have HN := Lib.hid (HTN.out (by
            have := HC.out
            rw [List.take_of_length_le (by rw [bl_length]; omega), HPP.out] at this
            exact this))
          go_wp2_with fail
          go_roundw
          case rel => exact ⟨k + 1, by go_num, hlt, HN, HB1⟩
          case measure => simp [intOf]; omega
    · have HX := Lib.hid (show cutB p (bl s) = (bl s, []) from cutB_none p (bl s) (by
        have := HA.out
        rw [List.take_of_length_le (by rw [bl_length]; omega)] at this
        exact this))
      go_wp2_with fail
      go_ret2
      refine ⟨?_, HB.out⟩
      rw [HX.out]
      simp only
      rw [mk_bl]
      rfl
end Go.Proofs.YthkcniimnaephaaGreatDoor.Uri
