/-
  What package start's small functions do, call by call: the closures, all, isTarget, isMinor.
  Conditions: those that each theorem names.
-/
import Derived.Test.YteggdakbebnjfaaDoorGA
import Derived.IntWalk
namespace Go.Proofs.YteggdakbebnjfaaDoor
open Go.RowKit

set_option maxHeartbeats 1000000 in
theorem targ_says (c : UInt8) (w : World) : Calls Tryd.prog 48 #[.int .u8 (c.toNat : Int)] w fun e w' => e = .returned (.bool (targB c)) ∧ w = w' := by
  have HS := Lib.hid (show targB c = (decide (33 ≤ c.toNat) && decide (c.toNat ≤ 126)) from rfl)
  go_enter Tryd.func48, Tryd.ntmps48
  go_wp2
  all_goals
    go_ret
    refine ⟨ret_bool ?_, rfl⟩
    rw [HS.out]
    clear HS
    rw [Bool.eq_iff_iff]
    simp
  all_goals omega
set_option maxHeartbeats 1000000 in
theorem dig_says (c : UInt8) (w : World) : Calls Tryd.prog 42 #[.int .u8 (c.toNat : Int)] w fun e w' => e = .returned (.bool (digB c)) ∧ w = w' := by
  have HS := Lib.hid (show digB c = (decide (48 ≤ c.toNat) && decide (c.toNat ≤ 57)) from rfl)
  go_enter Tryd.func42, Tryd.ntmps42
  go_wp2
  all_goals
    go_ret
    refine ⟨ret_bool ?_, rfl⟩
    rw [HS.out]
    clear HS
    rw [Bool.eq_iff_iff]
    simp
  all_goals omega

theorem all_noS (l : List UInt8) (p : UInt8 → Bool) (c : UInt8) (k : Nat) (h : l[k]? = some c) (hc : p c = false) : l.all p = false := by
  rw [Bool.eq_false_iff]
  intro hall
  have := List.all_eq_true.1 hall c (List.mem_of_getElem? h)
  rw [hc] at this
  cases this
set_option maxHeartbeats 2000000 in
set_option maxRecDepth 100000 in
theorem sall_any (f : FuncId) (hf : f = 48 ∨ f = 42) (p : UInt8 → Bool)
    (hp : ∀ (c : UInt8) (w : World), Calls Tryd.prog f #[.int .u8 (c.toNat : Int)] w fun e w' => e = .returned (.bool (p c)) ∧ w = w') (s : ByteArray) (w : World) (hs : s.size ≤ 281474976710656) :
    Calls Tryd.prog 41 #[.string s, .func (.func f) #[] #[]] w fun e w' => e = .returned (.bool ((bl s).all p)) ∧ w = w' := by
  have CL := Lib.hid hp
  clear hp
  rcases hf with rfl | rfl
  all_goals
    go_enter Tryd.func41, Tryd.ntmps41
    go_wp2_with fail
    go_loopw [8] (fun vi wr => ∃ k : Nat, vi = .int .i64 (k : Int) ∧ k ≤ s.size ∧ Hid (((bl s).take k).all p = true) ∧ w = wr) (fun vi _ => s.size - (intOf vi).toNat)
    case atStart => exact ⟨0, rfl, Nat.zero_le _, Lib.hid rfl, rfl⟩
    case round =>
      obtain ⟨k, rfl, hk, HA, rfl⟩ := hrel
      by_cases hlt : k < s.size
      · have HTK := Lib.hid (bl_take s k hlt)
        have HG := Lib.hid (bl_get s k hlt)
        have C := Lib.hid (CL.out s[k] w)
        cases hpc : p s[k] with
        | true =>
          rw [hpc] at C
          have HN := Lib.hid (show ((bl s).take (k + 1)).all p = true by rw [HTK.out, List.all_append, HA.out]; simp [hpc])
          clear HTK HG hpc
          go_wp2_with fail
          refine C.out.mono ?_
          rintro e w2 ⟨rfl, rfl⟩
          go_wp2_with fail
          go_roundw
          case rel => exact ⟨k + 1, by go_num, hlt, HN, trivial⟩
          case measure => simp [intOf]; omega
        | false =>
          rw [hpc] at C
          have HN := Lib.hid (all_noS (bl s) p s[k] k HG.out hpc)
          clear HTK HG hpc
          go_wp2_with fail
          refine C.out.mono ?_
          rintro e w2 ⟨rfl, rfl⟩
          go_wp2_with fail
          go_ret
          exact ⟨ret_bool HN.out.symm, rfl⟩
      · have HF := Lib.hid (show (bl s).all p = true by
          have h1 := HA.out
          rw [List.take_of_length_le (by rw [bl_length]; omega)] at h1
          exact h1)
        go_wp2_with fail
        go_ret
        exact ⟨ret_bool HF.out.symm, rfl⟩

set_option maxHeartbeats 1000000 in
theorem istarg_any (s : ByteArray) (w : World) (hs : s.size ≤ 281474976710656) : Calls Tryd.prog 38 #[.string s] w fun e w' => e = .returned (.bool (targF (bl s))) ∧ w = w' := by
  have C := Lib.hid (sall_any 48 (.inl rfl) targB targ_says s w hs)
  cases hl : bl s with
  | nil =>
    have e1 : s.toList = [] := by rw [Lib.toList_data]; exact hl
    have e2 : (!s.toList.isEmpty) = false := by rw [e1]; rfl
    clear C hl
    go_enter Tryd.func38, Tryd.ntmps38
    go_wp2_with fail
    go_ret
    exact ⟨rfl, rfl⟩
  | cons c l =>
    have e1 : s.toList = c :: l := by rw [Lib.toList_data]; exact hl
    have e2 : (!s.toList.isEmpty) = true := by rw [e1]; rfl
    have e3 : s.toList.isEmpty = false := by rw [e1]; rfl
    have HF := Lib.hid (show (bl s).all targB = targF (c :: l) by rw [hl]; simp [targF])
    clear hl e1
    go_enter Tryd.func38, Tryd.ntmps38
    go_wp2_with fail
    refine C.out.mono ?_
    rintro e w' ⟨rfl, rfl⟩
    go_wp2_with fail
    go_ret
    exact ⟨ret_bool HF.out, rfl⟩
def minB (n : Int) : Bool := decide (n = 0) || decide (n = 1)
theorem isminor_any (n : Int) (w : World) : Calls Tryd.prog 39 #[.int .i64 n] w fun e w' => e = .returned (.bool (minB n)) ∧ w = w' := by
  have HS := Lib.hid (show minB n = (decide (n = 0) || decide (n = 1)) from rfl)
  go_enter Tryd.func39, Tryd.ntmps39
  go_wp2
  all_goals
    go_ret
    refine ⟨ret_bool ?_, rfl⟩
    rw [HS.out]
    clear HS
    rw [Bool.eq_iff_iff]
    simp
  all_goals (try simp only [beq_eq_false_iff_ne, beq_iff_eq, ne_eq] at *)
  all_goals omega
end Go.Proofs.YteggdakbebnjfaaDoor
