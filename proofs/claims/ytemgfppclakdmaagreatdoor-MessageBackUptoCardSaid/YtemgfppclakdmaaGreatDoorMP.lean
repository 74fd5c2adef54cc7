/-
  What MessageBack asks besides: how long what is put is; fields without the last one; whether a response has no body.
  Conditions: those that each theorem names.
-/
import Derived.Test.YtemgfppclakdmaaGreatDoorML
namespace Go.Proofs.YtemgfppclakdmaaGreatDoor
open Go.RowKit

theorem puts_len {line : List UInt8} {ls : List Fld} {body b : List UInt8} {length : Bool} (h : putsM line ls body length = (b, 0)) : b.length ≤ 6144 := by
  unfold putsM at h
  split at h
  · cases h
  · split at h
    · cases h
    · split at h
      · cases h
      · split at h
        · cases h
        · next h3 =>
          injection h with h _
          rw [← h]
          simp only [List.length_append, List.length_cons, List.length_nil] at h3 ⊢
          omega
theorem putReq_len {m t : List UInt8} {n : Int} {ls : List Fld} {body b : List UInt8} (h : putReqM m t n ls body = (b, 0)) : b.length ≤ 6144 := by
  unfold putReqM at h
  split at h
  · cases h
  · exact puts_len h
theorem putRes_len {n st : Int} {r m : List UInt8} {ls : List Fld} {body b : List UInt8} (h : putResM n st r ls body m = (b, 0)) : b.length ≤ 6144 := by
  unfold putResM at h
  split at h
  · cases h
  · split at h
    · cases h
    · exact puts_len h
theorem putsM_err (line : List UInt8) (ls : List Fld) (body : List UInt8) (length : Bool) : (putsM line ls body length).2 = 0 ∨ (putsM line ls body length).1 = [] := by
  unfold putsM
  repeat' split
  all_goals simp
theorem withCL_length (ls : List Fld) (k : Nat) (q : Bool) : (withCL ls k q).length = ls.length + (if q = true then 1 else 0) := by
  unfold withCL
  cases q <;> simp
theorem run_front_fld9 (A : Option Addr) (n c k : Nat) (hk : k ≤ c) : ∃ A', (∀ W : World, (Instr.slice 23 (.slice A n c) none (some (.int .i64 (k : Int))) none).run Tryz.prog W = .ok (.slice A' k c) W) ∧
    ∀ (w : World) (P : Nat → Prop) (ls : List Fld), ls.length = n → k ≤ n → SrcF w P A ls → SrcF w P A' (ls.take k) := by
  obtain ⟨i, hin, _⟩ := Option.map_eq_some_iff.1 fldSize
  refine ⟨if c = 0 then A else A.map (·.add (0 * i.size)), fun W => ?_, fun w P ls hn hkn h => ?_⟩
  · simp [Instr.slice, run_underlying Tryz.underlying23, Instr.sliceBounds, Instr.sliceBound, asIntOf, hk, sizeOf, typeInfo, hin]
  · intro h0
    rw [List.length_take] at h0
    obtain ⟨ad, rfl, hP, hlt, hc⟩ := h (by omega)
    rw [if_neg (by omega)]
    refine ⟨ad.add (0 * i.size), rfl, ?_, ?_, fun j f hf => ?_⟩
    · unfold Addr.add; split <;> exact hP
    · unfold Addr.add; split <;> exact hlt
    · rw [add_add_at, add_add_at, Nat.zero_mul, Nat.zero_add, Nat.zero_add]
      rw [List.getElem?_take] at hf
      split at hf
      · exact hc j f hf
      · cases hf
set_option maxHeartbeats 4000000 in
set_option maxRecDepth 100000 in
theorem rbare_any (w : World) (st : Int) (m : ByteArray) : Calls Tryz.prog 21 #[.int .i64 st, .string m] w fun e w' => e = .returned (.bool (bareM st (bl m))) ∧ w = w' := by
  have e1 : (m.toList == [72, 69, 65, 68]) = decide (bl m = [72, 69, 65, 68]) := by rw [Lib.toList_data, Bool.eq_iff_iff, beq_iff_eq, decide_eq_true_iff]; exact Iff.rfl
  have e2 : (m.toList == [67, 79, 78, 78, 69, 67, 84]) = decide (bl m = [67, 79, 78, 78, 69, 67, 84]) := by rw [Lib.toList_data, Bool.eq_iff_iff, beq_iff_eq, decide_eq_true_iff]; exact Iff.rfl
  have HB := Lib.hid (show bareM st (bl m) = (decide (bl m = [72, 69, 65, 68]) || decide (st < 200) || decide (st = 204) || decide (st = 304) || (decide (bl m = [67, 79, 78, 78, 69, 67, 84]) && decide (st < 300))) by
    unfold bareM bodyF
    by_cases a1 : bl m = [72, 69, 65, 68]
    · simp [a1]
    · by_cases a2 : st < 200
      · simp [a2]
      · by_cases a3 : st = 204
        · simp [a3]
        · by_cases a4 : st = 304
          · simp [a4]
          · simp only [a1, a2, a3, a4, or_self, if_false, decide_false, Bool.false_or]
            by_cases a5 : bl m = [67, 79, 78, 78, 69, 67, 84]
            · rw [a5]
              by_cases a6 : st < 300
              · simp [a6]
              · simp [a6]; omega
            · simp [a5])
  cases q1 : decide (bl m = [72, 69, 65, 68]) with
  | true =>
    rw [q1] at e1
    have HR := Lib.hid (show bareM st (bl m) = true by rw [HB.out, q1]; rfl)
    clear q1 HB
    go_enter Tryz.func21, Tryz.ntmps21
    go_wp2_with fail
    go_ret
    exact ⟨ret_bool HR.out.symm, rfl⟩
  | false =>
    rw [q1] at e1
    have HB1 := Lib.hid (HB.out.trans (by rw [q1, Bool.false_or]))
    clear q1 HB
    by_cases a0 : st < 200
    · have f0 : decide (st < 200) = true := by simpa using a0
      have HR := Lib.hid (show bareM st (bl m) = true by rw [HB1.out]; simp [a0])
      clear HB1 a0
      go_enter Tryz.func21, Tryz.ntmps21
      go_wp2_with fail
      go_ret
      exact ⟨ret_bool HR.out.symm, rfl⟩
    · have f0 : decide (st < 200) = false := by simpa using a0
      have HB2 := Lib.hid (HB1.out.trans (by rw [show decide (st < 200) = false by simpa using a0, Bool.false_or]))
      clear HB1 a0
      by_cases a1 : st = 204
      · have f1 : (st == 204) = true := by simpa using a1
        have HR := Lib.hid (show bareM st (bl m) = true by rw [HB2.out]; simp [a1])
        clear HB2 a1
        go_enter Tryz.func21, Tryz.ntmps21
        go_wp2_with fail
        go_ret
        exact ⟨ret_bool HR.out.symm, rfl⟩
      · have f1 : (st == 204) = false := by simpa using a1
        have HB3 := Lib.hid (HB2.out.trans (by rw [show decide (st = 204) = false by simpa using a1, Bool.false_or]))
        clear HB2 a1
        by_cases a2 : st = 304
        · have f2 : (st == 304) = true := by simpa using a2
          have HR := Lib.hid (show bareM st (bl m) = true by rw [HB3.out]; simp [a2])
          clear HB3 a2
          go_enter Tryz.func21, Tryz.ntmps21
          go_wp2_with fail
          go_ret
          exact ⟨ret_bool HR.out.symm, rfl⟩
        · have f2 : (st == 304) = false := by simpa using a2
          have HB4 := Lib.hid (HB3.out.trans (by rw [show decide (st = 304) = false by simpa using a2, Bool.false_or]))
          clear HB3 a2
          cases q2 : decide (bl m = [67, 79, 78, 78, 69, 67, 84]) with
          | false =>
            rw [q2] at e2
            have HR := Lib.hid (show bareM st (bl m) = false by rw [HB4.out, q2]; rfl)
            clear q2 HB4
            go_enter Tryz.func21, Tryz.ntmps21
            go_wp2_with fail
            go_ret
            exact ⟨ret_bool HR.out.symm, rfl⟩
          | true =>
            rw [q2] at e2
            by_cases a6 : st < 300
            · have f6 : decide (st < 300) = true := by simpa using a6
              have HR := Lib.hid (show bareM st (bl m) = true by rw [HB4.out, q2]; simp [a6])
              clear q2 HB4 a6
              go_enter Tryz.func21, Tryz.ntmps21
              go_wp2_with fail
              go_ret
              exact ⟨ret_bool HR.out.symm, rfl⟩
            · have f6 : decide (st < 300) = false := by simpa using a6
              have HR := Lib.hid (show bareM st (bl m) = false by rw [HB4.out, q2]; simp; omega)
              clear q2 HB4 a6
              go_enter Tryz.func21, Tryz.ntmps21
              go_wp2_with fail
              go_ret
              exact ⟨ret_bool HR.out.symm, rfl⟩
end Go.Proofs.YtemgfppclakdmaaGreatDoor
