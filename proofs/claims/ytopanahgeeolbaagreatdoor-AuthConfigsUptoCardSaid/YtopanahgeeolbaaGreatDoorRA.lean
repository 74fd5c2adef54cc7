/-
  What the document's own text functions do (the reference): shown, Visible, Token.
  Conditions: those that each theorem names.
-/
import Derived.Test.YtopanahgeeolbaaGreatDoorBL
namespace Go.Proofs.YtopanahgeeolbaaGreatDoor
open Go.RowKit

def shownB (c : UInt8) : Bool := c == 9 || (32 ≤ c && c ≤ 126) || 128 ≤ c
theorem shownB_nat (c : UInt8) : shownB c = (((c.toNat : Int) == 9) || (decide (32 ≤ (c.toNat : Int)) && decide ((c.toNat : Int) ≤ 126)) || decide (128 ≤ (c.toNat : Int))) := by
  unfold shownB
  rw [Bool.eq_iff_iff]
  simp [UInt8.le_iff_toNat_le, ← UInt8.toNat_inj]
  omega


def visF (l : List UInt8) : Bool := l.all shownB
theorem visF_no (l : List UInt8) (k : Nat) (c : UInt8) (h : l[k]? = some c) (hc : shownB c = false) : visF l = false := by
  have hm : c ∈ l := List.mem_of_getElem? h
  unfold visF
  rw [Bool.eq_false_iff]
  intro hall
  have := List.all_eq_true.1 hall c hm
  rw [hc] at this
  cases this


/-- The signs that a token may have. -/
def signsS : ByteArray := ⟨#[33, 35, 36, 37, 38, 39, 42, 43, 45, 46, 94, 95, 96, 124, 126]⟩
def alnumB (c : UInt8) : Bool := (97 ≤ c && c ≤ 122) || (65 ≤ c && c ≤ 90) || (48 ≤ c && c ≤ 57)
def signB (c : UInt8) (k : Nat) : Bool := alnumB c || ((bl signsS).take k).any (· == c)
def tokB (c : UInt8) : Bool := signB c 15
def tokF (l : List UInt8) : Bool := !l.isEmpty && l.all tokB
theorem alnumB_nat (c : UInt8) : alnumB c = ((decide (97 ≤ (c.toNat : Int)) && decide ((c.toNat : Int) ≤ 122)) || (decide (65 ≤ (c.toNat : Int)) && decide ((c.toNat : Int) ≤ 90)) || (decide (48 ≤ (c.toNat : Int)) && decide ((c.toNat : Int) ≤ 57))) := by
  unfold alnumB
  rw [Bool.eq_iff_iff]
  simp [UInt8.le_iff_toNat_le]
  omega
theorem tokF_no (l : List UInt8) (k : Nat) (c : UInt8) (h : l[k]? = some c) (hc : signB c 15 = false) : tokF l = false := by
  have hm : c ∈ l := List.mem_of_getElem? h
  unfold tokF
  rw [Bool.and_eq_false_iff]
  right
  rw [Bool.eq_false_iff]
  intro hall
  have := List.all_eq_true.1 hall c hm
  rw [tokB, hc] at this
  cases this
theorem signB_zero (c : UInt8) : signB c 0 = alnumB c := by simp [signB]
theorem signB_succ (c : UInt8) (k : Nat) (h : k < signsS.size) : signB c (k + 1) = (signB c k || ((signsS[k].toNat : Int) == (c.toNat : Int))) := by
  unfold signB
  rw [bl_take _ _ h, List.any_append, Bool.or_assoc]
  congr 2
  rw [Bool.eq_iff_iff]
  simp [← UInt8.toNat_inj]
  omega

set_option maxHeartbeats 1000000 in
set_option maxRecDepth 100000 in
theorem token_any (s : ByteArray) (w : World) (hs : s.size ≤ maxLen) : Calls Tryz.prog 73 #[.string s] w fun e w' => e = .returned (.bool (tokF (bl s))) ∧ w = w' := by
  unfold maxLen at hs
  go_enter Tryz.func73, Tryz.ntmps73
  go_wp2
  rw [show (⟨#[33, 35, 36, 37, 38, 39, 42, 43, 45, 46, 94, 95, 96, 124, 126]⟩ : ByteArray) = signsS from rfl]
  have hz1 : signsS.size ≤ 15 := by decide
  have hz2 : 15 ≤ signsS.size := by decide
  go_loopw [4] (fun i wx => ∃ k : Nat, k ≤ s.size ∧ i = .int .i64 k ∧ ((bl s).take k).all tokB = true ∧ w = wx) (fun i _ => s.size - (intOf i).toNat)
  case atStart => exact ⟨0, Nat.zero_le _, rfl, rfl, rfl⟩
  case round =>
    obtain ⟨k, hk, rfl, hall, rfl⟩ := hrel
    have HALL := Lib.hid hall
    clear hall
    by_cases hlt : k < s.size
    · go_upto_region 6 with fail
      go_cut [6] (fun v wx => v = .bool (signB s[k] 0) ∧ w = wx)
      case first =>
        have ha := alnumB_nat s[k]
        have HA := Lib.hid ha
        clear ha
        go_wp2
        all_goals
          go_meet
          refine ⟨?_, rfl⟩
          rw [signB_zero, HA.out]
          clear HA
          congr 1
          rw [Bool.eq_iff_iff]
          simp
        all_goals omega
      case rest =>
        obtain ⟨rfl, rfl⟩ := hcut
        go_wp2
        go_loopw [6, 7] (fun v j wx => ∃ n : Nat, n ≤ signsS.size ∧ j = .int .i64 n ∧ v = .bool (signB s[k] n) ∧ w = wx) (fun _ j _ => signsS.size - (intOf j).toNat)
        case atStart => exact ⟨0, Nat.zero_le _, rfl, rfl, rfl⟩
        case round =>
          obtain ⟨n, hn, rfl, rfl, rfl⟩ := hrel
          by_cases hln : n < signsS.size
          · have hsu := signB_succ s[k] n hln
            have HSU := Lib.hid hsu
            clear hsu
            cases hb : signB s[k] n with
            | true =>
              have HB := Lib.hid hb
              clear hb
              go_wp2
              exact ⟨⟨n + 1, hln, by simp, by rw [HSU.out, HB.out]; rfl, trivial⟩, by simp [intOf]; omega⟩
            | false =>
              have HB := Lib.hid hb
              clear hb
              go_wp2
              exact ⟨⟨n + 1, hln, by simp, by rw [HSU.out, HB.out]; simp, trivial⟩, by simp [intOf]; omega⟩
          · obtain rfl : n = 15 := by omega
            cases hb : signB s[k] 15 with
            | true =>
              have HB := Lib.hid hb
              clear hb
              go_wp2
              exact ⟨⟨k + 1, hlt, by simp, by rw [bl_take s k hlt]; simp only [List.all_append, List.all_cons, List.all_nil, tokB, HB.out, Bool.and_true]; exact HALL.out, trivial⟩, by simp [intOf]; omega⟩
            | false =>
              have HB := Lib.hid hb
              clear hb
              go_wp2
              go_ret
              exact ⟨ret_bool (tokF_no _ k _ (bl_get s k hlt) HB.out).symm, rfl⟩
    · go_wp2
      go_ret
      refine ⟨ret_bool ?_, rfl⟩
      have h := HALL.out
      rw [List.take_of_length_le (by rw [bl_length]; omega)] at h
      unfold tokF
      rw [h, Bool.and_true, ← bl_length, Bool.eq_iff_iff]
      simp [List.length_pos_iff]
end Go.Proofs.YtopanahgeeolbaaGreatDoor
