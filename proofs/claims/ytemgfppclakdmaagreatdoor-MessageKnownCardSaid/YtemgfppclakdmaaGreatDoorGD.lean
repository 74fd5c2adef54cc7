/-
  What package start's version, readMinor, readStatus do; strings.Cut at a blank; strings.Clone.
  Conditions: those that each theorem names; Go's table of powers of ten is as its text lays it, where a number is written.
-/
import Derived.Test.YtemgfppclakdmaaGreatDoorGA
import Derived.IntWalk
import Derived.Test.YtemgfppclakdmaaGreatDoorUC
import Derived.Lib.AppendIntMem
import Derived.Lib.AtoiErrMem
namespace Go.Proofs.YtemgfppclakdmaaGreatDoor.Sta
open Go.RowKit

set_option maxHeartbeats 1000000 in
theorem targ_says (c : UInt8) (w : World) : Calls Tryz.prog 125 #[.int .u8 (c.toNat : Int)] w fun e w' => e = .returned (.bool (targB c)) ∧ w = w' := by
  have HS := Lib.hid (show targB c = (decide (33 ≤ c.toNat) && decide (c.toNat ≤ 126)) from rfl)
  go_enter Tryz.func125, Tryz.ntmps125
  go_wp2
  all_goals
    go_ret
    refine ⟨ret_bool ?_, rfl⟩
    rw [HS.out]
    clear HS
    rw [Bool.eq_iff_iff]
    simp
  all_goals omega
set_option maxHeartbeats 1000000 in
theorem dig_says (c : UInt8) (w : World) : Calls Tryz.prog 106 #[.int .u8 (c.toNat : Int)] w fun e w' => e = .returned (.bool (digB c)) ∧ w = w' := by
  have HS := Lib.hid (show digB c = (decide (48 ≤ c.toNat) && decide (c.toNat ≤ 57)) from rfl)
  go_enter Tryz.func106, Tryz.ntmps106
  go_wp2
  all_goals
    go_ret
    refine ⟨ret_bool ?_, rfl⟩
    rw [HS.out]
    clear HS
    rw [Bool.eq_iff_iff]
    simp
  all_goals omega

theorem all_noS (l : List UInt8) (p : UInt8 → Bool) (c : UInt8) (k : Nat) (h : l[k]? = some c) (hc : p c = false) : l.all p = false := by
  rw [Bool.eq_false_iff]
  intro hall
  have := List.all_eq_true.1 hall c (List.mem_of_getElem? h)
  rw [hc] at this
  cases this
set_option maxHeartbeats 2000000 in
set_option maxRecDepth 100000 in
theorem sall_any (f : FuncId) (hf : f = 125 ∨ f = 106) (p : UInt8 → Bool)
    (hp : ∀ (c : UInt8) (w : World), Calls Tryz.prog f #[.int .u8 (c.toNat : Int)] w fun e w' => e = .returned (.bool (p c)) ∧ w = w') (s : ByteArray) (w : World) (hs : s.size ≤ 281474976710656) :
    Calls Tryz.prog 105 #[.string s, .func (.func f) #[] #[]] w fun e w' => e = .returned (.bool ((bl s).all p)) ∧ w = w' := by
  have CL := Lib.hid hp
  clear hp
  rcases hf with rfl | rfl
  all_goals
    go_enter Tryz.func105, Tryz.ntmps105
    go_wp2_with fail
    go_loopw [8] (fun vi wr => ∃ k : Nat, vi = .int .i64 (k : Int) ∧ k ≤ s.size ∧ Hid (((bl s).take k).all p = true) ∧ w = wr) (fun vi _ => s.size - (intOf vi).toNat)
    case atStart => exact ⟨0, rfl, Nat.zero_le _, Lib.hid rfl, rfl⟩
    case round =>
      obtain ⟨k, rfl, hk, HA, rfl⟩ := hrel
      by_cases hlt : k < s.size
      · have HTK := Lib.hid (bl_take s k hlt)
        have HG := Lib.hid (bl_get s k hlt)
        have C := Lib.hid (CL.out s[k] w)
        cases hpc : p s[k] with
        | true =>
          rw [hpc] at C
          have HN := Lib.hid (show ((bl s).take (k + 1)).all p = true by rw [HTK.out, List.all_append, HA.out]; simp [hpc])
          clear HTK HG hpc
          go_wp2_with fail
          refine C.out.mono ?_
          rintro e w2 ⟨rfl, rfl⟩
          go_wp2_with fail
          go_roundw
          case rel => exact ⟨k + 1, by go_num, hlt, HN, trivial⟩
          case measure => simp [intOf]; omega
        | false =>
          rw [hpc] at C
          have HN := Lib.hid (all_noS (bl s) p s[k] k HG.out hpc)
          clear HTK HG hpc
          go_wp2_with fail
          refine C.out.mono ?_
          rintro e w2 ⟨rfl, rfl⟩
          go_wp2_with fail
          go_ret
          exact ⟨ret_bool HN.out.symm, rfl⟩
      · have HF := Lib.hid (show (bl s).all p = true by
          have h1 := HA.out
          rw [List.take_of_length_le (by rw [bl_length]; omega)] at h1
          exact h1)
        go_wp2_with fail
        go_ret
        exact ⟨ret_bool HF.out.symm, rfl⟩

set_option maxHeartbeats 1000000 in
theorem istarg_any (s : ByteArray) (w : World) (hs : s.size ≤ 281474976710656) : Calls Tryz.prog 88 #[.string s] w fun e w' => e = .returned (.bool (targF (bl s))) ∧ w = w' := by
  have C := Lib.hid (sall_any 125 (.inl rfl) targB targ_says s w hs)
  cases hl : bl s with
  | nil =>
    have e1 : s.toList = [] := by rw [Lib.toList_data]; exact hl
    have e2 : (!s.toList.isEmpty) = false := by rw [e1]; rfl
    clear C hl
    go_enter Tryz.func88, Tryz.ntmps88
    go_wp2_with fail
    go_ret
    exact ⟨rfl, rfl⟩
  | cons c l =>
    have e1 : s.toList = c :: l := by rw [Lib.toList_data]; exact hl
    have e2 : (!s.toList.isEmpty) = true := by rw [e1]; rfl
    have e3 : s.toList.isEmpty = false := by rw [e1]; rfl
    have HF := Lib.hid (show (bl s).all targB = targF (c :: l) by rw [hl]; simp [targF])
    clear hl e1
    go_enter Tryz.func88, Tryz.ntmps88
    go_wp2_with fail
    refine C.out.mono ?_
    rintro e w' ⟨rfl, rfl⟩
    go_wp2_with fail
    go_ret
    exact ⟨ret_bool HF.out, rfl⟩
def minB (n : Int) : Bool := decide (n = 0) || decide (n = 1)
theorem isminor_any (n : Int) (w : World) : Calls Tryz.prog 89 #[.int .i64 n] w fun e w' => e = .returned (.bool (minB n)) ∧ w = w' := by
  have HS := Lib.hid (show minB n = (decide (n = 0) || decide (n = 1)) from rfl)
  go_enter Tryz.func89, Tryz.ntmps89
  go_wp2
  all_goals
    go_ret
    refine ⟨ret_bool ?_, rfl⟩
    rw [HS.out]
    clear HS
    rw [Bool.eq_iff_iff]
    simp
  all_goals (try simp only [beq_eq_false_iff_ne, beq_iff_eq, ne_eq] at *)
  all_goals omega
end Go.Proofs.YtemgfppclakdmaaGreatDoor.Sta

namespace Go.Proofs.YtemgfppclakdmaaGreatDoor.Sta
open Go.RowKit

def PowT (w : World) : Prop := Lib.TabIs Tryz.prog w "internal/strconv.uint64pow10" .u64 Lib.pow10Tab
theorem PowT.below {w w' : World} (h : PowT w) (hb : Below w.heap.size w w') : PowT w' := Lib.tabBelow_of_tabIs h w' hb
def I64 (n : Int) : Prop := -9223372036854775808 ≤ n ∧ n ≤ 9223372036854775807

/-- strconv.Itoa. -/
theorem itoa_any (n : Int) (w : World) (hn : I64 n) (ht : PowT w) : Calls Tryz.prog 77 #[.int .i64 n] w fun e w' => e = .returned (.string ⟨(Lib.itoa n).toArray⟩) ∧ Below w.heap.size w w' := by
  refine (Tryz.strconv_Itoa n hn.1 hn.2 w ht).mono ?_
  rintro e w' ⟨rfl, k, os, rfl⟩
  exact ⟨rfl, Lib.below_grow _ w (Nat.le_refl _) k os⟩
/-- The text of a version. -/
def versI (n : Int) : List UInt8 := [72, 84, 84, 80, 47, 49, 46] ++ Lib.itoa n
theorem dec_len : ∀ (k u : Nat), u < 10 ^ (k + 1) → (Lib.decDigits u).length ≤ k + 1
  | 0, u, h => by
    rw [Lib.decDigits, dif_pos (by omega)]
    simp
  | k + 1, u, h => by
    rw [Lib.decDigits]
    split
    · simp
    · have := dec_len k (u / 10) (Nat.div_lt_of_lt_mul (by rw [Nat.pow_succ] at h; omega))
      simp
      omega
theorem itoa_len (n : Int) (hn : I64 n) : (Lib.itoa n).length ≤ 20 := by
  obtain ⟨h0, h1⟩ := hn
  unfold Lib.itoa
  split
  · have := dec_len 18 n.natAbs (by show n.natAbs < 10000000000000000000; omega)
    simp
    omega
  · have := dec_len 18 n.toNat (by show n.toNat < 10000000000000000000; omega)
    omega
set_option maxHeartbeats 1000000 in
theorem version_any (n : Int) (w : World) (hn : I64 n) (ht : PowT w) : Calls Tryz.prog 71 #[.int .i64 n] w fun e w' => e = .returned (.string ⟨(versI n).toArray⟩) ∧ Below w.heap.size w w' := by
  have C := Lib.hid (itoa_any n w hn ht)
  have hl := itoa_len n hn
  have HV := Lib.hid (show versI n = [72, 84, 84, 80, 47, 49, 46] ++ Lib.itoa n from rfl)
  clear ht
  generalize Lib.itoa n = D at *
  go_enter Tryz.func71, Tryz.ntmps71
  go_wp2_with fail
  refine C.out.mono ?_
  rintro e w' ⟨rfl, b⟩
  go_wp2_with fail
  go_ret
  refine ⟨?_, b⟩
  rw [HV.out, ← mk_bl ((⟨#[72, 84, 84, 80, 47, 49, 46]⟩ : ByteArray) ++ ⟨D.toArray⟩)]
  simp [bl]
/-- At 0 and 1 no table is read. -/
theorem version_lit (n : Nat) (h : n ≤ 1) (w : World) : Calls Tryz.prog 71 #[.int .i64 (n : Int)] w fun e w' => e = .returned (.string ⟨(versL n).toArray⟩) ∧ w = w' := by
  have C0 := Tryz.strconv_Itoa_small n (by omega) w
  rw [dec_one n (by omega)] at C0
  have C := Lib.hid C0
  clear C0
  rcases (show n = 0 ∨ n = 1 by omega) with rfl | rfl
  all_goals
    go_enter Tryz.func71, Tryz.ntmps71
    go_wp2_with fail
    refine C.out.mono ?_
    rintro e w' ⟨rfl, rfl⟩
    go_wp2_with fail
    go_ret
    exact ⟨by rfl, rfl⟩
/-- What readMinor tells: the minor, and whether it is one. -/
def minV (r : Option Nat) : Value := match r with
  | none => .tuple #[.int .i64 0, .bool false]
  | some n => .tuple #[.int .i64 (n : Int), .bool true]
set_option maxHeartbeats 2000000 in
theorem rdminor_any (s : ByteArray) (w : World) : Calls Tryz.prog 53 #[.string s] w fun e w' => e = .returned (minV (minorF (bl s))) ∧ w = w' := by
  have C0 := Lib.hid (fun X : World => version_lit 0 (by omega) X)
  have C1 := Lib.hid (fun X : World => version_lit 1 (by omega) X)
  by_cases h0 : bl s = versL 0
  · have e0 : (s.toList == [72, 84, 84, 80, 47, 49, 46, 48]) = true := by rw [eq_str]; exact decide_eq_true h0
    have HM := Lib.hid (show minorF (bl s) = some 0 by unfold minorF; rw [if_pos h0])
    clear h0
    go_enter Tryz.func53, Tryz.ntmps53
    go_wp2_with fail
    refine (C0.out _).mono ?_
    rintro e w' ⟨rfl, rfl⟩
    rw [show versL 0 = [72, 84, 84, 80, 47, 49, 46, 48] from rfl]
    go_wp2_with fail
    go_ret2
    exact ⟨by rw [HM.out]; rfl, rfl⟩
  · have e0 : (s.toList == [72, 84, 84, 80, 47, 49, 46, 48]) = false := by rw [eq_str]; exact decide_eq_false h0
    by_cases h1 : bl s = versL 1
    · have e1 : (s.toList == [72, 84, 84, 80, 47, 49, 46, 49]) = true := by rw [eq_str]; exact decide_eq_true h1
      have HM := Lib.hid (show minorF (bl s) = some 1 by unfold minorF; rw [if_neg h0, if_pos h1])
      clear h0 h1
      go_enter Tryz.func53, Tryz.ntmps53
      go_wp2_with fail
      refine (C0.out _).mono ?_
      rintro e w' ⟨rfl, rfl⟩
      rw [show versL 0 = [72, 84, 84, 80, 47, 49, 46, 48] from rfl]
      go_wp2_with fail
      refine (C1.out _).mono ?_
      rintro e w' ⟨rfl, rfl⟩
      rw [show versL 1 = [72, 84, 84, 80, 47, 49, 46, 49] from rfl]
      go_wp2_with fail
      go_ret2
      exact ⟨by rw [HM.out]; rfl, rfl⟩
    · have e1 : (s.toList == [72, 84, 84, 80, 47, 49, 46, 49]) = false := by rw [eq_str]; exact decide_eq_false h1
      have HM := Lib.hid (show minorF (bl s) = none by unfold minorF; rw [if_neg h0, if_neg h1])
      clear h0 h1
      go_enter Tryz.func53, Tryz.ntmps53
      go_wp2_with fail
      refine (C0.out _).mono ?_
      rintro e w' ⟨rfl, rfl⟩
      rw [show versL 0 = [72, 84, 84, 80, 47, 49, 46, 48] from rfl]
      go_wp2_with fail
      refine (C1.out _).mono ?_
      rintro e w' ⟨rfl, rfl⟩
      rw [show versL 1 = [72, 84, 84, 80, 47, 49, 46, 49] from rfl]
      go_wp2_with fail
      go_ret2
      exact ⟨by rw [HM.out]; rfl, rfl⟩
/-- strings.Clone. -/
theorem sclone_any (s : ByteArray) (w : World) (hs : s.size ≤ 281474976710656) : Calls Tryz.prog 55 #[.string s] w fun e w' => e = .returned (.string s) ∧ Below w.heap.size w w' := by
  go_enter Tryz.func55, Tryz.ntmps55
  go_wp2_with fail
  refine (Tryz.stringslite_Clone s w hs).mono ?_
  rintro e w9 ⟨rfl, b9⟩
  go_wp2_with fail
  go_ret
  exact ⟨rfl, b9⟩
/-- strings.Cut at a blank. -/
def CutGot (l : List UInt8) (w : World) (e : Ending) (w' : World) : Prop :=
  e = .returned (.tuple #[.string ⟨(cutP l).1.toArray⟩, .string ⟨(cutP l).2.1.toArray⟩, .bool (cutP l).2.2]) ∧ Below w.heap.size w w'
set_option maxHeartbeats 2000000 in
theorem cut_in (s : ByteArray) (w : World) (hs : s.size ≤ 281474976710656) : Calls Tryz.prog 86 #[.string s, .string ⟨#[32]⟩] w (CutGot (bl s) w) := by
  have C0 := Tryz.stringslite_Index_one s 32 w
  rcases cut_or (bl s) with ⟨hm, hc⟩ | ⟨m, r, hl, hm, hc⟩
  · rw [show Lib.indexByte s.data.toList 32 = -1 from idx_miss _ hm] at C0
    have C := Lib.hid C0
    have HC := Lib.hid hc
    clear C0 hm hc
    go_enter Tryz.func86, Tryz.ntmps86
    go_wp2_with fail
    refine C.out.mono ?_
    rintro e w' ⟨rfl, rfl⟩
    go_wp2_with fail
    go_ret3
    refine ⟨?_, Below.refl _ _⟩
    rw [HC.out]
    simp only
    rw [mk_bl]
    rfl
  · rw [show Lib.indexByte s.data.toList 32 = (m.length : Int) by rw [show s.data.toList = m ++ 32 :: r from hl]; exact idx_hit _ _ hm] at C0
    have C := Lib.hid C0
    have HC := Lib.hid hc
    have hsz : s.size = m.length + 1 + r.length := by rw [← bl_length, hl]; simp; omega
    have x1 : s.extract 0 m.length = ⟨m.toArray⟩ := by
      rw [← mk_bl (s.extract 0 m.length), extract_bl, piece_front, hl, List.take_left' rfl]
    have x2 : s.extract (m.length + 1) s.size = ⟨r.toArray⟩ := by
      rw [← mk_bl (s.extract (m.length + 1) s.size), extract_bl, piece_back, hl, show m ++ 32 :: r = (m ++ [32]) ++ r by simp, List.drop_left' (by simp)]
    have X1 := Lib.hid x1
    have X2 := Lib.hid x2
    clear C0 hm hc hl x1 x2
    have c1 : (0 : Int) ≤ (m.length : Int) := by omega
    have c2 : (m.length : Int) ≤ (s.size : Int) := by omega
    have c3 : (0 : Int) ≤ (m.length : Int) + 1 := by omega
    have c4 : (m.length : Int) + 1 ≤ (s.size : Int) := by omega
    have c5 : IntKind.i64.wrap ((m.length : Int) + 1) = (m.length : Int) + 1 := by rw [IntKind.wrap_i64]; omega
    have c6 : ((m.length : Int) + 1).toNat = m.length + 1 := by omega
    clear hsz
    go_enter Tryz.func86, Tryz.ntmps86
    go_wp2_with fail
    refine C.out.mono ?_
    rintro e v ⟨rfl, rfl⟩
    go_wp2_with fail
    go_quiet (fail)
    have HB : Hid (Below v.heap.size v (v.drewN nq)) := Lib.hid (below_drewN (Below.refl _ _) nq)
    go_wp2_with fail
    go_ret3
    refine ⟨?_, HB.out⟩
    rw [HC.out]
    simp only
    rw [← X1.out, ← X2.out]
    rfl
set_option maxHeartbeats 1000000 in
theorem cut_any (s : ByteArray) (w : World) (hs : s.size ≤ 281474976710656) : Calls Tryz.prog 52 #[.string s, .string ⟨#[32]⟩] w (CutGot (bl s) w) := by
  go_enter Tryz.func52, Tryz.ntmps52
  go_wp2_with fail
  refine (cut_in s w hs).mono ?_
  rintro e w9 ⟨rfl, b9⟩
  go_wp2_with fail
  go_ret3
  exact ⟨rfl, b9⟩
end Go.Proofs.YtemgfppclakdmaaGreatDoor.Sta
