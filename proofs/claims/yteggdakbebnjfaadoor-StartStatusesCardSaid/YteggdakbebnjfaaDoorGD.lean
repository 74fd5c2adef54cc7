/-
  What package start's version, readMinor, readStatus do; strings.Cut at a blank; strings.Clone.
  Conditions: those that each theorem names; Go's table of powers of ten is as its text lays it, where a number is written.
-/
import Derived.Test.YteggdakbebnjfaaDoorGB
import Derived.Test.YteggdakbebnjfaaDoorUC
import Derived.Lib.AppendIntMem
import Derived.Lib.AtoiErrMem
namespace Go.Proofs.YteggdakbebnjfaaDoor
open Go.RowKit

def PowT (w : World) : Prop := Lib.TabIs Tryd.prog w "internal/strconv.uint64pow10" .u64 Lib.pow10Tab
theorem PowT.below {w w' : World} (h : PowT w) (hb : Below w.heap.size w w') : PowT w' := Lib.tabBelow_of_tabIs h w' hb
def I64 (n : Int) : Prop := -9223372036854775808 ≤ n ∧ n ≤ 9223372036854775807

/-- strconv.Itoa. -/
theorem itoa_any (n : Int) (w : World) (hn : I64 n) (ht : PowT w) : Calls Tryd.prog 31 #[.int .i64 n] w fun e w' => e = .returned (.string ⟨(Lib.itoa n).toArray⟩) ∧ Below w.heap.size w w' := by
  refine (Tryd.strconv_Itoa n hn.1 hn.2 w ht).mono ?_
  rintro e w' ⟨rfl, k, os, rfl⟩
  exact ⟨rfl, Lib.below_grow _ w (Nat.le_refl _) k os⟩
/-- The text of a version. -/
def versI (n : Int) : List UInt8 := [72, 84, 84, 80, 47, 49, 46] ++ Lib.itoa n
theorem dec_len : ∀ (k u : Nat), u < 10 ^ (k + 1) → (Lib.decDigits u).length ≤ k + 1
  | 0, u, h => by
    rw [Lib.decDigits, dif_pos (by omega)]
    simp
  | k + 1, u, h => by
    rw [Lib.decDigits]
    split
    · simp
    · have := dec_len k (u / 10) (Nat.div_lt_of_lt_mul (by rw [Nat.pow_succ] at h; omega))
      simp
      omega
theorem itoa_len (n : Int) (hn : I64 n) : (Lib.itoa n).length ≤ 20 := by
  obtain ⟨h0, h1⟩ := hn
  unfold Lib.itoa
  split
  · have := dec_len 18 n.natAbs (by show n.natAbs < 10000000000000000000; omega)
    simp
    omega
  · have := dec_len 18 n.toNat (by show n.toNat < 10000000000000000000; omega)
    omega
set_option maxHeartbeats 1000000 in
theorem version_any (n : Int) (w : World) (hn : I64 n) (ht : PowT w) : Calls Tryd.prog 27 #[.int .i64 n] w fun e w' => e = .returned (.string ⟨(versI n).toArray⟩) ∧ Below w.heap.size w w' := by
  have C := Lib.hid (itoa_any n w hn ht)
  have hl := itoa_len n hn
  have HV := Lib.hid (show versI n = [72, 84, 84, 80, 47, 49, 46] ++ Lib.itoa n from rfl)
  clear ht
  generalize Lib.itoa n = D at *
  go_enter Tryd.func27, Tryd.ntmps27
  go_wp2_with fail
  refine C.out.mono ?_
  rintro e w' ⟨rfl, b⟩
  go_wp2_with fail
  go_ret
  refine ⟨?_, b⟩
  rw [HV.out, ← mk_bl ((⟨#[72, 84, 84, 80, 47, 49, 46]⟩ : ByteArray) ++ ⟨D.toArray⟩)]
  simp [bl]
/-- At 0 and 1 no table is read. -/
theorem version_lit (n : Nat) (h : n ≤ 1) (w : World) : Calls Tryd.prog 27 #[.int .i64 (n : Int)] w fun e w' => e = .returned (.string ⟨(versL n).toArray⟩) ∧ w = w' := by
  have C0 := Tryd.strconv_Itoa_small n (by omega) w
  rw [dec_one n (by omega)] at C0
  have C := Lib.hid C0
  clear C0
  rcases (show n = 0 ∨ n = 1 by omega) with rfl | rfl
  all_goals
    go_enter Tryd.func27, Tryd.ntmps27
    go_wp2_with fail
    refine C.out.mono ?_
    rintro e w' ⟨rfl, rfl⟩
    go_wp2_with fail
    go_ret
    exact ⟨by rfl, rfl⟩
/-- What readMinor tells: the minor, and whether it is one. -/
def minV (r : Option Nat) : Value := match r with
  | none => .tuple #[.int .i64 0, .bool false]
  | some n => .tuple #[.int .i64 (n : Int), .bool true]
set_option maxHeartbeats 2000000 in
theorem rdminor_any (s : ByteArray) (w : World) : Calls Tryd.prog 21 #[.string s] w fun e w' => e = .returned (minV (minorF (bl s))) ∧ w = w' := by
  have C0 := Lib.hid (fun X : World => version_lit 0 (by omega) X)
  have C1 := Lib.hid (fun X : World => version_lit 1 (by omega) X)
  by_cases h0 : bl s = versL 0
  · have e0 : (s.toList == [72, 84, 84, 80, 47, 49, 46, 48]) = true := by rw [eq_str]; exact decide_eq_true h0
    have HM := Lib.hid (show minorF (bl s) = some 0 by unfold minorF; rw [if_pos h0])
    clear h0
    go_enter Tryd.func21, Tryd.ntmps21
    go_wp2_with fail
    refine (C0.out _).mono ?_
    rintro e w' ⟨rfl, rfl⟩
    rw [show versL 0 = [72, 84, 84, 80, 47, 49, 46, 48] from rfl]
    go_wp2_with fail
    go_ret2
    exact ⟨by rw [HM.out]; rfl, rfl⟩
  · have e0 : (s.toList == [72, 84, 84, 80, 47, 49, 46, 48]) = false := by rw [eq_str]; exact decide_eq_false h0
    by_cases h1 : bl s = versL 1
    · have e1 : (s.toList == [72, 84, 84, 80, 47, 49, 46, 49]) = true := by rw [eq_str]; exact decide_eq_true h1
      have HM := Lib.hid (show minorF (bl s) = some 1 by unfold minorF; rw [if_neg h0, if_pos h1])
      clear h0 h1
      go_enter Tryd.func21, Tryd.ntmps21
      go_wp2_with fail
      refine (C0.out _).mono ?_
      rintro e w' ⟨rfl, rfl⟩
      rw [show versL 0 = [72, 84, 84, 80, 47, 49, 46, 48] from rfl]
      go_wp2_with fail
      refine (C1.out _).mono ?_
      rintro e w' ⟨rfl, rfl⟩
      rw [show versL 1 = [72, 84, 84, 80, 47, 49, 46, 49] from rfl]
      go_wp2_with fail
      go_ret2
      exact ⟨by rw [HM.out]; rfl, rfl⟩
    · have e1 : (s.toList == [72, 84, 84, 80, 47, 49, 46, 49]) = false := by rw [eq_str]; exact decide_eq_false h1
      have HM := Lib.hid (show minorF (bl s) = none by unfold minorF; rw [if_neg h0, if_neg h1])
      clear h0 h1
      go_enter Tryd.func21, Tryd.ntmps21
      go_wp2_with fail
      refine (C0.out _).mono ?_
      rintro e w' ⟨rfl, rfl⟩
      rw [show versL 0 = [72, 84, 84, 80, 47, 49, 46, 48] from rfl]
      go_wp2_with fail
      refine (C1.out _).mono ?_
      rintro e w' ⟨rfl, rfl⟩
      rw [show versL 1 = [72, 84, 84, 80, 47, 49, 46, 49] from rfl]
      go_wp2_with fail
      go_ret2
      exact ⟨by rw [HM.out]; rfl, rfl⟩
/-- strings.Clone. -/
theorem sclone_any (s : ByteArray) (w : World) (hs : s.size ≤ 281474976710656) : Calls Tryd.prog 23 #[.string s] w fun e w' => e = .returned (.string s) ∧ Below w.heap.size w w' := by
  go_enter Tryd.func23, Tryd.ntmps23
  go_wp2_with fail
  refine (Tryd.stringslite_Clone s w hs).mono ?_
  rintro e w9 ⟨rfl, b9⟩
  go_wp2_with fail
  go_ret
  exact ⟨rfl, b9⟩
/-- strings.Cut at a blank. -/
def CutGot (l : List UInt8) (w : World) (e : Ending) (w' : World) : Prop :=
  e = .returned (.tuple #[.string ⟨(cutP l).1.toArray⟩, .string ⟨(cutP l).2.1.toArray⟩, .bool (cutP l).2.2]) ∧ Below w.heap.size w w'
set_option maxHeartbeats 2000000 in
theorem cut_in (s : ByteArray) (w : World) (hs : s.size ≤ 281474976710656) : Calls Tryd.prog 37 #[.string s, .string ⟨#[32]⟩] w (CutGot (bl s) w) := by
  have C0 := Tryd.stringslite_Index_one s 32 w
  rcases cut_or (bl s) with ⟨hm, hc⟩ | ⟨m, r, hl, hm, hc⟩
  · rw [show Lib.indexByte s.data.toList 32 = -1 from idx_miss _ hm] at C0
    have C := Lib.hid C0
    have HC := Lib.hid hc
    clear C0 hm hc
    go_enter Tryd.func37, Tryd.ntmps37
    go_wp2_with fail
    refine C.out.mono ?_
    rintro e w' ⟨rfl, rfl⟩
    go_wp2_with fail
    go_ret3
    refine ⟨?_, Below.refl _ _⟩
    rw [HC.out]
    simp only
    rw [mk_bl]
    rfl
  · rw [show Lib.indexByte s.data.toList 32 = (m.length : Int) by rw [show s.data.toList = m ++ 32 :: r from hl]; exact idx_hit _ _ hm] at C0
    have C := Lib.hid C0
    have HC := Lib.hid hc
    have hsz : s.size = m.length + 1 + r.length := by rw [← bl_length, hl]; simp; omega
    have x1 : s.extract 0 m.length = ⟨m.toArray⟩ := by
      rw [← mk_bl (s.extract 0 m.length), extract_bl, piece_front, hl, List.take_left' rfl]
    have x2 : s.extract (m.length + 1) s.size = ⟨r.toArray⟩ := by
      rw [← mk_bl (s.extract (m.length + 1) s.size), extract_bl, piece_back, hl, show m ++ 32 :: r = (m ++ [32]) ++ r by simp, List.drop_left' (by simp)]
    have X1 := Lib.hid x1
    have X2 := Lib.hid x2
    clear C0 hm hc hl x1 x2
    have c1 : (0 : Int) ≤ (m.length : Int) := by omega
    have c2 : (m.length : Int) ≤ (s.size : Int) := by omega
    have c3 : (0 : Int) ≤ (m.length : Int) + 1 := by omega
    have c4 : (m.length : Int) + 1 ≤ (s.size : Int) := by omega
    have c5 : IntKind.i64.wrap ((m.length : Int) + 1) = (m.length : Int) + 1 := by rw [IntKind.wrap_i64]; omega
    have c6 : ((m.length : Int) + 1).toNat = m.length + 1 := by omega
    clear hsz
    go_enter Tryd.func37, Tryd.ntmps37
    go_wp2_with fail
    refine C.out.mono ?_
    rintro e v ⟨rfl, rfl⟩
    go_wp2_with fail
    go_quiet (fail)
    have HB : Hid (Below v.heap.size v (v.drewN nq)) := Lib.hid (below_drewN (Below.refl _ _) nq)
    go_wp2_with fail
    go_ret3
    refine ⟨?_, HB.out⟩
    rw [HC.out]
    simp only
    rw [← X1.out, ← X2.out]
    rfl
set_option maxHeartbeats 1000000 in
theorem cut_any (s : ByteArray) (w : World) (hs : s.size ≤ 281474976710656) : Calls Tryd.prog 20 #[.string s, .string ⟨#[32]⟩] w (CutGot (bl s) w) := by
  go_enter Tryd.func20, Tryd.ntmps20
  go_wp2_with fail
  refine (cut_in s w hs).mono ?_
  rintro e w9 ⟨rfl, b9⟩
  go_wp2_with fail
  go_ret3
  exact ⟨rfl, b9⟩
end Go.Proofs.YteggdakbebnjfaaDoor
