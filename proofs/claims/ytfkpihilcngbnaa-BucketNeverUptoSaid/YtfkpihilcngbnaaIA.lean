/-
  Whole numbers below 2^53 as floats: each has one word, and +, -, *, <, int of them are the whole numbers' own.
  Conditions: those that each theorem names.
-/
import Derived.Laws.ComplexArith
namespace Go.Proofs.Ytfkpihilcngbnaa.Buc
open Ieee

theorem log2_shift (n k : Nat) (h : n ≠ 0) : (n * 2 ^ k).log2 = n.log2 + k := by
  have hp : 0 < 2 ^ k := Nat.two_pow_pos k
  have hn : n * 2 ^ k ≠ 0 := Nat.mul_ne_zero h (by omega)
  rw [Nat.log2_eq_iff hn]
  have h1 := Nat.log2_self_le h
  have h2 : n < 2 ^ (n.log2 + 1) := Nat.lt_log2_self
  constructor
  · rw [Nat.pow_add]; exact Nat.mul_le_mul_right _ h1
  · rw [show n.log2 + k + 1 = (n.log2 + 1) + k by omega, Nat.pow_add]; exact Nat.mul_lt_mul_of_pos_right h2 hp

/-- What is cut and was a whole number of units is that number. -/
theorem cut_mul (way : Toward) (s : Bool) (n d : Nat) : way.cut s (n * 2 ^ d) d = n := by
  by_cases h : n = 0
  · subst h
    have hp : 0 < 1 <<< min d 2 := by rw [Nat.shiftLeft_eq]; exact Nat.mul_pos (by omega) (Nat.two_pow_pos _)
    cases way <;> simp [Toward.cut]
  · have hm : min d ((n * 2 ^ d).log2 + 2) = d := by rw [log2_shift n d h]; omega
    have hp : 0 < 2 ^ d := Nat.two_pow_pos d
    have hg : 1 <<< d = 2 ^ d := by rw [Nat.shiftLeft_eq]; omega
    have hq : n * 2 ^ d / 2 ^ d = n := Nat.mul_div_cancel _ hp
    have hr : n * 2 ^ d % 2 ^ d = 0 := Nat.mul_mod_left _ _
    unfold Toward.cut
    rw [hm, hg]
    simp only [hq, hr]
    have h0 : (2 ^ d == 2 * 0) = false := by simp
    cases way <;> simp [h0]

/-- The float of a whole number, with its sign. -/
def fls (s : Bool) (n : Nat) : Nat := Ieee.double.nearest s n 0
def fl (n : Nat) : Nat := fls false n

def rungOf (n : Nat) : Nat := (n.log2 + 1022) * 4503599627370496 + n * 2 ^ (52 - n.log2)

theorem log2_le (n : Nat) (h : n ≠ 0) (hn : n < 9007199254740992) : n.log2 ≤ 52 := by
  have h1 := Nat.log2_self_le h
  by_cases hc : n.log2 ≤ 52
  · exact hc
  · have : 2 ^ 53 ≤ 2 ^ n.log2 := Nat.pow_le_pow_right (by omega) (by omega)
    omega

theorem kept_ge (n : Nat) (h : n ≠ 0) (hn : n < 9007199254740992) : 4503599627370496 ≤ n * 2 ^ (52 - n.log2) ∧ n * 2 ^ (52 - n.log2) < 9007199254740992 := by
  have hl := log2_le n h hn
  have h1 := Nat.log2_self_le h
  have h2 : n < 2 ^ (n.log2 + 1) := Nat.lt_log2_self
  have hp : 0 < 2 ^ (52 - n.log2) := Nat.two_pow_pos _
  constructor
  · have := Nat.mul_le_mul_right (2 ^ (52 - n.log2)) h1
    rwa [← Nat.pow_add, show n.log2 + (52 - n.log2) = 52 by omega] at this
  · have := Nat.mul_lt_mul_of_pos_right h2 hp
    rwa [← Nat.pow_add, show n.log2 + 1 + (52 - n.log2) = 53 by omega] at this

theorem nearest_whole (s : Bool) (n k : Nat) (h : n ≠ 0) (hn : n < 9007199254740992) : Ieee.double.nearest s (n * 2 ^ k) (-(k : Int)) = Ieee.double.word s (rungOf n) := by
  have hl := log2_le n h hn
  obtain ⟨hk1, hk2⟩ := kept_ge n h hn
  have hp : 0 < 2 ^ k := Nat.two_pow_pos k
  have hm : n * 2 ^ k ≠ 0 := Nat.mul_ne_zero h (by omega)
  have hlast : max (-(k : Int) + ((n * 2 ^ k).log2 : Int) - ((Ieee.double.fractionBits : Nat) : Int)) Ieee.double.leastPlace = (n.log2 : Int) - 52 := by
    rw [log2_shift n k h]
    have e : Ieee.double.leastPlace = -1074 := by decide
    have e2 : Ieee.double.fractionBits = 52 := rfl
    rw [e, e2]
    omega
  unfold Format.nearest
  rw [if_neg hm]
  simp only [hlast]
  have hcut : Toward.even.cut s ((n * 2 ^ k) <<< (-(k : Int) - ((n.log2 : Int) - 52)).toNat) (((n.log2 : Int) - 52) - -(k : Int)).toNat = n * 2 ^ (52 - n.log2) := by
    by_cases hc : k ≤ 52 - n.log2
    · rw [show (((n.log2 : Int) - 52) - -(k : Int)).toNat = 0 by omega, show (-(k : Int) - ((n.log2 : Int) - 52)).toNat = 52 - n.log2 - k by omega, Nat.shiftLeft_eq, Nat.mul_assoc, ← Nat.pow_add, show k + (52 - n.log2 - k) = 52 - n.log2 by omega]
      have := cut_mul .even s (n * 2 ^ (52 - n.log2)) 0
      simpa using this
    · rw [show (-(k : Int) - ((n.log2 : Int) - 52)).toNat = 0 by omega, Nat.shiftLeft_zero]
      obtain ⟨d, rfl⟩ : ∃ d, k = (52 - n.log2) + d := ⟨k - (52 - n.log2), by omega⟩
      rw [show (((n.log2 : Int) - 52) - -((((52 - n.log2) + d : Nat)) : Int)).toNat = d by omega, Nat.pow_add, ← Nat.mul_assoc]
      exact cut_mul .even s _ d
  rw [hcut]
  have e : Ieee.double.leastPlace = -1074 := by decide
  have eb : Ieee.double.binade = 4503599627370496 := rfl
  have ei : Ieee.double.infRung = 2047 * 4503599627370496 := by decide
  rw [e, eb, ei, show ((n.log2 : Int) - 52 - -1074).toNat = n.log2 + 1022 by omega]
  congr 1
  have : (n.log2 + 1022) * 4503599627370496 + n * 2 ^ (52 - n.log2) ≤ 2047 * 4503599627370496 := by
    exact (show ∀ x K : Nat, x ≤ 52 → K < 9007199254740992 → (x + 1022) * 4503599627370496 + K ≤ 2047 * 4503599627370496 from by intro x K hx hK; omega) _ _ hl hk2
  rw [Nat.min_eq_left this]
  rfl

theorem fls_pos (s : Bool) (n : Nat) (h : n ≠ 0) (hn : n < 9007199254740992) : fls s n = Ieee.double.word s (rungOf n) := by
  have := nearest_whole s n 0 h hn
  simpa [fls] using this

/-- What is written of a whole number is its float, however it is spelt. -/
theorem write_whole (s : Bool) (n k : Nat) (hn : n < 9007199254740992) : Ieee.double.write (.number s (n * 2 ^ k) (-(k : Int))) = fls s n := by
  by_cases h : n = 0
  · subst h
    simp [Format.write, Format.nearest, fls]
  · simp only [Format.write]
    rw [nearest_whole s n k h hn, fls_pos s n h hn]

theorem word_neg (s : Bool) (r : Nat) (h : r < 9223372036854775808) : (Ieee.double.word s r / Ieee.double.signWeight % 2 == 1) = s ∧ Ieee.double.word s r % Ieee.double.signWeight = r := by
  have e : Ieee.double.signWeight = 9223372036854775808 := rfl
  unfold Format.word
  rw [e]
  cases s
  · simp only [Bool.false_eq_true, if_false]
    rw [Nat.div_eq_of_lt h, Nat.mod_eq_of_lt h]
    exact ⟨rfl, rfl⟩
  · simp only [if_true]
    rw [Nat.add_comm, Nat.add_div_right _ (by decide), Nat.div_eq_of_lt h, Nat.add_mod_right, Nat.mod_eq_of_lt h]
    exact ⟨rfl, rfl⟩

/-- What a whole number's float stands for: that number. -/
theorem read_whole (s : Bool) (n : Nat) (hn : n < 9007199254740992) : ∃ k : Nat, Ieee.double.read (fls s n) = .number s (n * 2 ^ k) (-(k : Int)) := by
  have e : Ieee.double.leastPlace = -1074 := by decide
  have eb : Ieee.double.binade = 4503599627370496 := rfl
  have ei : Ieee.double.infRung = 2047 * 4503599627370496 := by decide
  by_cases h : n = 0
  · subst h
    obtain ⟨k, hk⟩ : ∃ k : Nat, k = 1074 := ⟨_, rfl⟩
    refine ⟨k, ?_⟩
    rw [Nat.zero_mul, hk]
    have h1 : fls s 0 = Ieee.double.word s 0 := by simp [fls, Format.nearest]
    obtain ⟨a, b⟩ := word_neg s 0 (by decide)
    rw [h1]
    unfold Format.read
    simp only [a, b, eb, e]
    rfl
  · have hl := log2_le n h hn
    obtain ⟨hk1, hk2⟩ := kept_ge n h hn
    have hr : rungOf n < 2047 * 4503599627370496 ∧ 4503599627370496 ≤ rungOf n := by
      unfold rungOf
      generalize n * 2 ^ (52 - n.log2) = K at *
      omega
    obtain ⟨a, b⟩ := word_neg s (rungOf n) (by clear hk1 hk2; omega)
    refine ⟨52 - n.log2, ?_⟩
    rw [fls_pos s n h hn]
    unfold Format.read
    simp only [a, b, eb, ei, e]
    rw [if_neg (by clear hk1 hk2; omega), if_pos (by clear hk1 hk2; omega)]
    have hrung : rungOf n = (n.log2 + 1023) * 4503599627370496 + (n * 2 ^ (52 - n.log2) - 4503599627370496) := by
      unfold rungOf
      generalize n * 2 ^ (52 - n.log2) = K at *
      omega
    have hd : rungOf n / 4503599627370496 = n.log2 + 1023 := by
      rw [hrung, Nat.add_comm, Nat.add_mul_div_right _ _ (by decide), Nat.div_eq_of_lt (by generalize n * 2 ^ (52 - n.log2) = K at *; omega)]
      omega
    have hmod : rungOf n % 4503599627370496 = n * 2 ^ (52 - n.log2) - 4503599627370496 := by
      rw [hrung, Nat.add_comm, Nat.add_mul_mod_self_right, Nat.mod_eq_of_lt (by generalize n * 2 ^ (52 - n.log2) = K at *; omega)]
    rw [hd, hmod]
    exact (show ∀ x K : Nat, x ≤ 52 → 4503599627370496 ≤ K → Datum.number s (4503599627370496 + (K - 4503599627370496)) (-1074 + ((x + 1023 - 1 : Nat) : Int)) = .number s K (-((52 - x : Nat) : Int)) from by
      intro x K hx hK
      have e1 : 4503599627370496 + (K - 4503599627370496) = K := by omega
      have e2 : -1074 + ((x + 1023 - 1 : Nat) : Int) = -((52 - x : Nat) : Int) := by omega
      rw [e1, e2]) _ _ hl hk1

theorem base_whole (k j : Nat) : (-(k : Int) - -((max k j : Nat) : Int)).toNat = max k j - k ∧ (-(j : Int) - -((max k j : Nat) : Int)).toNat = max k j - j ∧ min (-(k : Int)) (-(j : Int)) = -((max k j : Nat) : Int) := by omega
theorem neg_whole (z : Nat) (q : Bool) : (if (z : Int) = 0 then (false && q) else decide ((z : Int) < 0)) = false := by
  split
  · rfl
  · exact decide_eq_false (by omega)
theorem neg_under (z : Nat) (q : Bool) (h : 0 < z) : (if (-(z : Int)) = 0 then (false && q) else decide ((-(z : Int)) < 0)) = true := by
  rw [if_neg (by omega)]
  exact decide_eq_true (by omega)
theorem sum_whole (a b P : Nat) : ((a * P : Nat) : Int) + ((b * P : Nat) : Int) = (((a + b) * P : Nat) : Int) := by
  rw [Nat.add_mul]
  rfl
theorem diff_whole (a b P : Nat) (h : b ≤ a) : ((a * P : Nat) : Int) + -((b * P : Nat) : Int) = (((a - b) * P : Nat) : Int) := by
  have hle : b * P ≤ a * P := Nat.mul_le_mul_right _ h
  rw [Nat.sub_mul]
  generalize a * P = A at *
  generalize b * P = B at *
  omega
theorem diff_under (a b P : Nat) (h : a < b) : ((a * P : Nat) : Int) + -((b * P : Nat) : Int) = -(((b - a) * P : Nat) : Int) := by
  have hle : a * P ≤ b * P := Nat.mul_le_mul_right _ (by omega)
  rw [Nat.sub_mul]
  generalize a * P = A at *
  generalize b * P = B at *
  omega
theorem shift_whole (n k j : Nat) : (n * 2 ^ k) <<< (max k j - k) = n * 2 ^ (max k j) := by
  rw [Nat.shiftLeft_eq, Nat.mul_assoc, ← Nat.pow_add, show k + (max k j - k) = max k j by omega]
theorem shift_whole' (n k j : Nat) : (n * 2 ^ j) <<< (max k j - j) = n * 2 ^ (max k j) := by
  rw [Nat.shiftLeft_eq, Nat.mul_assoc, ← Nat.pow_add, show j + (max k j - j) = max k j by omega]

/-- a + b. -/
theorem add_whole (a b : Nat) (h : a + b < 9007199254740992) : Ieee.double.add (fl a) (fl b) = some (fl (a + b)) := by
  obtain ⟨k, hk⟩ := read_whole false a (by omega)
  obtain ⟨j, hj⟩ := read_whole false b (by omega)
  obtain ⟨e1, e2, e3⟩ := base_whole k j
  unfold Format.add
  rw [show Ieee.double.read (fl a) = _ from hk, show Ieee.double.read (fl b) = _ from hj]
  simp only [Datum.sum, e3, e1, e2, Option.map_some, Ieee.signed, Bool.false_eq_true, if_false, shift_whole, shift_whole']
  rw [sum_whole, neg_whole, Int.natAbs_natCast, write_whole false (a + b) _ h]
  rfl

/-- a - b, for b up to a. -/
theorem sub_whole (a b : Nat) (h : b ≤ a) (ha : a < 9007199254740992) : Ieee.double.sub (fl a) (fl b) = some (fl (a - b)) := by
  obtain ⟨k, hk⟩ := read_whole false a (by omega)
  obtain ⟨j, hj⟩ := read_whole false b (by omega)
  obtain ⟨e1, e2, e3⟩ := base_whole k j
  unfold Format.sub
  rw [show Ieee.double.read (fl a) = _ from hk, show Ieee.double.read (fl b) = _ from hj]
  simp only [Datum.opposite, Datum.sum, e3, e1, e2, Option.map_some, Ieee.signed, Bool.not_false, if_true, Bool.false_eq_true, if_false, shift_whole, shift_whole']
  rw [diff_whole _ _ _ h, neg_whole, Int.natAbs_natCast, write_whole false (a - b) _ (by omega)]
  rfl

/-- a - b, for b above a: below nought. -/
theorem sub_under (a b : Nat) (h : a < b) (hb : b < 9007199254740992) : Ieee.double.sub (fl a) (fl b) = some (fls true (b - a)) := by
  obtain ⟨k, hk⟩ := read_whole false a (by omega)
  obtain ⟨j, hj⟩ := read_whole false b (by omega)
  obtain ⟨e1, e2, e3⟩ := base_whole k j
  unfold Format.sub
  rw [show Ieee.double.read (fl a) = _ from hk, show Ieee.double.read (fl b) = _ from hj]
  simp only [Datum.opposite, Datum.sum, e3, e1, e2, Option.map_some, Ieee.signed, Bool.not_false, if_true, Bool.false_eq_true, if_false, shift_whole, shift_whole']
  have hp : 0 < 2 ^ max k j := Nat.two_pow_pos _
  have hpos : 0 < (b - a) * 2 ^ max k j := Nat.mul_pos (by omega) hp
  rw [diff_under _ _ _ h, neg_under _ _ hpos, Int.natAbs_neg, Int.natAbs_natCast, write_whole true (b - a) _ (by omega)]

/-- a * b. -/
theorem mul_whole (a b : Nat) (ha : a < 9007199254740992) (hb : b < 9007199254740992) (h : a * b < 9007199254740992) : Ieee.double.mul (fl a) (fl b) = some (fl (a * b)) := by
  obtain ⟨k, hk⟩ := read_whole false a ha
  obtain ⟨j, hj⟩ := read_whole false b hb
  unfold Format.mul
  rw [show Ieee.double.read (fl a) = _ from hk, show Ieee.double.read (fl b) = _ from hj]
  simp only [Datum.product, Option.map_some, Bool.xor_self]
  rw [show a * 2 ^ k * (b * 2 ^ j) = (a * b) * 2 ^ (k + j) by rw [Nat.pow_add]; simp only [Nat.mul_assoc, Nat.mul_left_comm], show -(k : Int) + -(j : Int) = -((k + j : Nat) : Int) by omega, write_whole false (a * b) _ h]
  rfl

/-- How whole numbers stand to each other. -/
theorem order_whole (a b : Nat) (ha : a < 9007199254740992) (hb : b < 9007199254740992) : Ieee.double.order (fl a) (fl b) = some (compare a b) := by
  obtain ⟨k, hk⟩ := read_whole false a ha
  obtain ⟨j, hj⟩ := read_whole false b hb
  obtain ⟨e1, e2, e3⟩ := base_whole k j
  unfold Format.order
  rw [show Ieee.double.read (fl a) = _ from hk, show Ieee.double.read (fl b) = _ from hj]
  simp only [Datum.order, e3, e1, e2, Ieee.signed, Bool.false_eq_true, if_false, shift_whole, shift_whole']
  have hp : 0 < 2 ^ max k j := Nat.two_pow_pos _
  congr 1
  rcases Nat.lt_trichotomy a b with h | h | h
  · rw [Nat.compare_eq_lt.2 h]
    exact Int.compare_eq_lt.2 (Int.ofNat_lt.2 (Nat.mul_lt_mul_of_pos_right h hp))
  · subst h
    rw [Nat.compare_eq_eq.2 rfl]
    exact Int.compare_eq_eq.2 rfl
  · rw [Nat.compare_eq_gt.2 h]
    exact Int.compare_eq_gt.2 (Int.ofNat_lt.2 (Nat.mul_lt_mul_of_pos_right h hp))

/-- What is below nought stands below nought. -/
theorem order_under (a : Nat) (h0 : 0 < a) (ha : a < 9007199254740992) : Ieee.double.order (fls true a) (fl 0) = some .lt := by
  obtain ⟨k, hk⟩ := read_whole true a ha
  obtain ⟨j, hj⟩ := read_whole false 0 (by omega)
  obtain ⟨e1, e2, e3⟩ := base_whole k j
  unfold Format.order
  rw [hk, show Ieee.double.read (fl 0) = _ from hj]
  simp only [Datum.order, e3, e1, e2, Ieee.signed, Bool.false_eq_true, if_false, if_true, shift_whole, shift_whole']
  have hp : 0 < a * 2 ^ max k j := Nat.mul_pos h0 (Nat.two_pow_pos _)
  congr 1
  refine Int.compare_eq_lt.2 ?_
  rw [Nat.zero_mul]
  omega

/-- A whole number's float, made an integer. -/
theorem toInt_whole (a : Nat) (ha : a < 9007199254740992) : (Ieee.double.read (fl a)).toInt .zero = some (a : Int) := by
  obtain ⟨k, hk⟩ := read_whole false a ha
  rw [show Ieee.double.read (fl a) = _ from hk]
  simp only [Datum.toInt, Datum.integral]
  rw [show (-(k : Int)).toNat = 0 by omega, show (-(-(k : Int))).toNat = k by omega, Nat.shiftLeft_zero, cut_mul]
  simp [Ieee.signed]
end Go.Proofs.Ytfkpihilcngbnaa.Buc
