/-
  What package date's within, ahead and monthNamed answer.
  Conditions: those that each theorem names.
-/
import Derived.Test.YtdcbcjljmjnopaaGreatDoorNA
import Derived.Test.YtdcbcjljmjnopaaGreatDoorUA
import Derived.Lib.AtoiErrMem
namespace Go.Proofs.YtdcbcjljmjnopaaGreatDoor
open Go.RowKit

/-- Has a year a day more? -/
def leapB (y : Nat) : Bool := decide ((y % 4 = 0 ∧ ¬ y % 100 = 0) ∨ y % 400 = 0)
/-- Days of the year that is k years behind 1970. -/
def yl (k : Nat) : Nat := if leapB (1970 + k) = true then 366 else 365
def mdays (m : Nat) : Nat := [31, 28, 31, 30, 31, 30, 31, 31, 30, 31, 30, 31].getD m 0
def ml (y m : Nat) : Nat := if m = 1 ∧ leapB y = true then 29 else mdays m
/-- Days of the first k spans. -/
def sumF (f : Nat → Nat) : Nat → Nat
  | 0 => 0
  | k + 1 => sumF f k + f k
/-- The span in which a day is, of n more at most, and its place there. -/
def findF (f : Nat → Nat) : Nat → Nat → Nat → Nat × Nat
  | 0, k, d => (k, d)
  | n + 1, k, d => if d < f k then (k, d) else findF f n (k + 1) (d - f k)
/-- Day d is in span k, r days behind its first. -/
def Within (f : Nat → Nat) (d k r : Nat) : Prop := d = sumF f k + r ∧ r < f k

theorem sumF_mono (f : Nat → Nat) {a b : Nat} (h : a ≤ b) : sumF f a ≤ sumF f b := by
  induction h with
  | refl => exact Nat.le_refl _
  | step _ ih => exact Nat.le_trans ih (Nat.le_add_right _ _)
theorem within_one {f : Nat → Nat} {d k r k' r' : Nat} (h : Within f d k r) (h' : Within f d k' r') : k = k' ∧ r = r' := by
  obtain ⟨h1, h2⟩ := h
  obtain ⟨h3, h4⟩ := h'
  rcases Nat.lt_trichotomy k k' with hk | rfl | hk
  · have := sumF_mono f (show k + 1 ≤ k' from hk)
    have e : sumF f (k + 1) = sumF f k + f k := rfl
    omega
  · exact ⟨rfl, by omega⟩
  · have := sumF_mono f (show k' + 1 ≤ k from hk)
    have e : sumF f (k' + 1) = sumF f k' + f k' := rfl
    omega
theorem findF_spec (f : Nat → Nat) : ∀ (n k d : Nat), sumF f k + d < sumF f (k + n + 1) →
    Within f (sumF f k + d) (findF f n k d).1 (findF f n k d).2 ∧ (findF f n k d).1 ≤ k + n
  | 0, k, d, h => by
    have e : sumF f (k + 0 + 1) = sumF f k + f k := rfl
    exact ⟨⟨rfl, by show d < f k; omega⟩, Nat.le_refl _⟩
  | n + 1, k, d, h => by
    unfold findF
    have e : sumF f (k + 1) = sumF f k + f k := rfl
    split
    · rename_i hd
      exact ⟨⟨rfl, hd⟩, Nat.le_add_right _ _⟩
    · rename_i hd
      have e2 : sumF f (k + 1) + (d - f k) = sumF f k + d := by omega
      have h2 : k + 1 + n + 1 = k + (n + 1) + 1 := by omega
      have := findF_spec f n (k + 1) (d - f k) (by rw [e2, h2]; exact h)
      rw [e2] at this
      exact ⟨this.1, by omega⟩

theorem leap_400 (y : Nat) : leapB (y + 400) = leapB y := by
  unfold leapB
  rw [decide_eq_decide]
  omega
theorem yl_400 (k : Nat) : yl (k + 400) = yl k := by
  unfold yl
  rw [show 1970 + (k + 400) = 1970 + k + 400 by omega, leap_400]
theorem yl_pos (k : Nat) : 365 ≤ yl k ∧ yl k ≤ 366 := by
  unfold yl
  split <;> omega
theorem sum_400 : sumF yl 400 = 146097 := by decide +kernel
theorem sum_cycle (k : Nat) : sumF yl (k + 400) = sumF yl k + 146097 := by
  induction k with
  | zero => rw [Nat.zero_add, sum_400]; rfl
  | succ k ih =>
    rw [show k + 1 + 400 = k + 400 + 1 by omega]
    show sumF yl (k + 400) + yl (k + 400) = sumF yl k + yl k + 146097
    rw [ih, yl_400]
    omega
theorem sum_cycles (c k : Nat) : sumF yl (c * 400 + k) = c * 146097 + sumF yl k := by
  induction c with
  | zero => simp
  | succ c ih =>
    rw [show (c + 1) * 400 + k = c * 400 + k + 400 by omega, sum_cycle, ih]
    omega
theorem sum_lower (k : Nat) : 365 * k ≤ sumF yl k := by
  induction k with
  | zero => simp
  | succ k ih =>
    have := yl_pos k
    show _ ≤ sumF yl k + yl k
    omega
/-- Years behind 1970 of a day, and its place in that year. -/
def yearAt (d : Nat) : Nat × Nat := (d / 146097 * 400 + (findF yl 399 0 (d % 146097)).1, (findF yl 399 0 (d % 146097)).2)
def monthAt (d : Nat) : Nat × Nat := findF (ml (1970 + (yearAt d).1)) 11 0 (yearAt d).2
theorem year_in (d : Nat) : Within yl (d % 146097) (findF yl 399 0 (d % 146097)).1 (findF yl 399 0 (d % 146097)).2 ∧ (findF yl 399 0 (d % 146097)).1 ≤ 399 := by
  have h := findF_spec yl 399 0 (d % 146097) (by
    show 0 + d % 146097 < sumF yl 400
    rw [sum_400, Nat.zero_add]
    exact Nat.mod_lt _ (by omega))
  have e : sumF yl 0 + d % 146097 = d % 146097 := Nat.zero_add _
  rw [e, Nat.zero_add] at h
  exact h
theorem year_within (d : Nat) : Within yl d (yearAt d).1 (yearAt d).2 := by
  obtain ⟨⟨h1, h2⟩, h3⟩ := year_in d
  unfold yearAt
  refine ⟨?_, ?_⟩
  · show d = sumF yl (d / 146097 * 400 + _) + _
    rw [sum_cycles]
    have := Nat.div_add_mod d 146097
    omega
  · show _ < yl (d / 146097 * 400 + _)
    have : ∀ c k, yl (c * 400 + k) = yl k := fun c k => by
      induction c with
      | zero => simp
      | succ c ih => rw [show (c + 1) * 400 + k = c * 400 + k + 400 by omega, yl_400, ih]
    rw [this]
    exact h2
theorem month_sum (y : Nat) : sumF (ml y) 12 = if leapB y = true then 366 else 365 := by
  cases h : leapB y <;> simp [sumF, ml, mdays, h]
theorem month_within (d : Nat) : Within (ml (1970 + (yearAt d).1)) (yearAt d).2 (monthAt d).1 (monthAt d).2 ∧ (monthAt d).1 ≤ 11 := by
  have hw := (year_within d).2
  have h := findF_spec (ml (1970 + (yearAt d).1)) 11 0 (yearAt d).2 (by
    show 0 + (yearAt d).2 < sumF (ml (1970 + (yearAt d).1)) 12
    rw [month_sum, Nat.zero_add]
    exact hw)
  have e : sumF (ml (1970 + (yearAt d).1)) 0 + (yearAt d).2 = (yearAt d).2 := Nat.zero_add _
  rw [e, Nat.zero_add] at h
  exact h
theorem ml_le (y m : Nat) : ml y m ≤ 31 := by
  unfold ml mdays
  split
  · omega
  · rename_i h
    clear h
    by_cases hm : m < 12
    · have : ∀ m : Fin 12, [31, 28, 31, 30, 31, 30, 31, 31, 30, 31, 30, 31].getD m.val 0 ≤ 31 := by decide
      exact this ⟨m, hm⟩
    · have : [31, 28, 31, 30, 31, 30, 31, 31, 30, 31, 30, 31].getD m 0 = 0 := by
        rw [List.getD, List.getElem?_eq_none (by simp; omega)]
        rfl
      omega
theorem sum_30 : sumF yl 8030 = 2932897 := by
  rw [show 8030 = 20 * 400 + 30 from rfl, sum_cycles]
  decide +kernel
/-- Up to the last day, the year has four digits. -/
theorem year_last (d : Nat) (h : d ≤ 2932896) : (yearAt d).1 < 8030 := by
  have h1 := (year_within d).1
  rcases Nat.lt_or_ge (yearAt d).1 8030 with h2 | h2
  · exact h2
  · have := sumF_mono yl h2
    rw [sum_30] at this
    omega

/-- A number in so many digits. -/
def fixF : Nat → Nat → List UInt8
  | 0, _ => []
  | w + 1, n => fixF w (n / 10) ++ [dg (n % 10)]
theorem fixF_len (w : Nat) : ∀ n, (fixF w n).length = w := by
  induction w with
  | zero => intro n; rfl
  | succ w ih => intro n; simp [fixF, ih]
theorem fixF_num : ∀ (w n : Nat), 0 < w → n < 10 ^ w → fixF w n = List.replicate (w - (numF 10 n).length) 48 ++ numF 10 n ∧ (numF 10 n).length ≤ w
  | 0, _, h, _ => by omega
  | 1, n, _, h => by
    have hn : n < 10 := by simpa using h
    rw [numF_small 10 n hn]
    simp [fixF, Nat.mod_eq_of_lt hn]
  | w + 2, n, _, h => by
    by_cases hn : n < 10
    · have ih := fixF_num (w + 1) 0 (by omega) (Nat.pow_pos (by omega))
      have e : fixF (w + 2) n = fixF (w + 1) (n / 10) ++ [dg (n % 10)] := rfl
      rw [e, Nat.div_eq_of_lt hn, Nat.mod_eq_of_lt hn, ih.1, numF_small 10 0 (by omega), numF_small 10 n hn]
      refine ⟨?_, by simp⟩
      have e2 : dg 0 = 48 := by decide
      simp only [List.length_singleton, Nat.add_sub_cancel, e2]
      rw [List.append_left_inj]
      exact (List.replicate_succ' (n := w) (a := (48 : UInt8))).symm
    · have hd : n / 10 < 10 ^ (w + 1) := by
        rw [Nat.div_lt_iff_lt_mul (by omega)]
        rw [Nat.pow_succ] at h
        exact h
      have ih := fixF_num (w + 1) (n / 10) (by omega) hd
      have e : fixF (w + 2) n = fixF (w + 1) (n / 10) ++ [dg (n % 10)] := rfl
      rw [e, ih.1, numF_great 10 n (by omega) hn, List.length_append, List.length_singleton]
      refine ⟨?_, by omega⟩
      rw [List.append_assoc]
      congr 2
      omega
theorem fixF_val (w : Nat) : ∀ n, n < 10 ^ w → valF 10 (fixF w n) = n := by
  induction w with
  | zero => intro n h; simp at h; subst h; rfl
  | succ w ih =>
    intro n h
    have hd : n / 10 < 10 ^ w := by
      rw [Nat.div_lt_iff_lt_mul (by omega)]
      rw [Nat.pow_succ] at h
      exact h
    show valF 10 (fixF w (n / 10) ++ [dg (n % 10)]) = n
    rw [valF_snoc, ih _ hd, worth_dg _ (by omega)]
    omega
theorem fixF_dig (w : Nat) : ∀ n, (fixF w n).all (digB 10) = true := by
  induction w with
  | zero => intro n; rfl
  | succ w ih =>
    intro n
    show (fixF w (n / 10) ++ [dg (n % 10)]).all (digB 10) = true
    rw [List.all_append, ih]
    simp [digB, worth_dg (n % 10) (by omega)]
    omega
theorem dg_worth10 (c : UInt8) (h : worth c < 10) : dg (worth c) = c := by rw [dg_worth c (by omega), lowD_ten c h]
/-- Digits, read and laid again. -/
theorem fixF_back : ∀ (w : Nat) (l : List UInt8), l.length = w → l.all (digB 10) = true → fixF w (valF 10 l) = l ∧ valF 10 l < 10 ^ w
  | 0, l, hl, _ => by
    obtain rfl : l = [] := List.eq_nil_of_length_eq_zero hl
    exact ⟨rfl, by simp [valF]⟩
  | w + 1, l, hl, h => by
    obtain ⟨m, d, rfl⟩ : ∃ m d, l = m ++ [d] := ⟨l.dropLast, l.getLast (by rintro rfl; simp at hl), (List.dropLast_concat_getLast _).symm⟩
    have hm : m.length = w := by simpa using hl
    rw [List.all_append] at h
    simp only [Bool.and_eq_true, List.all_cons, List.all_nil, Bool.and_true, digB, decide_eq_true_eq] at h
    obtain ⟨h1, h2⟩ := h
    obtain ⟨i1, i2⟩ := fixF_back w m hm (by simpa [digB] using h1)
    rw [valF_snoc]
    refine ⟨?_, by rw [Nat.pow_succ]; omega⟩
    show fixF w ((valF 10 m * 10 + worth d) / 10) ++ [dg ((valF 10 m * 10 + worth d) % 10)] = _
    rw [show (valF 10 m * 10 + worth d) / 10 = valF 10 m by omega, show (valF 10 m * 10 + worth d) % 10 = worth d by omega, i1, dg_worth10 d h2]

/-- Names. -/
def wdN (k : Nat) : List UInt8 := [[84, 104, 117], [70, 114, 105], [83, 97, 116], [83, 117, 110], [77, 111, 110], [84, 117, 101], [87, 101, 100]].getD k []
def mnN (m : Nat) : List UInt8 := [[74, 97, 110], [70, 101, 98], [77, 97, 114], [65, 112, 114], [77, 97, 121], [74, 117, 110], [74, 117, 108], [65, 117, 103], [83, 101, 112], [79, 99, 116], [78, 111, 118], [68, 101, 99]].getD m []
theorem wdN_len (k : Nat) (h : k < 7) : (wdN k).length = 3 := by
  have : ∀ k : Fin 7, (wdN k.val).length = 3 := by decide
  exact this ⟨k, h⟩
theorem mnN_len (k : Nat) (h : k < 12) : (mnN k).length = 3 := by
  have : ∀ k : Fin 12, (mnN k.val).length = 3 := by decide
  exact this ⟨k, h⟩
theorem mnN_inj (a b : Nat) (ha : a < 12) (hb : b < 12) (h : mnN a = mnN b) : a = b := by
  have : ∀ a b : Fin 12, mnN a.val = mnN b.val → a.val = b.val := by decide
  exact this ⟨a, ha⟩ ⟨b, hb⟩ h
theorem wdN_inj (a b : Nat) (ha : a < 7) (hb : b < 7) (h : wdN a = wdN b) : a = b := by
  have : ∀ a b : Fin 7, wdN a.val = wdN b.val → a.val = b.val := by decide
  exact this ⟨a, ha⟩ ⟨b, hb⟩ h
/-- A day's text, a clock's, a moment's. -/
def dayTF (d : Nat) : List UInt8 := fixF 2 ((monthAt d).2 + 1) ++ ([32] ++ (mnN (monthAt d).1 ++ ([32] ++ fixF 4 (1970 + (yearAt d).1))))
def clockF (s : Nat) : List UInt8 := fixF 2 (s / 3600) ++ ([58] ++ (fixF 2 (s / 60 % 60) ++ ([58] ++ fixF 2 (s % 60))))
def momF (n : Nat) : List UInt8 := wdN (n / 86400 % 7) ++ ([44, 32] ++ (dayTF (n / 86400) ++ ([32] ++ (clockF (n % 86400) ++ [32, 71, 77, 84]))))
def LastN : Nat := 253402300799
def textF (n : Nat) : List UInt8 × Nat := if n ≤ LastN then (momF n, 0) else ([], 3)
theorem dayTF_len (d : Nat) : (dayTF d).length = 11 := by
  simp [dayTF, fixF_len, mnN_len _ (show (monthAt d).1 < 12 by have := (month_within d).2; omega)]
theorem clockF_len (s : Nat) : (clockF s).length = 8 := by simp [clockF, fixF_len]
theorem momF_len (n : Nat) : (momF n).length = 29 := by simp [momF, wdN_len _ (show n / 86400 % 7 < 7 by omega), dayTF_len, clockF_len]
end Go.Proofs.YtdcbcjljmjnopaaGreatDoor

namespace Go.Proofs.YtdcbcjljmjnopaaGreatDoor
open Go.RowKit

/-- A value is told; nothing that was there has turned. -/
def Tell (v : Value) (w : World) (e : Ending) (w' : World) : Prop := e = .returned v ∧ Below w.heap.size w w'
/-- A value is told; nothing has turned. -/
def Same (v : Value) (w : World) (e : Ending) (w' : World) : Prop := e = .returned v ∧ w = w'
theorem ret_u64 {a : Int} {b : Nat} (h : a = b) : Ending.returned (.int .u64 a) = .returned (.int .u64 (b : Int)) := by rw [h]

set_option maxHeartbeats 1000000 in
theorem leap_any (y : Nat) (w : World) : Calls Tryz.prog 92 #[.int .u64 (y : Int)] w (Same (.bool (leapB y)) w) := by
  go_enter Tryz.func92, Tryz.ntmps92
  go_wp2
  all_goals
    go_ret
    refine ⟨ret_bool ?_, rfl⟩
    rw [Bool.eq_iff_iff]
    simp [leapB]
    omega
theorem year_days (y : Nat) (hy : y ≤ 1000000) (w : World) : Calls Tryz.prog 75 #[.int .u64 (y : Int)] w (Same (.int .u64 (yl y : Int)) w) := by
  have C := Lib.hid (leap_any (1970 + y) w)
  have HY := Lib.hid (show yl y = if leapB (1970 + y) = true then 366 else 365 from rfl)
  generalize leapB (1970 + y) = b at *
  go_enter Tryz.func75, Tryz.ntmps75
  go_wp2_with fail
  have C' := C.out
  rw [show (((1970 + y : Nat) : Nat) : Int) = 1970 + (y : Int) by omega] at C'
  refine C'.mono ?_
  rintro e w' ⟨rfl, rfl⟩
  cases b
  · go_wp2
    go_ret
    exact ⟨ret_u64 (by rw [HY.out]; rfl), rfl⟩
  · go_wp2
    go_ret
    exact ⟨ret_u64 (by rw [HY.out]; rfl), rfl⟩

/-- The months and the days of the week. -/
def MonTab (w : World) : Prop := ∀ i, i < 12 → w.cell? ⟨1, i * 2, none⟩ = some (.string ⟨(mnN i).toArray⟩) ∧ w.cell? ⟨1, i * 2 + 1, none⟩ = some (.int .u64 (mdays i : Int))
def DayTab (w : World) : Prop := ∀ i, i < 7 → w.cell? ⟨0, i, none⟩ = some (.string ⟨(wdN i).toArray⟩)
theorem MonTab.below {w w' : World} (h : MonTab w) (hb : Below w.heap.size w w') : MonTab w' := fun i hi => by
  obtain ⟨h1, h2⟩ := h i hi
  exact ⟨(hb.cell (Lib.lt_of_cell h1)).trans h1, (hb.cell (Lib.lt_of_cell h2)).trans h2⟩
theorem DayTab.below {w w' : World} (h : DayTab w) (hb : Below w.heap.size w w') : DayTab w' := fun i hi => (hb.cell (Lib.lt_of_cell (h i hi))).trans (h i hi)

theorem mnN_feb (m : Nat) (h : m < 12) : (mnN m = [70, 101, 98]) = (m = 1) := by
  have : ∀ m : Fin 12, (mnN m.val = [70, 101, 98]) = (m.val = 1) := by decide
  exact this ⟨m, h⟩
theorem mdays_small (m : Nat) : mdays m ≤ 31 := by
  have := ml_le 1 m
  unfold ml at this
  split at this
  · rename_i h
    rw [h.1]
    decide
  · exact this
set_option maxHeartbeats 1000000 in
theorem month_days (y m : Nat) (hm : m < 12) (p : Addr) (w : World) (ht : MonTab w) (hp : w.cell? p = some (.int .u64 (y : Int))) :
    Calls Tryz.prog 93 #[.int .u64 (m : Int), .pointer (some p)] w (Same (.int .u64 (ml y m : Int)) w) := by
  obtain ⟨h1, h2⟩ := ht m hm
  have C := Lib.hid (leap_any y w)
  have HM := Lib.hid (show ml y m = if m = 1 ∧ leapB y = true then 29 else mdays m from rfl)
  have HF := Lib.hid (mnN_feb m hm)
  have hs := mdays_small m
  have HS1 := Lib.hid (show m = 1 → mdays m = 28 by rintro rfl; rfl)
  generalize mdays m = k at *
  generalize mnN m = nm at *
  generalize leapB y = b at *
  have i0 : (0 : Int) ≤ (m : Int) := by omega
  have i1 : (m : Int) < 12 := by omega
  clear ht
  by_cases hf : nm = [70, 101, 98]
  · have HM1 := Lib.hid (HF.out.mp hf)
    subst hf
    clear HF
    cases b
    · go_enter Tryz.func93, Tryz.ntmps93
      go_wp2_with (go_at_call 92; refine C.out.mono ?_; rintro e w' ⟨rfl, rfl⟩)
      go_ret
      exact ⟨ret_u64 (by rw [HM.out]; simp), rfl⟩
    · go_enter Tryz.func93, Tryz.ntmps93
      go_wp2_with (go_at_call 92; refine C.out.mono ?_; rintro e w' ⟨rfl, rfl⟩)
      go_ret
      exact ⟨ret_u64 (by rw [HM.out]; simp [HM1.out, HS1.out HM1.out]), rfl⟩
  · have HM1 := Lib.hid (fun h => hf (HF.out.mpr h))
    clear HF
    go_enter Tryz.func93, Tryz.ntmps93
    go_wp2
    go_ret
    exact ⟨ret_u64 (by rw [HM.out, if_neg (fun h => HM1.out h.1)]), rfl⟩
end Go.Proofs.YtdcbcjljmjnopaaGreatDoor

namespace Go.Proofs.YtdcbcjljmjnopaaGreatDoor
open Go.RowKit

theorem findF_stop (f : Nat → Nat) (n k d : Nat) (h : d < f k) : findF f n k d = (k, d) := by
  cases n with
  | zero => rfl
  | succ n => unfold findF; rw [if_pos h]
theorem findF_step (f : Nat → Nat) (n k d : Nat) (h : ¬ d < f k) : findF f (n + 1) k d = findF f n (k + 1) (d - f k) := by
  conv => lhs; unfold findF
  rw [if_neg h]
theorem beq_no {t s : ByteArray} (h : ¬ t = s) : (t.toList == s.toList) = false := by
  rw [Lib.toList_data, Lib.toList_data]
  refine beq_false_of_ne fun e => h ?_
  rw [← mk_bl t, ← mk_bl s]
  unfold bl
  rw [e]
theorem find_ret {a b : Int} {p : Nat × Nat} {k d : Nat} (h : p = (k, d)) (ha : a = k) (hb : b = d) : Ending.returned (.tuple #[.int .u64 a, .int .u64 b]) = .returned (.tuple #[.int .u64 (p.1 : Int), .int .u64 (p.2 : Int)]) := by rw [h, ha, hb]

set_option maxHeartbeats 2000000 in
theorem within_year (w : World) (n day : Nat) (hn : n ≤ 100000) (hd : day < 9223372036854775808) :
    Calls Tryz.prog 94 #[.int .u64 (day : Int), .int .u64 ((n : Int) + 1), .func (.func 75) #[] #[]] w (Same (.tuple #[.int .u64 ((findF yl n 0 day).1 : Int), .int .u64 ((findF yl n 0 day).2 : Int)]) w) := by
  have C := Lib.hid (fun (k : Nat) (h : k < n) => year_days k (by omega) w)
  have hz : decide (yl 0 ≤ 366) = true := by simpa using (fun k => (yl_pos k).2) 0
  have HB := Lib.hid (show ∀ k, yl k ≤ 366 from fun k => (fun k => (yl_pos k).2) k)
  clear hz
  skip
  generalize yl = g at *
  go_enter Tryz.func94, Tryz.ntmps94
  go_wp2_with fail
  go_loop [0, 8, 13] (fun vd va vi => ∃ k d : Nat, vd = .int .u64 (d : Int) ∧ va = .int .u64 (k : Int) ∧ vi = .int .u64 (k : Int) ∧ k ≤ n ∧ d ≤ day ∧ Hid (findF g n 0 day = findF g (n - k) k d)) (fun _ _ vi => n - (intOf vi).toNat)
  case atStart => exact ⟨0, day, rfl, rfl, rfl, Nat.zero_le _, Nat.le_refl _, rfl⟩
  case round =>
    obtain ⟨k, d, rfl, rfl, rfl, hk, hdd, hf⟩ := hrel
    by_cases hlt : k < n
    · have CK := Lib.hid (C.out k hlt)
      have hb := HB.out k
      have HS := Lib.hid (findF_stop g (n - k) k d)
      have HT := Lib.hid (findF_step g (n - k - 1) k d)
      generalize g k = x at *
      go_wp2_with fail
      refine CK.out.mono ?_
      rintro e w' ⟨rfl, rfl⟩
      by_cases hx : d < x
      · go_wp2_with fail
        go_ret2
        exact ⟨find_ret (hf.out.trans (HS.out hx)) rfl rfl, rfl⟩
      · go_wp2_with fail
        go_round
        case rel =>
          refine ⟨k + 1, d - x, by go_num, by go_num, by go_num, hlt, by omega, ?_⟩
          refine Lib.hid ?_
          have := HT.out hx
          rw [show n - k - 1 + 1 = n - k by omega] at this
          rw [hf.out, this, show n - (k + 1) = n - k - 1 by omega]
        case measure => simp [intOf]; omega
    · go_wp2_with fail
      go_ret2
      have hkn : n - k = 0 := by omega
      exact ⟨find_ret (hf.out.trans (by rw [hkn]; rfl)) rfl rfl, rfl⟩

set_option maxHeartbeats 2000000 in
theorem ahead_year (w : World) (n : Nat) (hn : n ≤ 100000) :
    Calls Tryz.prog 74 #[.int .u64 (n : Int), .func (.func 75) #[] #[]] w (Same (.int .u64 (sumF yl n : Int)) w) := by
  have C := Lib.hid (fun (k : Nat) (h : k < n) => year_days k (by omega) w)
  have HB := Lib.hid (show ∀ k, yl k ≤ 366 from fun k => (fun k => (yl_pos k).2) k)
  skip
  generalize yl = g at *
  go_enter Tryz.func74, Tryz.ntmps74
  go_wp2_with fail
  go_loop [5, 8] (fun vs vi => ∃ k m : Nat, vs = .int .u64 (m : Int) ∧ vi = .int .u64 (k : Int) ∧ k ≤ n ∧ m ≤ 366 * k ∧ Hid (sumF g k = m)) (fun _ vi => n - (intOf vi).toNat)
  case atStart => exact ⟨0, 0, rfl, rfl, Nat.zero_le _, Nat.le_refl _, rfl⟩
  case round =>
    obtain ⟨k, m, rfl, rfl, hk, hm, hf⟩ := hrel
    by_cases hlt : k < n
    · have CK := Lib.hid (C.out k hlt)
      have hb := HB.out k
      have HS := Lib.hid (show sumF g (k + 1) = sumF g k + g k from rfl)
      generalize g k = x at *
      go_wp2_with fail
      refine CK.out.mono ?_
      rintro e w' ⟨rfl, rfl⟩
      go_wp2_with fail
      go_round
      case rel =>
        refine ⟨k + 1, m + x, by go_num, by go_num, hlt, by omega, ?_⟩
        refine Lib.hid ?_
        rw [HS.out, hf.out]
      case measure => simp [intOf]; omega
    · go_wp2_with fail
      go_ret
      have hkn : k = n := by omega
      exact ⟨ret_u64 (by rw [← hkn, hf.out]), rfl⟩

set_option maxHeartbeats 2000000 in
theorem within_month (y : Nat) (p : Addr) (w : World) (ht : MonTab w) (hp : w.cell? p = some (.int .u64 (y : Int))) (n day : Nat) (hn : n ≤ 11) (hd : day < 9223372036854775808) :
    Calls Tryz.prog 94 #[.int .u64 (day : Int), .int .u64 ((n : Int) + 1), .func (.func 93) #[] #[.pointer (some p)]] w (Same (.tuple #[.int .u64 ((findF (ml y) n 0 day).1 : Int), .int .u64 ((findF (ml y) n 0 day).2 : Int)]) w) := by
  have C := Lib.hid (fun (k : Nat) (h : k < n) => month_days y k (by omega) p w ht hp)
  have hz : decide ((ml y) 0 ≤ 366) = true := by simpa using (fun k => Nat.le_trans (ml_le y k) (by decide)) 0
  have HB := Lib.hid (show ∀ k, (ml y) k ≤ 366 from fun k => (fun k => Nat.le_trans (ml_le y k) (by decide)) k)
  clear hz
  clear ht hp
  generalize (ml y) = g at *
  go_enter Tryz.func94, Tryz.ntmps94
  go_wp2_with fail
  go_loop [0, 8, 13] (fun vd va vi => ∃ k d : Nat, vd = .int .u64 (d : Int) ∧ va = .int .u64 (k : Int) ∧ vi = .int .u64 (k : Int) ∧ k ≤ n ∧ d ≤ day ∧ Hid (findF g n 0 day = findF g (n - k) k d)) (fun _ _ vi => n - (intOf vi).toNat)
  case atStart => exact ⟨0, day, rfl, rfl, rfl, Nat.zero_le _, Nat.le_refl _, rfl⟩
  case round =>
    obtain ⟨k, d, rfl, rfl, rfl, hk, hdd, hf⟩ := hrel
    by_cases hlt : k < n
    · have CK := Lib.hid (C.out k hlt)
      have hb := HB.out k
      have HS := Lib.hid (findF_stop g (n - k) k d)
      have HT := Lib.hid (findF_step g (n - k - 1) k d)
      generalize g k = x at *
      go_wp2_with fail
      refine CK.out.mono ?_
      rintro e w' ⟨rfl, rfl⟩
      by_cases hx : d < x
      · go_wp2_with fail
        go_ret2
        exact ⟨find_ret (hf.out.trans (HS.out hx)) rfl rfl, rfl⟩
      · go_wp2_with fail
        go_round
        case rel =>
          refine ⟨k + 1, d - x, by go_num, by go_num, by go_num, hlt, by omega, ?_⟩
          refine Lib.hid ?_
          have := HT.out hx
          rw [show n - k - 1 + 1 = n - k by omega] at this
          rw [hf.out, this, show n - (k + 1) = n - k - 1 by omega]
        case measure => simp [intOf]; omega
    · go_wp2_with fail
      go_ret2
      have hkn : n - k = 0 := by omega
      exact ⟨find_ret (hf.out.trans (by rw [hkn]; rfl)) rfl rfl, rfl⟩

set_option maxHeartbeats 2000000 in
theorem ahead_month (y : Nat) (p : Addr) (w : World) (ht : MonTab w) (hp : w.cell? p = some (.int .u64 (y : Int))) (n : Nat) (hn : n ≤ 12) :
    Calls Tryz.prog 74 #[.int .u64 (n : Int), .func (.func 93) #[] #[.pointer (some p)]] w (Same (.int .u64 (sumF (ml y) n : Int)) w) := by
  have C := Lib.hid (fun (k : Nat) (h : k < n) => month_days y k (by omega) p w ht hp)
  have HB := Lib.hid (show ∀ k, (ml y) k ≤ 366 from fun k => (fun k => Nat.le_trans (ml_le y k) (by decide)) k)
  clear ht hp
  generalize (ml y) = g at *
  go_enter Tryz.func74, Tryz.ntmps74
  go_wp2_with fail
  go_loop [5, 8] (fun vs vi => ∃ k m : Nat, vs = .int .u64 (m : Int) ∧ vi = .int .u64 (k : Int) ∧ k ≤ n ∧ m ≤ 366 * k ∧ Hid (sumF g k = m)) (fun _ vi => n - (intOf vi).toNat)
  case atStart => exact ⟨0, 0, rfl, rfl, Nat.zero_le _, Nat.le_refl _, rfl⟩
  case round =>
    obtain ⟨k, m, rfl, rfl, hk, hm, hf⟩ := hrel
    by_cases hlt : k < n
    · have CK := Lib.hid (C.out k hlt)
      have hb := HB.out k
      have HS := Lib.hid (show sumF g (k + 1) = sumF g k + g k from rfl)
      generalize g k = x at *
      go_wp2_with fail
      refine CK.out.mono ?_
      rintro e w' ⟨rfl, rfl⟩
      go_wp2_with fail
      go_round
      case rel =>
        refine ⟨k + 1, m + x, by go_num, by go_num, hlt, by omega, ?_⟩
        refine Lib.hid ?_
        rw [HS.out, hf.out]
      case measure => simp [intOf]; omega
    · go_wp2_with fail
      go_ret
      have hkn : k = n := by omega
      exact ⟨ret_u64 (by rw [← hkn, hf.out]), rfl⟩

theorem mn_apart (s : ByteArray) (i : Nat) : ((⟨(mnN i).toArray⟩ : ByteArray) = s) = (mnN i = bl s) := by
  apply propext
  constructor
  · rintro rfl
    rw [bl_mk]
  · intro h
    rw [h, mk_bl]
/-- The month of a name; 0 for what is none. -/
def namedF (l : List UInt8) : Nat → Nat → Nat
  | 0, _ => 0
  | n + 1, k => if mnN k = l then k else namedF l n (k + 1)
theorem namedF_mn : ∀ (n k m : Nat), k ≤ m → m < k + n → k + n ≤ 12 → namedF (mnN m) n k = m
  | 0, k, m, h1, h2, h3 => by omega
  | n + 1, k, m, h1, h2, h3 => by
    unfold namedF
    by_cases h : k = m
    · subst h
      rw [if_pos rfl]
    · rw [if_neg (fun e => h (mnN_inj k m (by omega) (by omega) e))]
      exact namedF_mn n (k + 1) m (by omega) (by omega) (by omega)
theorem namedF_lt (l : List UInt8) : ∀ (n k : Nat), k + n ≤ 12 → namedF l n k < 12
  | 0, k, h => by unfold namedF; omega
  | n + 1, k, h => by
    unfold namedF
    split
    · omega
    · exact namedF_lt l n (k + 1) (by omega)
set_option maxHeartbeats 2000000 in
theorem named_any (s : ByteArray) (w : World) (ht : MonTab w) : Calls Tryz.prog 76 #[.string s] w (Same (.int .u64 (namedF (bl s) 12 0 : Int)) w) := by
  have HT := Lib.hid ht
  have HM := Lib.hid (mn_apart s)
  clear ht
  go_enter Tryz.func76, Tryz.ntmps76
  go_wp2_with fail
  go_loop [4] (fun vi => ∃ k : Nat, vi = .int .i64 (k : Int) ∧ k ≤ 12 ∧ Hid (namedF (bl s) 12 0 = namedF (bl s) (12 - k) k)) (fun vi => 12 - (intOf vi).toNat)
  case atStart => exact ⟨0, rfl, Nat.zero_le _, rfl⟩
  case round =>
    obtain ⟨k, rfl, hk, hf⟩ := hrel
    by_cases hlt : k < 12
    · have hc := (HT.out k hlt).1
      have HMK := Lib.hid (HM.out k)
      have HS := Lib.hid (show namedF (bl s) (12 - k - 1 + 1) k = if mnN k = bl s then k else namedF (bl s) (12 - k - 1) (k + 1) from rfl)
      rw [show 12 - k - 1 + 1 = 12 - k by omega] at HS
      generalize mnN k = nm at *
      obtain ⟨t, hT⟩ : ∃ t : ByteArray, t = ⟨nm.toArray⟩ := ⟨_, rfl⟩
      rw [← hT] at hc HMK
      clear hT
      by_cases hx : t = s
      · subst hx
        have HX := Lib.hid (HMK.out.mp rfl)
        clear HMK
        go_wp2_with fail
        go_ret
        exact ⟨ret_u64 (by rw [hf.out, HS.out, if_pos HX.out]), rfl⟩
      · have HX := Lib.hid (fun h => hx (HMK.out.mpr h))
        have hx2 := beq_no hx
        clear HMK hx
        go_wp2_with fail
        go_round
        case rel =>
          refine ⟨k + 1, by go_num, hlt, ?_⟩
          refine Lib.hid ?_
          rw [hf.out, HS.out, if_neg HX.out, show 12 - (k + 1) = 12 - k - 1 by omega]
        case measure => simp [intOf]; omega
    · go_wp2_with fail
      go_ret
      have hkn : 12 - k = 0 := by omega
      exact ⟨ret_u64 (by rw [hf.out, hkn]; rfl), rfl⟩
end Go.Proofs.YtdcbcjljmjnopaaGreatDoor
