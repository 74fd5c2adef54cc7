/-
  A day later, seven days later: plain mathematics.
  Conditions: those that each theorem names.
-/
import Derived.Test.YtcnfobjmddncgaaDoorDN
namespace Go.Proofs.YtcnfobjmddncgaaDoor
open Go.RowKit

theorem ml_28 (y m : Nat) (h : m < 12) : 28 ≤ ml y m := by
  unfold ml
  split
  · omega
  · rename_i hn
    clear hn
    have : ∀ m : Fin 12, 28 ≤ mdays m.val := by decide
    exact this ⟨m, h⟩
/-- The next day: in the same month, the first of the next one, the first of the next year. -/
theorem month_next (d : Nat) :
    ((monthAt d).2 + 1 < ml (1970 + (yearAt d).1) (monthAt d).1 ∧ (yearAt (d + 1)).1 = (yearAt d).1 ∧ monthAt (d + 1) = ((monthAt d).1, (monthAt d).2 + 1)) ∨
    ((monthAt d).2 + 1 = ml (1970 + (yearAt d).1) (monthAt d).1 ∧ (monthAt d).1 < 11 ∧ (yearAt (d + 1)).1 = (yearAt d).1 ∧ monthAt (d + 1) = ((monthAt d).1 + 1, 0)) ∨
    ((monthAt d).2 + 1 = ml (1970 + (yearAt d).1) (monthAt d).1 ∧ (monthAt d).1 = 11 ∧ (yearAt (d + 1)).1 = (yearAt d).1 + 1 ∧ monthAt (d + 1) = (0, 0)) := by
  obtain ⟨⟨hm1, hm2⟩, hm11⟩ := month_within d
  obtain ⟨hy1, hy2⟩ := year_within d
  have hw := year_within (d + 1)
  have hmw := (month_within (d + 1)).1
  have hms := month_sum (1970 + (yearAt d).1)
  have hyl : yl (yearAt d).1 = if leapB (1970 + (yearAt d).1) = true then 366 else 365 := rfl
  have hss : sumF (ml (1970 + (yearAt d).1)) ((monthAt d).1 + 1) = sumF (ml (1970 + (yearAt d).1)) (monthAt d).1 + ml (1970 + (yearAt d).1) (monthAt d).1 := rfl
  have hmono := sumF_mono (ml (1970 + (yearAt d).1)) (show (monthAt d).1 + 1 ≤ 12 by omega)
  generalize yearAt d = p at *
  generalize monthAt d = q at *
  obtain ⟨y, r⟩ := p
  obtain ⟨m, x⟩ := q
  simp only at *
  by_cases hx : x + 1 < ml (1970 + y) m
  · left
    have h1 := within_one hw (show Within yl (d + 1) y (r + 1) from ⟨by omega, by omega⟩)
    have hya : yearAt (d + 1) = (y, r + 1) := Prod.ext h1.1 h1.2
    rw [hya] at hmw ⊢
    have h2 := within_one hmw (show Within (ml (1970 + y)) (r + 1) m (x + 1) from ⟨by omega, hx⟩)
    exact ⟨hx, rfl, Prod.ext h2.1 h2.2⟩
  · right
    have hxe : x + 1 = ml (1970 + y) m := by omega
    rcases Nat.lt_or_ge m 11 with hm | hm
    · left
      have hmono2 := sumF_mono (ml (1970 + y)) (show m + 1 + 1 ≤ 12 by omega)
      have hs2 : sumF (ml (1970 + y)) (m + 1 + 1) = sumF (ml (1970 + y)) (m + 1) + ml (1970 + y) (m + 1) := rfl
      have h28 := ml_28 (1970 + y) (m + 1) (by omega)
      have h1 := within_one hw (show Within yl (d + 1) y (r + 1) from ⟨by omega, by omega⟩)
      have hya : yearAt (d + 1) = (y, r + 1) := Prod.ext h1.1 h1.2
      rw [hya] at hmw ⊢
      have h2 := within_one hmw (show Within (ml (1970 + y)) (r + 1) (m + 1) 0 from ⟨by omega, by omega⟩)
      exact ⟨hxe, hm, rfl, Prod.ext h2.1 h2.2⟩
    · right
      obtain rfl : m = 11 := by omega
      have hs : sumF yl (y + 1) = sumF yl y + yl y := rfl
      have hp := yl_pos (y + 1)
      have hz : sumF (ml (1970 + (y + 1))) 0 = 0 := rfl
      have h28 := ml_28 (1970 + (y + 1)) 0 (by omega)
      simp only [Nat.reduceAdd] at hss
      have h1 := within_one hw (show Within yl (d + 1) (y + 1) 0 from ⟨by omega, by omega⟩)
      have hya : yearAt (d + 1) = (y + 1, 0) := Prod.ext h1.1 h1.2
      rw [hya] at hmw ⊢
      have h2 := within_one hmw (show Within (ml (1970 + (y + 1))) 0 0 0 from ⟨by omega, by omega⟩)
      exact ⟨hxe, rfl, rfl, Prod.ext h2.1 h2.2⟩

/-- A moment's text, as Go has it. -/
def momS (n : Nat) : ByteArray := ⟨(momF n).toArray⟩
theorem momS_size (n : Nat) : (momS n).size = 29 := by
  rw [← bl_length, momS, bl_mk, momF_len]
theorem momS_ext (n k m : Nat) : (momS n).extract k m = ⟨(((momF n).drop k).take (m - k)).toArray⟩ := by
  rw [bl_extract, piece, momS, bl_mk]
theorem mom_tail (n : Nat) : (momF n).drop 16 = [32] ++ (clockF (n % 86400) ++ [32, 71, 77, 84]) := by
  unfold momF
  rw [← List.append_assoc, ← List.append_assoc, List.drop_append_of_le_length (by simp [wdN_len _ (show n / 86400 % 7 < 7 by omega), dayTF_len])]
  rw [List.drop_of_length_le (by simp [wdN_len _ (show n / 86400 % 7 < 7 by omega), dayTF_len])]
  rfl
theorem ext_03 (n : Nat) : (momS n).extract 0 3 = ⟨(wdN (n / 86400 % 7)).toArray⟩ := by
  rw [momS_ext, ← (mom_parts n).W]
  rfl
theorem ext_811 (n : Nat) : (momS n).extract 8 11 = ⟨(mnN (monthAt (n / 86400)).1).toArray⟩ := by
  rw [momS_ext, ← (mom_parts n).M]
theorem ext_1216 (n : Nat) : (momS n).extract 12 16 = ⟨(fixF 4 (1970 + (yearAt (n / 86400)).1)).toArray⟩ := by
  rw [momS_ext, ← (mom_parts n).Y]
theorem ext_1629 (n : Nat) : (momS n).extract 16 29 = ⟨([32] ++ (clockF (n % 86400) ++ [32, 71, 77, 84])).toArray⟩ := by
  rw [momS_ext, mom_tail, List.take_of_length_le (by simp [clockF_len])]
theorem ext_816 (n : Nat) : (momS n).extract 8 16 = ⟨(mnN (monthAt (n / 86400)).1 ++ ([32] ++ fixF 4 (1970 + (yearAt (n / 86400)).1))).toArray⟩ := by
  have hp := mom_parts n
  have h1 := piece_join (momS n) 8 11 16 (by omega) (by omega)
  have h2 := piece_join (momS n) 11 12 16 (by omega) (by omega)
  have t : ∀ a b, piece (momS n) a b = ((momF n).drop a).take (b - a) := fun a b => by rw [piece, momS, bl_mk]
  have e1 := (t 8 11).trans hp.M
  have e2 := (t 11 12).trans hp.c
  have e3 := (t 12 16).trans hp.Y
  rw [bl_extract, h1, h2, e1, e2, e3]
theorem dg_nat (d : Nat) (h : d < 10) : (dg d).toNat = 48 + d := by
  have : ∀ d : Fin 10, (dg d.val).toNat = 48 + d.val := by decide
  exact this ⟨d, h⟩
theorem mom_56 (n : Nat) (h5 : 5 < (momS n).size) (h6 : 6 < (momS n).size) : (momS n)[5].toNat = 48 + ((monthAt (n / 86400)).2 + 1) / 10 % 10 ∧ (momS n)[6].toNat = 48 + ((monthAt (n / 86400)).2 + 1) % 10 := by
  have hD := (mom_parts n).D
  have e : ∀ z, fixF 2 z = [dg (z / 10 % 10), dg (z % 10)] := fun z => rfl
  rw [e] at hD
  have g5 : (momF n)[5]? = some (dg (((monthAt (n / 86400)).2 + 1) / 10 % 10)) := by
    have := congrArg (·[0]?) hD
    simpa [List.getElem?_take, List.getElem?_drop] using this
  have g6 : (momF n)[6]? = some (dg (((monthAt (n / 86400)).2 + 1) % 10)) := by
    have := congrArg (·[1]?) hD
    simpa [List.getElem?_take, List.getElem?_drop] using this
  have b5 := bl_get (momS n) 5 h5
  have b6 := bl_get (momS n) 6 h6
  have hbl : bl (momS n) = momF n := bl_mk _
  rw [hbl] at b5 b6
  rw [g5] at b5
  rw [g6] at b6
  simp only [Option.some.injEq] at b5 b6
  rw [← b5, ← b6, dg_nat _ (by omega), dg_nat _ (by omega)]
  exact ⟨rfl, rfl⟩
/-- The days of the week, from Monday on. -/
theorem wk_ext : ∀ k, k < 8 → (⟨#[77, 111, 110, 84, 117, 101, 87, 101, 100, 84, 104, 117, 70, 114, 105, 83, 97, 116, 83, 117, 110, 77, 111, 110]⟩ : ByteArray).extract (3 * k) (3 * k + 3) = ⟨(wdN ((k + 4) % 7)).toArray⟩ := by
  have : ∀ k : Fin 8, (⟨#[77, 111, 110, 84, 117, 101, 87, 101, 100, 84, 104, 117, 70, 114, 105, 83, 97, 116, 83, 117, 110, 77, 111, 110]⟩ : ByteArray).extract (3 * k.val) (3 * k.val + 3) = ⟨(wdN ((k.val + 4) % 7)).toArray⟩ := by decide +kernel
  exact fun k h => this ⟨k, h⟩
/-- The months, from January on, and January again. -/
def monthsS : ByteArray := ⟨#[74, 97, 110, 70, 101, 98, 77, 97, 114, 65, 112, 114, 77, 97, 121, 74, 117, 110, 74, 117, 108, 65, 117, 103, 83, 101, 112, 79, 99, 116, 78, 111, 118, 68, 101, 99, 74, 97, 110]⟩
def mn13 (k : Nat) : List UInt8 := if k = 12 then mnN 0 else mnN k
theorem mo_ext : ∀ k, k < 13 → monthsS.extract (3 * k) (3 * k + 3) = ⟨(mn13 k).toArray⟩ := by
  have : ∀ k : Fin 13, monthsS.extract (3 * k.val) (3 * k.val + 3) = ⟨(mn13 k.val).toArray⟩ := by decide +kernel
  exact fun k h => this ⟨k, h⟩
end Go.Proofs.YtcnfobjmddncgaaDoor
