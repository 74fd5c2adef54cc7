/-
  What the reference's Parse answers: what package date's answers.
  Conditions: those that each theorem names.
-/
import Derived.Test.YtdcbcjljmjnopaaGreatDoorDI
import Derived.Test.YtdcbcjljmjnopaaGreatDoorDU
namespace Go.Proofs.YtdcbcjljmjnopaaGreatDoor
open Go.RowKit

theorem piece_ext (s : ByteArray) (a b k m : Nat) (h : a + m ≤ b) : piece (s.extract a b) k m = piece s (a + k) (a + m) := by
  unfold piece
  rw [bl_ext, piece, List.drop_take, List.take_take, List.drop_drop]
  congr 1
  omega
theorem piece_join (s : ByteArray) (a b c : Nat) (h1 : a ≤ b) (h2 : b ≤ c) : piece s a c = piece s a b ++ piece s b c := by
  unfold piece
  rw [show c - a = (b - a) + (c - b) by omega, List.take_add, List.drop_drop, show a + (b - a) = b by omega]
theorem piece_whole (s : ByteArray) (n : Nat) (h : s.size = n) : piece s 0 n = bl s := by
  unfold piece
  rw [List.drop_zero, List.take_of_length_le (by rw [bl_length]; omega)]
/-- The last month of a name; -1 for what is none. -/
def lastF (l : List UInt8) : Nat → Int
  | 0 => -1
  | k + 1 => if mnN k = l then (k : Int) else lastF l k
theorem lastF_some (l : List UInt8) : ∀ (k m : Nat), lastF l k = (m : Int) → mnN m = l ∧ m < k
  | 0, m, h => by simp [lastF] at h
  | k + 1, m, h => by
    unfold lastF at h
    split at h
    · rename_i e
      obtain rfl : k = m := by omega
      exact ⟨e, Nat.lt_succ_self _⟩
    · have := lastF_some l k m h
      exact ⟨this.1, by omega⟩
theorem lastF_lo (l : List UInt8) : ∀ k, -1 ≤ lastF l k ∧ lastF l k < k
  | 0 => by simp [lastF]
  | k + 1 => by
    unfold lastF
    have := lastF_lo l k
    split <;> omega
theorem lastF_mn : ∀ (k m : Nat), m < k → k ≤ 12 → lastF (mnN m) k = (m : Int)
  | 0, m, h, _ => by omega
  | k + 1, m, h, hk => by
    unfold lastF
    split
    · rename_i e
      rw [mnN_inj k m (by omega) (by omega) e]
    · rename_i e
      have hne : m ≠ k := fun h => e (by rw [h])
      exact lastF_mn k m (by omega) (by omega)
theorem rdigF_fix (w n : Nat) (h : n < 10 ^ w) : rdigF (fixF w n) = (n : Int) := by
  unfold rdigF
  rw [if_pos (fixF_dig w n), fixF_val w n h]
theorem rdigF_some (l : List UInt8) (n : Nat) (h : rdigF l = (n : Int)) : l.all (digB 10) = true ∧ valF 10 l = n := by
  unfold rdigF at h
  split at h
  · rename_i e
    exact ⟨e, by omega⟩
  · omega
theorem rdigF_numb (l : List UInt8) (n : Nat) (h0 : l ≠ []) (h : rdigF l = (n : Int)) : numbF l = n := by
  obtain ⟨h1, h2⟩ := rdigF_some l n h
  unfold numbF
  rw [if_pos ⟨h0, h1⟩, h2]
theorem rdigF_back (l : List UInt8) (w n : Nat) (hl : l.length = w) (h : rdigF l = (n : Int)) : fixF w n = l ∧ n < 10 ^ w := by
  obtain ⟨h1, h2⟩ := rdigF_some l n h
  rw [← h2]
  exact fixF_back w l hl h1

/-- What stands between a text's parts, as the reference asks for it. -/
def sepP (s : ByteArray) : Prop := ∃ h : s.size = 29, (s.extract 3 5).toList = [44, 32] ∧ ((s[7]'(by omega)).toNat : Int) = 32 ∧ ((s[11]'(by omega)).toNat : Int) = 32 ∧ ((s[16]'(by omega)).toNat : Int) = 32 ∧
  ((s[19]'(by omega)).toNat : Int) = 58 ∧ ((s[22]'(by omega)).toNat : Int) = 58 ∧ (s.extract 25 29).toList = [32, 71, 77, 84]
theorem one_piece (s : ByteArray) (k : Nat) (h : k < s.size) : piece s k (k + 1) = [s[k]] := by
  have := piece_last s k (k + 1) (by omega) (by omega)
  rw [this]
  simp only [Nat.add_sub_cancel]
  rw [piece_self]
  rfl
theorem byte_int (c : UInt8) (n : Nat) (hn : n < 256) : ((c.toNat : Int) = (n : Int)) ↔ c = UInt8.ofNat n := by
  constructor
  · intro h
    apply UInt8.toNat_inj.1
    rw [UInt8.toNat_ofNat_of_lt' (by simpa using hn)]
    omega
  · rintro rfl
    rw [UInt8.toNat_ofNat_of_lt' (by simpa using hn)]
theorem sep_pieces (s : ByteArray) (hs : s.size = 29) : sepP s ↔ piece s 3 5 = [44, 32] ∧ piece s 7 8 = [32] ∧ piece s 11 12 = [32] ∧ piece s 16 17 = [32] ∧ piece s 19 20 = [58] ∧ piece s 22 23 = [58] ∧ piece s 25 29 = [32, 71, 77, 84] := by
  have t : ∀ a b, (s.extract a b).toList = piece s a b := fun a b => by rw [Lib.toList_data]; exact bl_ext s a b
  have o : ∀ (k n : Nat) (hk : k < s.size) (_ : n < 256), ((s[k].toNat : Int) = (n : Int)) ↔ piece s k (k + 1) = [UInt8.ofNat n] := fun k n hk hn => by
    rw [one_piece s k hk, byte_int _ n hn]
    simp
  unfold sepP
  rw [t, t]
  constructor
  · rintro ⟨_, h1, h2, h3, h4, h5, h6, h7⟩
    exact ⟨h1, (o 7 32 (by omega) (by omega)).1 h2, (o 11 32 (by omega) (by omega)).1 h3, (o 16 32 (by omega) (by omega)).1 h4, (o 19 58 (by omega) (by omega)).1 h5, (o 22 58 (by omega) (by omega)).1 h6, h7⟩
  · rintro ⟨h1, h2, h3, h4, h5, h6, h7⟩
    exact ⟨hs, h1, (o 7 32 (by omega) (by omega)).2 h2, (o 11 32 (by omega) (by omega)).2 h3, (o 16 32 (by omega) (by omega)).2 h4, (o 19 58 (by omega) (by omega)).2 h5, (o 22 58 (by omega) (by omega)).2 h6, h7⟩

def dayOf (m day year : Nat) : Nat := sumF yl (year - 1970) + sumF (ml year) m + (day - 1)
/-- A text that is a moment's, by its parts. -/
structure okP (s : ByteArray) (m day year h mi se : Nat) : Prop where
  sep : sepP s
  mon : lastF (piece s 8 11) 12 = (m : Int)
  dd : rdigF (piece s 5 7) = (day : Int)
  yy : rdigF (piece s 12 16) = (year : Int)
  hh : rdigF (piece s 17 19) = (h : Int)
  mm : rdigF (piece s 20 22) = (mi : Int)
  ss : rdigF (piece s 23 25) = (se : Int)
  y0 : 1970 ≤ year
  d0 : 1 ≤ day
  d1 : day ≤ ml year m
  h1 : h ≤ 23
  m1 : mi ≤ 59
  s1 : se ≤ 59
  wd : wdN (dayOf m day year % 7) = piece s 0 3

theorem piece_size (s : ByteArray) (k m : Nat) (h : k ≤ m) (hm : m ≤ s.size) : (piece s k m).length = m - k := by
  rw [← bl_ext, bl_length, str_ext s k m h hm]
theorem ne_of_len {l : List UInt8} {n : Nat} (h : l.length = n) (h0 : 0 < n) : l ≠ [] := by
  rintro rfl
  simp at h
  omega
theorem ok_parse (s : ByteArray) (m day year h mi se : Nat) (ok : okP s m day year h mi se) : parseF s = (86400 * dayOf m day year + (3600 * h + 60 * mi + se), 0) := by
  have hs : s.size = 29 := ok.sep.1
  obtain ⟨hmn, hm12⟩ := lastF_some _ _ _ ok.mon
  have hseps := (sep_pieces s hs).1 ok.sep
  obtain ⟨p35, p78, p1112, p1617, p1920, p2223, p2529⟩ := hseps
  have z57 := piece_size s 5 7 (by omega) (by omega)
  have z1216 := piece_size s 12 16 (by omega) (by omega)
  have z1719 := piece_size s 17 19 (by omega) (by omega)
  have z2022 := piece_size s 20 22 (by omega) (by omega)
  have z2325 := piece_size s 23 25 (by omega) (by omega)
  obtain ⟨f1, g1⟩ := rdigF_back _ 2 day z57 ok.dd
  obtain ⟨f2, g2⟩ := rdigF_back _ 4 year z1216 ok.yy
  obtain ⟨f3, g3⟩ := rdigF_back _ 2 h z1719 ok.hh
  obtain ⟨f4, g4⟩ := rdigF_back _ 2 mi z2022 ok.mm
  obtain ⟨f5, g5⟩ := rdigF_back _ 2 se z2325 ok.ss
  have n1 := rdigF_numb _ day (ne_of_len z57 (by omega)) ok.dd
  have n2 := rdigF_numb _ year (ne_of_len z1216 (by omega)) ok.yy
  have n3 := rdigF_numb _ h (ne_of_len z1719 (by omega)) ok.hh
  have n4 := rdigF_numb _ mi (ne_of_len z2022 (by omega)) ok.mm
  have n5 := rdigF_numb _ se (ne_of_len z2325 (by omega)) ok.ss
  have y0 := ok.y0
  have d0 := ok.d0
  have d1 := ok.d1
  have h1 := ok.h1
  have m1 := ok.m1
  have s1 := ok.s1
  have hrd : readDayF (s.extract 5 16) = dayOf m day year := by
    have e1 : piece (s.extract 5 16) 0 2 = piece s 5 7 := piece_ext s 5 16 0 2 (by omega)
    have e2 : piece (s.extract 5 16) 7 11 = piece s 12 16 := piece_ext s 5 16 7 11 (by omega)
    have e3 : piece (s.extract 5 16) 3 6 = piece s 8 11 := piece_ext s 5 16 3 6 (by omega)
    have ey : readYearF (s.extract 5 16) = year := by
      unfold readYearF
      rw [e2, n2]
      omega
    unfold readDayF
    rw [ey, e1, e3, n1, ← hmn, namedF_mn 12 0 m (by omega) (by omega) (by omega)]
    have hc := sum_cycles ((year - 1970) / 400) ((year - 1970) % 400)
    rw [show (year - 1970) / 400 * 400 + (year - 1970) % 400 = year - 1970 by omega] at hc
    unfold dayOf
    omega
  have hrc : readClockF (s.extract 17 25) = 3600 * h + 60 * mi + se := by
    have e1 : piece (s.extract 17 25) 0 2 = piece s 17 19 := piece_ext s 17 25 0 2 (by omega)
    have e2 : piece (s.extract 17 25) 3 5 = piece s 20 22 := piece_ext s 17 25 3 5 (by omega)
    have e3 : piece (s.extract 17 25) 6 8 = piece s 23 25 := piece_ext s 17 25 6 8 (by omega)
    unfold readClockF
    rw [e1, e2, e3, n3, n4, n5]
    omega
  have hn : readN s = 86400 * dayOf m day year + (3600 * h + 60 * mi + se) := by
    unfold readN
    rw [hrd, hrc]
    omega
  obtain ⟨v, hv⟩ : ∃ v, v = 86400 * dayOf m day year + (3600 * h + 60 * mi + se) := ⟨_, rfl⟩
  rw [← hv] at hn ⊢
  have hvd : v / 86400 = dayOf m day year := by omega
  have hW2 : Within (ml year) (sumF (ml year) m + (day - 1)) m (day - 1) := ⟨rfl, by omega⟩
  have hm13 := sumF_mono (ml year) (show m + 1 ≤ 12 by omega)
  have hsm : sumF (ml year) (m + 1) = sumF (ml year) m + ml year m := rfl
  have hms := month_sum year
  have hyl := yl_leap year y0
  have hW1 : Within yl (v / 86400) (year - 1970) (sumF (ml year) m + (day - 1)) := ⟨by rw [hvd]; unfold dayOf; omega, by omega⟩
  have hy := within_one (year_within (v / 86400)) hW1
  have hya : yearAt (v / 86400) = (year - 1970, sumF (ml year) m + (day - 1)) := Prod.ext hy.1 hy.2
  have hmw := (month_within (v / 86400)).1
  rw [hya] at hmw
  simp only [show 1970 + (year - 1970) = year by omega] at hmw
  have hm2 := within_one hmw hW2
  have hma : monthAt (v / 86400) = (m, day - 1) := Prod.ext hm2.1 hm2.2
  have hmom := momF_form v year m _ hya y0 _ hma
  have hlast : v ≤ LastN := by
    have h30 := sum_30
    have hmono := sumF_mono yl (show year - 1970 + 1 ≤ 8030 by omega)
    have e : sumF yl (year - 1970 + 1) = sumF yl (year - 1970) + yl (year - 1970) := rfl
    have hw := hW1.1
    have hw2 := hW1.2
    unfold LastN
    omega
  have hc1 : v % 86400 / 3600 = h := by omega
  have hc2 : v % 86400 % 3600 / 60 = mi := by omega
  have hc3 : v % 86400 % 60 = se := by omega
  rw [hc1, hc2, hc3, hvd, ok.wd, show day - 1 + 1 = day by omega, f1, f2, f3, f4, f5, hmn] at hmom
  have hall : bl s = piece s 0 3 ++ (piece s 3 5 ++ (piece s 5 7 ++ (piece s 7 8 ++ (piece s 8 11 ++ (piece s 11 12 ++ (piece s 12 16 ++ (piece s 16 17 ++ (piece s 17 19 ++ (piece s 19 20 ++ (piece s 20 22 ++ (piece s 22 23 ++ (piece s 23 25 ++ piece s 25 29)))))))))))) := by
    rw [← piece_join s 23 25 29 (by omega) (by omega), ← piece_join s 22 23 29 (by omega) (by omega), ← piece_join s 20 22 29 (by omega) (by omega), ← piece_join s 19 20 29 (by omega) (by omega),
      ← piece_join s 17 19 29 (by omega) (by omega), ← piece_join s 16 17 29 (by omega) (by omega), ← piece_join s 12 16 29 (by omega) (by omega), ← piece_join s 11 12 29 (by omega) (by omega),
      ← piece_join s 8 11 29 (by omega) (by omega), ← piece_join s 7 8 29 (by omega) (by omega), ← piece_join s 5 7 29 (by omega) (by omega), ← piece_join s 3 5 29 (by omega) (by omega),
      ← piece_join s 0 3 29 (by omega) (by omega), piece_whole s 29 hs]
  rw [p35, p78, p1112, p1617, p1920, p2223, p2529] at hall
  unfold parseF
  rw [hn, if_pos ⟨hs, hlast, by rw [hall, hmom]⟩]

theorem len2 {l : List UInt8} (h : l.length = 2) : ∃ a b, l = [a, b] := by
  match l, h with
  | [a, b], _ => exact ⟨a, b, rfl⟩
theorem len3 {l : List UInt8} (h : l.length = 3) : ∃ a b c, l = [a, b, c] := by
  match l, h with
  | [a, b, c], _ => exact ⟨a, b, c, rfl⟩
theorem len4 {l : List UInt8} (h : l.length = 4) : ∃ a b c d, l = [a, b, c, d] := by
  match l, h with
  | [a, b, c, d], _ => exact ⟨a, b, c, d, rfl⟩
/-- The parts of a moment's text. -/
structure Parts (l : List UInt8) (W D M Y H I S : List UInt8) : Prop where
  W : l.take 3 = W
  a : (l.drop 3).take 2 = [44, 32]
  D : (l.drop 5).take 2 = D
  b : (l.drop 7).take 1 = [32]
  M : (l.drop 8).take 3 = M
  c : (l.drop 11).take 1 = [32]
  Y : (l.drop 12).take 4 = Y
  d : (l.drop 16).take 1 = [32]
  H : (l.drop 17).take 2 = H
  e : (l.drop 19).take 1 = [58]
  I : (l.drop 20).take 2 = I
  f : (l.drop 22).take 1 = [58]
  S : (l.drop 23).take 2 = S
  g : (l.drop 25).take 4 = [32, 71, 77, 84]
theorem parts_of (W D M Y H I S : List UInt8) (hW : W.length = 3) (hD : D.length = 2) (hM : M.length = 3) (hY : Y.length = 4) (hH : H.length = 2) (hI : I.length = 2) (hS : S.length = 2) :
    Parts (W ++ ([44, 32] ++ (D ++ ([32] ++ (M ++ ([32] ++ (Y ++ ([32] ++ (H ++ ([58] ++ (I ++ ([58] ++ (S ++ [32, 71, 77, 84]))))))))))))) W D M Y H I S := by
  obtain ⟨w0, w1, w2, rfl⟩ := len3 hW
  obtain ⟨d0, d1, rfl⟩ := len2 hD
  obtain ⟨m0, m1, m2, rfl⟩ := len3 hM
  obtain ⟨y0, y1, y2, y3, rfl⟩ := len4 hY
  obtain ⟨h0, h1, rfl⟩ := len2 hH
  obtain ⟨i0, i1, rfl⟩ := len2 hI
  obtain ⟨s0, s1, rfl⟩ := len2 hS
  exact ⟨rfl, rfl, rfl, rfl, rfl, rfl, rfl, rfl, rfl, rfl, rfl, rfl, rfl, rfl⟩
theorem mom_parts (n : Nat) : Parts (momF n) (wdN (n / 86400 % 7)) (fixF 2 ((monthAt (n / 86400)).2 + 1)) (mnN (monthAt (n / 86400)).1) (fixF 4 (1970 + (yearAt (n / 86400)).1)) (fixF 2 (n % 86400 / 3600)) (fixF 2 (n % 86400 / 60 % 60)) (fixF 2 (n % 86400 % 60)) := by
  have h : momF n = wdN (n / 86400 % 7) ++ ([44, 32] ++ (fixF 2 ((monthAt (n / 86400)).2 + 1) ++ ([32] ++ (mnN (monthAt (n / 86400)).1 ++ ([32] ++ (fixF 4 (1970 + (yearAt (n / 86400)).1) ++ ([32] ++ (fixF 2 (n % 86400 / 3600) ++ ([58] ++ (fixF 2 (n % 86400 / 60 % 60) ++ ([58] ++ (fixF 2 (n % 86400 % 60) ++ [32, 71, 77, 84])))))))))))) := by
    unfold momF dayTF clockF
    simp only [List.append_assoc]
  rw [h]
  exact parts_of _ _ _ _ _ _ _ (wdN_len _ (by omega)) (fixF_len _ _) (mnN_len _ (by have := (month_within (n / 86400)).2; omega)) (fixF_len _ _) (fixF_len _ _) (fixF_len _ _) (fixF_len _ _)

theorem ok_mom (s : ByteArray) (n : Nat) (hn : n ≤ LastN) (hb : bl s = momF n) : okP s (monthAt (n / 86400)).1 ((monthAt (n / 86400)).2 + 1) (1970 + (yearAt (n / 86400)).1) (n % 86400 / 3600) (n % 86400 / 60 % 60) (n % 86400 % 60) ∧
    dayOf (monthAt (n / 86400)).1 ((monthAt (n / 86400)).2 + 1) (1970 + (yearAt (n / 86400)).1) = n / 86400 := by
  have hs : s.size = 29 := by rw [← bl_length, hb, momF_len]
  have hp := mom_parts n
  rw [← hb] at hp
  have hd : n / 86400 ≤ 2932896 := by unfold LastN at hn; omega
  obtain ⟨hmw, hm11⟩ := month_within (n / 86400)
  have hyw := year_within (n / 86400)
  have hyl := year_last _ hd
  have hml := ml_le (1970 + (yearAt (n / 86400)).1) (monthAt (n / 86400)).1
  have hday : dayOf (monthAt (n / 86400)).1 ((monthAt (n / 86400)).2 + 1) (1970 + (yearAt (n / 86400)).1) = n / 86400 := by
    unfold dayOf
    have h1 := hyw.1
    have h2 := hmw.1
    rw [show 1970 + (yearAt (n / 86400)).1 - 1970 = (yearAt (n / 86400)).1 by omega]
    omega
  have h2 := hmw.2
  refine ⟨?_, hday⟩
  constructor
  · exact (sep_pieces s hs).2 ⟨hp.a, hp.b, hp.c, hp.d, hp.e, hp.f, hp.g⟩
  · rw [show piece s 8 11 = _ from hp.M]
    exact lastF_mn 12 _ (by omega) (by omega)
  · rw [show piece s 5 7 = _ from hp.D]
    exact rdigF_fix 2 _ (by omega)
  · rw [show piece s 12 16 = _ from hp.Y]
    exact rdigF_fix 4 _ (by omega)
  · rw [show piece s 17 19 = _ from hp.H]
    exact rdigF_fix 2 _ (by omega)
  · rw [show piece s 20 22 = _ from hp.I]
    exact rdigF_fix 2 _ (by omega)
  · rw [show piece s 23 25 = _ from hp.S]
    exact rdigF_fix 2 _ (by omega)
  · omega
  · omega
  · omega
  · omega
  · omega
  · omega
  · rw [hday]
    exact hp.W.symm
theorem parse_mom (s : ByteArray) (n : Nat) (hn : n ≤ LastN) (hb : bl s = momF n) : parseF s = (n, 0) := by
  obtain ⟨h, hday⟩ := ok_mom s n hn hb
  rw [ok_parse s _ _ _ _ _ _ h, hday]
  congr 1
  omega
theorem no_ok (s : ByteArray) (h : ¬ ∃ m day year h mi se, okP s m day year h mi se) : parseF s = (0, 5) := by
  unfold parseF
  rw [if_neg]
  rintro ⟨h1, h2, h3⟩
  exact h ⟨_, _, _, _, _, _, (ok_mom s (readN s) h2 h3.symm).1⟩
end Go.Proofs.YtdcbcjljmjnopaaGreatDoor

namespace Go.Proofs.YtdcbcjljmjnopaaGreatDoor
open Go.RowKit

theorem rdigits_at (s : ByteArray) (x y : Int) (a mn : Nat) (hx : x = a) (hy : y = mn) (ha : a ≤ 1000) (hm : mn ≤ 4) (hs : a + mn ≤ s.size) (X : World) :
    Calls Tryz.prog 55 #[.string s, .int .i64 x, .int .i64 y] X (Same (.int .i64 (rdigF (piece s a (a + mn)))) X) := by
  rw [hx, hy]
  exact rdigits s a mn ha hm hs X
theorem rdigF_lo (l : List UInt8) (w : Nat) (h : l.length ≤ w) : -1 ≤ rdigF l ∧ rdigF l < 10 ^ w := by
  unfold rdigF
  split
  · rename_i e
    have h1 := (fixF_back l.length l rfl e).2
    have h2 : 10 ^ l.length ≤ 10 ^ w := Nat.pow_le_pow_right (by omega) h
    constructor
    · omega
    · have : valF 10 l < 10 ^ w := by omega
      exact_mod_cast this
  · constructor
    · omega
    · have : 0 < 10 ^ w := Nat.pow_pos (by omega)
      have : (0 : Int) < 10 ^ w := by exact_mod_cast this
      omega

set_option maxHeartbeats 8000000 in
set_option maxRecDepth 100000 in
theorem rparse_short (s : ByteArray) (hs : ¬ s.size = 29) (w : World) : Calls Tryz.prog 35 #[.string s] w (ParseTold (parseF s) w) := by
  have e1 : ((s.size : Int) == 29) = false := beq_false_of_ne (by omega)
  have e2 : ¬ (s.size : Int) = 29 := by omega
  have HQ : Hid (parseF s = (0, 5)) := Lib.hid (if_neg (fun h => hs h.1))
  generalize parseF s = r at *
  clear hs
  go_enter Tryz.func35, Tryz.ntmps35
  go_wp2_with fail
  go_ret2
  exact ParseTold.mk HQ.out rfl rfl (Below.refl _ _)
set_option maxHeartbeats 8000000 in
set_option maxRecDepth 100000 in
theorem rparse_apart (s : ByteArray) (hs : s.size = 29) (hsep : ¬ sepP s) (w : World) : Calls Tryz.prog 35 #[.string s] w (ParseTold (parseF s) w) := by
  have HQ : Hid (parseF s = (0, 5)) := Lib.hid (no_ok s (fun ⟨_, _, _, _, _, _, h⟩ => hsep h.sep))
  generalize parseF s = r at *
  have HS := Lib.hid hsep
  clear hsep
  go_enter Tryz.func35, Tryz.ntmps35
  go_wp2_with fail
  all_goals
    first
      | (go_ret2; exact ParseTold.mk HQ.out rfl rfl (Below.refl _ _))
      | (exfalso; exact HS.out ⟨hs, by assumption, by assumption, by assumption, by assumption, by assumption, by assumption, by simp_all⟩)
end Go.Proofs.YtdcbcjljmjnopaaGreatDoor
