/-
  What package date's Parse answers.
  Conditions: those that each theorem names.
-/
import Derived.Test.YtdcbcjljmjnopaaGreatDoorDG
namespace Go.Proofs.YtdcbcjljmjnopaaGreatDoor
open Go.RowKit

/-- A day's text, read: the year behind 1970, and the days. -/
def readYearF (s : ByteArray) : Nat := max (numbF (piece s 7 11)) 1970
def readDayF (s : ByteArray) : Nat :=
  (readYearF s - 1970) / 400 * 146097 + sumF yl ((readYearF s - 1970) % 400) + sumF (ml (readYearF s)) (namedF (piece s 3 6) 12 0) + max (numbF (piece s 0 2)) 1 - 1
theorem sumF_le (f : Nat → Nat) (b : Nat) (h : ∀ k, f k ≤ b) : ∀ k, sumF f k ≤ b * k
  | 0 => Nat.le_refl _
  | k + 1 => by
    have := sumF_le f b h k
    have h2 := h k
    show sumF f k + f k ≤ b * (k + 1)
    rw [Nat.mul_succ]
    omega
set_option maxHeartbeats 4000000 in
theorem read_day (s : ByteArray) (hs : s.size = 11) (w : World) (ht : DTabs w) : Calls Tryz.prog 51 #[.string s] w (Tell (.int .u64 (readDayF s : Int)) w) := by
  have C1 := Lib.hid (number_at s 0 2 (by omega) w ht)
  have C2 := Lib.hid (number_at s 7 11 (by omega) w ht)
  have b1 := numbF_small (piece s 0 2) 2 (by simp [piece]; omega)
  have b2 := numbF_small (piece s 7 11) 4 (by simp [piece]; omega)
  have BD : Hid (Below w.heap.size w w.drew) := Lib.hid (below_drewN (Below.refl w.heap.size w) 1)
  have HR := Lib.hid (show readDayF s = (readYearF s - 1970) / 400 * 146097 + sumF yl ((readYearF s - 1970) % 400) + sumF (ml (readYearF s)) (namedF (piece s 3 6) 12 0) + max (numbF (piece s 0 2)) 1 - 1 from rfl)
  have e1 : max (numbF (piece s 0 2) : Int) 1 = ((max (numbF (piece s 0 2)) 1 : Nat) : Int) := by omega
  have e2 : max (numbF (piece s 7 11) : Int) 1970 = (readYearF s : Int) := by unfold readYearF; omega
  have hY : readYearF s < 10000 := by unfold readYearF; omega
  have hD : max (numbF (piece s 0 2)) 1 < 100 := by omega
  have hY0 : 1970 ≤ readYearF s := by unfold readYearF; omega
  have hnm := namedF_lt (piece s 3 6) 12 0 (by omega)
  have C5 := Lib.hid (fun (X : World) (hX : Below w.heap.size w X) => by
    have := named_any (s.extract 3 6) X (ht.mon.below hX)
    rw [bl_ext] at this
    exact since_same hX this)
  generalize readDayF s = r at *
  generalize max (numbF (piece s 0 2)) 1 = D at *
  generalize readYearF s = Y at *
  generalize numbF (piece s 0 2) = x1 at *
  generalize numbF (piece s 7 11) = x2 at *
  generalize namedF (piece s 3 6) 12 0 = m at *
  obtain ⟨c, hc⟩ : ∃ c, c = (Y - 1970) / 400 := ⟨_, rfl⟩
  obtain ⟨k, hk⟩ : ∃ k, k = (Y - 1970) % 400 := ⟨_, rfl⟩
  have e3 : ((Y : Int) - 1970) / 400 = (c : Int) := by omega
  have e4 : ((Y : Int) - 1970) % 400 = (k : Int) := by omega
  rw [← hc, ← hk] at HR
  have C4 := Lib.hid (fun (X : World) (hX : Below w.heap.size w X) => since_same hX (ahead_year X k (by omega)))
  have C6 := Lib.hid (fun X : World => month_fn (Y : Int) Y rfl X)
  have C7 := Lib.hid (fun (p : Addr) (X : World) (hX : Below w.heap.size w X) hp => since_same hX (ahead_month Y p X (ht.mon.below hX) hp m (by omega)))
  have hA := sumF_le yl 366 (fun k => (yl_pos k).2) k
  have hM := sumF_le (ml Y) 31 (fun k => ml_le Y k) m
  generalize sumF yl k = A at *
  generalize sumF (ml Y) m = M at *
  have hcl : c < 30 := by omega
  have hkl : k < 400 := by omega
  clear hc hk ht
  have w1 : IntKind.u64.wrap ((c : Int) * 146097) = (c : Int) * 146097 := wrap_u64 _ (by omega)
  have w2 : IntKind.u64.wrap ((c : Int) * 146097 + (A : Int)) = (c : Int) * 146097 + (A : Int) := wrap_u64 _ (by omega)
  have w3 : IntKind.u64.wrap ((c : Int) * 146097 + (A : Int) + (M : Int)) = (c : Int) * 146097 + (A : Int) + (M : Int) := wrap_u64 _ (by omega)
  have w4 : IntKind.u64.wrap ((c : Int) * 146097 + (A : Int) + (M : Int) + (D : Int)) = (c : Int) * 146097 + (A : Int) + (M : Int) + (D : Int) := wrap_u64 _ (by omega)
  have hD1 : 1 ≤ D := by omega
  have w5 : IntKind.u64.wrap ((c : Int) * 146097 + (A : Int) + (M : Int) + (D : Int) - 1) = (c : Int) * 146097 + (A : Int) + (M : Int) + (D : Int) - 1 := wrap_u64 _ (by omega)
  go_enter Tryz.func51, Tryz.ntmps51
  go_wp2_with fail
  go_region_held3 (fun _ => True) (trivial)
    (first
      | (go_at_call 73; (with_reducible refine (C1.out w.drew BD.out).mono ?_); rintro e v5 ⟨rfl, b5⟩; have B5 := Lib.hid b5; clear b5)
      | (go_at_call 73; (with_reducible refine (C2.out _ B5.out).mono ?_); rintro e v6 ⟨rfl, b6⟩; have B6 := Lib.hid b6; clear b6))
  all_goals
    have BE : Hid (Below w.heap.size w v6.drew) := Lib.hid (below_drewN B6.out 1)
    go_wp2_with fail
    go_region_held3 (fun _ => True) (trivial)
      (first
        | (go_at_call 74; (with_reducible refine (C4.out v6.drew BE.out).mono ?_); rintro e v7 ⟨rfl, b7⟩; have B7 := Lib.hid b7; clear b7)
        | (go_at_call 76; (with_reducible refine (C5.out _ B7.out).mono ?_); rintro e v8 ⟨rfl, b8⟩; have B8 := Lib.hid b8; clear b8)
        | (go_at_call 77; (with_reducible refine (C6.out _).mono ?_); rintro e v9 ⟨p, rfl, b9, hp⟩; have HP := Lib.hid hp; have B9 := Lib.hid (B8.out.trans (b9.mono B8.out.size)); clear b9 hp)
        | (go_at_call 74; (with_reducible refine (C7.out _ _ B9.out HP.out).mono ?_); rintro e v10 ⟨rfl, b10⟩; have B10 := Lib.hid b10; clear b10))
    go_wp2_with fail
    go_ret
    exact ⟨ret_u64 (by rw [HR.out]; omega), B10.out⟩
end Go.Proofs.YtdcbcjljmjnopaaGreatDoor

namespace Go.Proofs.YtdcbcjljmjnopaaGreatDoor
open Go.RowKit

/-- The moment that a text of 29 bytes is read as. -/
def readN (s : ByteArray) : Nat := readDayF (s.extract 5 16) * 86400 + readClockF (s.extract 17 25)
def parseF (s : ByteArray) : Nat × Nat := if s.size = 29 ∧ readN s ≤ LastN ∧ momF (readN s) = bl s then (readN s, 0) else (0, 5)
theorem piece_len (s : ByteArray) (k m : Nat) : (piece s k m).length ≤ m - k := by
  rw [piece, List.length_take]
  omega
theorem readClockF_le (s : ByteArray) : readClockF s < 400000 := by
  have b1 := numbF_small (piece s 0 2) 2 (piece_len s 0 2)
  have b2 := numbF_small (piece s 3 5) 2 (piece_len s 3 5)
  have b3 := numbF_small (piece s 6 8) 2 (piece_len s 6 8)
  unfold readClockF
  omega
theorem readDayF_le (s : ByteArray) : readDayF s < 5000000 := by
  have b1 := numbF_small (piece s 0 2) 2 (piece_len s 0 2)
  have b2 := numbF_small (piece s 7 11) 4 (piece_len s 7 11)
  have hY : readYearF s < 10000 := by unfold readYearF; omega
  have hnm := namedF_lt (piece s 3 6) 12 0 (by omega)
  have hA := sumF_le yl 366 (fun k => (yl_pos k).2) ((readYearF s - 1970) % 400)
  have hM := sumF_le (ml (readYearF s)) 31 (fun k => ml_le (readYearF s) k) (namedF (piece s 3 6) 12 0)
  unfold readDayF
  omega
theorem str_ext (s : ByteArray) (k m : Nat) (h : k ≤ m) (hm : m ≤ s.size) : (s.extract k m).size = m - k := by
  rw [← bl_length, bl_ext, piece, List.length_take, List.length_drop, bl_length]
  omega
/-- What Parse answers. -/
def ParseTold (p : Nat × Nat) (w : World) (e : Ending) (w' : World) : Prop := e = .returned (.tuple #[.int .u64 (p.1 : Int), .int .i64 (p.2 : Int)]) ∧ Below w.heap.size w w'
theorem ParseTold.mk {a b : Int} {p q : Nat} {r : Nat × Nat} {w w' : World} (h : r = (p, q)) (ha : a = p) (hb : b = q) (hw : Below w.heap.size w w') : ParseTold r w (.returned (.tuple #[.int .u64 a, .int .i64 b])) w' := ⟨by rw [h, ha, hb], hw⟩

set_option maxHeartbeats 4000000 in
theorem parse_any (s : ByteArray) (w : World) (ht : DTabs w) : Calls Tryz.prog 33 #[.string s] w (ParseTold (parseF s) w) := by
  by_cases hs : s.size = 29
  · have hz1 := str_ext s 5 16 (by omega) (by omega)
    have hz2 := str_ext s 17 25 (by omega) (by omega)
    have l1 := readDayF_le (s.extract 5 16)
    have l2 := readClockF_le (s.extract 17 25)
    have C1 := Lib.hid (fun (X : World) (hX : Below w.heap.size w X) => since_tell hX (read_day (s.extract 5 16) hz1 X (ht.below hX)))
    have C2 := Lib.hid (fun (X : World) (hX : Below w.heap.size w X) => since_tell hX (read_clock (s.extract 17 25) hz2 X (ht.below hX)))
    have C3 : Hid (∀ (x : Int) (X : World), x = (readN s : Int) → Below w.heap.size w X → Calls Tryz.prog 53 #[.int .u64 x] X (SinceV (.tuple #[.string ⟨(textF (readN s)).1.toArray⟩, .int .i64 ((textF (readN s)).2 : Int)]) w)) :=
      Lib.hid (fun x X hx hX => by
        rw [hx]
        exact (text_any (readN s) X (ht.below hX)).mono fun _ _ h => ⟨h.1, hX.trans (h.2.mono hX.size)⟩)
    have HN := Lib.hid (show readN s = readDayF (s.extract 5 16) * 86400 + readClockF (s.extract 17 25) from rfl)
    have HP := Lib.hid (show parseF s = if s.size = 29 ∧ readN s ≤ LastN ∧ momF (readN s) = bl s then (readN s, 0) else (0, 5) from rfl)
    have HT := Lib.hid (show textF (readN s) = if readN s ≤ LastN then (momF (readN s), 0) else ([], 3) from rfl)
    have BD : Hid (Below w.heap.size w w.drew) := Lib.hid (below_drewN (Below.refl w.heap.size w) 1)
    generalize parseF s = r at *
    generalize readN s = n at *
    generalize readDayF (s.extract 5 16) = a at *
    generalize readClockF (s.extract 17 25) = b at *
    have HS := Lib.hid hs
    clear ht hz1 hz2
    have w1 : IntKind.u64.wrap ((a : Int) * 86400) = (a : Int) * 86400 := wrap_u64 _ (by omega)
    have w2 : IntKind.u64.wrap ((a : Int) * 86400 + (b : Int)) = (a : Int) * 86400 + (b : Int) := wrap_u64 _ (by omega)
    have hnx : (a : Int) * 86400 + (b : Int) = (n : Int) := by rw [HN.out]; omega
    have HX := Lib.hid hnx
    clear hnx
    by_cases hl : n ≤ LastN
    · have ht1 : textF n = (momF n, 0) := by rw [HT.out, if_pos hl]
      rw [ht1] at C3
      simp only at C3
      clear ht1 HT
      obtain ⟨t, hT⟩ : ∃ t : ByteArray, t = ⟨(momF n).toArray⟩ := ⟨_, rfl⟩
      rw [← hT] at C3
      have hTb : bl t = momF n := by rw [hT, bl_mk]
      rw [← hTb] at HP
      clear hT hTb
      by_cases hx : t = s
      · subst hx
        have HQ : Hid (r = (n, 0)) := Lib.hid (by rw [HP.out, if_pos ⟨HS.out, hl, rfl⟩])
        clear HP hl
        go_enter Tryz.func33, Tryz.ntmps33
        go_wp2_with fail
        go_region_held3 (fun _ => True) (trivial)
          (first
            | (go_at_call 51; (with_reducible refine (C1.out w.drew BD.out).mono ?_); rintro e v5 ⟨rfl, b5⟩; have B5 := Lib.hid b5; clear b5)
            | (go_at_call 52; (with_reducible refine (C2.out _ B5.out).mono ?_); rintro e v6 ⟨rfl, b6⟩; have B6 := Lib.hid b6; clear b6))
        all_goals
          go_wp2_with fail
          refine (C3.out _ _ HX.out B6.out).mono ?_
          rintro e v7 ⟨rfl, b7⟩
          go_wp2_with fail
          go_ret2
          exact ParseTold.mk HQ.out HX.out rfl b7
      · have HQ : Hid (r = (0, 5)) := Lib.hid (by rw [HP.out, if_neg (fun h => hx (by rw [← mk_bl t, ← mk_bl s, h.2.2]))])
        have hx2 := beq_no hx
        clear HP hl hx
        go_enter Tryz.func33, Tryz.ntmps33
        go_wp2_with fail
        go_region_held3 (fun _ => True) (trivial)
          (first
            | (go_at_call 51; (with_reducible refine (C1.out w.drew BD.out).mono ?_); rintro e v5 ⟨rfl, b5⟩; have B5 := Lib.hid b5; clear b5)
            | (go_at_call 52; (with_reducible refine (C2.out _ B5.out).mono ?_); rintro e v6 ⟨rfl, b6⟩; have B6 := Lib.hid b6; clear b6))
        all_goals
          go_wp2_with fail
          refine (C3.out _ _ HX.out B6.out).mono ?_
          rintro e v7 ⟨rfl, b7⟩
          go_wp2_with fail
          go_ret2
          exact ParseTold.mk HQ.out rfl rfl b7
    · have ht1 : textF n = ([], 3) := by rw [HT.out, if_neg hl]
      rw [ht1] at C3
      simp only at C3
      have HQ : Hid (r = (0, 5)) := Lib.hid (by rw [HP.out, if_neg (fun h => hl h.2.1)])
      clear ht1 HT HP hl
      go_enter Tryz.func33, Tryz.ntmps33
      go_wp2_with fail
      go_region_held3 (fun _ => True) (trivial)
        (first
          | (go_at_call 51; (with_reducible refine (C1.out w.drew BD.out).mono ?_); rintro e v5 ⟨rfl, b5⟩; have B5 := Lib.hid b5; clear b5)
          | (go_at_call 52; (with_reducible refine (C2.out _ B5.out).mono ?_); rintro e v6 ⟨rfl, b6⟩; have B6 := Lib.hid b6; clear b6))
      all_goals
        go_wp2_with fail
        refine (C3.out _ _ HX.out B6.out).mono ?_
        rintro e v7 ⟨rfl, b7⟩
        go_wp2_with fail
        go_ret2
        exact ParseTold.mk HQ.out rfl rfl b7
  · have e1 : ((s.size : Int) == 29) = false := beq_false_of_ne (by omega)
    have HQ : Hid (parseF s = (0, 5)) := Lib.hid (if_neg (fun h => hs h.1))
    generalize parseF s = r at *
    clear ht hs
    go_enter Tryz.func33, Tryz.ntmps33
    go_wp2_with fail
    go_ret2
    exact ParseTold.mk HQ.out rfl rfl (Below.refl _ _)
end Go.Proofs.YtdcbcjljmjnopaaGreatDoor
