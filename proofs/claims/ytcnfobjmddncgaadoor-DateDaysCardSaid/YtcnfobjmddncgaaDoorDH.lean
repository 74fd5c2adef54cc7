/-
  What package date's readDay answers.
  Conditions: those that each theorem names.
-/
import Derived.Test.YtcnfobjmddncgaaDoorDG
namespace Go.Proofs.YtcnfobjmddncgaaDoor
open Go.RowKit

/-- A day's text, read: the year behind 1970, and the days. -/
def readYearF (s : ByteArray) : Nat := max (numbF (piece s 7 11)) 1970
def readDayF (s : ByteArray) : Nat :=
  (readYearF s - 1970) / 400 * 146097 + sumF yl ((readYearF s - 1970) % 400) + sumF (ml (readYearF s)) (namedF (piece s 3 6) 12 0) + max (numbF (piece s 0 2)) 1 - 1
theorem sumF_le (f : Nat → Nat) (b : Nat) (h : ∀ k, f k ≤ b) : ∀ k, sumF f k ≤ b * k
  | 0 => Nat.le_refl _
  | k + 1 => by
    have := sumF_le f b h k
    have h2 := h k
    show sumF f k + f k ≤ b * (k + 1)
    rw [Nat.mul_succ]
    omega
set_option maxHeartbeats 4000000 in
theorem read_day (s : ByteArray) (hs : s.size = 11) (w : World) (ht : DTabs w) : Calls Tryd.prog 20 #[.string s] w (Tell (.int .u64 (readDayF s : Int)) w) := by
  have C1 := Lib.hid (number_at s 0 2 (by omega) w ht)
  have C2 := Lib.hid (number_at s 7 11 (by omega) w ht)
  have b1 := numbF_small (piece s 0 2) 2 (by simp [piece]; omega)
  have b2 := numbF_small (piece s 7 11) 4 (by simp [piece]; omega)
  have BD : Hid (Below w.heap.size w w.drew) := Lib.hid (below_drewN (Below.refl w.heap.size w) 1)
  have HR := Lib.hid (show readDayF s = (readYearF s - 1970) / 400 * 146097 + sumF yl ((readYearF s - 1970) % 400) + sumF (ml (readYearF s)) (namedF (piece s 3 6) 12 0) + max (numbF (piece s 0 2)) 1 - 1 from rfl)
  have e1 : max (numbF (piece s 0 2) : Int) 1 = ((max (numbF (piece s 0 2)) 1 : Nat) : Int) := by omega
  have e2 : max (numbF (piece s 7 11) : Int) 1970 = (readYearF s : Int) := by unfold readYearF; omega
  have hY : readYearF s < 10000 := by unfold readYearF; omega
  have hD : max (numbF (piece s 0 2)) 1 < 100 := by omega
  have hY0 : 1970 ≤ readYearF s := by unfold readYearF; omega
  have hnm := namedF_lt (piece s 3 6) 12 0 (by omega)
  have C5 := Lib.hid (fun (X : World) (hX : Below w.heap.size w X) => by
    have := named_any (s.extract 3 6) X (ht.mon.below hX)
    rw [bl_ext] at this
    exact since_same hX this)
  generalize readDayF s = r at *
  generalize max (numbF (piece s 0 2)) 1 = D at *
  generalize readYearF s = Y at *
  generalize numbF (piece s 0 2) = x1 at *
  generalize numbF (piece s 7 11) = x2 at *
  generalize namedF (piece s 3 6) 12 0 = m at *
  obtain ⟨c, hc⟩ : ∃ c, c = (Y - 1970) / 400 := ⟨_, rfl⟩
  obtain ⟨k, hk⟩ : ∃ k, k = (Y - 1970) % 400 := ⟨_, rfl⟩
  have e3 : ((Y : Int) - 1970) / 400 = (c : Int) := by omega
  have e4 : ((Y : Int) - 1970) % 400 = (k : Int) := by omega
  rw [← hc, ← hk] at HR
  have C4 := Lib.hid (fun (X : World) (hX : Below w.heap.size w X) => since_same hX (ahead_year X k (by omega)))
  have C6 := Lib.hid (fun X : World => month_fn (Y : Int) Y rfl X)
  have C7 := Lib.hid (fun (p : Addr) (X : World) (hX : Below w.heap.size w X) hp => since_same hX (ahead_month Y p X (ht.mon.below hX) hp m (by omega)))
  have hA := sumF_le yl 366 (fun k => (yl_pos k).2) k
  have hM := sumF_le (ml Y) 31 (fun k => ml_le Y k) m
  generalize sumF yl k = A at *
  generalize sumF (ml Y) m = M at *
  have hcl : c < 30 := by omega
  have hkl : k < 400 := by omega
  clear hc hk ht
  have w1 : IntKind.u64.wrap ((c : Int) * 146097) = (c : Int) * 146097 := wrap_u64 _ (by omega)
  have w2 : IntKind.u64.wrap ((c : Int) * 146097 + (A : Int)) = (c : Int) * 146097 + (A : Int) := wrap_u64 _ (by omega)
  have w3 : IntKind.u64.wrap ((c : Int) * 146097 + (A : Int) + (M : Int)) = (c : Int) * 146097 + (A : Int) + (M : Int) := wrap_u64 _ (by omega)
  have w4 : IntKind.u64.wrap ((c : Int) * 146097 + (A : Int) + (M : Int) + (D : Int)) = (c : Int) * 146097 + (A : Int) + (M : Int) + (D : Int) := wrap_u64 _ (by omega)
  have hD1 : 1 ≤ D := by omega
  have w5 : IntKind.u64.wrap ((c : Int) * 146097 + (A : Int) + (M : Int) + (D : Int) - 1) = (c : Int) * 146097 + (A : Int) + (M : Int) + (D : Int) - 1 := wrap_u64 _ (by omega)
  go_enter Tryd.func20, Tryd.ntmps20
  go_wp2_with fail
  go_region_held3 (fun _ => True) (trivial)
    (first
      | (go_at_call 27; (with_reducible refine (C1.out w.drew BD.out).mono ?_); rintro e v5 ⟨rfl, b5⟩; have B5 := Lib.hid b5; clear b5)
      | (go_at_call 27; (with_reducible refine (C2.out _ B5.out).mono ?_); rintro e v6 ⟨rfl, b6⟩; have B6 := Lib.hid b6; clear b6))
  all_goals
    have BE : Hid (Below w.heap.size w v6.drew) := Lib.hid (below_drewN B6.out 1)
    go_wp2_with fail
    go_region_held3 (fun _ => True) (trivial)
      (first
        | (go_at_call 28; (with_reducible refine (C4.out v6.drew BE.out).mono ?_); rintro e v7 ⟨rfl, b7⟩; have B7 := Lib.hid b7; clear b7)
        | (go_at_call 29; (with_reducible refine (C5.out _ B7.out).mono ?_); rintro e v8 ⟨rfl, b8⟩; have B8 := Lib.hid b8; clear b8)
        | (go_at_call 25; (with_reducible refine (C6.out _).mono ?_); rintro e v9 ⟨p, rfl, b9, hp⟩; have HP := Lib.hid hp; have B9 := Lib.hid (B8.out.trans (b9.mono B8.out.size)); clear b9 hp)
        | (go_at_call 28; (with_reducible refine (C7.out _ _ B9.out HP.out).mono ?_); rintro e v10 ⟨rfl, b10⟩; have B10 := Lib.hid b10; clear b10))
    go_wp2_with fail
    go_ret
    exact ⟨ret_u64 (by rw [HR.out]; omega), B10.out⟩
end Go.Proofs.YtcnfobjmddncgaaDoor
