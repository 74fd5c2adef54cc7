/-
  What the reference's Text answers.
  Conditions: those that each theorem names.
-/
import Derived.Test.YtdcbcjljmjnopaaGreatDoorDC
import Derived.Test.YtdcbcjljmjnopaaGreatDoorWords
import Derived.Test.YtdcbcjljmjnopaaGreatDoorDE
import Derived.Test.YtdcbcjljmjnopaaGreatDoorDG
namespace Go.Proofs.YtdcbcjljmjnopaaGreatDoor
open Go.RowKit

/-- A text is told; nothing that was there has turned. -/
def ToldD (l : List UInt8) (w : World) (e : Ending) (w' : World) : Prop := e = .returned (.string ⟨l.toArray⟩) ∧ Below w.heap.size w w'
theorem retD_i64 {a b : Int} (h : a = b) : Ending.returned (.int .i64 a) = .returned (.int .i64 b) := by rw [h]
set_option maxHeartbeats 1000000 in
theorem rlong (y : Nat) (hy : y ≤ 1000000) (w : World) : Calls Tryz.prog 57 #[.int .i64 (y : Int)] w (Same (.bool (leapB y)) w) := by
  go_enter Tryz.func57, Tryz.ntmps57
  go_wp2
  all_goals
    go_ret
    refine ⟨ret_bool ?_, rfl⟩
    rw [Bool.eq_iff_iff]
    simp [leapB]
    omega

set_option maxHeartbeats 1000000 in
theorem rdays (y m : Nat) (hy : y ≤ 1000000) (hm : m < 12) (w : World) : Calls Tryz.prog 56 #[.int .i64 (y : Int), .int .i64 (m : Int)] w (Tell (.int .i64 (ml y m : Int)) w) := by
  have C := Lib.hid (fun W : World => rlong y hy W)
  have HM := Lib.hid (show ml y m = if m = 1 ∧ leapB y = true then 29 else mdays m from rfl)
  generalize leapB y = b at *
  have HS : ∀ m' : Nat, m' = m → (mdays m : Int) = mdays m' := fun m' e => by rw [e]
  rcases (show m = 0 ∨ m = 1 ∨ m = 2 ∨ m = 3 ∨ m = 4 ∨ m = 5 ∨ m = 6 ∨ m = 7 ∨ m = 8 ∨ m = 9 ∨ m = 10 ∨ m = 11 by omega) with rfl | rfl | rfl | rfl | rfl | rfl | rfl | rfl | rfl | rfl | rfl | rfl
  all_goals
    clear HS hm
    generalize ml y _ = r at *
    go_enter Tryz.func56, Tryz.ntmps56
    go_wp2_with (go_at_call 57; refine (C.out _).mono ?_; rintro e w' ⟨rfl, rfl⟩)
    all_goals
      go_ret
      refine ⟨retD_i64 ?_, ?_⟩
      · rw [HM.out]
        simp_all [mdays]
      · exact (Below.refl _ _).alloc (Nat.le_refl _) _
end Go.Proofs.YtdcbcjljmjnopaaGreatDoor

namespace Go.Proofs.YtdcbcjljmjnopaaGreatDoor
open Go.RowKit

set_option maxHeartbeats 1000000 in
theorem rmonth (m : Nat) (hm : m < 12) (w : World) : Calls Tryz.prog 54 #[.int .i64 (m : Int)] w (ToldD (mnN m) w) := by
  rcases (show m = 0 ∨ m = 1 ∨ m = 2 ∨ m = 3 ∨ m = 4 ∨ m = 5 ∨ m = 6 ∨ m = 7 ∨ m = 8 ∨ m = 9 ∨ m = 10 ∨ m = 11 by omega) with rfl | rfl | rfl | rfl | rfl | rfl | rfl | rfl | rfl | rfl | rfl | rfl
  all_goals
    clear hm
    go_enter Tryz.func54, Tryz.ntmps54
    go_wp2_with fail
    go_ret
    exact ⟨rfl, (Below.refl _ _).alloc (Nat.le_refl _) _⟩
set_option maxHeartbeats 1000000 in
theorem rweekday_at (n : Nat) (w : World) : ∀ k : Nat, n % 7 = k → Calls Tryz.prog 58 #[.int .u64 (n : Int)] w (ToldD (wdN k) w) := by
  intro k hk
  have hk2 : (n : Int) % 7 = (k : Int) := by omega
  have hkl : k < 7 := by omega
  clear hk
  rcases (show k = 0 ∨ k = 1 ∨ k = 2 ∨ k = 3 ∨ k = 4 ∨ k = 5 ∨ k = 6 by omega) with rfl | rfl | rfl | rfl | rfl | rfl | rfl
  all_goals
    clear hkl
    go_enter Tryz.func58, Tryz.ntmps58
    go_wp2_with fail
    go_ret
    exact ⟨rfl, (Below.refl _ _).alloc (Nat.le_refl _) _⟩
theorem rweekday (n : Nat) (w : World) : Calls Tryz.prog 58 #[.int .u64 (n : Int)] w (ToldD (wdN (n % 7)) w) := rweekday_at n w _ rfl
end Go.Proofs.YtdcbcjljmjnopaaGreatDoor

namespace Go.Proofs.YtdcbcjljmjnopaaGreatDoor
open Go.RowKit

theorem fixF_cons : ∀ (w n : Nat), fixF (w + 1) n = dg (n / 10 ^ w % 10) :: fixF w n
  | 0, n => by simp [fixF]
  | w + 1, n => by
    have h := fixF_cons w (n / 10)
    show fixF (w + 1) (n / 10) ++ [dg (n % 10)] = _
    rw [h, Nat.div_div_eq_div_mul, ← Nat.pow_succ']
    rfl
theorem dg_u8 (d : Nat) (h : d < 10) : UInt8.ofNat (48 + d) = dg d := by
  have : ∀ d : Fin 10, UInt8.ofNat (48 + d.val) = dg d.val := by decide
  exact this ⟨d, h⟩

/-- Digits, read; -1 for what are none. -/
def rdigF (l : List UInt8) : Int := if l.all (digB 10) = true then (valF 10 l : Int) else -1
theorem piece_all (s : ByteArray) (a j m : Nat) (h1 : a ≤ j) (h2 : j < m) (hm : m ≤ s.size) (h : ¬ digB 10 (s[j]'(by omega)) = true) : ¬ (piece s a m).all (digB 10) = true := by
  intro e
  have hg : (piece s a m)[j - a]? = some (s[j]'(by omega)) := by
    unfold piece
    rw [List.getElem?_take_of_lt (by omega), List.getElem?_drop, show a + (j - a) = j by omega, bl_get s j (by omega)]
  exact h (List.all_eq_true.1 e _ (List.mem_of_getElem? hg))
set_option maxHeartbeats 4000000 in
theorem rdigits (s : ByteArray) (a mn : Nat) (ha : a ≤ 1000) (hm : mn ≤ 4) (hs : a + mn ≤ s.size) (w : World) : Calls Tryz.prog 55 #[.string s, .int .i64 (a : Int), .int .i64 (mn : Int)] w (Same (.int .i64 (rdigF (piece s a (a + mn)))) w) := by
  go_enter Tryz.func55, Tryz.ntmps55
  go_wp2_with fail
  go_loop [7, 8] (fun vn vi => ∃ j v : Nat, vn = .int .i64 (v : Int) ∧ vi = .int .i64 (j : Int) ∧ a ≤ j ∧ j ≤ a + mn ∧ v ≤ 10000 ∧ Hid (valF 10 (piece s a j) = v ∧ (piece s a j).all (digB 10) = true)) (fun _ vi => a + mn - (intOf vi).toNat)
  case atStart => exact ⟨a, 0, rfl, rfl, Nat.le_refl _, by omega, by omega, Lib.hid ⟨by rw [piece_self]; rfl, by rw [piece_self]; rfl⟩⟩
  case round =>
    obtain ⟨j, v, rfl, rfl, hj1, hj2, hv, H⟩ := hrel
    by_cases hlt : j < a + mn
    · have hjs : j < s.size := by omega
      by_cases hc : 48 ≤ s[j].toNat ∧ s[j].toNat ≤ 57
      · have HW := Lib.hid (worth_ten s[j] hc)
        have H2 := Lib.hid (show valF 10 (piece s a (j + 1)) = v * 10 + worth s[j] ∧ (piece s a (j + 1)).all (digB 10) = true by
          obtain ⟨h1, h2⟩ := H.out
          have hp : piece s a (j + 1) = piece s a j ++ [s[j]] := piece_last s a (j + 1) (by omega) (by omega)
          rw [hp, valF_snoc, h1, List.all_append, h2, List.all_cons, dig_ten]
          exact ⟨rfl, by simp [hc]⟩)
        have hb := (fixF_back _ (piece s a (j + 1)) rfl H2.out.2).2
        have hpl : (piece s a (j + 1)).length ≤ 4 := by
          unfold piece
          rw [List.length_take]
          omega
        have hp4 : 10 ^ (piece s a (j + 1)).length ≤ 10 ^ 4 := Nat.pow_le_pow_right (by omega) hpl
        rw [H2.out.1] at hb
        have hv2 : v * 10 + worth s[j] < 10000 := by omega
        have HV := Lib.hid hv2
        obtain ⟨c1, c2⟩ := hc
        have hv3 : v < 1000 := by omega
        have i1 : (48 : Int) ≤ (s[j].toNat : Int) := by omega
        have i2 : (s[j].toNat : Int) ≤ 57 := by omega
        have i3 : ¬ (57 : Int) < (s[j].toNat : Int) := by omega
        have i4 : ¬ (s[j].toNat : Int) < 48 := by omega
        clear hb hpl hp4 hv2
        go_wp2_with fail
        go_round
        case rel => exact ⟨j + 1, v * 10 + worth s[j], by rw [HW.out]; go_num, by go_num, by omega, by omega, by have := HV.out; omega, H2⟩
        case measure => simp [intOf]; omega
      · have HN := Lib.hid (piece_all s a j (a + mn) hj1 hlt hs (by rw [dig_ten]; simpa using hc))
        have HR := Lib.hid (show rdigF (piece s a (a + mn)) = -1 from if_neg HN.out)
        rcases (show s[j].toNat < 48 ∨ (48 ≤ s[j].toNat ∧ 57 < s[j].toNat) by omega) with h | ⟨h0, h⟩
        · have i1 : (s[j].toNat : Int) < 48 := by omega
          clear hc h
          go_wp2_with fail
          go_ret
          exact ⟨retD_i64 HR.out.symm, rfl⟩
        · have i1 : ¬ (s[j].toNat : Int) < 48 := by omega
          have i2 : (57 : Int) < (s[j].toNat : Int) := by omega
          clear hc h h0
          go_wp2_with fail
          go_ret
          exact ⟨retD_i64 HR.out.symm, rfl⟩
    · have hje : j = a + mn := by omega
      have HR := Lib.hid (show rdigF (piece s a (a + mn)) = (v : Int) by
        rw [← hje]
        unfold rdigF
        rw [if_pos H.out.2, H.out.1])
      clear hje
      go_wp2_with fail
      go_ret
      exact ⟨retD_i64 HR.out.symm, rfl⟩
end Go.Proofs.YtdcbcjljmjnopaaGreatDoor

namespace Go.Proofs.YtdcbcjljmjnopaaGreatDoor
open Go.RowKit

theorem since_toldD {f : FuncId} {args : Array Value} {l : List UInt8} {w X : World} (hX : Below w.heap.size w X) (h : Calls Tryz.prog f args X (ToldD l X)) : Calls Tryz.prog f args X (Since l w) :=
  h.mono fun _ _ h => ⟨h.1, hX.trans (h.2.mono hX.size)⟩
theorem days_since (y m : Nat) (hy : y ≤ 1000000) (hm : m < 12) (w X : World) (hX : Below w.heap.size w X) : Calls Tryz.prog 56 #[.int .i64 (y : Int), .int .i64 (m : Int)] X (SinceV (.int .i64 (ml y m : Int)) w) :=
  since_tell hX (rdays y m hy hm X)
theorem yl_leap (y : Nat) (h : 1970 ≤ y) : yl (y - 1970) = if leapB y = true then 366 else 365 := by
  unfold yl
  rw [show 1970 + (y - 1970) = y by omega]
theorem clock_min (s : Nat) : s % 3600 / 60 = s / 60 % 60 := by omega
theorem momF_form (n y m x : Nat) (h1 : yearAt (n / 86400) = (y - 1970, x)) (hy : 1970 ≤ y) (z : Nat) (h2 : monthAt (n / 86400) = (m, z)) :
    momF n = wdN (n / 86400 % 7) ++ ([44, 32] ++ (fixF 2 (z + 1) ++ ([32] ++ (mnN m ++ ([32] ++ (fixF 4 y ++ ([32] ++ (fixF 2 (n % 86400 / 3600) ++ ([58] ++ (fixF 2 (n % 86400 % 3600 / 60) ++ ([58] ++ (fixF 2 (n % 86400 % 60) ++ [32, 71, 77, 84])))))))))))) := by
  unfold momF dayTF clockF
  rw [h1, h2, clock_min]
  simp only [show 1970 + (y - 1970) = y by omega, List.append_assoc]

end Go.Proofs.YtdcbcjljmjnopaaGreatDoor
