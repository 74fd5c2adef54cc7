/-
  What package date's within, ahead and monthNamed answer.
  Conditions: those that each theorem names.
-/
import Derived.Test.YtcnfobjmddncgaaDoorDB
namespace Go.Proofs.YtcnfobjmddncgaaDoor
open Go.RowKit

theorem findF_stop (f : Nat → Nat) (n k d : Nat) (h : d < f k) : findF f n k d = (k, d) := by
  cases n with
  | zero => rfl
  | succ n => unfold findF; rw [if_pos h]
theorem findF_step (f : Nat → Nat) (n k d : Nat) (h : ¬ d < f k) : findF f (n + 1) k d = findF f n (k + 1) (d - f k) := by
  conv => lhs; unfold findF
  rw [if_neg h]
theorem beq_no {t s : ByteArray} (h : ¬ t = s) : (t.toList == s.toList) = false := by
  rw [Lib.toList_data, Lib.toList_data]
  refine beq_false_of_ne fun e => h ?_
  rw [← mk_bl t, ← mk_bl s]
  unfold bl
  rw [e]
theorem find_ret {a b : Int} {p : Nat × Nat} {k d : Nat} (h : p = (k, d)) (ha : a = k) (hb : b = d) : Ending.returned (.tuple #[.int .u64 a, .int .u64 b]) = .returned (.tuple #[.int .u64 (p.1 : Int), .int .u64 (p.2 : Int)]) := by rw [h, ha, hb]

set_option maxHeartbeats 2000000 in
theorem within_year (w : World) (n day : Nat) (hn : n ≤ 100000) (hd : day < 9223372036854775808) :
    Calls Tryd.prog 23 #[.int .u64 (day : Int), .int .u64 ((n : Int) + 1), .func (.func 24) #[] #[]] w (Same (.tuple #[.int .u64 ((findF yl n 0 day).1 : Int), .int .u64 ((findF yl n 0 day).2 : Int)]) w) := by
  have C := Lib.hid (fun (k : Nat) (h : k < n) => year_days k (by omega) w)
  have hz : decide (yl 0 ≤ 366) = true := by simpa using (fun k => (yl_pos k).2) 0
  have HB := Lib.hid (show ∀ k, yl k ≤ 366 from fun k => (fun k => (yl_pos k).2) k)
  clear hz
  skip
  generalize yl = g at *
  go_enter Tryd.func23, Tryd.ntmps23
  go_wp2_with fail
  go_loop [0, 8, 13] (fun vd va vi => ∃ k d : Nat, vd = .int .u64 (d : Int) ∧ va = .int .u64 (k : Int) ∧ vi = .int .u64 (k : Int) ∧ k ≤ n ∧ d ≤ day ∧ Hid (findF g n 0 day = findF g (n - k) k d)) (fun _ _ vi => n - (intOf vi).toNat)
  case atStart => exact ⟨0, day, rfl, rfl, rfl, Nat.zero_le _, Nat.le_refl _, rfl⟩
  case round =>
    obtain ⟨k, d, rfl, rfl, rfl, hk, hdd, hf⟩ := hrel
    by_cases hlt : k < n
    · have CK := Lib.hid (C.out k hlt)
      have hb := HB.out k
      have HS := Lib.hid (findF_stop g (n - k) k d)
      have HT := Lib.hid (findF_step g (n - k - 1) k d)
      generalize g k = x at *
      go_wp2_with fail
      refine CK.out.mono ?_
      rintro e w' ⟨rfl, rfl⟩
      by_cases hx : d < x
      · go_wp2_with fail
        go_ret2
        exact ⟨find_ret (hf.out.trans (HS.out hx)) rfl rfl, rfl⟩
      · go_wp2_with fail
        go_round
        case rel =>
          refine ⟨k + 1, d - x, by go_num, by go_num, by go_num, hlt, by omega, ?_⟩
          refine Lib.hid ?_
          have := HT.out hx
          rw [show n - k - 1 + 1 = n - k by omega] at this
          rw [hf.out, this, show n - (k + 1) = n - k - 1 by omega]
        case measure => simp [intOf]; omega
    · go_wp2_with fail
      go_ret2
      have hkn : n - k = 0 := by omega
      exact ⟨find_ret (hf.out.trans (by rw [hkn]; rfl)) rfl rfl, rfl⟩

set_option maxHeartbeats 2000000 in
theorem ahead_year (w : World) (n : Nat) (hn : n ≤ 100000) :
    Calls Tryd.prog 28 #[.int .u64 (n : Int), .func (.func 24) #[] #[]] w (Same (.int .u64 (sumF yl n : Int)) w) := by
  have C := Lib.hid (fun (k : Nat) (h : k < n) => year_days k (by omega) w)
  have HB := Lib.hid (show ∀ k, yl k ≤ 366 from fun k => (fun k => (yl_pos k).2) k)
  skip
  generalize yl = g at *
  go_enter Tryd.func28, Tryd.ntmps28
  go_wp2_with fail
  go_loop [5, 8] (fun vs vi => ∃ k m : Nat, vs = .int .u64 (m : Int) ∧ vi = .int .u64 (k : Int) ∧ k ≤ n ∧ m ≤ 366 * k ∧ Hid (sumF g k = m)) (fun _ vi => n - (intOf vi).toNat)
  case atStart => exact ⟨0, 0, rfl, rfl, Nat.zero_le _, Nat.le_refl _, rfl⟩
  case round =>
    obtain ⟨k, m, rfl, rfl, hk, hm, hf⟩ := hrel
    by_cases hlt : k < n
    · have CK := Lib.hid (C.out k hlt)
      have hb := HB.out k
      have HS := Lib.hid (show sumF g (k + 1) = sumF g k + g k from rfl)
      generalize g k = x at *
      go_wp2_with fail
      refine CK.out.mono ?_
      rintro e w' ⟨rfl, rfl⟩
      go_wp2_with fail
      go_round
      case rel =>
        refine ⟨k + 1, m + x, by go_num, by go_num, hlt, by omega, ?_⟩
        refine Lib.hid ?_
        rw [HS.out, hf.out]
      case measure => simp [intOf]; omega
    · go_wp2_with fail
      go_ret
      have hkn : k = n := by omega
      exact ⟨ret_u64 (by rw [← hkn, hf.out]), rfl⟩

set_option maxHeartbeats 2000000 in
theorem within_month (y : Nat) (p : Addr) (w : World) (ht : MonTab w) (hp : w.cell? p = some (.int .u64 (y : Int))) (n day : Nat) (hn : n ≤ 11) (hd : day < 9223372036854775808) :
    Calls Tryd.prog 23 #[.int .u64 (day : Int), .int .u64 ((n : Int) + 1), .func (.func 31) #[] #[.pointer (some p)]] w (Same (.tuple #[.int .u64 ((findF (ml y) n 0 day).1 : Int), .int .u64 ((findF (ml y) n 0 day).2 : Int)]) w) := by
  have C := Lib.hid (fun (k : Nat) (h : k < n) => month_days y k (by omega) p w ht hp)
  have hz : decide ((ml y) 0 ≤ 366) = true := by simpa using (fun k => Nat.le_trans (ml_le y k) (by decide)) 0
  have HB := Lib.hid (show ∀ k, (ml y) k ≤ 366 from fun k => (fun k => Nat.le_trans (ml_le y k) (by decide)) k)
  clear hz
  clear ht hp
  generalize (ml y) = g at *
  go_enter Tryd.func23, Tryd.ntmps23
  go_wp2_with fail
  go_loop [0, 8, 13] (fun vd va vi => ∃ k d : Nat, vd = .int .u64 (d : Int) ∧ va = .int .u64 (k : Int) ∧ vi = .int .u64 (k : Int) ∧ k ≤ n ∧ d ≤ day ∧ Hid (findF g n 0 day = findF g (n - k) k d)) (fun _ _ vi => n - (intOf vi).toNat)
  case atStart => exact ⟨0, day, rfl, rfl, rfl, Nat.zero_le _, Nat.le_refl _, rfl⟩
  case round =>
    obtain ⟨k, d, rfl, rfl, rfl, hk, hdd, hf⟩ := hrel
    by_cases hlt : k < n
    · have CK := Lib.hid (C.out k hlt)
      have hb := HB.out k
      have HS := Lib.hid (findF_stop g (n - k) k d)
      have HT := Lib.hid (findF_step g (n - k - 1) k d)
      generalize g k = x at *
      go_wp2_with fail
      refine CK.out.mono ?_
      rintro e w' ⟨rfl, rfl⟩
      by_cases hx : d < x
      · go_wp2_with fail
        go_ret2
        exact ⟨find_ret (hf.out.trans (HS.out hx)) rfl rfl, rfl⟩
      · go_wp2_with fail
        go_round
        case rel =>
          refine ⟨k + 1, d - x, by go_num, by go_num, by go_num, hlt, by omega, ?_⟩
          refine Lib.hid ?_
          have := HT.out hx
          rw [show n - k - 1 + 1 = n - k by omega] at this
          rw [hf.out, this, show n - (k + 1) = n - k - 1 by omega]
        case measure => simp [intOf]; omega
    · go_wp2_with fail
      go_ret2
      have hkn : n - k = 0 := by omega
      exact ⟨find_ret (hf.out.trans (by rw [hkn]; rfl)) rfl rfl, rfl⟩

set_option maxHeartbeats 2000000 in
theorem ahead_month (y : Nat) (p : Addr) (w : World) (ht : MonTab w) (hp : w.cell? p = some (.int .u64 (y : Int))) (n : Nat) (hn : n ≤ 12) :
    Calls Tryd.prog 28 #[.int .u64 (n : Int), .func (.func 31) #[] #[.pointer (some p)]] w (Same (.int .u64 (sumF (ml y) n : Int)) w) := by
  have C := Lib.hid (fun (k : Nat) (h : k < n) => month_days y k (by omega) p w ht hp)
  have HB := Lib.hid (show ∀ k, (ml y) k ≤ 366 from fun k => (fun k => Nat.le_trans (ml_le y k) (by decide)) k)
  clear ht hp
  generalize (ml y) = g at *
  go_enter Tryd.func28, Tryd.ntmps28
  go_wp2_with fail
  go_loop [5, 8] (fun vs vi => ∃ k m : Nat, vs = .int .u64 (m : Int) ∧ vi = .int .u64 (k : Int) ∧ k ≤ n ∧ m ≤ 366 * k ∧ Hid (sumF g k = m)) (fun _ vi => n - (intOf vi).toNat)
  case atStart => exact ⟨0, 0, rfl, rfl, Nat.zero_le _, Nat.le_refl _, rfl⟩
  case round =>
    obtain ⟨k, m, rfl, rfl, hk, hm, hf⟩ := hrel
    by_cases hlt : k < n
    · have CK := Lib.hid (C.out k hlt)
      have hb := HB.out k
      have HS := Lib.hid (show sumF g (k + 1) = sumF g k + g k from rfl)
      generalize g k = x at *
      go_wp2_with fail
      refine CK.out.mono ?_
      rintro e w' ⟨rfl, rfl⟩
      go_wp2_with fail
      go_round
      case rel =>
        refine ⟨k + 1, m + x, by go_num, by go_num, hlt, by omega, ?_⟩
        refine Lib.hid ?_
        rw [HS.out, hf.out]
      case measure => simp [intOf]; omega
    · go_wp2_with fail
      go_ret
      have hkn : k = n := by omega
      exact ⟨ret_u64 (by rw [← hkn, hf.out]), rfl⟩

theorem mn_apart (s : ByteArray) (i : Nat) : ((⟨(mnN i).toArray⟩ : ByteArray) = s) = (mnN i = bl s) := by
  apply propext
  constructor
  · rintro rfl
    rw [bl_mk]
  · intro h
    rw [h, mk_bl]
/-- The month of a name; 0 for what is none. -/
def namedF (l : List UInt8) : Nat → Nat → Nat
  | 0, _ => 0
  | n + 1, k => if mnN k = l then k else namedF l n (k + 1)
theorem namedF_mn : ∀ (n k m : Nat), k ≤ m → m < k + n → k + n ≤ 12 → namedF (mnN m) n k = m
  | 0, k, m, h1, h2, h3 => by omega
  | n + 1, k, m, h1, h2, h3 => by
    unfold namedF
    by_cases h : k = m
    · subst h
      rw [if_pos rfl]
    · rw [if_neg (fun e => h (mnN_inj k m (by omega) (by omega) e))]
      exact namedF_mn n (k + 1) m (by omega) (by omega) (by omega)
theorem namedF_lt (l : List UInt8) : ∀ (n k : Nat), k + n ≤ 12 → namedF l n k < 12
  | 0, k, h => by unfold namedF; omega
  | n + 1, k, h => by
    unfold namedF
    split
    · omega
    · exact namedF_lt l n (k + 1) (by omega)
set_option maxHeartbeats 2000000 in
theorem named_any (s : ByteArray) (w : World) (ht : MonTab w) : Calls Tryd.prog 29 #[.string s] w (Same (.int .u64 (namedF (bl s) 12 0 : Int)) w) := by
  have HT := Lib.hid ht
  have HM := Lib.hid (mn_apart s)
  clear ht
  go_enter Tryd.func29, Tryd.ntmps29
  go_wp2_with fail
  go_loop [4] (fun vi => ∃ k : Nat, vi = .int .i64 (k : Int) ∧ k ≤ 12 ∧ Hid (namedF (bl s) 12 0 = namedF (bl s) (12 - k) k)) (fun vi => 12 - (intOf vi).toNat)
  case atStart => exact ⟨0, rfl, Nat.zero_le _, rfl⟩
  case round =>
    obtain ⟨k, rfl, hk, hf⟩ := hrel
    by_cases hlt : k < 12
    · have hc := (HT.out k hlt).1
      have HMK := Lib.hid (HM.out k)
      have HS := Lib.hid (show namedF (bl s) (12 - k - 1 + 1) k = if mnN k = bl s then k else namedF (bl s) (12 - k - 1) (k + 1) from rfl)
      rw [show 12 - k - 1 + 1 = 12 - k by omega] at HS
      generalize mnN k = nm at *
      obtain ⟨t, hT⟩ : ∃ t : ByteArray, t = ⟨nm.toArray⟩ := ⟨_, rfl⟩
      rw [← hT] at hc HMK
      clear hT
      by_cases hx : t = s
      · subst hx
        have HX := Lib.hid (HMK.out.mp rfl)
        clear HMK
        go_wp2_with fail
        go_ret
        exact ⟨ret_u64 (by rw [hf.out, HS.out, if_pos HX.out]), rfl⟩
      · have HX := Lib.hid (fun h => hx (HMK.out.mpr h))
        have hx2 := beq_no hx
        clear HMK hx
        go_wp2_with fail
        go_round
        case rel =>
          refine ⟨k + 1, by go_num, hlt, ?_⟩
          refine Lib.hid ?_
          rw [hf.out, HS.out, if_neg HX.out, show 12 - (k + 1) = 12 - k - 1 by omega]
        case measure => simp [intOf]; omega
    · go_wp2_with fail
      go_ret
      have hkn : 12 - k = 0 := by omega
      exact ⟨ret_u64 (by rw [hf.out, hkn]; rfl), rfl⟩
end Go.Proofs.YtcnfobjmddncgaaDoor
