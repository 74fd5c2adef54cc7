/-
  What the reference's laid and digits answer.
  Conditions: those that each theorem names.
-/
import Derived.Test.YtcnfobjmddncgaaDoorDS
import Derived.Test.YtcnfobjmddncgaaDoorDE
namespace Go.Proofs.YtcnfobjmddncgaaDoor
open Go.RowKit

theorem fixF_cons : ∀ (w n : Nat), fixF (w + 1) n = dg (n / 10 ^ w % 10) :: fixF w n
  | 0, n => by simp [fixF]
  | w + 1, n => by
    have h := fixF_cons w (n / 10)
    show fixF (w + 1) (n / 10) ++ [dg (n % 10)] = _
    rw [h, Nat.div_div_eq_div_mul, ← Nat.pow_succ']
    rfl
theorem dg_u8 (d : Nat) (h : d < 10) : UInt8.ofNat (48 + d) = dg d := by
  have : ∀ d : Fin 10, UInt8.ofNat (48 + d.val) = dg d.val := by decide
  exact this ⟨d, h⟩
set_option maxHeartbeats 4000000 in
set_option maxRecDepth 100000 in
theorem rlaid (n wd : Nat) (hw : wd ≤ 4) (hn : n ≤ 1000000) (w : World) : Calls Tryd.prog 18 #[.int .i64 (n : Int), .int .i64 (wd : Int)] w (ToldD (fixF wd n) w) := by
  go_enter Tryd.func18, Tryd.ntmps18
  go_wp2_with fail
  go_loopw [0, 5, 6] (fun vn vs vi wr => ∃ k m : Nat, ∃ l : List UInt8, vn = .int .i64 (m : Int) ∧ vs = .string ⟨l.toArray⟩ ∧ vi = .int .i64 (k : Int) ∧ k ≤ wd ∧ m ≤ 1000000 ∧ l.length ≤ k ∧ Hid (fixF k n = l ∧ n / 10 ^ k = m) ∧ Below w.heap.size w wr) (fun _ _ vi _ => wd - (intOf vi).toNat)
  case atStart => exact ⟨0, n, [], rfl, rfl, rfl, Nat.zero_le _, hn, Nat.le_refl _, Lib.hid ⟨rfl, by simp⟩, Below.refl _ _⟩
  case round =>
    obtain ⟨k, m, l, rfl, rfl, rfl, hk, hm, hl, H, hB⟩ := hrel
    by_cases hlt : k < wd
    · have hcv : (convert 54 9 (.slice (some ⟨wr.heap.size, 0, none⟩) 1 1)).run Tryd.prog (wr.alloc (.cells #[.int .u8 (48 + (m : Int) % 10)] 5)) = .ok (.string ⟨[dg (m % 10)].toArray⟩) (wr.alloc (.cells #[.int .u8 (48 + (m : Int) % 10)] 5)) :=
        run_convert_bytes_back (P := Tryd.prog) _ 54 9 5 ⟨wr.heap.size, 0, none⟩ 1 [dg (m % 10)] Tryd.underlying54 Tryd.underlying5 Tryd.underlying9 (fun j hj => by
          obtain rfl : j = 0 := by simpa using hj
          rw [Lib.add_plain, World.cell?_alloc_new]
          have := dg_u8 (m % 10) (by omega)
          simp only [List.getElem_cons_zero]
          rw [← this]
          have h2 : ((48 + (m % 10)) % 256 : Nat) = 48 + m % 10 := by omega
          simp [h2])
      have H2 := Lib.hid (show fixF (k + 1) n = [dg (m % 10)] ++ l ∧ n / 10 ^ (k + 1) = m / 10 by
        obtain ⟨h1, h2⟩ := H.out
        rw [fixF_cons, h1, h2, Nat.pow_succ, ← Nat.div_div_eq_div_mul, h2]
        exact ⟨rfl, rfl⟩)
      have hD : [dg (m % 10)].length = 1 := rfl
      generalize [dg (m % 10)] = D at *
      have hsz : ¬ 9223372036854775807 < D.length + l.length := by omega
      go_wp2_with fail
      go_roundw
      case rel => exact ⟨k + 1, m / 10, D ++ l, by go_num, by rfl, by go_num, hlt, by omega, by rw [List.length_append]; omega, H2, hB.alloc hB.size _⟩
      case measure => simp [intOf]; omega
    · go_wp2_with fail
      go_ret
      have hkw : k = wd := by omega
      exact ⟨by rw [← hkw, H.out.1]; rfl, hB⟩

/-- Digits, read; -1 for what are none. -/
def rdigF (l : List UInt8) : Int := if l.all (digB 10) = true then (valF 10 l : Int) else -1
theorem piece_all (s : ByteArray) (a j m : Nat) (h1 : a ≤ j) (h2 : j < m) (hm : m ≤ s.size) (h : ¬ digB 10 (s[j]'(by omega)) = true) : ¬ (piece s a m).all (digB 10) = true := by
  intro e
  have hg : (piece s a m)[j - a]? = some (s[j]'(by omega)) := by
    unfold piece
    rw [List.getElem?_take_of_lt (by omega), List.getElem?_drop, show a + (j - a) = j by omega, bl_get s j (by omega)]
  exact h (List.all_eq_true.1 e _ (List.mem_of_getElem? hg))
set_option maxHeartbeats 4000000 in
theorem rdigits (s : ByteArray) (a mn : Nat) (ha : a ≤ 1000) (hm : mn ≤ 4) (hs : a + mn ≤ s.size) (w : World) : Calls Tryd.prog 22 #[.string s, .int .i64 (a : Int), .int .i64 (mn : Int)] w (Same (.int .i64 (rdigF (piece s a (a + mn)))) w) := by
  go_enter Tryd.func22, Tryd.ntmps22
  go_wp2_with fail
  go_loop [7, 8] (fun vn vi => ∃ j v : Nat, vn = .int .i64 (v : Int) ∧ vi = .int .i64 (j : Int) ∧ a ≤ j ∧ j ≤ a + mn ∧ v ≤ 10000 ∧ Hid (valF 10 (piece s a j) = v ∧ (piece s a j).all (digB 10) = true)) (fun _ vi => a + mn - (intOf vi).toNat)
  case atStart => exact ⟨a, 0, rfl, rfl, Nat.le_refl _, by omega, by omega, Lib.hid ⟨by rw [piece_self]; rfl, by rw [piece_self]; rfl⟩⟩
  case round =>
    obtain ⟨j, v, rfl, rfl, hj1, hj2, hv, H⟩ := hrel
    by_cases hlt : j < a + mn
    · have hjs : j < s.size := by omega
      by_cases hc : 48 ≤ s[j].toNat ∧ s[j].toNat ≤ 57
      · have HW := Lib.hid (worth_ten s[j] hc)
        have H2 := Lib.hid (show valF 10 (piece s a (j + 1)) = v * 10 + worth s[j] ∧ (piece s a (j + 1)).all (digB 10) = true by
          obtain ⟨h1, h2⟩ := H.out
          have hp : piece s a (j + 1) = piece s a j ++ [s[j]] := piece_last s a (j + 1) (by omega) (by omega)
          rw [hp, valF_snoc, h1, List.all_append, h2, List.all_cons, dig_ten]
          exact ⟨rfl, by simp [hc]⟩)
        have hb := (fixF_back _ (piece s a (j + 1)) rfl H2.out.2).2
        have hpl : (piece s a (j + 1)).length ≤ 4 := by
          unfold piece
          rw [List.length_take]
          omega
        have hp4 : 10 ^ (piece s a (j + 1)).length ≤ 10 ^ 4 := Nat.pow_le_pow_right (by omega) hpl
        rw [H2.out.1] at hb
        have hv2 : v * 10 + worth s[j] < 10000 := by omega
        have HV := Lib.hid hv2
        obtain ⟨c1, c2⟩ := hc
        have hv3 : v < 1000 := by omega
        have i1 : (48 : Int) ≤ (s[j].toNat : Int) := by omega
        have i2 : (s[j].toNat : Int) ≤ 57 := by omega
        have i3 : ¬ (57 : Int) < (s[j].toNat : Int) := by omega
        have i4 : ¬ (s[j].toNat : Int) < 48 := by omega
        clear hb hpl hp4 hv2
        go_wp2_with fail
        go_round
        case rel => exact ⟨j + 1, v * 10 + worth s[j], by rw [HW.out]; go_num, by go_num, by omega, by omega, by have := HV.out; omega, H2⟩
        case measure => simp [intOf]; omega
      · have HN := Lib.hid (piece_all s a j (a + mn) hj1 hlt hs (by rw [dig_ten]; simpa using hc))
        have HR := Lib.hid (show rdigF (piece s a (a + mn)) = -1 from if_neg HN.out)
        rcases (show s[j].toNat < 48 ∨ (48 ≤ s[j].toNat ∧ 57 < s[j].toNat) by omega) with h | ⟨h0, h⟩
        · have i1 : (s[j].toNat : Int) < 48 := by omega
          clear hc h
          go_wp2_with fail
          go_ret
          exact ⟨ret_i64 HR.out.symm, rfl⟩
        · have i1 : ¬ (s[j].toNat : Int) < 48 := by omega
          have i2 : (57 : Int) < (s[j].toNat : Int) := by omega
          clear hc h h0
          go_wp2_with fail
          go_ret
          exact ⟨ret_i64 HR.out.symm, rfl⟩
    · have hje : j = a + mn := by omega
      have HR := Lib.hid (show rdigF (piece s a (a + mn)) = (v : Int) by
        rw [← hje]
        unfold rdigF
        rw [if_pos H.out.2, H.out.1])
      clear hje
      go_wp2_with fail
      go_ret
      exact ⟨ret_i64 HR.out.symm, rfl⟩
end Go.Proofs.YtcnfobjmddncgaaDoor
