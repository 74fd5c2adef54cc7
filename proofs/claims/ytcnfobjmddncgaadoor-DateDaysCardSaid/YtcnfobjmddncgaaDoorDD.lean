/-
  What package date's number, digits and clockText answer.
  Conditions: those that each theorem names.
-/
import Derived.Test.YtcnfobjmddncgaaDoorDC
import Derived.Test.YtcnfobjmddncgaaDoorNE
import Derived.WalkSmall
import Derived.Lib.SmallJoins
namespace Go.Proofs.YtcnfobjmddncgaaDoor
open Go.RowKit

/-- A number's digits, read; 0 for what is no number. -/
def numbF (l : List UInt8) : Nat := if l ≠ [] ∧ l.all (digB 10) = true then valF 10 l else 0
theorem dig_ten (c : UInt8) : digB 10 c = decide (48 ≤ c.toNat ∧ c.toNat ≤ 57) := by
  unfold digB worth
  rw [decide_eq_decide]
  split
  · omega
  · split
    · omega
    · split <;> omega
theorem worth_ten (c : UInt8) (h : 48 ≤ c.toNat ∧ c.toNat ≤ 57) : worth c = c.toNat - 48 := by
  unfold worth
  rw [if_pos h]
theorem pu_step : ∀ (l : List UInt8) (acc k : Nat), acc + 1 ≤ 10 ^ k → k + l.length ≤ 8 →
    Lib.parseUintM (2 ^ 64 - 1) acc l = if l.all (digB 10) = true then .ok (l.foldl (fun n c => n * 10 + worth c) acc) else Lib.parseUintB 64 []
  | [], acc, k, _, _ => rfl
  | c :: r, acc, k, h1, h2 => by
    have hk : k + 1 + r.length ≤ 8 := by simpa [Nat.add_assoc, Nat.add_comm 1] using h2
    have hp : 10 ^ k ≤ 10 ^ 7 := Nat.pow_le_pow_right (by omega) (by omega)
    unfold Lib.parseUintM
    rw [List.all_cons, dig_ten]
    by_cases hc : 48 ≤ c.toNat ∧ c.toNat ≤ 57
    · have hlt := UInt8.toNat_lt c
      rw [if_pos hc, if_neg (by omega), if_neg (by omega), pu_step r _ (k + 1) (by rw [Nat.pow_succ]; omega) hk, decide_eq_true hc, Bool.true_and, List.foldl_cons, worth_ten c hc]
    · rw [if_neg hc, decide_eq_false hc, Bool.false_and, if_neg (by simp)]
      rfl
theorem pu_ok (l : List UInt8) (hl : l.length ≤ 8) (h : l ≠ [] ∧ l.all (digB 10) = true) : Lib.parseUintB 64 l = .ok (valF 10 l) := by
  unfold Lib.parseUintB valF
  rw [if_neg h.1, pu_step l 0 0 (by simp) (by omega), if_pos h.2]
theorem pu_no (l : List UInt8) (hl : l.length ≤ 8) (h : ¬ (l ≠ [] ∧ l.all (digB 10) = true)) : Lib.parseUintB 64 l = Lib.parseUintB 64 [] := by
  rw [show Lib.parseUintB 64 l = if l = [] then Lib.parseUintB 64 [] else Lib.parseUintM (2 ^ 64 - 1) 0 l from rfl]
  by_cases h0 : l = []
  · rw [if_pos h0]
  · rw [if_neg h0, pu_step l 0 0 (by simp) (by omega), if_neg (fun e => h ⟨h0, e⟩)]

/-- strconv.ErrSyntax holds an error. -/
def SynVar (w : World) : Prop := ∃ tp p, w.var? Tryd.prog "strconv.ErrSyntax" = some #[.iface tp p]
theorem SynVar.below {w w' : World} (h : SynVar w) (hb : Below w.heap.size w w') : SynVar w' := by
  obtain ⟨tp, p, h⟩ := h
  exact ⟨tp, p, Joins.var_stays (g := 3) (by kernel_rfl) h hb (Nat.le_refl _)⟩
set_option maxHeartbeats 1000000 in
theorem number_any (s : ByteArray) (hs : s.size ≤ 8) (w : World) (hv : SynVar w) : Calls Tryd.prog 27 #[.string s] w (Tell (.int .u64 (numbF (bl s) : Int)) w) := by
  have hl : (bl s).length ≤ 8 := by rw [bl_length]; exact hs
  by_cases h : bl s ≠ [] ∧ (bl s).all (digB 10) = true
  · have hu : numbF (bl s) = valF 10 (bl s) := if_pos h
    have C := Lib.hid (Tryd.strconv_ParseUint_10_at64_ok s (by omega) _ (pu_ok (bl s) hl h) w)
    rw [hu]
    clear hu h hl hv
    generalize valF 10 (bl s) = n at *
    go_enter Tryd.func27, Tryd.ntmps27
    go_wp2_with fail
    refine C.out.mono ?_
    rintro e w' ⟨rfl, hw⟩
    have b : Below w.heap.size w w' := by
      rcases hw with rfl | rfl
      · exact Below.refl _ _
      · exact Lib.bytesWorld_below _ _ _
    clear hw
    go_wp2_with fail
    go_ret
    exact ⟨rfl, b⟩
  · have hu : numbF (bl s) = 0 := if_neg h
    obtain ⟨tp, p, hv⟩ := hv
    have C := Lib.hid (Tryd.strconv_ParseUint_10_at64_syntax_var s (by omega) (pu_no (bl s) hl h) tp p w hv)
    rw [hu]
    clear hu h hl hv
    go_enter Tryd.func27, Tryd.ntmps27
    go_wp2_with fail
    refine C.out.mono ?_
    rintro e w' ⟨N, rfl, _, _, b⟩
    go_wp2_with fail
    go_ret
    exact ⟨rfl, b⟩

theorem mk_append (a b : List UInt8) : (⟨a.toArray⟩ : ByteArray) ++ ⟨b.toArray⟩ = ⟨(a ++ b).toArray⟩ := by
  have h : bl ((⟨a.toArray⟩ : ByteArray) ++ ⟨b.toArray⟩) = a ++ b := by simp [bl, ByteArray.data_append]
  rw [← mk_bl ((⟨a.toArray⟩ : ByteArray) ++ ⟨b.toArray⟩), h]
theorem repeat_nought (c : Nat) : Lib.repeatL [48] c = List.replicate c 48 := by
  have := Lib.repeatL_replicate 48 1 c
  simpa using this
set_option maxHeartbeats 1000000 in
theorem digits_any (n wd : Nat) (h0 : 0 < wd) (hw : wd ≤ 4) (hn : n < 10 ^ wd) (w : World) (ht : PowTab w) : Calls Tryd.prog 26 #[.int .u64 (n : Int), .int .i64 (wd : Int)] w (Told (fixF wd n) w) := by
  obtain ⟨hf, hl⟩ := fixF_num wd n h0 hn
  have hp : 10 ^ wd ≤ 10 ^ 4 := Nat.pow_le_pow_right (by omega) hw
  have C1 := Lib.hid (fmt_ten_any n (by omega) w ht)
  have HF := Lib.hid hf
  have HL := Lib.hid (show (numF 10 n).length = (numF 10 n).length from rfl)
  clear hf hp hn ht
  generalize fixF wd n = r at *
  generalize numF 10 n = D at *
  have C2 := Lib.hid (fun W : World => Tryd.strings_Repeat ⟨#[48]⟩ (wd - D.length) W (by omega) (by show 1 * (wd - D.length) ≤ _; omega))
  rw [show (((wd - D.length : Nat)) : Int) = (wd : Int) - (D.length : Int) by omega, show (⟨#[48]⟩ : ByteArray).data.toList = [48] from rfl, repeat_nought] at C2
  have hz : (List.replicate (wd - D.length) (48 : UInt8)).length ≤ 4 := by simp; omega
  generalize List.replicate (wd - D.length) (48 : UInt8) = R at *
  have hsz : ¬ 9223372036854775807 < R.length + D.length := by omega
  go_enter Tryd.func26, Tryd.ntmps26
  go_wp2_with fail
  refine C1.out.mono ?_
  rintro e w1 ⟨rfl, b1⟩
  go_wp2_with fail
  refine (C2.out _).mono ?_
  rintro e w2 ⟨rfl, b2⟩
  go_wp2_with fail
  go_ret
  exact ⟨by rw [HF.out]; rfl, b1.trans (b2.mono b1.size)⟩

theorem digits_at (x y : Int) (n wd : Nat) (hx : x = n) (hy : y = wd) (h0 : 0 < wd) (hw : wd ≤ 4) (hn : n < 10 ^ wd) (w : World) (ht : PowTab w) : Calls Tryd.prog 26 #[.int .u64 x, .int .i64 y] w (Told (fixF wd n) w) := by
  rw [hx, hy]
  exact digits_any n wd h0 hw hn w ht
set_option maxHeartbeats 1000000 in
theorem clock_any (c : Nat) (hc : c < 86400) (w : World) (ht : PowTab w) : Calls Tryd.prog 14 #[.int .u64 (c : Int)] w (Told (clockF c) w) := by
  have HT := Lib.hid ht
  have C1 := Lib.hid (digits_at ((c : Int) / 3600) 2 (c / 3600) 2 (by omega) rfl (by omega) (by omega) (by omega) w ht)
  have C2 := Lib.hid (fun (W : World) h => digits_at ((c : Int) / 60 % 60) 2 (c / 60 % 60) 2 (by omega) rfl (by omega) (by omega) (by omega) W h)
  have C3 := Lib.hid (fun (W : World) h => digits_at ((c : Int) % 60) 2 (c % 60) 2 (by omega) rfl (by omega) (by omega) (by omega) W h)
  have HR := Lib.hid (show clockF c = fixF 2 (c / 3600) ++ ([58] ++ (fixF 2 (c / 60 % 60) ++ ([58] ++ fixF 2 (c % 60)))) from rfl)
  have l1 := fixF_len 2 (c / 3600)
  have l2 := fixF_len 2 (c / 60 % 60)
  have l3 := fixF_len 2 (c % 60)
  clear ht
  generalize clockF c = r at *
  generalize fixF 2 (c / 3600) = a at *
  generalize fixF 2 (c / 60 % 60) = b at *
  generalize fixF 2 (c % 60) = d at *
  go_enter Tryd.func14, Tryd.ntmps14
  go_wp2_with fail
  refine C1.out.mono ?_
  rintro e w1 ⟨rfl, b1⟩
  have B1 := Lib.hid b1
  clear b1
  go_wp2_with fail
  refine (C2.out _ (HT.out.below B1.out)).mono ?_
  rintro e w2 ⟨rfl, b2⟩
  have B2 := Lib.hid (B1.out.trans (b2.mono B1.out.size))
  clear b2 B1
  go_wp2_with fail
  refine (C3.out _ (HT.out.below B2.out)).mono ?_
  rintro e w3 ⟨rfl, b3⟩
  have B3 := Lib.hid (B2.out.trans (b3.mono B2.out.size))
  clear b3 B2
  go_wp2_with fail
  go_ret
  exact ⟨by rw [HR.out]; simp only [mk_append, List.append_assoc]; rfl, B3.out⟩
end Go.Proofs.YtcnfobjmddncgaaDoor
