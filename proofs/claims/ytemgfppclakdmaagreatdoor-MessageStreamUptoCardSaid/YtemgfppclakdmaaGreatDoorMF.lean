/-
  What the reference's fields and body answer.
  Conditions: those that each theorem names.
-/
import Derived.Test.YtemgfppclakdmaaGreatDoorMB
import Derived.Test.YtemgfppclakdmaaGreatDoorCD
import Derived.Test.YtemgfppclakdmaaGreatDoorHI
import Derived.Test.YtemgfppclakdmaaGreatDoorTP
import Derived.Test.YtemgfppclakdmaaGreatDoorCO
namespace Go.Proofs.YtemgfppclakdmaaGreatDoor
open Go.RowKit

/-- A first line is told. -/
def LineGot (R : List UInt8 × Nat × Nat) (w : World) (e : Ending) (w' : World) : Prop := e = .returned (.tuple #[.string ⟨R.1.toArray⟩, .int .i64 (R.2.1 : Int), .int .i64 (R.2.2 : Int)]) ∧ w = w'
theorem LineGot.mk {R : List UInt8 × Nat × Nat} {l : List UInt8} {a b : Nat} {s : ByteArray} {x y : Int} {w : World} (h : R = (l, a, b)) (hs : s = ⟨l.toArray⟩) (hx : x = a) (hy : y = b) : LineGot R w (.returned (.tuple #[.string s, .int .i64 x, .int .i64 y])) w := ⟨by rw [h, hs, hx, hy], rfl⟩
theorem byte_at {w : World} {P : Nat → Prop} {A : Option Addr} {bs : List UInt8} {n c k : Nat} {x : UInt8} (h : Src w P A bs) (hn : bs.length = n) (hk : bs[k]? = some x) :
    ∃ p : Addr, (∀ X, (Instr.indexAt 22 (.slice A n c) (.int .i64 (k : Int))).run Tryz.prog X = .ok (.pointer (some p)) X) ∧ w.cell? p = some (.int .u8 (x.toNat : Int)) := by
  have hlt := (List.getElem?_eq_some_iff.1 hk).1
  obtain ⟨ad, rfl, _, _, hc⟩ := h (by omega)
  refine ⟨ad.add k, fun X => run_at 22 5 Tryz.underlying22 byteSize ad n c k (by omega) X, hc k _ ?_⟩
  rw [vals_get, hk]
  rfl
set_option maxHeartbeats 4000000 in
set_option maxRecDepth 100000 in
theorem rline_any {P : Nat → Prop} (w : World) (A : Option Addr) (bs : List UInt8) (n c : Nat) (hn : bs.length = n) (hnc : n ≤ c) (hmax : n ≤ 140737488355328) (h : Src w P A bs) :
    Calls Tryz.prog 29 #[.slice A n c] w (LineGot (firstM bs) w) := by
  obtain ⟨R, hR⟩ : ∃ R, firstM bs = R := ⟨_, rfl⟩
  rw [hR]
  have HR := Lib.hid hR
  have HN := Lib.hid hn
  have H := Lib.hid h
  clear hR hn h
  go_enter Tryz.func29, Tryz.ntmps29
  go_wp2_with fail
  go_loop [5] (fun vi => ∃ i : Nat, vi = .int .i64 (i : Int) ∧ i ≤ n ∧ i ≤ 512 ∧ Hid (∀ j, j < i → bs[j]? ≠ some 10)) (fun vi => 512 - (intOf vi).toNat)
  case atStart => exact ⟨0, rfl, Nat.zero_le _, Nat.zero_le _, Lib.hid (fun j hj => by omega)⟩
  case round =>
    obtain ⟨i, rfl, hi, hi2, HP⟩ := hrel
    by_cases hlt : i < n ∧ i < 512
    · obtain ⟨h1, h2⟩ := hlt
      obtain ⟨x, hx⟩ : ∃ x, bs[i]? = some x := ⟨bs[i]'(by rw [HN.out]; omega), List.getElem?_eq_getElem _⟩
      obtain ⟨p, hat, y0⟩ := byte_at (c := c) H.out HN.out hx
      have d1 : decide ((i : Int) < (n : Int)) = true := decide_eq_true (by omega)
      have d1n : decide (i < n) = true := decide_eq_true h1
      have d2 : decide ((i : Int) < 512) = true := decide_eq_true (by omega)
      have d2n : decide (i < 512) = true := decide_eq_true h2
      by_cases h10 : x = 10
      · have hk : lfF 512 bs = some i := lf_of 512 bs i h2 (by rw [hx, h10]) HP.out
        have e1 : ((x.toNat : Int) == 10) = true := by rw [h10]; rfl
        have wr1 : IntKind.i64.wrap ((i : Int) - 1) = (i : Int) - 1 := by rw [IntKind.wrap_i64]; omega
        have wr2 : IntKind.i64.wrap ((i : Int) + 1) = (i : Int) + 1 := by rw [IntKind.wrap_i64]; omega
        by_cases hi0 : i = 0
        · have HF := Lib.hid (show R = ([], 0, 20) by
            rw [← HR.out]
            unfold firstM
            rw [hk]
            simp only
            rw [if_pos (.inl hi0)])
          subst hi0
          rw [show (((0 : Nat)) : Int) = 0 from rfl] at hat
          clear hk hx h10
          go_wp2_with fail
          go_ret3
          exact LineGot.mk HF.out rfl rfl rfl
        · have e2 : ((i : Int) == 0) = false := by simp; omega
          have e2n : ¬ i = 0 := hi0
          obtain ⟨y, hy⟩ : ∃ y, bs[i - 1]? = some y := ⟨bs[i - 1]'(by rw [HN.out]; omega), List.getElem?_eq_getElem _⟩
          obtain ⟨p2, hat2, y2⟩ := byte_at (c := c) H.out HN.out hy
          have hat3 : ∀ X, (Instr.indexAt 22 (.slice A n c) (.int .i64 ((i : Int) - 1))).run Tryz.prog X = .ok (.pointer (some p2)) X := fun X => by
            have := hat2 X
            rwa [show ((i - 1 : Nat) : Int) = (i : Int) - 1 by omega] at this
          by_cases h13 : y = 13
          · have e3 : ((y.toNat : Int) != 13) = false := by rw [h13]; rfl
            have HF := Lib.hid (show R = (bs.take (i - 1), i + 1, 0) by
              rw [← HR.out]
              unfold firstM
              rw [hk]
              simp only
              rw [if_neg (by rw [hy, h13]; simp; omega)])
            obtain ⟨A2, hs2, hsrc2⟩ := run_front8 A n c (i - 1) (by omega)
            have T2 := run_text w A2 (bs.take (i - 1)) (i - 1) c (by rw [List.length_take, HN.out]; omega) (hsrc2 w P bs HN.out (by omega) H.out)
            have hs3 : ∀ X : World, (Instr.slice 22 (.slice A n c) none (some (.int .i64 ((i : Int) - 1))) none).run Tryz.prog X = .ok (.slice A2 (i - 1) c) X := fun X => by
              have := hs2 X
              rwa [show ((i - 1 : Nat) : Int) = (i : Int) - 1 by omega] at this
            generalize bs.take (i - 1) = line at *
            clear hk hx h10 hat2 hy h13 hs2 hsrc2
            go_wp2_with fail
            go_ret3
            exact LineGot.mk HF.out rfl (by omega) rfl
          · have e3 : ((y.toNat : Int) != 13) = true := by
              have : y.toNat ≠ 13 := fun h => h13 (UInt8.toNat_inj.1 h)
              simp; omega
            have HF := Lib.hid (show R = ([], 0, 20) by
              rw [← HR.out]
              unfold firstM
              rw [hk]
              simp only
              rw [if_pos (.inr (by rw [hy]; simpa using h13))])
            clear hk hx h10 hat2 hy h13
            go_wp2_with fail
            go_ret3
            exact LineGot.mk HF.out rfl rfl rfl
      · have e1 : ((x.toNat : Int) == 10) = false := by
          have : x.toNat ≠ 10 := fun h => h10 (UInt8.toNat_inj.1 h)
          simp; omega
        have HP2 := Lib.hid (show ∀ j, j < i + 1 → bs[j]? ≠ some 10 from fun j hj => by
          by_cases hj2 : j < i
          · exact HP.out j hj2
          · obtain rfl : j = i := by omega
            rw [hx]
            simpa using h10)
        clear hx h10
        go_wp2_with fail
        go_round
        case rel => exact ⟨i + 1, by go_num, by omega, by omega, HP2⟩
        case measure => simp [intOf]; omega
    · have hk : lfF 512 bs = none := (lf_none 512 bs).2 (fun j hj => by
        by_cases hj2 : j < i
        · exact HP.out j hj2
        · rw [List.getElem?_eq_none (by rw [HN.out]; omega)]; simp)
      by_cases h512 : 512 ≤ n
      · have hi5 : i = 512 := by omega
        subst hi5
        have HF := Lib.hid (show R = ([], 0, 21) by
          rw [← HR.out]
          unfold firstM
          rw [hk]
          simp only
          rw [if_pos (by rw [HN.out]; exact h512)])
        have d3 : decide ((512 : Int) ≤ (n : Int)) = true := decide_eq_true (by omega)
        clear hk hlt
        by_cases hq : 512 < n
        · go_wp2_with fail
          go_ret3
          exact LineGot.mk HF.out rfl rfl rfl
        · obtain rfl : n = 512 := by omega
          go_wp2_with fail
          go_ret3
          exact LineGot.mk HF.out rfl rfl rfl
      · have hin : i = n := by omega
        subst hin
        have HF := Lib.hid (show R = ([], 0, 8) by
          rw [← HR.out]
          unfold firstM
          rw [hk]
          simp only
          rw [if_neg (by rw [HN.out]; exact h512)])
        have d3 : decide ((512 : Int) ≤ (i : Int)) = false := decide_eq_false (by omega)
        have d3n : decide (512 ≤ i) = false := decide_eq_false h512
        clear hk hlt
        go_wp2_with fail
        go_ret3
        exact LineGot.mk HF.out rfl rfl rfl
end Go.Proofs.YtemgfppclakdmaaGreatDoor

namespace Go.Proofs.YtemgfppclakdmaaGreatDoor
open Go.RowKit

theorem Src.front {w : World} {P : Nat → Prop} {A : Option Addr} {bs : List UInt8} (h : Src w P A bs) (m : Nat) : Src w P A (bs.take m) := by
  intro h0
  obtain ⟨ad, hA, hP, hlt, hc⟩ := h (by rw [List.length_take] at h0; omega)
  refine ⟨ad, hA, hP, hlt, fun i v hv => hc i v ?_⟩
  rw [vals_take, List.getElem?_take] at hv
  split at hv
  · exact hv
  · cases hv
theorem fields_err {b : List UInt8} {at0 : Nat} {l : List Fld} {u e : Nat} (h : parseH ((b.take 2048).drop at0) = (l, u, e)) : fieldsM b at0 = if e = 8 ∧ 2048 ≤ b.length then ([], 0, 21) else if e ≠ 0 then ([], 0, e) else (l, at0 + u, 0) := by
  unfold fieldsM
  rw [h]
set_option maxHeartbeats 4000000 in
set_option maxRecDepth 100000 in
theorem rfields_any {P : Nat → Prop} (w : World) (A : Option Addr) (bs : List UInt8) (n c at0 : Nat) (hn : bs.length = n) (hnc : n ≤ c) (hmax : n ≤ 140737488351232) (ha : at0 ≤ n) (ha2 : at0 ≤ 512) (h : Src w P A bs) :
    Calls Tryz.prog 31 #[.slice A n c, .int .i64 (at0 : Int)] w (HeadGot (fieldsM bs at0) w) := by
  obtain ⟨m, hm⟩ : ∃ m, min n 2048 = m := ⟨_, rfl⟩
  have hl : (bs.take 2048).length = m := by rw [List.length_take, hn]; omega
  obtain ⟨A2, hs2, hsrc2⟩ := run_tail8 A m c at0 (by omega) (by omega)
  have CP0 := rparse_head w A2 ((bs.take 2048).drop at0) (m - at0) (c - at0) (by rw [List.length_drop, hl]) (by omega) (hsrc2 w P _ hl (h.front 2048))
  obtain ⟨ql, qu, qe, hq⟩ : ∃ ql qu qe, parseH ((bs.take 2048).drop at0) = (ql, qu, qe) := ⟨_, _, _, rfl⟩
  have hu := run_used ((bs.take 2048).drop at0)
  rw [List.length_drop, hl, hq] at hu
  rw [hq] at CP0
  obtain ⟨R, hR⟩ : ∃ R, fieldsM bs at0 = R := ⟨_, rfl⟩
  have HR := Lib.hid (hR.symm.trans (fields_err hq))
  rw [hn] at HR
  rw [hR]
  unfold HeadGot at CP0
  simp only at CP0 hu
  have CP := Lib.hid CP0
  have wr : IntKind.i64.wrap ((at0 : Int) + (qu : Int)) = (at0 : Int) + (qu : Int) := by rw [IntKind.wrap_i64]; omega
  clear CP0 hsrc2 hl h hn hq hR
  by_cases hbig : 2048 < n
  · obtain rfl : m = 2048 := by omega
    have d1 : decide ((2048 : Int) < (n : Int)) = true := decide_eq_true (by omega)
    have d2 : decide ((2048 : Int) ≤ (n : Int)) = true := decide_eq_true (by omega)
    have d2n : decide (2048 ≤ n) = true := decide_eq_true (by omega)
    by_cases h8 : qe = 8
    · have HF := Lib.hid (show R = ([], 0, 21) by rw [HR.out, if_pos ⟨h8, by omega⟩])
      have e8 : ((qe : Int) == 8) = true := by subst h8; rfl
      clear h8 hm
      go_enter Tryz.func31, Tryz.ntmps31
      go_wp2_with fail
      refine CP.out.mono ?_
      rintro e w1 ⟨v1, o1, rfl, own1, f1, b1⟩
      have B1 := Lib.hid b1
      clear own1 f1 b1
      go_wp2_with fail
      go_ret3
      exact head_stop HF.out rfl rfl B1.out
    · have e8 : ((qe : Int) == 8) = false := by simp; omega
      by_cases h0 : qe = 0
      · have HF := Lib.hid (show R = (ql, at0 + qu, 0) by rw [HR.out, if_neg (fun h => h8 h.1), if_neg (by omega)])
        have e0 : ((qe : Int) != 0) = false := by subst h0; rfl
        clear h8 h0 hm
        go_enter Tryz.func31, Tryz.ntmps31
        go_wp2_with fail
        refine CP.out.mono ?_
        rintro e w1 ⟨v1, o1, rfl, own1, f1, b1⟩
        have B1 := Lib.hid b1
        have O1 := Lib.hid own1
        have F1 := Lib.hid f1
        clear own1 f1 b1
        go_wp2_with fail
        go_ret3
        exact ⟨v1, o1, by rw [HF.out]; rfl, by rw [HF.out]; exact O1.out, F1.out, B1.out⟩
      · have HF := Lib.hid (show R = ([], 0, qe) by rw [HR.out, if_neg (fun h => h8 h.1), if_pos h0])
        have e0 : ((qe : Int) != 0) = true := by simp; omega
        clear h8 h0 hm
        go_enter Tryz.func31, Tryz.ntmps31
        go_wp2_with fail
        refine CP.out.mono ?_
        rintro e w1 ⟨v1, o1, rfl, own1, f1, b1⟩
        have B1 := Lib.hid b1
        clear own1 f1 b1
        go_wp2_with fail
        go_ret3
        exact head_stop HF.out rfl rfl B1.out
  · obtain rfl : m = n := by omega
    have d1 : decide ((2048 : Int) < (m : Int)) = false := decide_eq_false (by omega)
    have d1n : decide (2048 < m) = false := decide_eq_false (by omega)
    by_cases h8 : qe = 8
    · have e8 : ((qe : Int) == 8) = true := by subst h8; rfl
      by_cases heq : m = 2048
      · subst heq
        have HF := Lib.hid (show R = ([], 0, 21) by rw [HR.out, if_pos ⟨h8, by omega⟩])
        clear h8 hm
        go_enter Tryz.func31, Tryz.ntmps31
        go_wp2_with fail
        refine CP.out.mono ?_
        rintro e w1 ⟨v1, o1, rfl, own1, f1, b1⟩
        have B1 := Lib.hid b1
        clear own1 f1 b1
        go_wp2_with fail
        go_ret3
        exact head_stop HF.out rfl rfl B1.out
      · have d2 : decide ((2048 : Int) ≤ (m : Int)) = false := decide_eq_false (by omega)
        have d2n : decide (2048 ≤ m) = false := decide_eq_false (by omega)
        have HF := Lib.hid (show R = ([], 0, qe) by rw [HR.out, if_neg (by omega), if_pos (by omega)])
        have e0 : ((qe : Int) != 0) = true := by subst h8; rfl
        clear h8 hm
        go_enter Tryz.func31, Tryz.ntmps31
        go_wp2_with fail
        refine CP.out.mono ?_
        rintro e w1 ⟨v1, o1, rfl, own1, f1, b1⟩
        have B1 := Lib.hid b1
        clear own1 f1 b1
        go_wp2_with fail
        go_ret3
        exact head_stop HF.out rfl rfl B1.out
    · have e8 : ((qe : Int) == 8) = false := by simp; omega
      by_cases h0 : qe = 0
      · have HF := Lib.hid (show R = (ql, at0 + qu, 0) by rw [HR.out, if_neg (fun h => h8 h.1), if_neg (by omega)])
        have e0 : ((qe : Int) != 0) = false := by subst h0; rfl
        clear h8 h0 hm
        go_enter Tryz.func31, Tryz.ntmps31
        go_wp2_with fail
        refine CP.out.mono ?_
        rintro e w1 ⟨v1, o1, rfl, own1, f1, b1⟩
        have B1 := Lib.hid b1
        have O1 := Lib.hid own1
        have F1 := Lib.hid f1
        clear own1 f1 b1
        go_wp2_with fail
        go_ret3
        exact ⟨v1, o1, by rw [HF.out]; rfl, by rw [HF.out]; exact O1.out, F1.out, B1.out⟩
      · have HF := Lib.hid (show R = ([], 0, qe) by rw [HR.out, if_neg (fun h => h8 h.1), if_pos h0])
        have e0 : ((qe : Int) != 0) = true := by simp; omega
        clear h8 h0 hm
        go_enter Tryz.func31, Tryz.ntmps31
        go_wp2_with fail
        refine CP.out.mono ?_
        rintro e w1 ⟨v1, o1, rfl, own1, f1, b1⟩
        have B1 := Lib.hid b1
        clear own1 f1 b1
        go_wp2_with fail
        go_ret3
        exact head_stop HF.out rfl rfl B1.out

/-- Bytes in new memory. -/
def OwnGot (bs : List UInt8) (w : World) (e : Ending) (w' : World) : Prop := ∃ v o, e = .returned v ∧ Own w' v o bs ∧ (∀ b, o = some b → w.heap.size ≤ b) ∧ Below w.heap.size w w'
theorem rown_any {P : Nat → Prop} (w : World) (A : Option Addr) (bs : List UInt8) (n c : Nat) (hn : bs.length = n) (hmax : n ≤ 140737488355328) (h : Src w P A bs) : Calls Tryz.prog 65 #[.slice A n c] w (OwnGot bs w) := by
  obtain ⟨v1, w1, o1, hrun, own1, t1, f1⟩ := run_append_src w _ _ [] bs (Own.nil w) A n c hn h (by simp; omega)
  rw [List.nil_append] at own1
  have R1 := Lib.hid hrun
  have O1 := Lib.hid own1
  have B1 := Lib.hid (show Below w.heap.size w w1 from t1.below (fun k _ hk => by cases hk))
  have F1 := Lib.hid (show ∀ b, o1 = some b → w.heap.size ≤ b from fun b hb => by
    rcases f1 with h | h
    · rw [h] at hb; cases hb
    · rw [h] at hb; injection hb with hb; omega)
  clear hrun own1 t1 f1 h
  go_enter Tryz.func65, Tryz.ntmps65
  go_wp2_with (at_builtin; refine append_by rfl (.tmp 4) (.tmp 5) 22 rfl _ _ v1 w1 rfl rfl R1.out ?_)
  go_ret
  exact ⟨v1, o1, rfl, O1.out, F1.out, B1.out⟩
theorem run_front_u64 (A : Option Addr) (n c k : Nat) (hk : k ≤ c) : ∃ A', (∀ W : World, (Instr.slice 22 (.slice A n c) none (some (.int .u64 (k : Int))) none).run Tryz.prog W = .ok (.slice A' k c) W) ∧
    ∀ (w : World) (P : Nat → Prop) (bs : List UInt8), bs.length = n → k ≤ n → Src w P A bs → Src w P A' (bs.take k) := by
  refine ⟨if c = 0 then A else A.map (·.add (0 * 1)), fun W => ?_, fun w P bs hn hkn h => ?_⟩
  · simp [Instr.slice, run_underlying Tryz.underlying22, Instr.sliceBounds, Instr.sliceBound, asIntOf, hk]
  · intro h0
    rw [List.length_take] at h0
    obtain ⟨ad, rfl, hP, hlt, hc⟩ := h (by omega)
    rw [if_neg (by omega)]
    refine ⟨ad.add (0 * 1), rfl, ?_, ?_, fun i v hv => ?_⟩
    · unfold Addr.add; split <;> exact hP
    · unfold Addr.add; split <;> exact hlt
    · rw [add_add_at, Nat.zero_mul, Nat.zero_add]
      refine hc _ v ?_
      rw [vals_take, List.getElem?_take] at hv
      split at hv
      · exact hv
      · cases hv
set_option maxHeartbeats 4000000 in
set_option maxRecDepth 100000 in
theorem rbody_msg {P : Nat → Prop} (w : World) (A : Option Addr) (bs : List UInt8) (n c kd nn : Nat) (ended : Bool) (hn : bs.length = n) (hnc : n ≤ c) (hmax : n ≤ 140737488351232) (hnn : nn ≤ 4096) (h : Src w P A bs) :
    Calls Tryz.prog 33 #[.slice A n c, .int .i64 (kd : Int), .int .u64 (nn : Int), .bool ended] w (TakeGot (bodyM bs (kd, nn, 0) ended) w) := by
  obtain ⟨R, hR⟩ : ∃ R, bodyM bs (kd, nn, 0) ended = R := ⟨_, rfl⟩
  have HR := Lib.hid hR
  rw [hR]
  clear hR
  have wn : IntKind.i64.wrap (nn : Int) = (nn : Int) := by rw [IntKind.wrap_i64]; omega
  by_cases k0 : kd = 0
  · subst k0
    have HF := Lib.hid (show R = ([], 0, 0) by rw [← HR.out]; rfl)
    clear h hn
    go_enter Tryz.func33, Tryz.ntmps33
    go_wp2_with fail
    go_ret3
    exact take_stop HF.out rfl (Below.refl _ _)
  · have e0 : ((kd : Int) == 0) = false := by simp; omega
    by_cases k1 : kd = 1
    · subst k1
      by_cases hl : n < nn
      · have d1 : decide ((n : Int) < (nn : Int)) = true := decide_eq_true (by omega)
        have HF := Lib.hid (show R = ([], 0, 8) by
          rw [← HR.out]
          unfold bodyM
          rw [if_neg (by simp), if_pos rfl, if_pos (by rw [hn]; exact hl)])
        clear h hn e0 k0
        go_enter Tryz.func33, Tryz.ntmps33
        go_wp2_with fail
        go_ret3
        exact take_stop HF.out rfl (Below.refl _ _)
      · have d1 : decide ((n : Int) < (nn : Int)) = false := decide_eq_false (by omega)
        have d1n : decide (n < nn) = false := decide_eq_false hl
        have HF := Lib.hid (show R = (bs.take nn, nn, 0) by
          rw [← HR.out]
          unfold bodyM
          rw [if_neg (by simp), if_pos rfl, if_neg (by rw [hn]; exact hl)])
        obtain ⟨A2, hs2, hsrc2⟩ := run_front_u64 A n c nn (by omega)
        have CO := Lib.hid (rown_any w A2 (bs.take nn) nn c (by rw [List.length_take, hn]; omega) (by omega) (hsrc2 w P bs hn (by omega) h))
        clear h hn e0 k0 hsrc2
        go_enter Tryz.func33, Tryz.ntmps33
        go_wp2_with fail
        refine CO.out.mono ?_
        rintro e w1 ⟨v1, o1, rfl, own1, f1, b1⟩
        have O1 := Lib.hid own1
        have F1 := Lib.hid f1
        have B1 := Lib.hid b1
        clear own1 f1 b1
        go_wp2_with fail
        go_ret3
        exact ⟨v1, o1, take_tell HF.out rfl, by rw [HF.out]; exact O1.out, F1.out, B1.out⟩
    · have e1 : ((kd : Int) == 1) = false := by simp; omega
      by_cases k2 : kd = 2
      · subst k2
        have HF := Lib.hid (show takeF bs = R by
          rw [← HR.out]
          rfl)
        have CT := Lib.hid (rtake_any w A bs n c hn hnc hmax h)
        rw [HF.out] at CT
        unfold TakeGot at CT
        clear h hn e0 k0 e1 k1
        go_enter Tryz.func33, Tryz.ntmps33
        go_wp2_with fail
        refine CT.out.mono ?_
        rintro e w1 ⟨v1, o1, rfl, own1, f1, b1⟩
        have O1 := Lib.hid own1
        have F1 := Lib.hid f1
        have B1 := Lib.hid b1
        clear own1 f1 b1
        go_wp2_with fail
        go_ret3
        exact ⟨v1, o1, rfl, O1.out, F1.out, B1.out⟩
      · have e2 : ((kd : Int) == 2) = false := by simp; omega
        have HG := Lib.hid (show (if 4096 < n then (([], 0, 21) : Tk) else if ended = true then (bs, bs.length, 0) else ([], 0, 8)) = R by
          rw [← HR.out]
          unfold bodyM
          simp only
          rw [if_neg k0, if_neg k1, if_neg k2, hn])
        by_cases hb : 4096 < n
        · have d1 : decide ((4096 : Int) < (n : Int)) = true := decide_eq_true (by omega)
          have HF := Lib.hid (HG.out.symm.trans (if_pos hb))
          clear h hn k0 k1 k2
          go_enter Tryz.func33, Tryz.ntmps33
          go_wp2_with fail
          go_ret3
          exact take_stop HF.out rfl (Below.refl _ _)
        · have d1 : decide ((4096 : Int) < (n : Int)) = false := decide_eq_false (by omega)
          have d1n : decide (4096 < n) = false := decide_eq_false hb
          have HG2 := Lib.hid (HG.out.symm.trans (if_neg hb))
          cases ended with
          | false =>
            have HF := Lib.hid (HG2.out.trans (if_neg (by simp)))
            clear h hn k0 k1 k2
            go_enter Tryz.func33, Tryz.ntmps33
            go_wp2_with fail
            go_ret3
            exact take_stop HF.out rfl (Below.refl _ _)
          | true =>
            have HF := Lib.hid (HG2.out.trans (if_pos rfl))
            have CO := Lib.hid (rown_any w A bs n c hn (by omega) h)
            rw [hn] at HF
            clear h hn k0 k1 k2
            go_enter Tryz.func33, Tryz.ntmps33
            go_wp2_with fail
            refine CO.out.mono ?_
            rintro e w1 ⟨v1, o1, rfl, own1, f1, b1⟩
            have O1 := Lib.hid own1
            have F1 := Lib.hid f1
            have B1 := Lib.hid b1
            clear own1 f1 b1
            go_wp2_with fail
            go_ret3
            exact ⟨v1, o1, take_tell HF.out rfl, by rw [HF.out]; exact O1.out, F1.out, B1.out⟩
end Go.Proofs.YtemgfppclakdmaaGreatDoor
