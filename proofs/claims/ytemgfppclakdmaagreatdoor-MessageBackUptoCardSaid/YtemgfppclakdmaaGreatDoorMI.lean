/-
  What the reference's SameFields, SameRequest and SameResponse answer.
  Conditions: those that each theorem names.
-/
import Derived.Test.YtemgfppclakdmaaGreatDoorMB
import Derived.Test.YtemgfppclakdmaaGreatDoorHC
import Derived.Laws.Rows
namespace Go.Proofs.YtemgfppclakdmaaGreatDoor
open Go.RowKit

set_option maxHeartbeats 4000000 in
set_option maxRecDepth 100000 in
theorem rsame9_any {P P' : Nat → Prop} (w : World) (A A' : Option Addr) (ls ls' : List Fld) (n n' c c' : Nat) (hn : ls.length = n) (hn' : ls'.length = n') (hmax : n ≤ 140737488351232) (h : SrcF w P A ls) (h' : SrcF w P' A' ls') :
    Calls Tryz.prog 42 #[.slice A n c, .slice A' n' c'] w fun e w' => e = .returned (.bool (ls == ls')) ∧ Below w.heap.size w w' := by
  have HN := Lib.hid hn
  have HN' := Lib.hid hn'
  have H := Lib.hid h
  have H' := Lib.hid h'
  by_cases hne : n = n'
  · subst hne
    have e0 : ((n : Int) != (n : Int)) = false := by simp
    clear hn hn' h h'
    go_enter Tryz.func42, Tryz.ntmps42
    go_wp2_with fail
    go_loopw [5] (fun vi wr => ∃ k : Nat, vi = .int .i64 (k : Int) ∧ k ≤ n ∧ Hid (ls.take k = ls'.take k) ∧ Hid (Below w.heap.size w wr)) (fun vi _ => n - (intOf vi).toNat)
    case atStart => exact ⟨0, rfl, Nat.zero_le _, Lib.hid rfl, Lib.hid (Below.refl _ _)⟩
    case round =>
      obtain ⟨k, rfl, hk, HE, HB⟩ := hrel
      by_cases hlt : k < n
      · obtain ⟨p, f, hf, hat, y0, y1, _, _⟩ := H.out.at (c := c) HN.out hlt HB.out
        obtain ⟨p', f', hf', hat', y0', y1', _, _⟩ := H'.out.at (c := c') HN'.out hlt HB.out
        have HX := Lib.hid hf
        have HY := Lib.hid hf'
        obtain ⟨Nm, hNm⟩ : ∃ Nm : ByteArray, Nm = ⟨f.1.toArray⟩ := ⟨_, rfl⟩
        obtain ⟨Vl, hVl⟩ : ∃ Vl : ByteArray, Vl = ⟨f.2.toArray⟩ := ⟨_, rfl⟩
        obtain ⟨Nm', hNm'⟩ : ∃ Nm : ByteArray, Nm = ⟨f'.1.toArray⟩ := ⟨_, rfl⟩
        obtain ⟨Vl', hVl'⟩ : ∃ Vl : ByteArray, Vl = ⟨f'.2.toArray⟩ := ⟨_, rfl⟩
        rw [← hNm] at y0
        rw [← hVl] at y1
        rw [← hNm'] at y0'
        rw [← hVl'] at y1'
        have HF := Lib.hid (show f = (bl Nm, bl Vl) by rw [hNm, hVl, bl_mk, bl_mk])
        have HF' := Lib.hid (show f' = (bl Nm', bl Vl') by rw [hNm', hVl', bl_mk, bl_mk])
        clear hf hf' hNm hVl hNm' hVl'
        have hg := fldGuard
        have hq := run_neq_fld Nm Vl Nm' Vl'
        by_cases hxy : f = f'
        · have HT := Lib.hid (show ls.take (k + 1) = ls'.take (k + 1) by rw [take_snoc ls k f HX.out, take_snoc ls' k f' HY.out, HE.out, hxy])
          have hb : (!(Nm.toList == Nm'.toList && Vl.toList == Vl'.toList)) = false := by
            have h1 := HF.out
            rw [hxy, HF'.out] at h1
            simp only [Prod.mk.injEq] at h1
            rw [Lib.toList_data, Lib.toList_data, Lib.toList_data, Lib.toList_data]
            have e1 : Nm'.data.toList = Nm.data.toList := h1.1
            have e2 : Vl'.data.toList = Vl.data.toList := h1.2
            rw [e1, e2]
            simp
          rw [hb] at hq
          clear hb hxy
          go_wp2_with fail
          go_quiet (fail)
          go_wp2_with fail
          go_roundw
          case rel => exact ⟨k + 1, by go_num, hlt, HT, Lib.hid (below_drewN HB.out _)⟩
          case measure => simp [intOf]; omega
        · have HD := Lib.hid (show (ls == ls') = false by
            rw [beq_eq_false_iff_ne]
            intro e
            have h1 := HX.out
            rw [e, HY.out] at h1
            exact hxy (Option.some.inj h1.symm))
          have hb : (!(Nm.toList == Nm'.toList && Vl.toList == Vl'.toList)) = true := by
            rw [Bool.not_eq_true', ← Bool.not_eq_true, Bool.and_eq_true, beq_iff_eq, beq_iff_eq, Lib.toList_data, Lib.toList_data, Lib.toList_data, Lib.toList_data]
            rintro ⟨e1, e2⟩
            apply hxy
            rw [HF.out, HF'.out]
            unfold bl
            rw [e1, e2]
          rw [hb] at hq
          clear hb hxy
          go_wp2_with fail
          go_quiet (fail)
          go_wp2_with fail
          go_ret
          exact ⟨ret_bool HD.out.symm, below_drewN HB.out _⟩
      · have HF := Lib.hid (show (ls == ls') = true by
          have := HE.out
          rw [List.take_of_length_le (by rw [HN.out]; omega), List.take_of_length_le (by rw [HN'.out]; omega)] at this
          rw [this]
          simp)
        go_wp2_with fail
        go_ret
        exact ⟨ret_bool HF.out.symm, HB.out⟩
  · have e0 : ((n : Int) != (n' : Int)) = true := by simp; omega
    have HF := Lib.hid (show (ls == ls') = false by
      rw [beq_eq_false_iff_ne]
      intro e
      rw [e] at hn
      omega)
    clear hn hn' h h' hne
    go_enter Tryz.func42, Tryz.ntmps42
    go_wp2_with fail
    go_ret
    exact ⟨ret_bool HF.out.symm, Below.refl _ _⟩
set_option maxHeartbeats 8000000 in
set_option maxRecDepth 100000 in
theorem rsamereq_any {P P' Q Q' : Nat → Prop} (w : World) (s0 s0' : ByteArray) (s1 s1' : ByteArray) (i2 i2' : Int) (A A' D D' : Option Addr) (ls ls' : List Fld) (bs bs' : List UInt8) (n n' c c' m m' d d' : Nat) (hn : ls.length = n) (hn' : ls'.length = n') (hmax : n ≤ 140737488351232) (hm : bs.length = m) (hm' : bs'.length = m') (h : SrcF w P A ls) (h' : SrcF w P' A' ls') (hb : Src w Q D bs) (hb' : Src w Q' D' bs') :
    Calls Tryz.prog 13 #[.agg #[.string s0, .string s1, .int .i64 i2, .slice A n c, .slice D m d], .agg #[.string s0', .string s1', .int .i64 i2', .slice A' n' c', .slice D' m' d']] w fun e w' => e = .returned (.bool (decide (bl s0 = bl s0' ∧ bl s1 = bl s1' ∧ i2 = i2' ∧ ls = ls' ∧ bs = bs'))) ∧ Below w.heap.size w w' := by
  obtain ⟨X, hX⟩ : ∃ X, X = ((w.alloc (.cells #[.string s0, .string s1, .int .i64 i2, .slice A n c, .slice D m d] 25)).alloc (.cells #[.string s0', .string s1', .int .i64 i2', .slice A' n' c', .slice D' m' d'] 25)) := ⟨_, rfl⟩
  have BX : Below w.heap.size w X := by rw [hX]; exact ((Below.refl _ _).alloc (Nat.le_refl _) _).alloc (Below.size ((Below.refl _ _).alloc (Nat.le_refl _) _)) _
  have I1 : Is X w.heap.size 25 [.string s0, .string s1, .int .i64 i2, .slice A n c, .slice D m d] := by rw [hX]; exact (Is.made w 25 [.string s0, .string s1, .int .i64 i2, .slice A n c, .slice D m d]).alloc _
  have I2 : Is X (w.heap.size + 1) 25 [.string s0', .string s1', .int .i64 i2', .slice A' n' c', .slice D' m' d'] := by
    rw [hX]
    have := Is.made (w.alloc (.cells #[.string s0, .string s1, .int .i64 i2, .slice A n c, .slice D m d] 25)) 25 [.string s0', .string s1', .int .i64 i2', .slice A' n' c', .slice D' m' d']
    rwa [show (w.alloc (.cells #[.string s0, .string s1, .int .i64 i2, .slice A n c, .slice D m d] 25)).heap.size = w.heap.size + 1 by simp] at this
  have CS := Lib.hid (rsame9_any X A A' ls ls' n n' c c' hn hn' hmax (h.below BX) (h'.below BX))
  have HS := Lib.hid (hb.kept (Turn.of_below (S := fun _ => False) BX) (fun _ _ h => h))
  have HS' := Lib.hid (hb'.kept (Turn.of_below (S := fun _ => False) BX) (fun _ _ h => h))
  have HB := Lib.hid BX
  have J1 := Lib.hid I1
  have J2 := Lib.hid I2
  have HM := Lib.hid hm
  have HM' := Lib.hid hm'
  have x0 : X.cell? ⟨w.heap.size, 0, none⟩ = some (.string s0) := J1.out.cell 0
  have x1 : X.cell? ⟨w.heap.size, 1, none⟩ = some (.string s1) := J1.out.cell 1
  have x2 : X.cell? ⟨w.heap.size, 2, none⟩ = some (.int .i64 i2) := J1.out.cell 2
  have x3 : X.cell? ⟨w.heap.size, 3, none⟩ = some (.slice A n c) := J1.out.cell 3
  have x4 : X.cell? ⟨w.heap.size, 4, none⟩ = some (.slice D m d) := J1.out.cell 4
  have y0 : X.cell? ⟨w.heap.size + 1, 0, none⟩ = some (.string s0') := J2.out.cell 0
  have y1 : X.cell? ⟨w.heap.size + 1, 1, none⟩ = some (.string s1') := J2.out.cell 1
  have y2 : X.cell? ⟨w.heap.size + 1, 2, none⟩ = some (.int .i64 i2') := J2.out.cell 2
  have y3 : X.cell? ⟨w.heap.size + 1, 3, none⟩ = some (.slice A' n' c') := J2.out.cell 3
  have y4 : X.cell? ⟨w.heap.size + 1, 4, none⟩ = some (.slice D' m' d') := J2.out.cell 4
  clear hn hn' hm hm' h h' hb hb' BX I1 I2
  by_cases q0 : bl s0 = bl s0'
  · have e0 : (s0.toList == s0'.toList) = true := by rw [Lib.toList_data, Lib.toList_data]; simpa [bl] using q0
    have Q0 := Lib.hid q0
    clear q0
    by_cases q1 : bl s1 = bl s1'
    · have e1 : (s1.toList == s1'.toList) = true := by rw [Lib.toList_data, Lib.toList_data]; simpa [bl] using q1
      have Q1 := Lib.hid q1
      clear q1
      by_cases q2 : i2 = i2'
      · have e2 : (i2 == i2') = true := by simpa using q2
        have Q2 := Lib.hid q2
        clear q2
        by_cases q3 : ls = ls'
        · rw [show (ls == ls') = true by simpa using q3] at CS
          go_enter Tryz.func13, Tryz.ntmps13
          go_upto_region 1 with fail
          rw [← hX]
          clear hX
          go_wp2_with fail
          refine CS.out.mono ?_
          rintro e w3 ⟨rfl, b3⟩
          have T1 := run_text w3 D bs m d HM.out (HS.out.kept (Turn.of_below (S := fun _ => False) b3) (fun _ _ h => h))
          have T2 := run_text w3 D' bs' m' d' HM'.out (HS'.out.kept (Turn.of_below (S := fun _ => False) b3) (fun _ _ h => h))
          have J3 := Lib.hid (J1.out.kept (Turn.of_below (S := fun _ => False) b3) (fun h => h))
          have J4 := Lib.hid (J2.out.kept (Turn.of_below (S := fun _ => False) b3) (fun h => h))
          have z4 : w3.cell? ⟨w.heap.size, 4, none⟩ = some (.slice D m d) := J3.out.cell 4
          have t4 : w3.cell? ⟨w.heap.size + 1, 4, none⟩ = some (.slice D' m' d') := J4.out.cell 4
          obtain ⟨S, hS⟩ : ∃ S : ByteArray, S = ⟨bs.toArray⟩ := ⟨_, rfl⟩
          obtain ⟨S', hS'⟩ : ∃ S : ByteArray, S = ⟨bs'.toArray⟩ := ⟨_, rfl⟩
          rw [← hS] at T1
          rw [← hS'] at T2
          have B3 := Lib.hid (HB.out.trans (b3.mono HB.out.size))
          have HQ := Lib.hid (show (S.toList == S'.toList) = decide (bs = bs') by rw [hS, hS', Lib.toList_data, Lib.toList_data, Bool.eq_iff_iff]; simp)
          have HR := Lib.hid (show decide (bl s0 = bl s0' ∧ bl s1 = bl s1' ∧ i2 = i2' ∧ ls = ls' ∧ bs = bs') = decide (bs = bs') by simp [Q0.out, Q1.out, Q2.out, q3])
          clear hS hS' b3
          cases hq : (S.toList == S'.toList) with
          | true =>
            go_wp2_with fail
            go_ret
            exact ⟨ret_bool (HR.out.trans (HQ.out.symm.trans hq)).symm, B3.out⟩
          | false =>
            go_wp2_with fail
            go_ret
            exact ⟨ret_bool (HR.out.trans (HQ.out.symm.trans hq)).symm, B3.out⟩
        · rw [show (ls == ls') = false by simpa using q3] at CS
          have HR := Lib.hid (show decide (bl s0 = bl s0' ∧ bl s1 = bl s1' ∧ i2 = i2' ∧ ls = ls' ∧ bs = bs') = false by simp [q3])
          go_enter Tryz.func13, Tryz.ntmps13
          go_upto_region 1 with fail
          rw [← hX]
          clear hX
          go_wp2_with fail
          refine CS.out.mono ?_
          rintro e w3 ⟨rfl, b3⟩
          have B3 := Lib.hid (HB.out.trans (b3.mono HB.out.size))
          clear b3
          go_wp2_with fail
          go_ret
          exact ⟨ret_bool HR.out.symm, B3.out⟩
      · have e2 : (i2 == i2') = false := by simpa using q2
        have HR := Lib.hid (show decide (bl s0 = bl s0' ∧ bl s1 = bl s1' ∧ i2 = i2' ∧ ls = ls' ∧ bs = bs') = false by simp [q2])
        go_enter Tryz.func13, Tryz.ntmps13
        go_upto_region 1 with fail
        rw [← hX]
        clear hX
        go_wp2_with fail
        go_ret
        exact ⟨ret_bool HR.out.symm, HB.out⟩
    · have e1 : (s1.toList == s1'.toList) = false := by rw [Lib.toList_data, Lib.toList_data]; simpa [bl] using q1
      have HR := Lib.hid (show decide (bl s0 = bl s0' ∧ bl s1 = bl s1' ∧ i2 = i2' ∧ ls = ls' ∧ bs = bs') = false by simp [q1])
      go_enter Tryz.func13, Tryz.ntmps13
      go_upto_region 1 with fail
      rw [← hX]
      clear hX
      go_wp2_with fail
      go_ret
      exact ⟨ret_bool HR.out.symm, HB.out⟩
  · have e0 : (s0.toList == s0'.toList) = false := by rw [Lib.toList_data, Lib.toList_data]; simpa [bl] using q0
    have HR := Lib.hid (show decide (bl s0 = bl s0' ∧ bl s1 = bl s1' ∧ i2 = i2' ∧ ls = ls' ∧ bs = bs') = false by simp [q0])
    go_enter Tryz.func13, Tryz.ntmps13
    go_upto_region 1 with fail
    rw [← hX]
    clear hX
    go_wp2_with fail
    go_ret
    exact ⟨ret_bool HR.out.symm, HB.out⟩
set_option maxHeartbeats 8000000 in
set_option maxRecDepth 100000 in
theorem rsameres_any {P P' Q Q' : Nat → Prop} (w : World) (i0 i0' : Int) (s1 s1' : ByteArray) (i2 i2' : Int) (A A' D D' : Option Addr) (ls ls' : List Fld) (bs bs' : List UInt8) (n n' c c' m m' d d' : Nat) (hn : ls.length = n) (hn' : ls'.length = n') (hmax : n ≤ 140737488351232) (hm : bs.length = m) (hm' : bs'.length = m') (h : SrcF w P A ls) (h' : SrcF w P' A' ls') (hb : Src w Q D bs) (hb' : Src w Q' D' bs') :
    Calls Tryz.prog 14 #[.agg #[.int .i64 i0, .string s1, .int .i64 i2, .slice A n c, .slice D m d], .agg #[.int .i64 i0', .string s1', .int .i64 i2', .slice A' n' c', .slice D' m' d']] w fun e w' => e = .returned (.bool (decide (i0 = i0' ∧ bl s1 = bl s1' ∧ i2 = i2' ∧ ls = ls' ∧ bs = bs'))) ∧ Below w.heap.size w w' := by
  obtain ⟨X, hX⟩ : ∃ X, X = ((w.alloc (.cells #[.int .i64 i0, .string s1, .int .i64 i2, .slice A n c, .slice D m d] 32)).alloc (.cells #[.int .i64 i0', .string s1', .int .i64 i2', .slice A' n' c', .slice D' m' d'] 32)) := ⟨_, rfl⟩
  have BX : Below w.heap.size w X := by rw [hX]; exact ((Below.refl _ _).alloc (Nat.le_refl _) _).alloc (Below.size ((Below.refl _ _).alloc (Nat.le_refl _) _)) _
  have I1 : Is X w.heap.size 32 [.int .i64 i0, .string s1, .int .i64 i2, .slice A n c, .slice D m d] := by rw [hX]; exact (Is.made w 32 [.int .i64 i0, .string s1, .int .i64 i2, .slice A n c, .slice D m d]).alloc _
  have I2 : Is X (w.heap.size + 1) 32 [.int .i64 i0', .string s1', .int .i64 i2', .slice A' n' c', .slice D' m' d'] := by
    rw [hX]
    have := Is.made (w.alloc (.cells #[.int .i64 i0, .string s1, .int .i64 i2, .slice A n c, .slice D m d] 32)) 32 [.int .i64 i0', .string s1', .int .i64 i2', .slice A' n' c', .slice D' m' d']
    rwa [show (w.alloc (.cells #[.int .i64 i0, .string s1, .int .i64 i2, .slice A n c, .slice D m d] 32)).heap.size = w.heap.size + 1 by simp] at this
  have CS := Lib.hid (rsame9_any X A A' ls ls' n n' c c' hn hn' hmax (h.below BX) (h'.below BX))
  have HS := Lib.hid (hb.kept (Turn.of_below (S := fun _ => False) BX) (fun _ _ h => h))
  have HS' := Lib.hid (hb'.kept (Turn.of_below (S := fun _ => False) BX) (fun _ _ h => h))
  have HB := Lib.hid BX
  have J1 := Lib.hid I1
  have J2 := Lib.hid I2
  have HM := Lib.hid hm
  have HM' := Lib.hid hm'
  have x0 : X.cell? ⟨w.heap.size, 0, none⟩ = some (.int .i64 i0) := J1.out.cell 0
  have x1 : X.cell? ⟨w.heap.size, 1, none⟩ = some (.string s1) := J1.out.cell 1
  have x2 : X.cell? ⟨w.heap.size, 2, none⟩ = some (.int .i64 i2) := J1.out.cell 2
  have x3 : X.cell? ⟨w.heap.size, 3, none⟩ = some (.slice A n c) := J1.out.cell 3
  have x4 : X.cell? ⟨w.heap.size, 4, none⟩ = some (.slice D m d) := J1.out.cell 4
  have y0 : X.cell? ⟨w.heap.size + 1, 0, none⟩ = some (.int .i64 i0') := J2.out.cell 0
  have y1 : X.cell? ⟨w.heap.size + 1, 1, none⟩ = some (.string s1') := J2.out.cell 1
  have y2 : X.cell? ⟨w.heap.size + 1, 2, none⟩ = some (.int .i64 i2') := J2.out.cell 2
  have y3 : X.cell? ⟨w.heap.size + 1, 3, none⟩ = some (.slice A' n' c') := J2.out.cell 3
  have y4 : X.cell? ⟨w.heap.size + 1, 4, none⟩ = some (.slice D' m' d') := J2.out.cell 4
  clear hn hn' hm hm' h h' hb hb' BX I1 I2
  by_cases q0 : i0 = i0'
  · have e0 : (i0 == i0') = true := by simpa using q0
    have Q0 := Lib.hid q0
    clear q0
    by_cases q1 : bl s1 = bl s1'
    · have e1 : (s1.toList == s1'.toList) = true := by rw [Lib.toList_data, Lib.toList_data]; simpa [bl] using q1
      have Q1 := Lib.hid q1
      clear q1
      by_cases q2 : i2 = i2'
      · have e2 : (i2 == i2') = true := by simpa using q2
        have Q2 := Lib.hid q2
        clear q2
        by_cases q3 : ls = ls'
        · rw [show (ls == ls') = true by simpa using q3] at CS
          go_enter Tryz.func14, Tryz.ntmps14
          go_upto_region 1 with fail
          rw [← hX]
          clear hX
          go_wp2_with fail
          refine CS.out.mono ?_
          rintro e w3 ⟨rfl, b3⟩
          have T1 := run_text w3 D bs m d HM.out (HS.out.kept (Turn.of_below (S := fun _ => False) b3) (fun _ _ h => h))
          have T2 := run_text w3 D' bs' m' d' HM'.out (HS'.out.kept (Turn.of_below (S := fun _ => False) b3) (fun _ _ h => h))
          have J3 := Lib.hid (J1.out.kept (Turn.of_below (S := fun _ => False) b3) (fun h => h))
          have J4 := Lib.hid (J2.out.kept (Turn.of_below (S := fun _ => False) b3) (fun h => h))
          have z4 : w3.cell? ⟨w.heap.size, 4, none⟩ = some (.slice D m d) := J3.out.cell 4
          have t4 : w3.cell? ⟨w.heap.size + 1, 4, none⟩ = some (.slice D' m' d') := J4.out.cell 4
          obtain ⟨S, hS⟩ : ∃ S : ByteArray, S = ⟨bs.toArray⟩ := ⟨_, rfl⟩
          obtain ⟨S', hS'⟩ : ∃ S : ByteArray, S = ⟨bs'.toArray⟩ := ⟨_, rfl⟩
          rw [← hS] at T1
          rw [← hS'] at T2
          have B3 := Lib.hid (HB.out.trans (b3.mono HB.out.size))
          have HQ := Lib.hid (show (S.toList == S'.toList) = decide (bs = bs') by rw [hS, hS', Lib.toList_data, Lib.toList_data, Bool.eq_iff_iff]; simp)
          have HR := Lib.hid (show decide (i0 = i0' ∧ bl s1 = bl s1' ∧ i2 = i2' ∧ ls = ls' ∧ bs = bs') = decide (bs = bs') by simp [Q0.out, Q1.out, Q2.out, q3])
          clear hS hS' b3
          cases hq : (S.toList == S'.toList) with
          | true =>
            go_wp2_with fail
            go_ret
            exact ⟨ret_bool (HR.out.trans (HQ.out.symm.trans hq)).symm, B3.out⟩
          | false =>
            go_wp2_with fail
            go_ret
            exact ⟨ret_bool (HR.out.trans (HQ.out.symm.trans hq)).symm, B3.out⟩
        · rw [show (ls == ls') = false by simpa using q3] at CS
          have HR := Lib.hid (show decide (i0 = i0' ∧ bl s1 = bl s1' ∧ i2 = i2' ∧ ls = ls' ∧ bs = bs') = false by simp [q3])
          go_enter Tryz.func14, Tryz.ntmps14
          go_upto_region 1 with fail
          rw [← hX]
          clear hX
          go_wp2_with fail
          refine CS.out.mono ?_
          rintro e w3 ⟨rfl, b3⟩
          have B3 := Lib.hid (HB.out.trans (b3.mono HB.out.size))
          clear b3
          go_wp2_with fail
          go_ret
          exact ⟨ret_bool HR.out.symm, B3.out⟩
      · have e2 : (i2 == i2') = false := by simpa using q2
        have HR := Lib.hid (show decide (i0 = i0' ∧ bl s1 = bl s1' ∧ i2 = i2' ∧ ls = ls' ∧ bs = bs') = false by simp [q2])
        go_enter Tryz.func14, Tryz.ntmps14
        go_upto_region 1 with fail
        rw [← hX]
        clear hX
        go_wp2_with fail
        go_ret
        exact ⟨ret_bool HR.out.symm, HB.out⟩
    · have e1 : (s1.toList == s1'.toList) = false := by rw [Lib.toList_data, Lib.toList_data]; simpa [bl] using q1
      have HR := Lib.hid (show decide (i0 = i0' ∧ bl s1 = bl s1' ∧ i2 = i2' ∧ ls = ls' ∧ bs = bs') = false by simp [q1])
      go_enter Tryz.func14, Tryz.ntmps14
      go_upto_region 1 with fail
      rw [← hX]
      clear hX
      go_wp2_with fail
      go_ret
      exact ⟨ret_bool HR.out.symm, HB.out⟩
  · have e0 : (i0 == i0') = false := by simpa using q0
    have HR := Lib.hid (show decide (i0 = i0' ∧ bl s1 = bl s1' ∧ i2 = i2' ∧ ls = ls' ∧ bs = bs') = false by simp [q0])
    go_enter Tryz.func14, Tryz.ntmps14
    go_upto_region 1 with fail
    rw [← hX]
    clear hX
    go_wp2_with fail
    go_ret
    exact ⟨ret_bool HR.out.symm, HB.out⟩
end Go.Proofs.YtemgfppclakdmaaGreatDoor
