/-
  The word of the landed code's contracts; the laws' awake over it.
  Conditions: those that each theorem names.
-/
import Derived.Test.YtemgfppclakdmaaGreatDoorMB
import Derived.Test.YtemgfppclakdmaaGreatDoorHC
import Derived.Laws.Rows
import Derived.Test.YtemgfppclakdmaaGreatDoorMG
import Derived.Test.YtemgfppclakdmaaGreatDoorGA
import Derived.Test.YtemgfppclakdmaaGreatDoorCF
import Derived.Test.YtemgfppclakdmaaGreatDoorGD
namespace Go.Proofs.YtemgfppclakdmaaGreatDoor
open Go.RowKit

set_option maxHeartbeats 4000000 in
set_option maxRecDepth 100000 in
theorem rsame9_any {P P' : Nat → Prop} (w : World) (A A' : Option Addr) (ls ls' : List Fld) (n n' c c' : Nat) (hn : ls.length = n) (hn' : ls'.length = n') (hmax : n ≤ 140737488351232) (h : SrcF w P A ls) (h' : SrcF w P' A' ls') :
    Calls Tryz.prog 42 #[.slice A n c, .slice A' n' c'] w fun e w' => e = .returned (.bool (ls == ls')) ∧ Below w.heap.size w w' := by
  have HN := Lib.hid hn
  have HN' := Lib.hid hn'
  have H := Lib.hid h
  have H' := Lib.hid h'
  by_cases hne : n = n'
  · subst hne
    have e0 : ((n : Int) != (n : Int)) = false := by simp
    clear hn hn' h h'
    go_enter Tryz.func42, Tryz.ntmps42
    go_wp2_with fail
    go_loopw [5] (fun vi wr => ∃ k : Nat, vi = .int .i64 (k : Int) ∧ k ≤ n ∧ Hid (ls.take k = ls'.take k) ∧ Hid (Below w.heap.size w wr)) (fun vi _ => n - (intOf vi).toNat)
    case atStart => exact ⟨0, rfl, Nat.zero_le _, Lib.hid rfl, Lib.hid (Below.refl _ _)⟩
    case round =>
      obtain ⟨k, rfl, hk, HE, HB⟩ := hrel
      by_cases hlt : k < n
      · obtain ⟨p, f, hf, hat, y0, y1, _, _⟩ := H.out.at (c := c) HN.out hlt HB.out
        obtain ⟨p', f', hf', hat', y0', y1', _, _⟩ := H'.out.at (c := c') HN'.out hlt HB.out
        have HX := Lib.hid hf
        have HY := Lib.hid hf'
        obtain ⟨Nm, hNm⟩ : ∃ Nm : ByteArray, Nm = ⟨f.1.toArray⟩ := ⟨_, rfl⟩
        obtain ⟨Vl, hVl⟩ : ∃ Vl : ByteArray, Vl = ⟨f.2.toArray⟩ := ⟨_, rfl⟩
        obtain ⟨Nm', hNm'⟩ : ∃ Nm : ByteArray, Nm = ⟨f'.1.toArray⟩ := ⟨_, rfl⟩
        obtain ⟨Vl', hVl'⟩ : ∃ Vl : ByteArray, Vl = ⟨f'.2.toArray⟩ := ⟨_, rfl⟩
        rw [← hNm] at y0
        rw [← hVl] at y1
        rw [← hNm'] at y0'
        rw [← hVl'] at y1'
        have HF := Lib.hid (show f = (bl Nm, bl Vl) by rw [hNm, hVl, bl_mk, bl_mk])
        have HF' := Lib.hid (show f' = (bl Nm', bl Vl') by rw [hNm', hVl', bl_mk, bl_mk])
        clear hf hf' hNm hVl hNm' hVl'
        have hg := fldGuard
        have hq := run_neq_fld Nm Vl Nm' Vl'
        by_cases hxy : f = f'
        · have HT := Lib.hid (show ls.take (k + 1) = ls'.take (k + 1) by rw [take_snoc ls k f HX.out, take_snoc ls' k f' HY.out, HE.out, hxy])
          have hb : (!(Nm.toList == Nm'.toList && Vl.toList == Vl'.toList)) = false := by
            have h1 := HF.out
            rw [hxy, HF'.out] at h1
            simp only [Prod.mk.injEq] at h1
            rw [Lib.toList_data, Lib.toList_data, Lib.toList_data, Lib.toList_data]
            have e1 : Nm'.data.toList = Nm.data.toList := h1.1
            have e2 : Vl'.data.toList = Vl.data.toList := h1.2
            rw [e1, e2]
            simp
          rw [hb] at hq
          clear hb hxy
          go_wp2_with fail
          go_quiet (fail)
          go_wp2_with fail
          go_roundw
          case rel => exact ⟨k + 1, by go_num, hlt, HT, Lib.hid (below_drewN HB.out _)⟩
          case measure => simp [intOf]; omega
        · have HD := Lib.hid (show (ls == ls') = false by
            rw [beq_eq_false_iff_ne]
            intro e
            have h1 := HX.out
            rw [e, HY.out] at h1
            exact hxy (Option.some.inj h1.symm))
          have hb : (!(Nm.toList == Nm'.toList && Vl.toList == Vl'.toList)) = true := by
            rw [Bool.not_eq_true', ← Bool.not_eq_true, Bool.and_eq_true, beq_iff_eq, beq_iff_eq, Lib.toList_data, Lib.toList_data, Lib.toList_data, Lib.toList_data]
            rintro ⟨e1, e2⟩
            apply hxy
            rw [HF.out, HF'.out]
            unfold bl
            rw [e1, e2]
          rw [hb] at hq
          clear hb hxy
          go_wp2_with fail
          go_quiet (fail)
          go_wp2_with fail
          go_ret
          exact ⟨ret_bool HD.out.symm, below_drewN HB.out _⟩
      · have HF := Lib.hid (show (ls == ls') = true by
          have := HE.out
          rw [List.take_of_length_le (by rw [HN.out]; omega), List.take_of_length_le (by rw [HN'.out]; omega)] at this
          rw [this]
          simp)
        go_wp2_with fail
        go_ret
        exact ⟨ret_bool HF.out.symm, HB.out⟩
  · have e0 : ((n : Int) != (n' : Int)) = true := by simp; omega
    have HF := Lib.hid (show (ls == ls') = false by
      rw [beq_eq_false_iff_ne]
      intro e
      rw [e] at hn
      omega)
    clear hn hn' h h' hne
    go_enter Tryz.func42, Tryz.ntmps42
    go_wp2_with fail
    go_ret
    exact ⟨ret_bool HF.out.symm, Below.refl _ _⟩
set_option maxHeartbeats 8000000 in
set_option maxRecDepth 100000 in
theorem rsamereq_any {P P' Q Q' : Nat → Prop} (w : World) (s0 s0' : ByteArray) (s1 s1' : ByteArray) (i2 i2' : Int) (A A' D D' : Option Addr) (ls ls' : List Fld) (bs bs' : List UInt8) (n n' c c' m m' d d' : Nat) (hn : ls.length = n) (hn' : ls'.length = n') (hmax : n ≤ 140737488351232) (hm : bs.length = m) (hm' : bs'.length = m') (h : SrcF w P A ls) (h' : SrcF w P' A' ls') (hb : Src w Q D bs) (hb' : Src w Q' D' bs') :
    Calls Tryz.prog 13 #[.agg #[.string s0, .string s1, .int .i64 i2, .slice A n c, .slice D m d], .agg #[.string s0', .string s1', .int .i64 i2', .slice A' n' c', .slice D' m' d']] w fun e w' => e = .returned (.bool (decide (bl s0 = bl s0' ∧ bl s1 = bl s1' ∧ i2 = i2' ∧ ls = ls' ∧ bs = bs'))) ∧ Below w.heap.size w w' := by
  obtain ⟨X, hX⟩ : ∃ X, X = ((w.alloc (.cells #[.string s0, .string s1, .int .i64 i2, .slice A n c, .slice D m d] 25)).alloc (.cells #[.string s0', .string s1', .int .i64 i2', .slice A' n' c', .slice D' m' d'] 25)) := ⟨_, rfl⟩
  have BX : Below w.heap.size w X := by rw [hX]; exact ((Below.refl _ _).alloc (Nat.le_refl _) _).alloc (Below.size ((Below.refl _ _).alloc (Nat.le_refl _) _)) _
  have I1 : Is X w.heap.size 25 [.string s0, .string s1, .int .i64 i2, .slice A n c, .slice D m d] := by rw [hX]; exact (Is.made w 25 [.string s0, .string s1, .int .i64 i2, .slice A n c, .slice D m d]).alloc _
  have I2 : Is X (w.heap.size + 1) 25 [.string s0', .string s1', .int .i64 i2', .slice A' n' c', .slice D' m' d'] := by
    rw [hX]
    have := Is.made (w.alloc (.cells #[.string s0, .string s1, .int .i64 i2, .slice A n c, .slice D m d] 25)) 25 [.string s0', .string s1', .int .i64 i2', .slice A' n' c', .slice D' m' d']
    rwa [show (w.alloc (.cells #[.string s0, .string s1, .int .i64 i2, .slice A n c, .slice D m d] 25)).heap.size = w.heap.size + 1 by simp] at this
  have CS := Lib.hid (rsame9_any X A A' ls ls' n n' c c' hn hn' hmax (h.below BX) (h'.below BX))
  have HS := Lib.hid (hb.kept (Turn.of_below (S := fun _ => False) BX) (fun _ _ h => h))
  have HS' := Lib.hid (hb'.kept (Turn.of_below (S := fun _ => False) BX) (fun _ _ h => h))
  have HB := Lib.hid BX
  have J1 := Lib.hid I1
  have J2 := Lib.hid I2
  have HM := Lib.hid hm
  have HM' := Lib.hid hm'
  have x0 : X.cell? ⟨w.heap.size, 0, none⟩ = some (.string s0) := J1.out.cell 0
  have x1 : X.cell? ⟨w.heap.size, 1, none⟩ = some (.string s1) := J1.out.cell 1
  have x2 : X.cell? ⟨w.heap.size, 2, none⟩ = some (.int .i64 i2) := J1.out.cell 2
  have x3 : X.cell? ⟨w.heap.size, 3, none⟩ = some (.slice A n c) := J1.out.cell 3
  have x4 : X.cell? ⟨w.heap.size, 4, none⟩ = some (.slice D m d) := J1.out.cell 4
  have y0 : X.cell? ⟨w.heap.size + 1, 0, none⟩ = some (.string s0') := J2.out.cell 0
  have y1 : X.cell? ⟨w.heap.size + 1, 1, none⟩ = some (.string s1') := J2.out.cell 1
  have y2 : X.cell? ⟨w.heap.size + 1, 2, none⟩ = some (.int .i64 i2') := J2.out.cell 2
  have y3 : X.cell? ⟨w.heap.size + 1, 3, none⟩ = some (.slice A' n' c') := J2.out.cell 3
  have y4 : X.cell? ⟨w.heap.size + 1, 4, none⟩ = some (.slice D' m' d') := J2.out.cell 4
  clear hn hn' hm hm' h h' hb hb' BX I1 I2
  by_cases q0 : bl s0 = bl s0'
  · have e0 : (s0.toList == s0'.toList) = true := by rw [Lib.toList_data, Lib.toList_data]; simpa [bl] using q0
    have Q0 := Lib.hid q0
    clear q0
    by_cases q1 : bl s1 = bl s1'
    · have e1 : (s1.toList == s1'.toList) = true := by rw [Lib.toList_data, Lib.toList_data]; simpa [bl] using q1
      have Q1 := Lib.hid q1
      clear q1
      by_cases q2 : i2 = i2'
      · have e2 : (i2 == i2') = true := by simpa using q2
        have Q2 := Lib.hid q2
        clear q2
        by_cases q3 : ls = ls'
        · rw [show (ls == ls') = true by simpa using q3] at CS
          go_enter Tryz.func13, Tryz.ntmps13
          go_upto_region 1 with fail
          rw [← hX]
          clear hX
          go_wp2_with fail
          refine CS.out.mono ?_
          rintro e w3 ⟨rfl, b3⟩
          have T1 := run_text w3 D bs m d HM.out (HS.out.kept (Turn.of_below (S := fun _ => False) b3) (fun _ _ h => h))
          have T2 := run_text w3 D' bs' m' d' HM'.out (HS'.out.kept (Turn.of_below (S := fun _ => False) b3) (fun _ _ h => h))
          have J3 := Lib.hid (J1.out.kept (Turn.of_below (S := fun _ => False) b3) (fun h => h))
          have J4 := Lib.hid (J2.out.kept (Turn.of_below (S := fun _ => False) b3) (fun h => h))
          have z4 : w3.cell? ⟨w.heap.size, 4, none⟩ = some (.slice D m d) := J3.out.cell 4
          have t4 : w3.cell? ⟨w.heap.size + 1, 4, none⟩ = some (.slice D' m' d') := J4.out.cell 4
          obtain ⟨S, hS⟩ : ∃ S : ByteArray, S = ⟨bs.toArray⟩ := ⟨_, rfl⟩
          obtain ⟨S', hS'⟩ : ∃ S : ByteArray, S = ⟨bs'.toArray⟩ := ⟨_, rfl⟩
          rw [← hS] at T1
          rw [← hS'] at T2
          have B3 := Lib.hid (HB.out.trans (b3.mono HB.out.size))
          have HQ := Lib.hid (show (S.toList == S'.toList) = decide (bs = bs') by rw [hS, hS', Lib.toList_data, Lib.toList_data, Bool.eq_iff_iff]; simp)
          have HR := Lib.hid (show decide (bl s0 = bl s0' ∧ bl s1 = bl s1' ∧ i2 = i2' ∧ ls = ls' ∧ bs = bs') = decide (bs = bs') by simp [Q0.out, Q1.out, Q2.out, q3])
          clear hS hS' b3
          cases hq : (S.toList == S'.toList) with
          | true =>
            go_wp2_with fail
            go_ret
            exact ⟨ret_bool (HR.out.trans (HQ.out.symm.trans hq)).symm, B3.out⟩
          | false =>
            go_wp2_with fail
            go_ret
            exact ⟨ret_bool (HR.out.trans (HQ.out.symm.trans hq)).symm, B3.out⟩
        · rw [show (ls == ls') = false by simpa using q3] at CS
          have HR := Lib.hid (show decide (bl s0 = bl s0' ∧ bl s1 = bl s1' ∧ i2 = i2' ∧ ls = ls' ∧ bs = bs') = false by simp [q3])
          go_enter Tryz.func13, Tryz.ntmps13
          go_upto_region 1 with fail
          rw [← hX]
          clear hX
          go_wp2_with fail
          refine CS.out.mono ?_
          rintro e w3 ⟨rfl, b3⟩
          have B3 := Lib.hid (HB.out.trans (b3.mono HB.out.size))
          clear b3
          go_wp2_with fail
          go_ret
          exact ⟨ret_bool HR.out.symm, B3.out⟩
      · have e2 : (i2 == i2') = false := by simpa using q2
        have HR := Lib.hid (show decide (bl s0 = bl s0' ∧ bl s1 = bl s1' ∧ i2 = i2' ∧ ls = ls' ∧ bs = bs') = false by simp [q2])
        go_enter Tryz.func13, Tryz.ntmps13
        go_upto_region 1 with fail
        rw [← hX]
        clear hX
        go_wp2_with fail
        go_ret
        exact ⟨ret_bool HR.out.symm, HB.out⟩
    · have e1 : (s1.toList == s1'.toList) = false := by rw [Lib.toList_data, Lib.toList_data]; simpa [bl] using q1
      have HR := Lib.hid (show decide (bl s0 = bl s0' ∧ bl s1 = bl s1' ∧ i2 = i2' ∧ ls = ls' ∧ bs = bs') = false by simp [q1])
      go_enter Tryz.func13, Tryz.ntmps13
      go_upto_region 1 with fail
      rw [← hX]
      clear hX
      go_wp2_with fail
      go_ret
      exact ⟨ret_bool HR.out.symm, HB.out⟩
  · have e0 : (s0.toList == s0'.toList) = false := by rw [Lib.toList_data, Lib.toList_data]; simpa [bl] using q0
    have HR := Lib.hid (show decide (bl s0 = bl s0' ∧ bl s1 = bl s1' ∧ i2 = i2' ∧ ls = ls' ∧ bs = bs') = false by simp [q0])
    go_enter Tryz.func13, Tryz.ntmps13
    go_upto_region 1 with fail
    rw [← hX]
    clear hX
    go_wp2_with fail
    go_ret
    exact ⟨ret_bool HR.out.symm, HB.out⟩
set_option maxHeartbeats 8000000 in
set_option maxRecDepth 100000 in
theorem rsameres_any {P P' Q Q' : Nat → Prop} (w : World) (i0 i0' : Int) (s1 s1' : ByteArray) (i2 i2' : Int) (A A' D D' : Option Addr) (ls ls' : List Fld) (bs bs' : List UInt8) (n n' c c' m m' d d' : Nat) (hn : ls.length = n) (hn' : ls'.length = n') (hmax : n ≤ 140737488351232) (hm : bs.length = m) (hm' : bs'.length = m') (h : SrcF w P A ls) (h' : SrcF w P' A' ls') (hb : Src w Q D bs) (hb' : Src w Q' D' bs') :
    Calls Tryz.prog 14 #[.agg #[.int .i64 i0, .string s1, .int .i64 i2, .slice A n c, .slice D m d], .agg #[.int .i64 i0', .string s1', .int .i64 i2', .slice A' n' c', .slice D' m' d']] w fun e w' => e = .returned (.bool (decide (i0 = i0' ∧ bl s1 = bl s1' ∧ i2 = i2' ∧ ls = ls' ∧ bs = bs'))) ∧ Below w.heap.size w w' := by
  obtain ⟨X, hX⟩ : ∃ X, X = ((w.alloc (.cells #[.int .i64 i0, .string s1, .int .i64 i2, .slice A n c, .slice D m d] 32)).alloc (.cells #[.int .i64 i0', .string s1', .int .i64 i2', .slice A' n' c', .slice D' m' d'] 32)) := ⟨_, rfl⟩
  have BX : Below w.heap.size w X := by rw [hX]; exact ((Below.refl _ _).alloc (Nat.le_refl _) _).alloc (Below.size ((Below.refl _ _).alloc (Nat.le_refl _) _)) _
  have I1 : Is X w.heap.size 32 [.int .i64 i0, .string s1, .int .i64 i2, .slice A n c, .slice D m d] := by rw [hX]; exact (Is.made w 32 [.int .i64 i0, .string s1, .int .i64 i2, .slice A n c, .slice D m d]).alloc _
  have I2 : Is X (w.heap.size + 1) 32 [.int .i64 i0', .string s1', .int .i64 i2', .slice A' n' c', .slice D' m' d'] := by
    rw [hX]
    have := Is.made (w.alloc (.cells #[.int .i64 i0, .string s1, .int .i64 i2, .slice A n c, .slice D m d] 32)) 32 [.int .i64 i0', .string s1', .int .i64 i2', .slice A' n' c', .slice D' m' d']
    rwa [show (w.alloc (.cells #[.int .i64 i0, .string s1, .int .i64 i2, .slice A n c, .slice D m d] 32)).heap.size = w.heap.size + 1 by simp] at this
  have CS := Lib.hid (rsame9_any X A A' ls ls' n n' c c' hn hn' hmax (h.below BX) (h'.below BX))
  have HS := Lib.hid (hb.kept (Turn.of_below (S := fun _ => False) BX) (fun _ _ h => h))
  have HS' := Lib.hid (hb'.kept (Turn.of_below (S := fun _ => False) BX) (fun _ _ h => h))
  have HB := Lib.hid BX
  have J1 := Lib.hid I1
  have J2 := Lib.hid I2
  have HM := Lib.hid hm
  have HM' := Lib.hid hm'
  have x0 : X.cell? ⟨w.heap.size, 0, none⟩ = some (.int .i64 i0) := J1.out.cell 0
  have x1 : X.cell? ⟨w.heap.size, 1, none⟩ = some (.string s1) := J1.out.cell 1
  have x2 : X.cell? ⟨w.heap.size, 2, none⟩ = some (.int .i64 i2) := J1.out.cell 2
  have x3 : X.cell? ⟨w.heap.size, 3, none⟩ = some (.slice A n c) := J1.out.cell 3
  have x4 : X.cell? ⟨w.heap.size, 4, none⟩ = some (.slice D m d) := J1.out.cell 4
  have y0 : X.cell? ⟨w.heap.size + 1, 0, none⟩ = some (.int .i64 i0') := J2.out.cell 0
  have y1 : X.cell? ⟨w.heap.size + 1, 1, none⟩ = some (.string s1') := J2.out.cell 1
  have y2 : X.cell? ⟨w.heap.size + 1, 2, none⟩ = some (.int .i64 i2') := J2.out.cell 2
  have y3 : X.cell? ⟨w.heap.size + 1, 3, none⟩ = some (.slice A' n' c') := J2.out.cell 3
  have y4 : X.cell? ⟨w.heap.size + 1, 4, none⟩ = some (.slice D' m' d') := J2.out.cell 4
  clear hn hn' hm hm' h h' hb hb' BX I1 I2
  by_cases q0 : i0 = i0'
  · have e0 : (i0 == i0') = true := by simpa using q0
    have Q0 := Lib.hid q0
    clear q0
    by_cases q1 : bl s1 = bl s1'
    · have e1 : (s1.toList == s1'.toList) = true := by rw [Lib.toList_data, Lib.toList_data]; simpa [bl] using q1
      have Q1 := Lib.hid q1
      clear q1
      by_cases q2 : i2 = i2'
      · have e2 : (i2 == i2') = true := by simpa using q2
        have Q2 := Lib.hid q2
        clear q2
        by_cases q3 : ls = ls'
        · rw [show (ls == ls') = true by simpa using q3] at CS
          go_enter Tryz.func14, Tryz.ntmps14
          go_upto_region 1 with fail
          rw [← hX]
          clear hX
          go_wp2_with fail
          refine CS.out.mono ?_
          rintro e w3 ⟨rfl, b3⟩
          have T1 := run_text w3 D bs m d HM.out (HS.out.kept (Turn.of_below (S := fun _ => False) b3) (fun _ _ h => h))
          have T2 := run_text w3 D' bs' m' d' HM'.out (HS'.out.kept (Turn.of_below (S := fun _ => False) b3) (fun _ _ h => h))
          have J3 := Lib.hid (J1.out.kept (Turn.of_below (S := fun _ => False) b3) (fun h => h))
          have J4 := Lib.hid (J2.out.kept (Turn.of_below (S := fun _ => False) b3) (fun h => h))
          have z4 : w3.cell? ⟨w.heap.size, 4, none⟩ = some (.slice D m d) := J3.out.cell 4
          have t4 : w3.cell? ⟨w.heap.size + 1, 4, none⟩ = some (.slice D' m' d') := J4.out.cell 4
          obtain ⟨S, hS⟩ : ∃ S : ByteArray, S = ⟨bs.toArray⟩ := ⟨_, rfl⟩
          obtain ⟨S', hS'⟩ : ∃ S : ByteArray, S = ⟨bs'.toArray⟩ := ⟨_, rfl⟩
          rw [← hS] at T1
          rw [← hS'] at T2
          have B3 := Lib.hid (HB.out.trans (b3.mono HB.out.size))
          have HQ := Lib.hid (show (S.toList == S'.toList) = decide (bs = bs') by rw [hS, hS', Lib.toList_data, Lib.toList_data, Bool.eq_iff_iff]; simp)
          have HR := Lib.hid (show decide (i0 = i0' ∧ bl s1 = bl s1' ∧ i2 = i2' ∧ ls = ls' ∧ bs = bs') = decide (bs = bs') by simp [Q0.out, Q1.out, Q2.out, q3])
          clear hS hS' b3
          cases hq : (S.toList == S'.toList) with
          | true =>
            go_wp2_with fail
            go_ret
            exact ⟨ret_bool (HR.out.trans (HQ.out.symm.trans hq)).symm, B3.out⟩
          | false =>
            go_wp2_with fail
            go_ret
            exact ⟨ret_bool (HR.out.trans (HQ.out.symm.trans hq)).symm, B3.out⟩
        · rw [show (ls == ls') = false by simpa using q3] at CS
          have HR := Lib.hid (show decide (i0 = i0' ∧ bl s1 = bl s1' ∧ i2 = i2' ∧ ls = ls' ∧ bs = bs') = false by simp [q3])
          go_enter Tryz.func14, Tryz.ntmps14
          go_upto_region 1 with fail
          rw [← hX]
          clear hX
          go_wp2_with fail
          refine CS.out.mono ?_
          rintro e w3 ⟨rfl, b3⟩
          have B3 := Lib.hid (HB.out.trans (b3.mono HB.out.size))
          clear b3
          go_wp2_with fail
          go_ret
          exact ⟨ret_bool HR.out.symm, B3.out⟩
      · have e2 : (i2 == i2') = false := by simpa using q2
        have HR := Lib.hid (show decide (i0 = i0' ∧ bl s1 = bl s1' ∧ i2 = i2' ∧ ls = ls' ∧ bs = bs') = false by simp [q2])
        go_enter Tryz.func14, Tryz.ntmps14
        go_upto_region 1 with fail
        rw [← hX]
        clear hX
        go_wp2_with fail
        go_ret
        exact ⟨ret_bool HR.out.symm, HB.out⟩
    · have e1 : (s1.toList == s1'.toList) = false := by rw [Lib.toList_data, Lib.toList_data]; simpa [bl] using q1
      have HR := Lib.hid (show decide (i0 = i0' ∧ bl s1 = bl s1' ∧ i2 = i2' ∧ ls = ls' ∧ bs = bs') = false by simp [q1])
      go_enter Tryz.func14, Tryz.ntmps14
      go_upto_region 1 with fail
      rw [← hX]
      clear hX
      go_wp2_with fail
      go_ret
      exact ⟨ret_bool HR.out.symm, HB.out⟩
  · have e0 : (i0 == i0') = false := by simpa using q0
    have HR := Lib.hid (show decide (i0 = i0' ∧ bl s1 = bl s1' ∧ i2 = i2' ∧ ls = ls' ∧ bs = bs') = false by simp [q0])
    go_enter Tryz.func14, Tryz.ntmps14
    go_upto_region 1 with fail
    rw [← hX]
    clear hX
    go_wp2_with fail
    go_ret
    exact ⟨ret_bool HR.out.symm, HB.out⟩
end Go.Proofs.YtemgfppclakdmaaGreatDoor

namespace Go.Proofs.YtemgfppclakdmaaGreatDoor
open Go.RowKit

set_option maxHeartbeats 16000000 in
set_option maxRecDepth 100000 in
theorem rresponse9_any {P : Nat → Prop} (W : World) (A : Option Addr) (bs : List UInt8) (n c : Nat) (mt : ByteArray) (ended : Bool) (hn : bs.length = n) (hnc : n ≤ c) (hmax : n ≤ 140737488351232) (h : Src W P A bs) :
    Calls Tryz.prog 12 #[.slice A n c, .string mt, .bool ended] W (RsGot9 (responseM bs (bl mt) ended) W) := by
  obtain ⟨g, hg⟩ : ∃ g, W.heap.size = g := ⟨_, rfl⟩
  obtain ⟨R, hR⟩ : ∃ R, responseM bs (bl mt) ended = R := ⟨_, rfl⟩
  obtain ⟨line, at1, e1, hf⟩ : ∃ line at1 e1, firstM bs = (line, at1, e1) := ⟨_, _, _, rfl⟩
  have HR := Lib.hid (hR.symm.trans (line_eq (begin := Sta.statF) (kind := (fun a l => resK (a.2.1 : Int) (bl mt) (reqK (a.1 : Int) l))) (ended := ended) hf))
  have hfr := firstM_range bs
  rw [hf] at hfr
  simp only at hfr
  have HFR := Lib.hid hfr
  have CL := Lib.hid (fun (X : World) (hX : Below W.heap.size W X) => rline_any X A bs n c hn hnc (by omega) (h.kept (Turn.of_below (S := fun _ => False) hX) (fun _ _ h => h)))
  have CF := Lib.hid (fun (X : World) (hX : Below W.heap.size W X) (k : Nat) (hk : k ≤ n) (hk2 : k ≤ 512) => rfields_any X A bs n c k hn hnc hmax hk hk2 (h.kept (Turn.of_below (S := fun _ => False) hX) (fun _ _ h => h)))
  have HSRC := Lib.hid (fun (X : World) (hX : Below W.heap.size W X) => h.kept (P := P) (Turn.of_below (S := fun _ => False) hX) (fun _ _ h => h))
  have HN := Lib.hid hn
  rw [hf] at CL
  unfold LineGot at CL
  simp only at CL
  rw [hR]
  have I0 := Lib.hid (show Is (W.alloc (.cells #[.int .i64 0, .string ⟨#[]⟩, .int .i64 0, .slice none 0 0, .slice none 0 0] 32)) g 32 [.int .i64 0, .string ⟨#[]⟩, .int .i64 0, .slice none 0 0, .slice none 0 0] by have := Is.made W 32 [.int .i64 0, .string ⟨#[]⟩, .int .i64 0, .slice none 0 0, .slice none 0 0]; rw [hg] at this; exact this)
  have B0 := Lib.hid (show Below W.heap.size W (W.alloc (.cells #[.int .i64 0, .string ⟨#[]⟩, .int .i64 0, .slice none 0 0, .slice none 0 0] 32)) from (Below.refl _ _).alloc (Nat.le_refl _) _)
  have HG := Lib.hid hg
  clear hfr h hn hR hf
  go_enter Tryz.func12, Tryz.ntmps12
  go_wp2_with fail
  try simp only [HG.out]
  refine ((CL.out _ B0.out).mono (R' := fun e w' => e = .returned (.tuple #[.string ⟨line.toArray⟩, .int .i64 (at1 : Int), .int .i64 (e1 : Int)]) ∧ Below (W.alloc (.cells #[.int .i64 0, .string ⟨#[]⟩, .int .i64 0, .slice none 0 0, .slice none 0 0] 32)).heap.size (W.alloc (.cells #[.int .i64 0, .string ⟨#[]⟩, .int .i64 0, .slice none 0 0, .slice none 0 0] 32)) w') ?_).mono ?_
  · rintro e w' ⟨he, rfl⟩
    exact ⟨he, Below.refl _ _⟩
  rintro e w1 ⟨rfl, b1⟩
  have I1 := Lib.hid (I0.out.kept (Turn.of_below (S := fun _ => False) b1) (fun h => h))
  have B1 := Lib.hid (B0.out.trans (b1.mono B0.out.size))
  clear b1 hg CL
  by_cases h1 : e1 = 0
  · have d1 : ((e1 : Int) != 0) = false := by subst h1; rfl
    have HR1 := Lib.hid (HR.out.trans (if_neg (fun h => h h1)))
    have hat : at1 ≤ n ∧ at1 ≤ 512 ∧ line.length ≤ 512 := by
      rcases HFR.out with ⟨_, h2, h3, _, h5⟩ | ⟨h2, _, _⟩
      · exact ⟨by rw [← HN.out]; exact h2, h3, h5⟩
      · exact absurd h1 h2
    obtain ⟨hat1, hat2, hll⟩ := hat
    have CQ := Lib.hid (fun X : World => Sta.rstat_any ⟨line.toArray⟩ X (by rw [← bl_length, bl_mk]; omega))
    rw [bl_mk] at CQ
    unfold Sta.StatGot at CQ
    clear HR HFR h1 hll
    cases hq : Sta.statF line with
    | none =>
      rw [hq] at CQ HR1
      simp only at CQ HR1
      go_wp2_with fail
      refine (CQ.out _).mono ?_
      rintro e w2 ⟨b2, rfl⟩
      have I2 := Lib.hid (I1.out.kept (Turn.of_below (S := fun _ => False) b2) (fun h => h))
      have B2 := Lib.hid (B1.out.trans (b2.mono B1.out.size))
      clear b2
      have c20 : w2.cell? ⟨g, 0, none⟩ = some (.int .i64 0) := I2.out.cell 0
      have f20 : w2.frozen? ⟨g, 0, none⟩ = false := I2.out.free 0
      have c21 : w2.cell? ⟨g, 1, none⟩ = some (.string ⟨#[]⟩) := I2.out.cell 1
      have f21 : w2.frozen? ⟨g, 1, none⟩ = false := I2.out.free 1
      have c22 : w2.cell? ⟨g, 2, none⟩ = some (.int .i64 0) := I2.out.cell 2
      have f22 : w2.frozen? ⟨g, 2, none⟩ = false := I2.out.free 2
      have c23 : w2.cell? ⟨g, 3, none⟩ = some (.slice none 0 0) := I2.out.cell 3
      have f23 : w2.frozen? ⟨g, 3, none⟩ = false := I2.out.free 3
      have c24 : w2.cell? ⟨g, 4, none⟩ = some (.slice none 0 0) := I2.out.cell 4
      have f24 : w2.frozen? ⟨g, 4, none⟩ = false := I2.out.free 4
      have I9 := Lib.hid (put5_is I2.out (.int .i64 0) (.string ⟨#[]⟩) (.int .i64 0) (.slice none 0 0) (.slice none 0 0))
      have B9 := Lib.hid (put5_below B2.out HG.out (.int .i64 0) (.string ⟨#[]⟩) (.int .i64 0) (.slice none 0 0) (.slice none 0 0))
      go_wp2_with fail
      refine bodyPost_ret (results_cell2 rfl _ _ g _ _ _ _ rfl I9.out Tryz.underlying32 rfl (by kernel_rfl)) rfl ?_
      exact rs_stop HR1.out rfl B9.out
    | some a =>
      obtain ⟨an, as_, ar⟩ := a
      rw [hq] at CQ HR1
      simp only at CQ HR1
      clear hq
      obtain ⟨fl, at3, e3, hff⟩ : ∃ fl at3 e3, fieldsM bs at1 = (fl, at3, e3) := ⟨_, _, _, rfl⟩
      obtain ⟨kd, nn, ke, hke⟩ : ∃ kd nn ke, resK (as_ : Int) (bl mt) (reqK (an : Int) fl) = (kd, nn, ke) := ⟨_, _, _, rfl⟩
      rw [hff] at HR1
      have HR2 := Lib.hid (HR1.out.trans (rest_eq (kind := (fun a l => resK (a.2.1 : Int) (bl mt) (reqK (a.1 : Int) l))) (a := (an, as_, ar)) hke))
      have hfr := fieldsM_range bs at1 (by rw [HN.out]; exact hat1) hat2
      have hbk := fieldsM_bulk bs at1
      rw [hff] at hfr hbk
      simp only at hfr hbk
      have hns := resK_small (as_ : Int) (bl mt) _ (reqK_small (an : Int) fl)
      rw [hke] at hns
      simp only at hns
      have CF2 := Lib.hid (fun (X : World) (hX : Below W.heap.size W X) => CF.out X hX at1 hat1 hat2)
      rw [hff] at CF2
      unfold HeadGot at CF2
      simp only at CF2
      have HFR := Lib.hid hfr
      have HBK := Lib.hid hbk
      clear HR1 CF hff hfr hbk
      go_wp2_with fail
      refine (CQ.out _).mono ?_
      rintro e w2 ⟨b2, rfl⟩
      have I2 := Lib.hid (I1.out.kept (Turn.of_below (S := fun _ => False) b2) (fun h => h))
      have B2 := Lib.hid (B1.out.trans (b2.mono B1.out.size))
      clear b2 CQ
      go_wp2_with fail
      refine (CF2.out _ B2.out).mono ?_
      rintro e w3 ⟨v3, o3, rfl, own3, f3, b3⟩
      have I3 := Lib.hid (I2.out.kept (Turn.of_below (S := fun _ => False) b3) (fun h => h))
      have B3 := Lib.hid (B2.out.trans (b3.mono B2.out.size))
      have O3 := Lib.hid own3
      have F3 := Lib.hid (fun (b : Nat) (hb : o3 = some b) => (show g < b by have := f3 b hb; have := I2.out.lt; omega))
      obtain ⟨A3, c3, rfl, s3⟩ := own3.src (fun _ => True) (fun _ _ => trivial)
      have S3 := Lib.hid s3
      clear own3 f3 b3 s3 CF2
      by_cases h3 : e3 = 0
      · have d3 : ((e3 : Int) != 0) = false := by subst h3; rfl
        have HR3 := Lib.hid (HR2.out.trans (if_neg (fun h => h h3)))
        have hat3 : at3 ≤ n := by
          rcases HFR.out with ⟨_, h2, _, _⟩ | ⟨h2, _, _⟩
          · rw [← HN.out]; exact h2
          · exact absurd h3 h2
        have CK := Lib.hid (rresponse_any (as_ : Int) mt (an : Int) w3 A3 fl fl.length c3 rfl S3.out (Meek.small (by have := HBK.out; omega)))
        rw [hke] at CK
        unfold Tells kdV at CK
        simp only at CK
        clear HR2 HFR h3 hke
        go_wp2_with fail
        refine CK.out.mono ?_
        rintro e w4 ⟨rfl, b4⟩
        have I4 := Lib.hid (I3.out.kept (Turn.of_below (S := fun _ => False) b4) (fun h => h))
        have B4 := Lib.hid (B3.out.trans (b4.mono B3.out.size))
        have O4 := Lib.hid (O3.out.kept (Turn.of_below (S := fun _ => False) b4) (fun _ _ h => h))
        clear b4 CK O3
        by_cases h4 : ke = 0
        · have d4 : ((ke : Int) != 0) = false := by subst h4; rfl
          have HR4 := Lib.hid (HR3.out.trans (if_neg (fun h => h h4)))
          obtain ⟨A5, hs5, hsrc5⟩ := run_tail8 A n c at3 hat3 hnc
          obtain ⟨bx, bu, be, hbb⟩ : ∃ bx bu be, bodyM (bs.drop at3) (kd, nn, 0) ended = (bx, bu, be) := ⟨_, _, _, rfl⟩
          have CB := Lib.hid (rbody_msg w4 A5 (bs.drop at3) (n - at3) (c - at3) kd nn ended (by rw [List.length_drop, HN.out]) (by omega) (by omega) hns (hsrc5 w4 P bs HN.out (HSRC.out w4 B4.out)))
          have hbr := bodyM_range (bs.drop at3) (kd, nn, 0) ended (fun _ => hns)
          rw [hbb] at hbr CB
          rw [h4, hbb] at HR4
          have HR5 := Lib.hid (HR4.out.trans done_eq)
          rw [List.length_drop, HN.out] at hbr
          simp only at hbr
          have HBR := Lib.hid hbr
          unfold TakeGot at CB
          simp only at CB
          clear HR3 HR4 h4 hbr hbb hsrc5
          go_wp2_with fail
          refine CB.out.mono ?_
          rintro e w5 ⟨v5, o5, rfl, own5, f5, b5⟩
          obtain ⟨Av, cv, hv, _⟩ := own5.src (fun _ => True) (fun _ _ => trivial)
          subst hv
          have I5 := Lib.hid (I4.out.kept (Turn.of_below (S := fun _ => False) b5) (fun h => h))
          have B5 := Lib.hid (B4.out.trans (b5.mono B4.out.size))
          have O5 := Lib.hid (O4.out.kept (Turn.of_below (S := fun _ => False) b5) (fun _ _ h => h))
          have P5 := Lib.hid own5
          have F5 := Lib.hid (fun (b : Nat) (hb : o5 = some b) => (show g < b by have := f5 b hb; have := I4.out.lt; omega))
          clear own5 f5 b5 CB O4
          by_cases h5 : be = 0
          · have d5 : ((be : Int) != 0) = false := by subst h5; rfl
            have HF := Lib.hid (HR5.out.trans (if_neg (fun h => h h5)))
            have wr : IntKind.i64.wrap ((at3 : Int) + (bu : Int)) = (at3 : Int) + (bu : Int) := by
              have : bu ≤ n - at3 := by
                rcases HBR.out with ⟨_, _, h⟩ | ⟨_, _, h⟩ <;> omega
              rw [IntKind.wrap_i64]; omega
            clear HR5 h5 HBR
            have c50 : w5.cell? ⟨g, 0, none⟩ = some (.int .i64 0) := I5.out.cell 0
            have f50 : w5.frozen? ⟨g, 0, none⟩ = false := I5.out.free 0
            have c51 : w5.cell? ⟨g, 1, none⟩ = some (.string ⟨#[]⟩) := I5.out.cell 1
            have f51 : w5.frozen? ⟨g, 1, none⟩ = false := I5.out.free 1
            have c52 : w5.cell? ⟨g, 2, none⟩ = some (.int .i64 0) := I5.out.cell 2
            have f52 : w5.frozen? ⟨g, 2, none⟩ = false := I5.out.free 2
            have c53 : w5.cell? ⟨g, 3, none⟩ = some (.slice none 0 0) := I5.out.cell 3
            have f53 : w5.frozen? ⟨g, 3, none⟩ = false := I5.out.free 3
            have c54 : w5.cell? ⟨g, 4, none⟩ = some (.slice none 0 0) := I5.out.cell 4
            have f54 : w5.frozen? ⟨g, 4, none⟩ = false := I5.out.free 4
            have I9 := Lib.hid (put5_is I5.out (.int .i64 (as_ : Int)) (.string ⟨ar.toArray⟩) (.int .i64 (an : Int)) (.slice A3 fl.length c3) (.slice Av bx.length cv))
            have B9 := Lib.hid (put5_below B5.out HG.out (.int .i64 (as_ : Int)) (.string ⟨ar.toArray⟩) (.int .i64 (an : Int)) (.slice A3 fl.length c3) (.slice Av bx.length cv))
            have O9 := Lib.hid (O5.out.kept (put5_turn w5 g (.int .i64 (as_ : Int)) (.string ⟨ar.toArray⟩) (.int .i64 (an : Int)) (.slice A3 fl.length c3) (.slice Av bx.length cv)) (fun b hb e => by have := F3.out b hb; omega))
            have P9 := Lib.hid (P5.out.kept (put5_turn w5 g (.int .i64 (as_ : Int)) (.string ⟨ar.toArray⟩) (.int .i64 (an : Int)) (.slice A3 fl.length c3) (.slice Av bx.length cv)) (fun b hb e => by have := F5.out b hb; omega))
            go_wp2_with fail
            refine bodyPost_ret (results_cell2 rfl _ _ g _ _ _ _ rfl I9.out Tryz.underlying32 rfl (by kernel_rfl)) rfl ?_
            have hg := HG.out
            exact ⟨_, o3, _, o5, by rw [HF.out]; rfl, by rw [HF.out]; exact O9.out, by rw [HF.out]; exact P9.out, fun b hb => by have := F3.out b hb; omega, fun b hb => by have := F5.out b hb; omega, B9.out⟩
          · have d5 : ((be : Int) != 0) = true := by simp; omega
            have HF := Lib.hid (HR5.out.trans (if_pos h5))
            clear HR5 h5 HBR
            have c50 : w5.cell? ⟨g, 0, none⟩ = some (.int .i64 0) := I5.out.cell 0
            have f50 : w5.frozen? ⟨g, 0, none⟩ = false := I5.out.free 0
            have c51 : w5.cell? ⟨g, 1, none⟩ = some (.string ⟨#[]⟩) := I5.out.cell 1
            have f51 : w5.frozen? ⟨g, 1, none⟩ = false := I5.out.free 1
            have c52 : w5.cell? ⟨g, 2, none⟩ = some (.int .i64 0) := I5.out.cell 2
            have f52 : w5.frozen? ⟨g, 2, none⟩ = false := I5.out.free 2
            have c53 : w5.cell? ⟨g, 3, none⟩ = some (.slice none 0 0) := I5.out.cell 3
            have f53 : w5.frozen? ⟨g, 3, none⟩ = false := I5.out.free 3
            have c54 : w5.cell? ⟨g, 4, none⟩ = some (.slice none 0 0) := I5.out.cell 4
            have f54 : w5.frozen? ⟨g, 4, none⟩ = false := I5.out.free 4
            have I9 := Lib.hid (put5_is I5.out (.int .i64 0) (.string ⟨#[]⟩) (.int .i64 0) (.slice none 0 0) (.slice none 0 0))
            have B9 := Lib.hid (put5_below B5.out HG.out (.int .i64 0) (.string ⟨#[]⟩) (.int .i64 0) (.slice none 0 0) (.slice none 0 0))
            go_wp2_with fail
            refine bodyPost_ret (results_cell2 rfl _ _ g _ _ _ _ rfl I9.out Tryz.underlying32 rfl (by kernel_rfl)) rfl ?_
            exact rs_stop HF.out rfl B9.out
        · have d4 : ((ke : Int) != 0) = true := by simp; omega
          have HF := Lib.hid (HR3.out.trans (if_pos h4))
          clear HR3 h4
          have c40 : w4.cell? ⟨g, 0, none⟩ = some (.int .i64 0) := I4.out.cell 0
          have f40 : w4.frozen? ⟨g, 0, none⟩ = false := I4.out.free 0
          have c41 : w4.cell? ⟨g, 1, none⟩ = some (.string ⟨#[]⟩) := I4.out.cell 1
          have f41 : w4.frozen? ⟨g, 1, none⟩ = false := I4.out.free 1
          have c42 : w4.cell? ⟨g, 2, none⟩ = some (.int .i64 0) := I4.out.cell 2
          have f42 : w4.frozen? ⟨g, 2, none⟩ = false := I4.out.free 2
          have c43 : w4.cell? ⟨g, 3, none⟩ = some (.slice none 0 0) := I4.out.cell 3
          have f43 : w4.frozen? ⟨g, 3, none⟩ = false := I4.out.free 3
          have c44 : w4.cell? ⟨g, 4, none⟩ = some (.slice none 0 0) := I4.out.cell 4
          have f44 : w4.frozen? ⟨g, 4, none⟩ = false := I4.out.free 4
          have I9 := Lib.hid (put5_is I4.out (.int .i64 0) (.string ⟨#[]⟩) (.int .i64 0) (.slice none 0 0) (.slice none 0 0))
          have B9 := Lib.hid (put5_below B4.out HG.out (.int .i64 0) (.string ⟨#[]⟩) (.int .i64 0) (.slice none 0 0) (.slice none 0 0))
          go_wp2_with fail
          refine bodyPost_ret (results_cell2 rfl _ _ g _ _ _ _ rfl I9.out Tryz.underlying32 rfl (by kernel_rfl)) rfl ?_
          exact rs_stop HF.out rfl B9.out
      · have d3 : ((e3 : Int) != 0) = true := by simp; omega
        have HF := Lib.hid (HR2.out.trans (if_pos h3))
        clear HR2 h3 HFR
        have c30 : w3.cell? ⟨g, 0, none⟩ = some (.int .i64 0) := I3.out.cell 0
        have f30 : w3.frozen? ⟨g, 0, none⟩ = false := I3.out.free 0
        have c31 : w3.cell? ⟨g, 1, none⟩ = some (.string ⟨#[]⟩) := I3.out.cell 1
        have f31 : w3.frozen? ⟨g, 1, none⟩ = false := I3.out.free 1
        have c32 : w3.cell? ⟨g, 2, none⟩ = some (.int .i64 0) := I3.out.cell 2
        have f32 : w3.frozen? ⟨g, 2, none⟩ = false := I3.out.free 2
        have c33 : w3.cell? ⟨g, 3, none⟩ = some (.slice none 0 0) := I3.out.cell 3
        have f33 : w3.frozen? ⟨g, 3, none⟩ = false := I3.out.free 3
        have c34 : w3.cell? ⟨g, 4, none⟩ = some (.slice none 0 0) := I3.out.cell 4
        have f34 : w3.frozen? ⟨g, 4, none⟩ = false := I3.out.free 4
        have I9 := Lib.hid (put5_is I3.out (.int .i64 0) (.string ⟨#[]⟩) (.int .i64 0) (.slice none 0 0) (.slice none 0 0))
        have B9 := Lib.hid (put5_below B3.out HG.out (.int .i64 0) (.string ⟨#[]⟩) (.int .i64 0) (.slice none 0 0) (.slice none 0 0))
        go_wp2_with fail
        refine bodyPost_ret (results_cell2 rfl _ _ g _ _ _ _ rfl I9.out Tryz.underlying32 rfl (by kernel_rfl)) rfl ?_
        exact rs_stop HF.out rfl B9.out
  · have d1 : ((e1 : Int) != 0) = true := by simp; omega
    have HF := Lib.hid (HR.out.trans (if_pos h1))
    clear HR HFR h1
    have c10 : w1.cell? ⟨g, 0, none⟩ = some (.int .i64 0) := I1.out.cell 0
    have f10 : w1.frozen? ⟨g, 0, none⟩ = false := I1.out.free 0
    have c11 : w1.cell? ⟨g, 1, none⟩ = some (.string ⟨#[]⟩) := I1.out.cell 1
    have f11 : w1.frozen? ⟨g, 1, none⟩ = false := I1.out.free 1
    have c12 : w1.cell? ⟨g, 2, none⟩ = some (.int .i64 0) := I1.out.cell 2
    have f12 : w1.frozen? ⟨g, 2, none⟩ = false := I1.out.free 2
    have c13 : w1.cell? ⟨g, 3, none⟩ = some (.slice none 0 0) := I1.out.cell 3
    have f13 : w1.frozen? ⟨g, 3, none⟩ = false := I1.out.free 3
    have c14 : w1.cell? ⟨g, 4, none⟩ = some (.slice none 0 0) := I1.out.cell 4
    have f14 : w1.frozen? ⟨g, 4, none⟩ = false := I1.out.free 4
    have I9 := Lib.hid (put5_is I1.out (.int .i64 0) (.string ⟨#[]⟩) (.int .i64 0) (.slice none 0 0) (.slice none 0 0))
    have B9 := Lib.hid (put5_below B1.out HG.out (.int .i64 0) (.string ⟨#[]⟩) (.int .i64 0) (.slice none 0 0) (.slice none 0 0))
    go_wp2_with fail
    refine bodyPost_ret (results_cell2 rfl _ _ g _ _ _ _ rfl I9.out Tryz.underlying32 rfl (by kernel_rfl)) rfl ?_
    exact rs_stop HF.out rfl B9.out
end Go.Proofs.YtemgfppclakdmaaGreatDoor

namespace Go.Proofs.YtemgfppclakdmaaGreatDoor
open Go.RowKit

/-- What is put, as bytes that have room. -/
def PutGot9 (R : List UInt8 × Nat) (w : World) (e : Ending) (w' : World) : Prop := ∃ A c, e = .returned (.tuple #[.slice A R.1.length c, .int .i64 (R.2 : Int)]) ∧ R.1.length ≤ c ∧ Src w' (fun _ => True) A R.1 ∧ Below w.heap.size w w'
/-- The landed code's contracts, in the document's words. -/
structure MsgC : Prop where
  request : ∀ (w : World) (A : Option Addr) (bs : List UInt8) (n c : Nat), bs.length = n → n ≤ c → n ≤ 140737488351232 → Src w (fun _ => True) A bs → Sta.PowT w → Calls Tryz.prog 9 #[.slice A n c] w (RqGot9 (requestM bs) w)
  response : ∀ (w : World) (A : Option Addr) (bs : List UInt8) (n c : Nat) (m : ByteArray) (ended : Bool), bs.length = n → n ≤ c → n ≤ 140737488351232 → m.size ≤ 140737488351232 → Src w (fun _ => True) A bs → Sta.PowT w → Calls Tryz.prog 11 #[.slice A n c, .string m, .bool ended] w (RsGot9 (responseM bs (bl m) ended) w)
  putRequest : ∀ (w : World) (m t : ByteArray) (k : Int) (A D : Option Addr) (ls : List Fld) (bs : List UInt8) (n c l d : Nat), ls.length = n → bs.length = l → m.size ≤ 140737488351232 → t.size ≤ 140737488351232 → Sta.I64 k → bulkF ls ≤ 1000000000 → l ≤ 140737488351232 → SrcF w (fun _ => True) A ls → Src w (fun _ => True) D bs → Sta.PowT w →
    Calls Tryz.prog 19 #[.agg #[.string m, .string t, .int .i64 k, .slice A n c, .slice D l d]] w (PutGot9 (putReqM (bl m) (bl t) k ls bs) w)
  putResponse : ∀ (w : World) (st : Int) (r m : ByteArray) (k : Int) (A D : Option Addr) (ls : List Fld) (bs : List UInt8) (n c l d : Nat), ls.length = n → bs.length = l → r.size ≤ 140737488351232 → m.size ≤ 140737488351232 → Sta.I64 k → Sta.I64 st → bulkF ls ≤ 1000000000 → l ≤ 140737488351232 → SrcF w (fun _ => True) A ls → Src w (fun _ => True) D bs → Sta.PowT w →
    Calls Tryz.prog 20 #[.agg #[.int .i64 st, .string r, .int .i64 k, .slice A n c, .slice D l d], .string m] w (PutGot9 (putResM k st (bl r) ls bs (bl m)) w)
  sameRequest : ∀ (w : World) (s0 s0' s1 s1' : ByteArray) (i2 i2' : Int) (A A' D D' : Option Addr) (ls ls' : List Fld) (bs bs' : List UInt8) (n n' c c' m m' d d' : Nat), ls.length = n → ls'.length = n' → n ≤ 140737488351232 → bs.length = m → bs'.length = m' → SrcF w (fun _ => True) A ls → SrcF w (fun _ => True) A' ls' → Src w (fun _ => True) D bs → Src w (fun _ => True) D' bs' →
    Calls Tryz.prog 17 #[.agg #[.string s0, .string s1, .int .i64 i2, .slice A n c, .slice D m d], .agg #[.string s0', .string s1', .int .i64 i2', .slice A' n' c', .slice D' m' d']] w fun e w' => e = .returned (.bool (decide (bl s0 = bl s0' ∧ bl s1 = bl s1' ∧ i2 = i2' ∧ ls = ls' ∧ bs = bs'))) ∧ Below w.heap.size w w'
  sameResponse : ∀ (w : World) (i0 i0' : Int) (s1 s1' : ByteArray) (i2 i2' : Int) (A A' D D' : Option Addr) (ls ls' : List Fld) (bs bs' : List UInt8) (n n' c c' m m' d d' : Nat), ls.length = n → ls'.length = n' → n ≤ 140737488351232 → bs.length = m → bs'.length = m' → SrcF w (fun _ => True) A ls → SrcF w (fun _ => True) A' ls' → Src w (fun _ => True) D bs → Src w (fun _ => True) D' bs' →
    Calls Tryz.prog 18 #[.agg #[.int .i64 i0, .string s1, .int .i64 i2, .slice A n c, .slice D m d], .agg #[.int .i64 i0', .string s1', .int .i64 i2', .slice A' n' c', .slice D' m' d']] w fun e w' => e = .returned (.bool (decide (i0 = i0' ∧ bl s1 = bl s1' ∧ i2 = i2' ∧ ls = ls' ∧ bs = bs'))) ∧ Below w.heap.size w w'

/-- A request as its parts. -/
def RqTold (R : RqM × List Fld × List UInt8) (u f : Nat) (X : World) (e : Ending) (w' : World) : Prop := ∃ Af cf Ab cb, e = .returned (.tuple #[.agg #[.string ⟨R.1.1.toArray⟩, .string ⟨R.1.2.1.toArray⟩, .int .i64 (R.1.2.2 : Int), .slice Af R.2.1.length cf, .slice Ab R.2.2.length cb], .int .i64 (u : Int), .int .i64 (f : Int)]) ∧
  SrcF w' (fun _ => True) Af R.2.1 ∧ Src w' (fun _ => True) Ab R.2.2 ∧ Below X.heap.size X w'
def RsTold (R : RsM × List Fld × List UInt8) (u f : Nat) (X : World) (e : Ending) (w' : World) : Prop := ∃ Af cf Ab cb, e = .returned (.tuple #[.agg #[.int .i64 (R.1.2.1 : Int), .string ⟨R.1.2.2.toArray⟩, .int .i64 (R.1.1 : Int), .slice Af R.2.1.length cf, .slice Ab R.2.2.length cb], .int .i64 (u : Int), .int .i64 (f : Int)]) ∧
  SrcF w' (fun _ => True) Af R.2.1 ∧ Src w' (fun _ => True) Ab R.2.2 ∧ Below X.heap.size X w'
theorem RqGot9.told {R : Option (RqM × List Fld × List UInt8) × Nat × Nat} {w w' : World} {e : Ending} (h : RqGot9 R w e w') : RqTold (R.1.getD rqZ) R.2.1 R.2.2 w e w' := by
  obtain ⟨fv, fo, bv, bo, rfl, h1, h2, _, _, h5⟩ := h
  obtain ⟨A, c, rfl, s⟩ := h1.src (fun _ => True) (fun _ _ => trivial)
  obtain ⟨A', c', rfl, s'⟩ := h2.src (fun _ => True) (fun _ _ => trivial)
  exact ⟨A, c, A', c', rfl, s, s', h5⟩
theorem RsGot9.told {R : Option (RsM × List Fld × List UInt8) × Nat × Nat} {w w' : World} {e : Ending} (h : RsGot9 R w e w') : RsTold (R.1.getD rsZ) R.2.1 R.2.2 w e w' := by
  obtain ⟨fv, fo, bv, bo, rfl, h1, h2, _, _, h5⟩ := h
  obtain ⟨A, c, rfl, s⟩ := h1.src (fun _ => True) (fun _ _ => trivial)
  obtain ⟨A', c', rfl, s'⟩ := h2.src (fun _ => True) (fun _ _ => trivial)
  exact ⟨A, c, A', c', rfl, s, s', h5⟩
theorem req_lit (HC : MsgC) (bs : List UInt8) (a : RqM × List Fld × List UInt8) (u f : Nat) (hR : requestM bs = (some a, u, f) ∨ (requestM bs = (none, u, f) ∧ a = rqZ)) (cur : Array Value) (hc : (vals bs).toArray = cur) (n : Nat) (hn : bs.length = n) (hmax : n ≤ 100000) (X : World) (hp : Sta.PowT X) :
    Calls Tryz.prog 9 #[.slice (some ⟨X.heap.size, 0, none⟩) n n] (X.alloc (.cells cur 5 (n, n + 1))) (RqTold a u f X) := by
  have hb : Below X.heap.size X (X.alloc (.cells cur 5 (n, n + 1))) := (Below.refl _ _).alloc (Nat.le_refl _) _
  refine (HC.request _ _ bs n n hn (Nat.le_refl _) (by omega) (src_marked X bs cur hc _) (hp.below hb)).mono ?_
  intro e w' h
  obtain ⟨A, c, A', c', h1, h2, h3, h4⟩ := h.told
  rcases hR with hR | ⟨hR, rfl⟩
  · rw [hR] at h1 h2 h3
    exact ⟨A, c, A', c', h1, h2, h3, hb.trans (h4.mono hb.size)⟩
  · rw [hR] at h1 h2 h3
    exact ⟨A, c, A', c', h1, h2, h3, hb.trans (h4.mono hb.size)⟩
theorem res_lit (HC : MsgC) (bs : List UInt8) (m : ByteArray) (ended : Bool) (hm : m.size ≤ 100000) (a : RsM × List Fld × List UInt8) (u f : Nat) (hR : responseM bs (bl m) ended = (some a, u, f) ∨ (responseM bs (bl m) ended = (none, u, f) ∧ a = rsZ)) (cur : Array Value) (hc : (vals bs).toArray = cur) (n : Nat) (hn : bs.length = n) (hmax : n ≤ 100000) (X : World) (hp : Sta.PowT X) :
    Calls Tryz.prog 11 #[.slice (some ⟨X.heap.size, 0, none⟩) n n, .string m, .bool ended] (X.alloc (.cells cur 5 (n, n + 1))) (RsTold a u f X) := by
  have hb : Below X.heap.size X (X.alloc (.cells cur 5 (n, n + 1))) := (Below.refl _ _).alloc (Nat.le_refl _) _
  refine (HC.response _ _ bs n n m ended hn (Nat.le_refl _) (by omega) (by omega) (src_marked X bs cur hc _) (hp.below hb)).mono ?_
  intro e w' h
  obtain ⟨A, c, A', c', h1, h2, h3, h4⟩ := h.told
  rcases hR with hR | ⟨hR, rfl⟩
  · rw [hR] at h1 h2 h3
    exact ⟨A, c, A', c', h1, h2, h3, hb.trans (h4.mono hb.size)⟩
  · rw [hR] at h1 h2 h3
    exact ⟨A, c, A', c', h1, h2, h3, hb.trans (h4.mono hb.size)⟩
def wkA : List UInt8 := [80, 79, 83, 84, 32, 47, 32, 72, 84, 84, 80, 47, 49, 46, 49, 13, 10, 67, 111, 110, 116, 101, 110, 116, 45, 76, 101, 110, 103, 116, 104, 58, 32, 50, 13, 10, 13, 10, 97, 98, 99]
def wkB : List UInt8 := [72, 84, 84, 80, 47, 49, 46, 49, 32, 50, 48, 48, 32, 79, 75, 13, 10, 13, 10, 97, 98]
def wkC : List UInt8 := [71, 69, 84, 32, 47, 32, 72, 84, 84, 80, 47, 49, 46, 49, 13, 10, 72, 111, 115, 116, 58, 32, 120, 13, 10, 13, 10]
theorem msg_eq {α : Type} {R : Option (α × List Fld × List UInt8) × Nat × Nat} {a : α} {l : List Fld} {x : List UInt8} {u f : Nat} (h1 : R.1.map (fun y => y.1) = some a) (h2 : R.1.map (fun y => y.2.1) = some l) (h3 : R.1.map (fun y => y.2.2) = some x) (h4 : R.2 = (u, f)) : R = (some (a, l, x), u, f) := by
  obtain ⟨r, v⟩ := R
  simp only at h1 h2 h3 h4
  cases r with
  | none => cases h1
  | some y =>
    obtain ⟨y1, y2, y3⟩ := y
    simp only [Option.map_some, Option.some.injEq] at h1 h2 h3
    rw [h1, h2, h3, h4]
theorem msg_none {α : Type} {R : Option (α × List Fld × List UInt8) × Nat × Nat} {u f : Nat} (h1 : R.1.isNone = true) (h4 : R.2 = (u, f)) : R = (none, u, f) := by
  obtain ⟨r, v⟩ := R
  simp only at h1 h4
  rw [Option.isNone_iff_eq_none.1 h1, h4]
theorem wake9a : requestM wkA = (some (([80, 79, 83, 84], [47], 1), [(clN9, [50])], [97, 98]), 40, 0) := msg_eq (by decide +kernel) (by decide +kernel) (by decide +kernel) (by decide +kernel)
theorem wake9b : responseM wkB [71, 69, 84] true = (some ((1, 200, [79, 75]), [], [97, 98]), 21, 0) := msg_eq (by decide +kernel) (by decide +kernel) (by decide +kernel) (by decide +kernel)
theorem wake9c : responseM wkB [71, 69, 84] false = (none, 0, 8) := msg_none (by decide +kernel) (by decide +kernel)
theorem wake9d : putReqM [71, 69, 84] [47] 1 [([72, 111, 115, 116], [120])] [] = (wkC, 0) := by decide +kernel
end Go.Proofs.YtemgfppclakdmaaGreatDoor
