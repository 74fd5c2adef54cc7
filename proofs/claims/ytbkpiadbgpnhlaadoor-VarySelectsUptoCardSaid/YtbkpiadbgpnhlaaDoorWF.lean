/-
  Package vary's Same, and the document's own; slices.Equal of fields.
  Conditions: those that each theorem names.
-/
import Derived.Test.YtbkpiadbgpnhlaaDoorWA
import Derived.Test.YtbkpiadbgpnhlaaDoorHC
import Derived.Test.YtbkpiadbgpnhlaaDoorJ
import Derived.Laws.Rows
import Derived.Deep.QuietTactic
import Derived.BigQuiet
namespace Go.Proofs.YtbkpiadbgpnhlaaDoor.Var
open Go.RowKit Hop

set_option maxHeartbeats 4000000 in
set_option maxRecDepth 100000 in
theorem lsame_any {P P' : Nat → Prop} (w : World) (A A' : Option Addr) (ls ls' : List Fld) (n n' c c' : Nat) (hn : ls.length = n) (hn' : ls'.length = n') (hmax : n ≤ 140737488351232) (h : SrcF w P A ls) (h' : SrcF w P' A' ls') :
    Calls Tryd.prog 27 #[.slice A n c, .slice A' n' c'] w fun e w' => e = .returned (.bool (ls == ls')) ∧ Below w.heap.size w w' := by
  have HN := Lib.hid hn
  have HN' := Lib.hid hn'
  have H := Lib.hid h
  have H' := Lib.hid h'
  by_cases hne : n = n'
  · subst hne
    have e0 : ((n : Int) != (n : Int)) = false := by simp
    clear hn hn' h h'
    go_enter Tryd.func27, Tryd.ntmps27
    go_wp2_with fail
    go_loopw [13] (fun vi wr => ∃ k : Nat, vi = .int .i64 (k : Int) ∧ k ≤ n ∧ Hid (ls.take k = ls'.take k) ∧ Hid (Below w.heap.size w wr)) (fun vi _ => n - (intOf vi).toNat)
    case atStart => exact ⟨0, rfl, Nat.zero_le _, Lib.hid rfl, Lib.hid (Below.refl _ _)⟩
    case round =>
      obtain ⟨k, rfl, hk, HE, HB⟩ := hrel
      by_cases hlt : k < n
      · obtain ⟨p, f, hf, hat, y0, y1, _, _⟩ := H.out.at (c := c) HN.out hlt HB.out
        obtain ⟨p', f', hf', hat', y0', y1', _, _⟩ := H'.out.at (c := c') HN'.out hlt HB.out
        have HX := Lib.hid hf
        have HY := Lib.hid hf'
        obtain ⟨Nm, hNm⟩ : ∃ Nm : ByteArray, Nm = ⟨f.1.toArray⟩ := ⟨_, rfl⟩
        obtain ⟨Vl, hVl⟩ : ∃ Vl : ByteArray, Vl = ⟨f.2.toArray⟩ := ⟨_, rfl⟩
        obtain ⟨Nm', hNm'⟩ : ∃ Nm : ByteArray, Nm = ⟨f'.1.toArray⟩ := ⟨_, rfl⟩
        obtain ⟨Vl', hVl'⟩ : ∃ Vl : ByteArray, Vl = ⟨f'.2.toArray⟩ := ⟨_, rfl⟩
        rw [← hNm] at y0
        rw [← hVl] at y1
        rw [← hNm'] at y0'
        rw [← hVl'] at y1'
        have HF := Lib.hid (show f = (bl Nm, bl Vl) by rw [hNm, hVl, bl_mk, bl_mk])
        have HF' := Lib.hid (show f' = (bl Nm', bl Vl') by rw [hNm', hVl', bl_mk, bl_mk])
        clear hf hf' hNm hVl hNm' hVl'
        have hg := fldGuard
        have hq := run_neq_fld Nm Vl Nm' Vl'
        by_cases hxy : f = f'
        · have HT := Lib.hid (show ls.take (k + 1) = ls'.take (k + 1) by rw [take_snoc ls k f HX.out, take_snoc ls' k f' HY.out, HE.out, hxy])
          have hb : (!(Nm.toList == Nm'.toList && Vl.toList == Vl'.toList)) = false := by
            have h1 := HF.out
            rw [hxy, HF'.out] at h1
            simp only [Prod.mk.injEq] at h1
            rw [Lib.toList_data, Lib.toList_data, Lib.toList_data, Lib.toList_data]
            have e1 : Nm'.data.toList = Nm.data.toList := h1.1
            have e2 : Vl'.data.toList = Vl.data.toList := h1.2
            rw [e1, e2]
            simp
          rw [hb] at hq
          clear hb hxy
          go_wp2_with fail
          go_quiet (fail)
          go_wp2_with fail
          go_roundw
          case rel => exact ⟨k + 1, by go_num, hlt, HT, Lib.hid (below_drewN HB.out _)⟩
          case measure => simp [intOf]; omega
        · have HD := Lib.hid (show (ls == ls') = false by
            rw [beq_eq_false_iff_ne]
            intro e
            have h1 := HX.out
            rw [e, HY.out] at h1
            exact hxy (Option.some.inj h1.symm))
          have hb : (!(Nm.toList == Nm'.toList && Vl.toList == Vl'.toList)) = true := by
            rw [Bool.not_eq_true', ← Bool.not_eq_true, Bool.and_eq_true, beq_iff_eq, beq_iff_eq, Lib.toList_data, Lib.toList_data, Lib.toList_data, Lib.toList_data]
            rintro ⟨e1, e2⟩
            apply hxy
            rw [HF.out, HF'.out]
            unfold bl
            rw [e1, e2]
          rw [hb] at hq
          clear hb hxy
          go_wp2_with fail
          go_quiet (fail)
          go_wp2_with fail
          go_ret
          exact ⟨ret_bool HD.out.symm, below_drewN HB.out _⟩
      · have HF := Lib.hid (show (ls == ls') = true by
          have := HE.out
          rw [List.take_of_length_le (by rw [HN.out]; omega), List.take_of_length_le (by rw [HN'.out]; omega)] at this
          rw [this]
          simp)
        go_wp2_with fail
        go_ret
        exact ⟨ret_bool HF.out.symm, HB.out⟩
  · have e0 : ((n : Int) != (n' : Int)) = true := by simp; omega
    have HF := Lib.hid (show (ls == ls') = false by
      rw [beq_eq_false_iff_ne]
      intro e
      rw [e] at hn
      omega)
    clear hn hn' h h' hne
    go_enter Tryd.func27, Tryd.ntmps27
    go_wp2_with fail
    go_ret
    exact ⟨ret_bool HF.out.symm, Below.refl _ _⟩

theorem vsame_any {P P' : Nat → Prop} (w : World) (A A' : Option Addr) (ls ls' : List Fld) (n n' c c' : Nat) (hn : ls.length = n) (hn' : ls'.length = n') (hmax : n ≤ 140737488351232) (h : SrcF w P A ls) (h' : SrcF w P' A' ls') :
    Calls Tryd.prog 16 #[.slice A n c, .slice A' n' c'] w fun e w' => e = .returned (.bool (ls == ls')) ∧ Below w.heap.size w w' := by
  have CS := lsame_any w A A' ls ls' n n' c c' hn hn' hmax h h'
  generalize (ls == ls') = b at *
  clear hn hn' h h'
  go_enter Tryd.func16, Tryd.ntmps16
  go_wp2_with fail
  refine CS.mono ?_
  rintro e w2 ⟨rfl, b2⟩
  go_wp2_with fail
  go_ret
  exact ⟨rfl, b2⟩
set_option maxHeartbeats 4000000 in
set_option maxRecDepth 100000 in
theorem rsame16_any {P P' : Nat → Prop} (w : World) (A A' : Option Addr) (ls ls' : List Fld) (n n' c c' : Nat) (hn : ls.length = n) (hn' : ls'.length = n') (hmax : n ≤ 140737488351232) (h : SrcF w P A ls) (h' : SrcF w P' A' ls') :
    Calls Tryd.prog 12 #[.slice A n c, .slice A' n' c'] w fun e w' => e = .returned (.bool (ls == ls')) ∧ Below w.heap.size w w' := by
  have HN := Lib.hid hn
  have HN' := Lib.hid hn'
  have H := Lib.hid h
  have H' := Lib.hid h'
  by_cases hne : n = n'
  · subst hne
    have e0 : ((n : Int) != (n : Int)) = false := by simp
    clear hn hn' h h'
    go_enter Tryd.func12, Tryd.ntmps12
    go_wp2_with fail
    go_loopw [5] (fun vi wr => ∃ k : Nat, vi = .int .i64 (k : Int) ∧ k ≤ n ∧ Hid (ls.take k = ls'.take k) ∧ Hid (Below w.heap.size w wr)) (fun vi _ => n - (intOf vi).toNat)
    case atStart => exact ⟨0, rfl, Nat.zero_le _, Lib.hid rfl, Lib.hid (Below.refl _ _)⟩
    case round =>
      obtain ⟨k, rfl, hk, HE, HB⟩ := hrel
      by_cases hlt : k < n
      · obtain ⟨p, f, hf, hat, y0, y1, _, _⟩ := H.out.at (c := c) HN.out hlt HB.out
        obtain ⟨p', f', hf', hat', y0', y1', _, _⟩ := H'.out.at (c := c') HN'.out hlt HB.out
        have HX := Lib.hid hf
        have HY := Lib.hid hf'
        clear hf hf'
        obtain ⟨a1, a2⟩ := f
        obtain ⟨d1, d2⟩ := f'
        simp only at *
        have FF : ∀ (_ : (a1, a2) ≠ (d1, d2)), (ls == ls') = false := fun hxy => by
          rw [beq_eq_false_iff_ne]
          intro e
          have h1 := HX.out
          rw [e, HY.out] at h1
          exact hxy (Option.some.inj h1.symm)
        by_cases h1 : a1 = d1
        · subst h1
          by_cases h2 : a2 = d2
          · subst h2
            have HT := Lib.hid (show ls.take (k + 1) = ls'.take (k + 1) by rw [take_snoc ls k _ HX.out, take_snoc ls' k _ HY.out, HE.out])
            clear FF
            go_wp2_with fail
            go_quiet (fail)
            go_wp2_with fail
            go_roundw
            case rel => exact ⟨k + 1, by go_num, hlt, HT, Lib.hid (below_drewN HB.out _)⟩
            case measure => simp [intOf]; omega
          · have hb : (a2 == d2) = false := by simpa using h2
            have HD := Lib.hid (FF (fun e => h2 (Prod.mk.inj e).2))
            clear h2 FF
            go_wp2_with fail
            go_quiet (fail)
            go_wp2_with fail
            go_ret
            exact ⟨ret_bool HD.out.symm, below_drewN HB.out _⟩
        · have hb : (a1 == d1) = false := by simpa using h1
          have HD := Lib.hid (FF (fun e => h1 (Prod.mk.inj e).1))
          clear h1 FF
          go_wp2_with fail
          go_quiet (fail)
          go_wp2_with fail
          go_ret
          exact ⟨ret_bool HD.out.symm, below_drewN HB.out _⟩
      · have HF := Lib.hid (show (ls == ls') = true by
          have := HE.out
          rw [List.take_of_length_le (by rw [HN.out]; omega), List.take_of_length_le (by rw [HN'.out]; omega)] at this
          rw [this]
          simp)
        go_wp2_with fail
        go_ret
        exact ⟨ret_bool HF.out.symm, HB.out⟩
  · have e0 : ((n : Int) != (n' : Int)) = true := by simp; omega
    have HF := Lib.hid (show (ls == ls') = false by
      rw [beq_eq_false_iff_ne]
      intro e
      rw [e] at hn
      omega)
    clear hn hn' h h' hne
    go_enter Tryd.func12, Tryd.ntmps12
    go_wp2_with fail
    go_ret
    exact ⟨ret_bool HF.out.symm, Below.refl _ _⟩
end Go.Proofs.YtbkpiadbgpnhlaaDoor.Var
