/-
  What the reference's Same answers.
  Conditions: those that each theorem names.
-/
import Derived.Test.YtkccmjeabkfmdaaDoorHB
import Derived.Laws.StructEq
namespace Go.Proofs.YtkccmjeabkfmdaaDoor
open Go.RowKit

theorem fldGuard : Tryd.prog.eqGuardType Tryd.prog.depth 33 = false := by kernel_rfl
theorem fldStruct : Tryd.prog.underlying 33 = some (.struct (Tryd.prog.fieldsOf 33)) := by kernel_rfl
theorem fldHeld : Tryd.prog.stoodInHeld 33 = false := by kernel_rfl
theorem fldFields : ∃ f0 f1 : Field, (Tryd.prog.fieldsOf 33).toList = [f0, f1] ∧ f0.name ≠ "_" ∧ f1.name ≠ "_" ∧ f0.type = 9 ∧ f1.type = 9 ∧ f0.offset = 0 ∧ f1.offset = 1 := by
  have h : (Tryd.prog.fieldsOf 33).toList.map (fun f => (f.name, f.type, f.offset)) = [("Name", 9, 0), ("Value", 9, 1)] := by kernel_rfl
  generalize (Tryd.prog.fieldsOf 33).toList = l at *
  rcases l with _ | ⟨f0, _ | ⟨f1, _ | ⟨f2, r⟩⟩⟩
  · simp at h
  · simp at h
  · simp only [List.map_cons, List.map_nil, List.cons.injEq, Prod.mk.injEq, and_true] at h
    obtain ⟨⟨a, b, c⟩, d, e, f⟩ := h
    exact ⟨f0, f1, rfl, by rw [a]; decide, by rw [d]; decide, b, e, c, f⟩
  · simp at h
theorem part_str (xs : Array Value) (o : Nat) (s : ByteArray) (h : xs[o]? = some (.string s)) (W : World) : (part 9 xs o).run Tryd.prog W = .ok (.string s) W := by
  simp [part, isAgg, run_underlying Tryd.underlying9, h]
theorem run_neq_fld (a b c d : ByteArray) (W : World) : (binOp .neq 33 (.agg #[.string a, .string b]) (.agg #[.string c, .string d])).run Tryd.prog W = .ok (.bool (!(a.toList == c.toList && b.toList == d.toList))) W := by
  obtain ⟨f0, f1, hl, n0, n1, t0, t1, o0, o1⟩ := fldFields
  rw [run_neq_struct, run_equalIn_agg W 9999 _ _ _ fldStruct fldHeld, hl]
  simp only [Op.eqFields, n0, n1, ne_eq, not_false_eq_true, if_true, t0, t1, o0, o1, Sem.run_bind, Sem.run_ite, Sem.run_pure]
  rw [part_str _ 0 a rfl, Result.andThen_ok, part_str _ 0 c rfl, Result.andThen_ok, run_equalIn_string W 9998 _ a c Tryd.underlying9, Result.andThen_ok]
  cases hac : (a.toList == c.toList)
  · simp [Result.andThen]
  · rw [part_str _ 1 b rfl, Result.andThen_ok, part_str _ 1 d rfl, Result.andThen_ok, run_equalIn_string W 9998 _ b d Tryd.underlying9, Result.andThen_ok]
    cases hbd : (b.toList == d.toList) <;> simp [Result.andThen]

/-- What the k-th element of a list of fields reads, in any later world. -/
theorem SrcF.at {P : Nat → Prop} {w wr : World} {A : Option Addr} {ls : List Fld} {n c k : Nat} (h : SrcF w P A ls) (hn : ls.length = n) (hlt : k < n) (hB : Below w.heap.size w wr) :
    ∃ (p : Addr) (f : Fld), ls[k]? = some f ∧ (∀ Wx, (Instr.indexAt 22 (.slice A n c) (.int .i64 (k : Int))).run Tryd.prog Wx = .ok (.pointer (some p)) Wx) ∧
      wr.cell? p = some (.string ⟨f.1.toArray⟩) ∧ wr.cell? ⟨p.block, p.off + 1, none⟩ = some (.string ⟨f.2.toArray⟩) ∧ P p.block ∧ p.block < w.heap.size := by
  obtain ⟨ad, hA, hP, hadb, hc⟩ := h (by omega)
  obtain ⟨f, hf⟩ : ∃ f, ls[k]? = some f := ⟨ls[k]'(by omega), List.getElem?_eq_getElem _⟩
  obtain ⟨c1, c2⟩ := hc k f hf
  have hblk : (ad.add (k * 2)).block = ad.block := by unfold Addr.add; split <;> rfl
  refine ⟨ad.add (k * 2), f, hf, fun Wx => ?_, (hB.cell (Lib.lt_of_cell c1)).trans c1, ?_, by rw [hblk]; exact hP, by rw [hblk]; exact hadb⟩
  · rw [hA]
    exact run_at_size 22 33 2 Tryd.underlying22 fldSize ad n c k hlt Wx
  · rw [add_next]
    exact (hB.cell (Lib.lt_of_cell c2)).trans c2

set_option maxHeartbeats 4000000 in
set_option maxRecDepth 100000 in
theorem rsame_any {P P' : Nat → Prop} (w : World) (A A' : Option Addr) (ls ls' : List Fld) (n n' c c' : Nat) (hn : ls.length = n) (hn' : ls'.length = n') (hmax : n ≤ 140737488351232) (h : SrcF w P A ls) (h' : SrcF w P' A' ls') :
    Calls Tryd.prog 11 #[.slice A n c, .slice A' n' c'] w fun e w' => e = .returned (.bool (ls == ls')) ∧ Below w.heap.size w w' := by
  have HN := Lib.hid hn
  have HN' := Lib.hid hn'
  have H := Lib.hid h
  have H' := Lib.hid h'
  by_cases hne : n = n'
  · subst hne
    have e0 : ((n : Int) != (n : Int)) = false := by simp
    clear hn hn' h h'
    go_enter Tryd.func11, Tryd.ntmps11
    go_wp2_with fail
    go_loopw [5] (fun vi wr => ∃ k : Nat, vi = .int .i64 (k : Int) ∧ k ≤ n ∧ Hid (ls.take k = ls'.take k) ∧ Hid (Below w.heap.size w wr)) (fun vi _ => n - (intOf vi).toNat)
    case atStart => exact ⟨0, rfl, Nat.zero_le _, Lib.hid rfl, Lib.hid (Below.refl _ _)⟩
    case round =>
      obtain ⟨k, rfl, hk, HE, HB⟩ := hrel
      by_cases hlt : k < n
      · obtain ⟨p, f, hf, hat, y0, y1, _, _⟩ := H.out.at (c := c) HN.out hlt HB.out
        obtain ⟨p', f', hf', hat', y0', y1', _, _⟩ := H'.out.at (c := c') HN'.out hlt HB.out
        have HX := Lib.hid hf
        have HY := Lib.hid hf'
        obtain ⟨Nm, hNm⟩ : ∃ Nm : ByteArray, Nm = ⟨f.1.toArray⟩ := ⟨_, rfl⟩
        obtain ⟨Vl, hVl⟩ : ∃ Vl : ByteArray, Vl = ⟨f.2.toArray⟩ := ⟨_, rfl⟩
        obtain ⟨Nm', hNm'⟩ : ∃ Nm : ByteArray, Nm = ⟨f'.1.toArray⟩ := ⟨_, rfl⟩
        obtain ⟨Vl', hVl'⟩ : ∃ Vl : ByteArray, Vl = ⟨f'.2.toArray⟩ := ⟨_, rfl⟩
        rw [← hNm] at y0
        rw [← hVl] at y1
        rw [← hNm'] at y0'
        rw [← hVl'] at y1'
        have HF := Lib.hid (show f = (bl Nm, bl Vl) by rw [hNm, hVl, bl_mk, bl_mk])
        have HF' := Lib.hid (show f' = (bl Nm', bl Vl') by rw [hNm', hVl', bl_mk, bl_mk])
        clear hf hf' hNm hVl hNm' hVl'
        have hg := fldGuard
        have hq := run_neq_fld Nm Vl Nm' Vl'
        by_cases hxy : f = f'
        · have HT := Lib.hid (show ls.take (k + 1) = ls'.take (k + 1) by rw [take_snoc ls k f HX.out, take_snoc ls' k f' HY.out, HE.out, hxy])
          have hb : (!(Nm.toList == Nm'.toList && Vl.toList == Vl'.toList)) = false := by
            have h1 := HF.out
            rw [hxy, HF'.out] at h1
            simp only [Prod.mk.injEq] at h1
            rw [Lib.toList_data, Lib.toList_data, Lib.toList_data, Lib.toList_data]
            have e1 : Nm'.data.toList = Nm.data.toList := h1.1
            have e2 : Vl'.data.toList = Vl.data.toList := h1.2
            rw [e1, e2]
            simp
          rw [hb] at hq
          clear hb hxy
          go_wp2_with fail
          go_quiet (fail)
          go_wp2_with fail
          go_roundw
          case rel => exact ⟨k + 1, by go_num, hlt, HT, Lib.hid (below_drewN HB.out _)⟩
          case measure => simp [intOf]; omega
        · have HD := Lib.hid (show (ls == ls') = false by
            rw [beq_eq_false_iff_ne]
            intro e
            have h1 := HX.out
            rw [e, HY.out] at h1
            exact hxy (Option.some.inj h1.symm))
          have hb : (!(Nm.toList == Nm'.toList && Vl.toList == Vl'.toList)) = true := by
            rw [Bool.not_eq_true', ← Bool.not_eq_true, Bool.and_eq_true, beq_iff_eq, beq_iff_eq, Lib.toList_data, Lib.toList_data, Lib.toList_data, Lib.toList_data]
            rintro ⟨e1, e2⟩
            apply hxy
            rw [HF.out, HF'.out]
            unfold bl
            rw [e1, e2]
          rw [hb] at hq
          clear hb hxy
          go_wp2_with fail
          go_quiet (fail)
          go_wp2_with fail
          go_ret
          exact ⟨ret_bool HD.out.symm, below_drewN HB.out _⟩
      · have HF := Lib.hid (show (ls == ls') = true by
          have := HE.out
          rw [List.take_of_length_le (by rw [HN.out]; omega), List.take_of_length_le (by rw [HN'.out]; omega)] at this
          rw [this]
          simp)
        go_wp2_with fail
        go_ret
        exact ⟨ret_bool HF.out.symm, HB.out⟩
  · have e0 : ((n : Int) != (n' : Int)) = true := by simp; omega
    have HF := Lib.hid (show (ls == ls') = false by
      rw [beq_eq_false_iff_ne]
      intro e
      rw [e] at hn
      omega)
    clear hn hn' h h' hne
    go_enter Tryd.func11, Tryd.ntmps11
    go_wp2_with fail
    go_ret
    exact ⟨ret_bool HF.out.symm, Below.refl _ _⟩
end Go.Proofs.YtkccmjeabkfmdaaDoor
