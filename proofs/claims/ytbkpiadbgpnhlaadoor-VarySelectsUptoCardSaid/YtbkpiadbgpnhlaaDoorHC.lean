/-
  What the reference's Same answers.
  Conditions: those that each theorem names.
-/
import Derived.Test.YtbkpiadbgpnhlaaDoorHB
import Derived.Laws.StructEq
namespace Go.Proofs.YtbkpiadbgpnhlaaDoor
open Go.RowKit

theorem fldGuard : Tryd.prog.eqGuardType Tryd.prog.depth 32 = false := by kernel_rfl
theorem fldStruct : Tryd.prog.underlying 32 = some (.struct (Tryd.prog.fieldsOf 32)) := by kernel_rfl
theorem fldHeld : Tryd.prog.stoodInHeld 32 = false := by kernel_rfl
theorem fldFields : ∃ f0 f1 : Field, (Tryd.prog.fieldsOf 32).toList = [f0, f1] ∧ f0.name ≠ "_" ∧ f1.name ≠ "_" ∧ f0.type = 9 ∧ f1.type = 9 ∧ f0.offset = 0 ∧ f1.offset = 1 := by
  have h : (Tryd.prog.fieldsOf 32).toList.map (fun f => (f.name, f.type, f.offset)) = [("Name", 9, 0), ("Value", 9, 1)] := by kernel_rfl
  generalize (Tryd.prog.fieldsOf 32).toList = l at *
  rcases l with _ | ⟨f0, _ | ⟨f1, _ | ⟨f2, r⟩⟩⟩
  · simp at h
  · simp at h
  · simp only [List.map_cons, List.map_nil, List.cons.injEq, Prod.mk.injEq, and_true] at h
    obtain ⟨⟨a, b, c⟩, d, e, f⟩ := h
    exact ⟨f0, f1, rfl, by rw [a]; decide, by rw [d]; decide, b, e, c, f⟩
  · simp at h
theorem part_str (xs : Array Value) (o : Nat) (s : ByteArray) (h : xs[o]? = some (.string s)) (W : World) : (part 9 xs o).run Tryd.prog W = .ok (.string s) W := by
  simp [part, isAgg, run_underlying Tryd.underlying9, h]
theorem run_neq_fld (a b c d : ByteArray) (W : World) : (binOp .neq 32 (.agg #[.string a, .string b]) (.agg #[.string c, .string d])).run Tryd.prog W = .ok (.bool (!(a.toList == c.toList && b.toList == d.toList))) W := by
  obtain ⟨f0, f1, hl, n0, n1, t0, t1, o0, o1⟩ := fldFields
  rw [run_neq_struct, run_equalIn_agg W 9999 _ _ _ fldStruct fldHeld, hl]
  simp only [Op.eqFields, n0, n1, ne_eq, not_false_eq_true, if_true, t0, t1, o0, o1, Sem.run_bind, Sem.run_ite, Sem.run_pure]
  rw [part_str _ 0 a rfl, Result.andThen_ok, part_str _ 0 c rfl, Result.andThen_ok, run_equalIn_string W 9998 _ a c Tryd.underlying9, Result.andThen_ok]
  cases hac : (a.toList == c.toList)
  · simp [Result.andThen]
  · rw [part_str _ 1 b rfl, Result.andThen_ok, part_str _ 1 d rfl, Result.andThen_ok, run_equalIn_string W 9998 _ b d Tryd.underlying9, Result.andThen_ok]
    cases hbd : (b.toList == d.toList) <;> simp [Result.andThen]

/-- What the k-th element of a list of fields reads, in any later world. -/
theorem SrcF.at {P : Nat → Prop} {w wr : World} {A : Option Addr} {ls : List Fld} {n c k : Nat} (h : SrcF w P A ls) (hn : ls.length = n) (hlt : k < n) (hB : Below w.heap.size w wr) :
    ∃ (p : Addr) (f : Fld), ls[k]? = some f ∧ (∀ Wx, (Instr.indexAt 22 (.slice A n c) (.int .i64 (k : Int))).run Tryd.prog Wx = .ok (.pointer (some p)) Wx) ∧
      wr.cell? p = some (.string ⟨f.1.toArray⟩) ∧ wr.cell? ⟨p.block, p.off + 1, none⟩ = some (.string ⟨f.2.toArray⟩) ∧ P p.block ∧ p.block < w.heap.size := by
  obtain ⟨ad, hA, hP, hadb, hc⟩ := h (by omega)
  obtain ⟨f, hf⟩ : ∃ f, ls[k]? = some f := ⟨ls[k]'(by omega), List.getElem?_eq_getElem _⟩
  obtain ⟨c1, c2⟩ := hc k f hf
  have hblk : (ad.add (k * 2)).block = ad.block := by unfold Addr.add; split <;> rfl
  refine ⟨ad.add (k * 2), f, hf, fun Wx => ?_, (hB.cell (Lib.lt_of_cell c1)).trans c1, ?_, by rw [hblk]; exact hP, by rw [hblk]; exact hadb⟩
  · rw [hA]
    exact run_at_size 22 32 2 Tryd.underlying22 fldSize ad n c k hlt Wx
  · rw [add_next]
    exact (hB.cell (Lib.lt_of_cell c2)).trans c2

end Go.Proofs.YtbkpiadbgpnhlaaDoor
