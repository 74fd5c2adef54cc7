/-
  Controls compared.
  Conditions: none.
-/
import Derived.Test.YtkccmjeabkfmdaaDoorEC
import Derived.Laws.StructEq
namespace Go.Proofs.YtkccmjeabkfmdaaDoor.Con
open Go.RowKit

theorem ctlFields : ∃ f0 f1 f2 f3 f4 f5 f6 f7 f8 f9 : Field, (Tryd.prog.fieldsOf 24).toList = [f0, f1, f2, f3, f4, f5, f6, f7, f8, f9] ∧ f0.name ≠ "_" ∧ f1.name ≠ "_" ∧ f2.name ≠ "_" ∧ f3.name ≠ "_" ∧ f4.name ≠ "_" ∧ f5.name ≠ "_" ∧ f6.name ≠ "_" ∧ f7.name ≠ "_" ∧ f8.name ≠ "_" ∧ f9.name ≠ "_" ∧ f0.type = 4 ∧ f1.type = 4 ∧ f2.type = 4 ∧ f3.type = 4 ∧ f4.type = 4 ∧ f5.type = 4 ∧ f6.type = 3 ∧ f7.type = 3 ∧ f8.type = 3 ∧ f9.type = 3 ∧ f0.offset = 0 ∧ f1.offset = 1 ∧ f2.offset = 2 ∧ f3.offset = 3 ∧ f4.offset = 4 ∧ f5.offset = 5 ∧ f6.offset = 6 ∧ f7.offset = 7 ∧ f8.offset = 8 ∧ f9.offset = 9 := by
  have h : (Tryd.prog.fieldsOf 24).toList.map (fun f => (f.name, f.type, f.offset)) = [("NoStore", 4, 0), ("NoCache", 4, 1), ("Private", 4, 2), ("Public", 4, 3), ("Must", 4, 4), ("Only", 4, 5), ("MaxAge", 3, 6), ("Shared", 3, 7), ("MinFresh", 3, 8), ("MaxStale", 3, 9)] := by kernel_rfl
  generalize (Tryd.prog.fieldsOf 24).toList = l at *
  rcases l with _ | ⟨f0, _ | ⟨f1, _ | ⟨f2, _ | ⟨f3, _ | ⟨f4, _ | ⟨f5, _ | ⟨f6, _ | ⟨f7, _ | ⟨f8, _ | ⟨f9, _ | ⟨f10, r⟩⟩⟩⟩⟩⟩⟩⟩⟩⟩⟩
  · simp at h
  · simp at h
  · simp at h
  · simp at h
  · simp at h
  · simp at h
  · simp at h
  · simp at h
  · simp at h
  · simp at h
  · simp only [List.map_cons, List.map_nil, List.cons.injEq, Prod.mk.injEq, and_true] at h
    obtain ⟨⟨n0, t0, o0⟩, ⟨n1, t1, o1⟩, ⟨n2, t2, o2⟩, ⟨n3, t3, o3⟩, ⟨n4, t4, o4⟩, ⟨n5, t5, o5⟩, ⟨n6, t6, o6⟩, ⟨n7, t7, o7⟩, ⟨n8, t8, o8⟩, n9, t9, o9⟩ := h
    exact ⟨f0, f1, f2, f3, f4, f5, f6, f7, f8, f9, rfl, by rw [n0]; decide, by rw [n1]; decide, by rw [n2]; decide, by rw [n3]; decide, by rw [n4]; decide, by rw [n5]; decide, by rw [n6]; decide, by rw [n7]; decide, by rw [n8]; decide, by rw [n9]; decide, t0, t1, t2, t3, t4, t5, t6, t7, t8, t9, o0, o1, o2, o3, o4, o5, o6, o7, o8, o9⟩
  · simp at h
theorem part_int (xs : Array Value) (o : Nat) (n : Int) (h : xs[o]? = some (.int .i64 n)) (W : World) : (part 3 xs o).run Tryd.prog W = .ok (.int .i64 n) W := by
  simp [part, isAgg, run_underlying Tryd.underlying3, h]
theorem part_bool (xs : Array Value) (o : Nat) (x : Bool) (h : xs[o]? = some (.bool x)) (W : World) : (part 4 xs o).run Tryd.prog W = .ok (.bool x) W := by
  simp [part, isAgg, run_underlying Tryd.underlying4, h]
def eqC (c d : Ctl) : Bool := (c.ns == d.ns && (c.nc == d.nc && (c.pv == d.pv && (c.pb == d.pb && (c.mu == d.mu && (c.on == d.on && (c.ma == d.ma && (c.sh == d.sh && (c.mf == d.mf && (c.ms == d.ms))))))))))
theorem eqC_self (c : Ctl) : eqC c c = true := by simp [eqC]
theorem eqC_iff (c d : Ctl) : eqC c d = true ↔ c = d := by
  cases c
  cases d
  simp [eqC]
set_option maxRecDepth 100000 in
theorem run_equal_ctl (c d : Ctl) (W : World) : (Op.equalIn 10000 24 (.agg #[.bool c.ns, .bool c.nc, .bool c.pv, .bool c.pb, .bool c.mu, .bool c.on, .int .i64 c.ma, .int .i64 c.sh, .int .i64 c.mf, .int .i64 c.ms]) (.agg #[.bool d.ns, .bool d.nc, .bool d.pv, .bool d.pb, .bool d.mu, .bool d.on, .int .i64 d.ma, .int .i64 d.sh, .int .i64 d.mf, .int .i64 d.ms])).run Tryd.prog W = .ok (eqC c d) W := by
  obtain ⟨f0, f1, f2, f3, f4, f5, f6, f7, f8, f9, hl, n0, n1, n2, n3, n4, n5, n6, n7, n8, n9, t0, t1, t2, t3, t4, t5, t6, t7, t8, t9, o0, o1, o2, o3, o4, o5, o6, o7, o8, o9⟩ := ctlFields
  rw [run_equalIn_agg W 9999 _ _ _ ctlStruct ctlHeld, hl]
  simp only [Op.eqFields, n0, n1, n2, n3, n4, n5, n6, n7, n8, n9, ne_eq, not_false_eq_true, if_true, t0, t1, t2, t3, t4, t5, t6, t7, t8, t9, o0, o1, o2, o3, o4, o5, o6, o7, o8, o9, Sem.run_bind, Sem.run_ite, Sem.run_pure]
  unfold eqC
  rw [part_bool _ 0 c.ns rfl, Result.andThen_ok, part_bool _ 0 d.ns rfl, Result.andThen_ok, run_equalIn_bool W 9998 _ c.ns d.ns Tryd.underlying4, Result.andThen_ok]
  cases h0 : (c.ns == d.ns)
  · simp
  · simp only [Bool.true_and]
    rw [part_bool _ 1 c.nc rfl, Result.andThen_ok, part_bool _ 1 d.nc rfl, Result.andThen_ok, run_equalIn_bool W 9998 _ c.nc d.nc Tryd.underlying4, Result.andThen_ok]
    cases h1 : (c.nc == d.nc)
    · simp
    · simp only [Bool.true_and]
      rw [part_bool _ 2 c.pv rfl, Result.andThen_ok, part_bool _ 2 d.pv rfl, Result.andThen_ok, run_equalIn_bool W 9998 _ c.pv d.pv Tryd.underlying4, Result.andThen_ok]
      cases h2 : (c.pv == d.pv)
      · simp
      · simp only [Bool.true_and]
        rw [part_bool _ 3 c.pb rfl, Result.andThen_ok, part_bool _ 3 d.pb rfl, Result.andThen_ok, run_equalIn_bool W 9998 _ c.pb d.pb Tryd.underlying4, Result.andThen_ok]
        cases h3 : (c.pb == d.pb)
        · simp
        · simp only [Bool.true_and]
          rw [part_bool _ 4 c.mu rfl, Result.andThen_ok, part_bool _ 4 d.mu rfl, Result.andThen_ok, run_equalIn_bool W 9998 _ c.mu d.mu Tryd.underlying4, Result.andThen_ok]
          cases h4 : (c.mu == d.mu)
          · simp
          · simp only [Bool.true_and]
            rw [part_bool _ 5 c.on rfl, Result.andThen_ok, part_bool _ 5 d.on rfl, Result.andThen_ok, run_equalIn_bool W 9998 _ c.on d.on Tryd.underlying4, Result.andThen_ok]
            cases h5 : (c.on == d.on)
            · simp
            · simp only [Bool.true_and]
              rw [part_int _ 6 c.ma rfl, Result.andThen_ok, part_int _ 6 d.ma rfl, Result.andThen_ok, run_equalIn_int W 9998 _ .i64 .i64 c.ma d.ma Tryd.underlying3, Result.andThen_ok]
              cases h6 : (c.ma == d.ma)
              · simp
              · simp only [Bool.true_and]
                rw [part_int _ 7 c.sh rfl, Result.andThen_ok, part_int _ 7 d.sh rfl, Result.andThen_ok, run_equalIn_int W 9998 _ .i64 .i64 c.sh d.sh Tryd.underlying3, Result.andThen_ok]
                cases h7 : (c.sh == d.sh)
                · simp
                · simp only [Bool.true_and]
                  rw [part_int _ 8 c.mf rfl, Result.andThen_ok, part_int _ 8 d.mf rfl, Result.andThen_ok, run_equalIn_int W 9998 _ .i64 .i64 c.mf d.mf Tryd.underlying3, Result.andThen_ok]
                  cases h8 : (c.mf == d.mf)
                  · simp
                  · simp only [Bool.true_and]
                    rw [part_int _ 9 c.ms rfl, Result.andThen_ok, part_int _ 9 d.ms rfl, Result.andThen_ok, run_equalIn_int W 9998 _ .i64 .i64 c.ms d.ms Tryd.underlying3, Result.andThen_ok]
                    cases h9 : (c.ms == d.ms) <;> simp
theorem run_eql_ctl (c d : Ctl) (W : World) : (binOp .eql 24 (.agg #[.bool c.ns, .bool c.nc, .bool c.pv, .bool c.pb, .bool c.mu, .bool c.on, .int .i64 c.ma, .int .i64 c.sh, .int .i64 c.mf, .int .i64 c.ms]) (.agg #[.bool d.ns, .bool d.nc, .bool d.pv, .bool d.pb, .bool d.mu, .bool d.on, .int .i64 d.ma, .int .i64 d.sh, .int .i64 d.mf, .int .i64 d.ms])).run Tryd.prog W = .ok (.bool (eqC c d)) W := by
  rw [run_eql_struct, run_equal_ctl]
  rfl
theorem field_ma (c : Ctl) (W : World) : (Instr.field 24 (.agg #[.bool c.ns, .bool c.nc, .bool c.pv, .bool c.pb, .bool c.mu, .bool c.on, .int .i64 c.ma, .int .i64 c.sh, .int .i64 c.mf, .int .i64 c.ms]) 6).run Tryd.prog W = .ok (.int .i64 c.ma) W := by kernel_rfl
theorem field_mf (c : Ctl) (W : World) : (Instr.field 24 (.agg #[.bool c.ns, .bool c.nc, .bool c.pv, .bool c.pb, .bool c.mu, .bool c.on, .int .i64 c.ma, .int .i64 c.sh, .int .i64 c.mf, .int .i64 c.ms]) 8).run Tryd.prog W = .ok (.int .i64 c.mf) W := by kernel_rfl
theorem field_ms (c : Ctl) (W : World) : (Instr.field 24 (.agg #[.bool c.ns, .bool c.nc, .bool c.pv, .bool c.pb, .bool c.mu, .bool c.on, .int .i64 c.ma, .int .i64 c.sh, .int .i64 c.mf, .int .i64 c.ms]) 9).run Tryd.prog W = .ok (.int .i64 c.ms) W := by kernel_rfl
end Go.Proofs.YtkccmjeabkfmdaaDoor.Con
