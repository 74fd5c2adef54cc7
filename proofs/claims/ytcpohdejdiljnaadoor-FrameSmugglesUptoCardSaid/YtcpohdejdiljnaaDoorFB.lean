/-
  Package frame's read, and its closures.
  Conditions: those that each theorem names.
-/
import Derived.Test.YtcpohdejdiljnaaDoorFA
import Derived.Test.YtcpohdejdiljnaaDoorNC
import Derived.Test.YtcpohdejdiljnaaDoorUE
import Derived.Laws.Rows
namespace Go.Proofs.YtcpohdejdiljnaaDoor
open Go.RowKit

def saidL (p : Sd) : List Value := [.int .u64 (p.1 : Int), .string ⟨p.2.1.toArray⟩, .int .i64 (p.2.2 : Int)]
def saidV (p : Sd) : Value := .agg #[.int .u64 (p.1 : Int), .string ⟨p.2.1.toArray⟩, .int .i64 (p.2.2 : Int)]
theorem saidStruct : Tryd.prog.underlying 77 = some (.struct (Tryd.prog.fieldsOf 77)) := by kernel_rfl
theorem saidSize : (Tryd.prog.info? 77).map (·.size) = some 3 := by kernel_rfl

set_option maxHeartbeats 2000000 in
set_option maxRecDepth 100000 in
theorem read_any (s : ByteArray) (w : World) : Calls Tryd.prog 46 #[.string s] w fun e w' => e = .returned (saidV (rdF (bl s))) ∧ Below w.heap.size w w' := by
  have C := Lib.hid (fun X : World => decimal_any s X)
  have HR := Lib.hid (show rdF (bl s) = if (readF 10 (bl s)).2 = 3 then (0, bl s, 3) else ((readF 10 (bl s)).1, [], (readF 10 (bl s)).2) from rfl)
  generalize readF 10 (bl s) = p at *
  obtain ⟨n, k⟩ := p
  unfold Read at C
  simp only at HR C
  have I0 := Lib.hid (Is.made w 77 [.int .u64 0, .string ⟨#[]⟩, .int .i64 0])
  have B0 := Lib.hid ((Below.refl w.heap.size w).alloc (Nat.le_refl _) (.cells #[.int .u64 0, .string ⟨#[]⟩, .int .i64 0] 77))
  obtain ⟨g, hg⟩ : ∃ g, w.heap.size = g := ⟨_, rfl⟩
  rw [hg] at I0
  by_cases h3 : (k : Int) = 3
  · have e3 : ((k : Int) == 3) = true := by simpa using h3
    have HQ := Lib.hid (HR.out.trans (if_pos (by omega)))
    go_enter Tryd.func46, Tryd.ntmps46
    go_wp2_with fail
    refine (C.out _).mono ?_
    rintro e w1 ⟨rfl, b1⟩
    have I1 := Lib.hid (I0.out.kept (Turn.of_below (S := fun _ => False) b1) (fun h => h))
    have B1 := Lib.hid (B0.out.trans (b1.mono B0.out.size))
    have HG := Lib.hid hg
    clear b1 hg
    have c0 : w1.cell? ⟨g, 0, none⟩ = some (.int .u64 0) := I1.out.cell 0
    have c1 : w1.cell? ⟨g, 1, none⟩ = some (.string ⟨#[]⟩) := I1.out.cell 1
    have c2 : w1.cell? ⟨g, 2, none⟩ = some (.int .i64 0) := I1.out.cell 2
    have f0 : w1.frozen? ⟨g, 0, none⟩ = false := I1.out.free 0
    have f1 : w1.frozen? ⟨g, 1, none⟩ = false := I1.out.free 1
    have f2 : w1.frozen? ⟨g, 2, none⟩ = false := I1.out.free 2
    go_wp2_with fail
    have I6 := Lib.hid (((I1.out.set 0 (.int .u64 0)).set 1 (.string s)).set 2 (.int .i64 3))
    have B6 := Lib.hid (((((Turn.of_below (S := fun k => k = g) B1.out).setCell (p := ⟨g, 0, none⟩) (fun _ => rfl) (.int .u64 0)).setCell (p := ⟨g, 1, none⟩) (fun _ => rfl) (.string s)).setCell (p := ⟨g, 2, none⟩) (fun _ => rfl) (.int .i64 3)).below (fun k hk e => by rw [e, ← HG.out] at hk; omega))
    refine bodyPost_ret (results_cell_row rfl _ _ g _ _ _ _ rfl I6.out saidStruct rfl saidSize) rfl ?_
    exact ⟨by rw [HQ.out]; simp [saidV, mk_bl], B6.out⟩
  · have e3 : ((k : Int) == 3) = false := by simpa using h3
    have HQ := Lib.hid (HR.out.trans (if_neg (by omega)))
    go_enter Tryd.func46, Tryd.ntmps46
    go_wp2_with fail
    refine (C.out _).mono ?_
    rintro e w1 ⟨rfl, b1⟩
    have I1 := Lib.hid (I0.out.kept (Turn.of_below (S := fun _ => False) b1) (fun h => h))
    have B1 := Lib.hid (B0.out.trans (b1.mono B0.out.size))
    have HG := Lib.hid hg
    clear b1 hg
    have c0 : w1.cell? ⟨g, 0, none⟩ = some (.int .u64 0) := I1.out.cell 0
    have c1 : w1.cell? ⟨g, 1, none⟩ = some (.string ⟨#[]⟩) := I1.out.cell 1
    have c2 : w1.cell? ⟨g, 2, none⟩ = some (.int .i64 0) := I1.out.cell 2
    have f0 : w1.frozen? ⟨g, 0, none⟩ = false := I1.out.free 0
    have f1 : w1.frozen? ⟨g, 1, none⟩ = false := I1.out.free 1
    have f2 : w1.frozen? ⟨g, 2, none⟩ = false := I1.out.free 2
    go_wp2_with fail
    have I6 := Lib.hid (((I1.out.set 0 (.int .u64 (n : Int))).set 1 (.string ⟨#[]⟩)).set 2 (.int .i64 (k : Int)))
    have B6 := Lib.hid (((((Turn.of_below (S := fun k => k = g) B1.out).setCell (p := ⟨g, 0, none⟩) (fun _ => rfl) (.int .u64 (n : Int))).setCell (p := ⟨g, 1, none⟩) (fun _ => rfl) (.string ⟨#[]⟩)).setCell (p := ⟨g, 2, none⟩) (fun _ => rfl) (.int .i64 (k : Int))).below (fun k hk e => by rw [e, ← HG.out] at hk; omega))
    refine bodyPost_ret (results_cell_row rfl _ _ g _ _ _ _ rfl I6.out saidStruct rfl saidSize) rfl ?_
    exact ⟨by rw [HQ.out]; simp [saidV], B6.out⟩

theorem saidGuard : Tryd.prog.eqGuardType Tryd.prog.depth 77 = false := by kernel_rfl
theorem saidHeld : Tryd.prog.stoodInHeld 77 = false := by kernel_rfl
theorem saidFields : ∃ f0 f1 f2 : Field, (Tryd.prog.fieldsOf 77).toList = [f0, f1, f2] ∧ f0.name ≠ "_" ∧ f1.name ≠ "_" ∧ f2.name ≠ "_" ∧ f0.type = 25 ∧ f1.type = 9 ∧ f2.type = 26 ∧ f0.offset = 0 ∧ f1.offset = 1 ∧ f2.offset = 2 := by
  have h : (Tryd.prog.fieldsOf 77).toList.map (fun f => (f.name, f.type, f.offset)) = [("number", 25, 0), ("tooLong", 9, 1), ("err", 26, 2)] := by kernel_rfl
  generalize (Tryd.prog.fieldsOf 77).toList = l at *
  rcases l with _ | ⟨f0, _ | ⟨f1, _ | ⟨f2, _ | ⟨f3, r⟩⟩⟩⟩
  · simp at h
  · simp at h
  · simp at h
  · simp only [List.map_cons, List.map_nil, List.cons.injEq, Prod.mk.injEq, and_true] at h
    obtain ⟨⟨a, b, c⟩, ⟨d, e, f⟩, m, n, k⟩ := h
    exact ⟨f0, f1, f2, rfl, by rw [a]; decide, by rw [d]; decide, by rw [m]; decide, b, e, n, c, f, k⟩
  · simp at h
theorem part_int (t : TypeId) (k : IntKind) (hu : Tryd.prog.underlying t = some (.int k)) (xs : Array Value) (o : Nat) (k' : IntKind) (n : Int) (h : xs[o]? = some (.int k' n)) (W : World) : (part t xs o).run Tryd.prog W = .ok (.int k' n) W := by
  simp [part, isAgg, run_underlying hu, h]
theorem run_eql_said (a c a' c' : Int) (b b' : ByteArray) (W : World) : (binOp .eql 77 (.agg #[.int .u64 a, .string b, .int .i64 c]) (.agg #[.int .u64 a', .string b', .int .i64 c'])).run Tryd.prog W = .ok (.bool (a == a' && (b.toList == b'.toList && c == c'))) W := by
  obtain ⟨f0, f1, f2, hl, n0, n1, n2, t0, t1, t2, o0, o1, o2⟩ := saidFields
  rw [run_eql_struct, run_equalIn_agg W 9999 _ _ _ saidStruct saidHeld, hl]
  simp only [Op.eqFields, n0, n1, n2, ne_eq, not_false_eq_true, if_true, t0, t1, t2, o0, o1, o2, Sem.run_bind, Sem.run_ite, Sem.run_pure]
  rw [part_int _ _ Tryd.underlying25 _ 0 _ a rfl, Result.andThen_ok, part_int _ _ Tryd.underlying25 _ 0 _ a' rfl, Result.andThen_ok, run_equalIn_int W 9998 _ _ _ a a' Tryd.underlying25, Result.andThen_ok]
  cases ha : (a == a')
  · simp [Result.andThen]
  · rw [part_str _ 1 b rfl, Result.andThen_ok, part_str _ 1 b' rfl, Result.andThen_ok, run_equalIn_string W 9998 _ b b' Tryd.underlying9, Result.andThen_ok]
    cases hb : (b.toList == b'.toList)
    · simp [Result.andThen]
    · rw [part_int _ _ Tryd.underlying26 _ 2 _ c rfl, Result.andThen_ok, part_int _ _ Tryd.underlying26 _ 2 _ c' rfl, Result.andThen_ok, run_equalIn_int W 9998 _ _ _ c c' Tryd.underlying26, Result.andThen_ok]
      cases hc : (c == c') <;> simp [Result.andThen]

theorem chk_bl : bl ⟨#[99, 104, 117, 110, 107, 101, 100]⟩ = chkN := rfl
set_option maxHeartbeats 2000000 in
set_option maxRecDepth 100000 in
/-- One more coding. -/
theorem cod1_any (x : ByteArray) (gc gs n : Nat) (b : Bool) (X : World) (Ic : Is X gc 3 [.int .i64 (n : Int)]) (Ib : Is X gs 4 [.bool b]) (hn : n ≤ 1000000000000) :
    Calls Tryd.prog 44 #[.string x, .pointer (some ⟨gc, 0, none⟩), .pointer (some ⟨gs, 0, none⟩)] X fun e w' =>
      e = .returned (.tuple #[]) ∧ Is w' gc 3 [.int .i64 ((n + 1 : Nat) : Int)] ∧ Is w' gs 4 [.bool (b && isChk (bl x))] ∧ Turn (fun k => k = gc ∨ k = gs) X w' := by
  have hne : gc ≠ gs := Ic.ne Ib (by decide)
  have c0 : X.cell? ⟨gc, 0, none⟩ = some (.int .i64 (n : Int)) := Ic.cell 0
  have f0 : X.frozen? ⟨gc, 0, none⟩ = false := Ic.free 0
  have I1 := Lib.hid (Ic.set 0 (.int .i64 ((n : Int) + 1)))
  have I2 := Lib.hid (Ib.far (p := ⟨gc, 0, none⟩) (Ne.symm hne) (.int .i64 ((n : Int) + 1)))
  have T1 := Lib.hid ((Turn.refl (fun k => k = gc ∨ k = gs) X).setCell (p := ⟨gc, 0, none⟩) (fun _ => .inl rfl) (.int .i64 ((n : Int) + 1)))
  have c1 : (X.setCell ⟨gc, 0, none⟩ (.int .i64 ((n : Int) + 1))).cell? ⟨gs, 0, none⟩ = some (.bool b) := I2.out.cell 0
  have f1 : (X.setCell ⟨gc, 0, none⟩ (.int .i64 ((n : Int) + 1))).frozen? ⟨gs, 0, none⟩ = false := I2.out.free 0
  have C := Lib.hid (fun W : World => ty_same x ⟨#[99, 104, 117, 110, 107, 101, 100]⟩ W)
  have HK := Lib.hid (show isChk (bl x) = (lowF (bl x) == lowF (bl ⟨#[99, 104, 117, 110, 107, 101, 100]⟩)) by rw [chk_bl]; rfl)
  generalize (lowF (bl x) == lowF (bl ⟨#[99, 104, 117, 110, 107, 101, 100]⟩)) = q at *
  have HNE := Lib.hid hne
  have HN := Lib.hid (show ((n + 1 : Nat) : Int) = (n : Int) + 1 by simp)
  rw [HK.out, HN.out]
  clear Ic Ib hne HN HK
  cases b with
  | false =>
    go_enter Tryd.func44, Tryd.ntmps44
    go_wp2_with fail
    go_end0
    exact ⟨rfl, I1.out.far (p := ⟨gs, 0, none⟩) HNE.out _, I2.out.set 0 _, T1.out.setCell (p := ⟨gs, 0, none⟩) (fun _ => .inr rfl) _⟩
  | true =>
    go_enter Tryd.func44, Tryd.ntmps44
    go_wp2_with fail
    refine (C.out _).mono ?_
    rintro e w1 ⟨rfl, b1⟩
    have J1 := Lib.hid (I1.out.kept (Turn.of_below (S := fun _ => False) b1) (fun h => h))
    have J2 := Lib.hid (I2.out.kept (Turn.of_below (S := fun _ => False) b1) (fun h => h))
    have T2 := Lib.hid (T1.out.trans (Turn.of_below (S := fun _ => False) b1) (fun _ _ h => h.elim))
    clear b1
    have c2 : w1.cell? ⟨gs, 0, none⟩ = some (.bool true) := J2.out.cell 0
    have f2 : w1.frozen? ⟨gs, 0, none⟩ = false := J2.out.free 0
    go_wp2_with fail
    go_end0
    exact ⟨rfl, J1.out.far (p := ⟨gs, 0, none⟩) HNE.out _, J2.out.set 0 _, T2.out.setCell (p := ⟨gs, 0, none⟩) (fun _ => .inr rfl) _⟩
end Go.Proofs.YtcpohdejdiljnaaDoor
