/-
  The law MessageSame answers true, whatever the input.
  Conditions: none (the first form); the card's own: the listed tables of Go's library are as its text lays them.
-/
import Derived.Test.YtemgfppclakdmaaGreatDoorMZ
import Derived.Test.YtemgfppclakdmaaGreatDoorOA
import Derived.Test.YtemgfppclakdmaaGreatDoorGZ
import Derived.Test.YtemgfppclakdmaaGreatDoorZV
import Derived.SizedLaws
import Derived.Test.YtemgfppclakdmaaGreatDoorOB
namespace Go.Proofs.YtemgfppclakdmaaGreatDoor.messageSameEnd
open Go.ChangeShapes Go.WideShapes Go.ChangeAt Go.RowKit Go.ChangeMaps

set_option maxRecDepth 100000 in
theorem contract (H : Type) (enc : TypeId × Value → H) (W : World) (base : Nat) (args : Array Value) (ds gs : List (DataW H)) (before : List MemPlace)
    (hval : ∀ (j : Nat) t v, Tryz.f4.params[j]? = some t → args[j]? = some v → Value.okWide Tryz.prog W .any base t v)
    (hW : DataW.Whole enc Tryz.prog Tryz.f4.params.toList Rows.messageSameSpec.vars false W args.toList ds gs before) (hsz : (DataW.weightsEach Tryz.prog (Tryz.f4.params.toList ++ Rows.messageSameSpec.plain.varTypes Tryz.prog) (ds ++ gs)).all (· ≤ reachBytes) = true) (hL : laidMetH Tryz.prog Rows.messageSameRow.laid W) :
    Calls Tryz.prog 4 args W fun e W' => ∃ v, e = .returned v ∧ Rows.messageSameSpec.post enc Tryz.prog Tryz.f4 false true false false W args v W' := by
  have hW' := hW
  obtain ⟨p, q, hA0, hV, rfl, hfz, hnd⟩ := hW
  have hA : DataW.TrodAll enc Tryz.prog W 0 (fun _ => true) true Tryz.f4.params.toList args.toList ds p := hA0
  rw [Tryz.params4] at hA hval
  obtain ⟨v0, v1, d0, d1, p0, p1, rfl, rfl, rfl, h0, h1⟩ := trodAll_two hA
  obtain ⟨rfl, rfl⟩ := trodVars_none hV
  obtain ⟨qm0, qt0, qn0, Aq0, Dq0, ql0, qx0, nq0, cq0, lq0, dq0, st0, rr0, rn0, Ar0, Dr0, rl0, rx0, nr0, cr0, lr0, dr0, mt0, rfl, Q0, R0, k0, wt0⟩ := arg_both (hval 0 43 v0 rfl rfl) h0
  obtain ⟨qm1, qt1, qn1, Aq1, Dq1, ql1, qx1, nq1, cq1, lq1, dq1, st1, rr1, rn1, Ar1, Dr1, rl1, rx1, nr1, cr1, lr1, dr1, mt1, rfl, Q1, R1, k1, wt1⟩ := arg_both (hval 1 43 v1 rfl rfl) h1
  have w0 := wt0 (weights_each hsz 0 rfl rfl)
  have w1 := wt1 (weights_each hsz 1 rfl rfl)
  have C : Calls Tryz.prog 4 #[.agg #[.string qm0, .string qt0, .int .i64 qn0, .slice Aq0 nq0 cq0, .slice Dq0 lq0 dq0, .int .i64 st0, .string rr0, .int .i64 rn0, .slice Ar0 nr0 cr0, .slice Dr0 lr0 dr0, .string mt0], .agg #[.string qm1, .string qt1, .int .i64 qn1, .slice Aq1 nq1 cq1, .slice Dq1 lq1 dq1, .int .i64 st1, .string rr1, .int .i64 rn1, .slice Ar1 nr1 cr1, .slice Dr1 lr1 dr1, .string mt1]] W fun e w' => e = .returned (.bool true) ∧ Below W.heap.size W w' := same9_law msg_c W qm0 qt0 rr0 mt0 qn0 st0 rn0 Aq0 Dq0 Ar0 Dr0 ql0 rl0 qx0 rx0 nq0 cq0 lq0 dq0 nr0 cr0 lr0 dr0 ⟨Q0.1, Q0.2.1, R0.1, R0.2.1, by omega, by omega, Q0.2.2.1, Q0.2.2.2.1, R0.2.2.1, R0.2.2.2.1⟩ qm1 qt1 rr1 mt1 qn1 st1 rn1 Aq1 Dq1 Ar1 Dr1 ql1 rl1 qx1 rx1 nq1 cq1 lq1 dq1 nr1 cr1 lr1 dr1 ⟨Q1.1, Q1.2.1, R1.1, R1.2.1, by omega, by omega, Q1.2.2.1, Q1.2.2.2.1, R1.2.2.1, R1.2.2.2.1⟩ (Sta.pow_start hL (by kernel_rfl))
  refine C.mono fun e W' ⟨he, hbw⟩ => ?_
  subst he
  exact ⟨_, rfl, law_post laidOut (by kernel_rfl) (by kernel_rfl) Tryz.underlying4 rfl hW' rfl rfl rfl hbw⟩

set_option maxRecDepth 100000 in
theorem lifted (os : Os) (started : os.Started) (H : Type) (enc : TypeId × Value → H) (F : Stop.Interp) :
    ReturnsInHanded {} Tryz.checked os 4 .any ((OpenSpec.ofChange Rows.messageSameSpec).preRow enc Tryz.prog Tryz.f4 Rows.messageSameRow.domain false Rows.messageSameRow.laid) (((OpenSpec.ofChange Rows.messageSameSpec).at F).post enc Tryz.prog Tryz.f4 false true false false) := by
  have hx : ∃ places, DataW.whole enc Tryz.prog ((World.laidAll Tryz.prog os laidHere0).forCall (fun _ _ => 0) ⟨#[], #[.agg #[.string ⟨#[]⟩, .string ⟨#[]⟩, .int .i64 0, .slice none 0 0, .slice none 0 0, .int .i64 0, .string ⟨#[]⟩, .int .i64 0, .slice none 0 0, .slice none 0 0, .string ⟨#[]⟩], .agg #[.string ⟨#[]⟩, .string ⟨#[]⟩, .int .i64 0, .slice none 0 0, .slice none 0 0, .int .i64 0, .string ⟨#[]⟩, .int .i64 0, .slice none 0 0, .slice none 0 0, .string ⟨#[]⟩]], []⟩).memory Tryz.f4.params.toList Rows.messageSameSpec.vars false (#[.agg #[.string ⟨#[]⟩, .string ⟨#[]⟩, .int .i64 0, .slice none 0 0, .slice none 0 0, .int .i64 0, .string ⟨#[]⟩, .int .i64 0, .slice none 0 0, .slice none 0 0, .string ⟨#[]⟩], .agg #[.string ⟨#[]⟩, .string ⟨#[]⟩, .int .i64 0, .slice none 0 0, .slice none 0 0, .int .i64 0, .string ⟨#[]⟩, .int .i64 0, .slice none 0 0, .slice none 0 0, .string ⟨#[]⟩]] : Array Value).toList 8 = some ([.agg [.agg [.lit (.string []), .lit (.string []), .lit (.int .i64 0), .nil, .nil], .agg [.lit (.int .i64 0), .lit (.string []), .lit (.int .i64 0), .nil, .nil], .lit (.string [])], .agg [.agg [.lit (.string []), .lit (.string []), .lit (.int .i64 0), .nil, .nil], .agg [.lit (.int .i64 0), .lit (.string []), .lit (.int .i64 0), .nil, .nil], .lit (.string [])]], [], places) := ⟨[], by kernel_rfl⟩
  obtain ⟨places, hx⟩ := hx
  refine returnsInHanded_of_row (C := Tryz.checked) (s := OpenSpec.ofChange Rows.messageSameSpec) own started (by kernel_rfl) Tryz.func4
    (witness_row_shaped (enc := enc) (C := Tryz.checked) false (World.laidAll Tryz.prog os laidHere0) #[.agg #[.string ⟨#[]⟩, .string ⟨#[]⟩, .int .i64 0, .slice none 0 0, .slice none 0 0, .int .i64 0, .string ⟨#[]⟩, .int .i64 0, .slice none 0 0, .slice none 0 0, .string ⟨#[]⟩], .agg #[.string ⟨#[]⟩, .string ⟨#[]⟩, .int .i64 0, .slice none 0 0, .slice none 0 0, .int .i64 0, .string ⟨#[]⟩, .int .i64 0, .slice none 0 0, .slice none 0 0, .string ⟨#[]⟩]] (World.laidAll_os _ _ _) (laid_shaped0 os _) (by kernel_rfl)
      (OpenSpec.preRow_of_cond 8 hx (by kernel_rfl) (fun k hk => by cases hk) (by kernel_rfl) (laid_met0 os _))) ?_
  intro W base args ds gs before hval hW _ _ hsz hL _ _
  exact contract H enc W base args ds gs before hval hW hsz hL

theorem said : Rows.MessageSameSaid :=
  OpenClaim.holds_of_cond 4 Tryz.f4 rfl rfl rfl rfl rfl rfl rfl ⟨rfl, rfl, rfl, rfl, rfl⟩ rfl rfl rfl rfl rfl (by kernel_rfl) Tryz.func4 (by kernel_rfl)
    (of_decide_eq_true (by kernel_rfl)) (by unfold Func.isWrapper; first | (rw [if_pos (by decide +kernel)]; kernel_rfl) | (rw [if_neg (by decide +kernel)]; exact ⟨rfl, rfl⟩))
    (fun os started H enc _ F => by rw [OpenClaim.pre_eq_preRow]; exact lifted os started H enc F)

theorem plain (f : FuncId) (fn : Func) (hf : Tryz.pinned.checked.prog.funcNamed Rows.messageSameRow.func = some f) (hfn : Tryz.pinned.checked.prog.funcs[f]? = some fn) :
    true = Tryz.pinned.checked.prog.looks [] ∧ ∀ (j : Nat) t, fn.params[j]? = some t → Tryz.pinned.checked.prog.wantsStandIn t = false := by
  obtain rfl : f = 4 := Option.some.inj ((show Tryz.prog.funcNamed Rows.messageSameRow.func = some 4 by kernel_rfl).symm.trans hf) |>.symm
  obtain rfl : fn = Tryz.f4 := (Option.some.inj (Tryz.func4.symm.trans hfn)).symm
  refine ⟨by kernel_rfl, fun j t ht => ?_⟩
  rw [Tryz.params4] at ht
  obtain rfl : t = 43 := by simpa using Array.mem_of_getElem? ht
  exact (show Tryz.prog.wantsStandIn 43 = false by kernel_rfl)

end Go.Proofs.YtemgfppclakdmaaGreatDoor.messageSameEnd
namespace Go.Proofs.YtemgfppclakdmaaGreatDoor
theorem messageSame_card : Rows.MessageSameCardSaid :=
  Claim7.holds_tied_plain_at .later [] _ _ _ _ messageSameEnd.said (fun _ h => by cases h) (by kernel_rfl) (fun _ h => by cases h) messageSame_row_tie rfl ⟨rfl, rfl⟩ (by kernel_rfl) rfl messageSameEnd.plain (by kernel_rfl)
end Go.Proofs.YtemgfppclakdmaaGreatDoor
