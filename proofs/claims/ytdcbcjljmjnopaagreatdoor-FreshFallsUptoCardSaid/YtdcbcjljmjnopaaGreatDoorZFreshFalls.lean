/-
  The law FreshFalls answers true, whatever the input.
  Conditions: the arguments hold together at most 1048576 values (the second form); the card's own: the listed tables of Go's library are as its text lays them.
-/
import Derived.Test.YtdcbcjljmjnopaaGreatDoorJX
import Derived.Test.YtdcbcjljmjnopaaGreatDoorJQ
import Derived.Test.YtdcbcjljmjnopaaGreatDoorZV
import Derived.SizedLaws
namespace Go.Proofs.YtdcbcjljmjnopaaGreatDoor.freshFallsEnd
open Go.ChangeShapes Go.WideShapes Go.ChangeAt Go.RowKit Go.ChangeMaps

set_option maxRecDepth 100000 in
theorem contract (H : Type) (enc : TypeId × Value → H) (W : World) (base : Nat) (args : Array Value) (ds gs : List (DataW H)) (before : List MemPlace)
    (hval : ∀ (j : Nat) t v, Tryz.f4.params[j]? = some t → args[j]? = some v → Value.okWide Tryz.prog W .any base t v)
    (hW : DataW.Whole enc Tryz.prog Tryz.f4.params.toList Rows.freshFallsSpec.vars false W args.toList ds gs before) (hk : Rows.uptoSmall H (ds ++ gs) = true) (hL : laidMetH Tryz.prog Rows.freshFallsUptoRow.laid W) :
    Calls Tryz.prog 4 args W fun e W' => ∃ v, e = .returned v ∧ Rows.freshFallsSpec.post enc Tryz.prog Tryz.f4 false true false false W args v W' := by
  have hW' := hW
  obtain ⟨p, q, hA0, hV, rfl, hfz, hnd⟩ := hW
  have hA : DataW.TrodAll enc Tryz.prog W 0 (fun _ => true) true Tryz.f4.params.toList args.toList ds p := hA0
  rw [Tryz.params4] at hA hval
  obtain ⟨v0, v1, v2, d0, d1, d2, p0, p1, p2, rfl, rfl, rfl, h0, h1, h2⟩ := trodAll_three hA
  obtain ⟨rfl, rfl⟩ := trodVars_none hV
  obtain ⟨url0, as0, ca0, AW0, nw0, cw0, st0, rr0, mk0, A0, L0, N0, C0, D0, l0, e0, rfl, hL0, ba0, bc0, S0, k0⟩ := Fre.arg_ent (hval 0 28 v0 rfl rfl) h0
  obtain ⟨i1, rfl, rfl, rfl, hw1⟩ := open_int Tryz.underlying22 (hval 1 22 v1 rfl rfl) h1
  have b1 := wf_u64 hw1
  obtain ⟨n1, rfl⟩ : ∃ m : Nat, i1 = m := ⟨i1.toNat, by omega⟩
  obtain ⟨i2, rfl, rfl, rfl, hw2⟩ := open_int Tryz.underlying22 (hval 2 22 v2 rfl rfl) h2
  have b2 := wf_u64 hw2
  obtain ⟨n2, rfl⟩ : ∃ m : Nat, i2 = m := ⟨i2.toNat, by omega⟩
  have hb : Rows.uptoBulkAll ([d0, DataW.lit (Lit.int .u64 (n1 : Int)), DataW.lit (Lit.int .u64 (n2 : Int))] ++ []) ≤ 1048576 := of_decide_eq_true hk
  simp only [List.append_nil, Rows.uptoBulkAll, Rows.uptoBulk] at hb
  have C : Calls Tryz.prog 4 #[.agg #[.string url0, .int .u64 (as0 : Int), .int .u64 (ca0 : Int), .slice AW0 nw0 cw0, .int .i64 st0, .string rr0, .int .i64 mk0, .slice A0 N0 C0, .slice D0 l0 e0], .int .u64 (n1 : Int), .int .u64 (n2 : Int)] W fun e w' => e = .returned (.bool true) ∧ Below W.heap.size W w' := Fre.falls_law W url0 as0 ca0 AW0 nw0 cw0 st0 rr0 mk0 A0 N0 C0 D0 l0 e0 n1 n2 L0 hL0 (by omega) S0 (tabs_date hL (by kernel_rfl) (by kernel_rfl) (by kernel_rfl) (d := .ptr (.agg [.lit (.string [105, 110, 118, 97, 108, 105, 100, 32, 115, 121, 110, 116, 97, 120])])) (by kernel_rfl) (by kernel_rfl)) (by omega)
  refine C.mono fun e W' ⟨he, hbw⟩ => ?_
  subst he
  exact ⟨_, rfl, law_post laidOut (by kernel_rfl) (by kernel_rfl) Tryz.underlying4 rfl hW' rfl rfl rfl hbw⟩

set_option maxRecDepth 100000 in
theorem lifted (os : Os) (started : os.Started) (H : Type) (enc : TypeId × Value → H) (F : Stop.Interp) :
    ReturnsInHanded {} Tryz.checked os 4 .any ((Rows.OpenSpec.upto Rows.freshFallsSpec).preRow enc Tryz.prog Tryz.f4 Rows.freshFallsUptoRow.domain false Rows.freshFallsUptoRow.laid) (((Rows.OpenSpec.upto Rows.freshFallsSpec).at F).post enc Tryz.prog Tryz.f4 false true false false) := by
  have hx : ∃ places, DataW.whole enc Tryz.prog ((World.laidAll Tryz.prog os laidHere0).forCall (fun _ _ => 0) ⟨#[], #[.agg #[.string ⟨#[]⟩, .int .u64 0, .int .u64 0, .slice none 0 0, .int .i64 0, .string ⟨#[]⟩, .int .i64 0, .slice none 0 0, .slice none 0 0], .int .u64 0, .int .u64 0], []⟩).memory Tryz.f4.params.toList Rows.freshFallsSpec.vars false (#[.agg #[.string ⟨#[]⟩, .int .u64 0, .int .u64 0, .slice none 0 0, .int .i64 0, .string ⟨#[]⟩, .int .i64 0, .slice none 0 0, .slice none 0 0], .int .u64 0, .int .u64 0] : Array Value).toList 8 = some ([.agg [.lit (.string []), .lit (.int .u64 0), .lit (.int .u64 0), .nil, .agg [.lit (.int .i64 0), .lit (.string []), .lit (.int .i64 0), .nil, .nil]], .lit (.int .u64 0), .lit (.int .u64 0)], [], places) := ⟨[], by kernel_rfl⟩
  obtain ⟨places, hx⟩ := hx
  refine returnsInHanded_of_row (C := Tryz.checked) (s := Rows.OpenSpec.upto Rows.freshFallsSpec) own started (by kernel_rfl) Tryz.func4
    (witness_row_shaped (enc := enc) (C := Tryz.checked) false (World.laidAll Tryz.prog os laidHere0) #[.agg #[.string ⟨#[]⟩, .int .u64 0, .int .u64 0, .slice none 0 0, .int .i64 0, .string ⟨#[]⟩, .int .i64 0, .slice none 0 0, .slice none 0 0], .int .u64 0, .int .u64 0] (World.laidAll_os _ _ _) (laid_shaped0 os _) (by kernel_rfl)
      (OpenSpec.preRow_of_cond 8 hx (by kernel_rfl) (fun k hk => by cases hk; kernel_rfl) (by kernel_rfl) (laid_met0 os _))) ?_
  intro W base args ds gs before hval hW _ hcond _ hL _ _
  exact contract H enc W base args ds gs before hval hW (hcond _ rfl) hL

theorem said : Rows.FreshFallsUptoSaid :=
  OpenClaim.holds_of_cond 4 Tryz.f4 rfl rfl rfl rfl rfl rfl rfl ⟨rfl, rfl, rfl, rfl, rfl⟩ rfl rfl rfl rfl rfl (by kernel_rfl) Tryz.func4 (by kernel_rfl)
    (of_decide_eq_true (by kernel_rfl)) (by unfold Func.isWrapper; first | (rw [if_pos (by decide +kernel)]; kernel_rfl) | (rw [if_neg (by decide +kernel)]; exact ⟨rfl, rfl⟩))
    (fun os started H enc _ F => by rw [OpenClaim.pre_eq_preRow]; exact lifted os started H enc F)

theorem plain (f : FuncId) (fn : Func) (hf : Tryz.pinned.checked.prog.funcNamed Rows.freshFallsUptoRow.func = some f) (hfn : Tryz.pinned.checked.prog.funcs[f]? = some fn) :
    true = Tryz.pinned.checked.prog.looks [] ∧ ∀ (j : Nat) t, fn.params[j]? = some t → Tryz.pinned.checked.prog.wantsStandIn t = false := by
  obtain rfl : f = 4 := Option.some.inj ((show Tryz.prog.funcNamed Rows.freshFallsUptoRow.func = some 4 by kernel_rfl).symm.trans hf) |>.symm
  obtain rfl : fn = Tryz.f4 := (Option.some.inj (Tryz.func4.symm.trans hfn)).symm
  refine ⟨by kernel_rfl, fun j t ht => ?_⟩
  rw [Tryz.params4] at ht
  have hm := Array.mem_of_getElem? ht
  simp only [List.mem_toArray, List.mem_cons, List.not_mem_nil, or_false] at hm
  rcases hm with rfl | rfl | rfl
  · exact (show Tryz.prog.wantsStandIn 28 = false by kernel_rfl)
  · exact (show Tryz.prog.wantsStandIn 22 = false by kernel_rfl)
  · exact (show Tryz.prog.wantsStandIn 22 = false by kernel_rfl)

end Go.Proofs.YtdcbcjljmjnopaaGreatDoor.freshFallsEnd
namespace Go.Proofs.YtdcbcjljmjnopaaGreatDoor
theorem freshFalls_card : Rows.FreshFallsUptoCardSaid :=
  Claim7.holds_tied_plain_at .later [] _ _ _ _ freshFallsEnd.said (fun _ h => by cases h) (by kernel_rfl) (fun _ h => by cases h) freshFallsUpto_row_tie rfl ⟨rfl, rfl⟩ (by kernel_rfl) rfl freshFallsEnd.plain (by kernel_rfl)
end Go.Proofs.YtdcbcjljmjnopaaGreatDoor
