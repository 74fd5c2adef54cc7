/-
  The law QueueOrder (first in, first out; never more than the most; what is refused changes nothing) answers true, whatever the most, the lists and how much is taken, where the arguments hold together at most 1048576 values.
  Conditions: the arguments hold together at most 1048576 values (the second form).
-/
import Derived.Test.YtielhclbefdgoaaO
namespace Go.Proofs.Ytielhclbefdgoaa
open Go.ChangeShapes Go.WideShapes Go.ChangeAt Go.RowKit Go.Deep

theorem order_contract (H : Type) (enc : TypeId × Value → H) (W : World) (base : Nat) (args : Array Value) (ds gs : List (DataW H)) (before : List MemPlace)
    (hval : ∀ (j : Nat) t v, Try.f4.params[j]? = some t → args[j]? = some v → Value.okWide Try.prog W .any base t v)
    (hW : DataW.Whole enc Try.prog Try.f4.params.toList Rows.queueOrderSpec.vars false W args.toList ds gs before) (hk : Rows.uptoSmall H (ds ++ gs) = true) :
    Calls Try.prog 4 args W fun e W' => ∃ v, e = .returned v ∧ Rows.queueOrderSpec.post enc Try.prog Try.f4 false true false false W args v W' := by
  have hW' := hW
  obtain ⟨p, q, hA0, hV, rfl, hfz, hnd⟩ := hW
  have hA : DataW.TrodAll enc Try.prog W 0 (fun _ => true) true Try.f4.params.toList args.toList ds p := hA0
  rw [Try.params4] at hA hval
  obtain ⟨v0, v1, v2, d0, d1, d2, p0, p1, p2, rfl, rfl, rfl, h0, h1, h2⟩ := trodAll_three hA
  obtain ⟨rfl, rfl⟩ := trodVars_none hV
  obtain ⟨mo, rfl, rfl, rfl, w0⟩ := open_int Try.underlying47 (hval 0 47 v0 rfl rfl) h0
  obtain ⟨a1, n1, c1, rfl⟩ := okWide_slice Try.underlying48 (hval 1 48 v1 rfl rfl)
  obtain ⟨a2, n2, c2, rfl⟩ := okWide_slice Try.underlying31 (hval 2 31 v2 rfl rfl)
  obtain ⟨f1, hf1⟩ := h1
  obtain ⟨f2, hf2⟩ := h2
  have hb : Rows.uptoBulkAll ([DataW.lit (Lit.int .u16 mo), d1, d2] ++ []) ≤ 1048576 := of_decide_eq_true hk
  simp only [List.append_nil, Rows.uptoBulkAll] at hb
  obtain ⟨A, N, C, RA, RC, R, hcs, htot, hrows⟩ := open_rows hf1
  obtain ⟨T, ts, TC, hcs2, htc, hsrc, htb⟩ := open_bytes hf2
  simp only [Value.cells, List.cons.injEq, and_true] at hcs hcs2
  rw [hcs, hcs2] at hW' ⊢
  have hmo : 0 ≤ mo ∧ mo ≤ 65535 := by simpa [Lit.wf, IntKind.min, IntKind.max, IntKind.signed, IntKind.bits] using w0
  have htot' : total R N + N + 1 ≤ Rows.uptoBulk d1 := htot
  have htb' : TC + 1 ≤ Rows.uptoBulk d2 := htb
  have hrows' : ∀ k, k < N → ∃ a, A = some a ∧ a.block < W.heap.size ∧ W.cell? (a.add k) = some (.slice (RA k) (R k).length (RC k)) ∧ (R k).length ≤ RC k ∧ RC k ≤ Rows.uptoBulk d1 ∧ Src W (fun b => b < W.heap.size) (RA k) (R k) := hrows
  refine (order_true mo hmo.1 hmo.2 A T N C TC ts RA RC R W (by omega) (by omega) (by omega) (fun k hk => ?_) hsrc).mono fun e W' ⟨he, hbw⟩ => ?_
  · obtain ⟨a, h1, h2, h3, h4, h5, h6⟩ := hrows' k hk
    exact ⟨a, h1, h2, h3, h4, by omega, h6⟩
  · subst he
    exact ⟨_, rfl, law_post laidOut (by kernel_rfl) (by kernel_rfl) Try.underlying4 rfl hW' rfl rfl rfl hbw⟩

set_option maxRecDepth 100000 in
theorem order_lifted (os : Os) (started : os.Started) (H : Type) (enc : TypeId × Value → H) (F : Stop.Interp) :
    ReturnsInHanded {} Try.checked os 4 .any ((Rows.OpenSpec.upto Rows.queueOrderSpec).pre6 enc Try.prog Try.f4 Rows.queueOrderUptoRow.domain false) (((Rows.OpenSpec.upto Rows.queueOrderSpec).at F).post enc Try.prog Try.f4 false true false false) := by
  refine returnsInHanded_of_cond (C := Try.checked) (s := Rows.OpenSpec.upto Rows.queueOrderSpec) (k := Rows.uptoSmall) rfl own started (by kernel_rfl) Try.func4
    (OpenSpec.witness (enc := enc) (C := Try.checked) (s := Rows.OpenSpec.upto Rows.queueOrderSpec) (k := Rows.uptoSmall) rfl false ⟨#[], #[.int .u16 0, .slice none 0 0, .slice none 0 0], []⟩ 8 (by kernel_rfl) (by kernel_rfl) (by kernel_rfl)
      (x := ([.lit (.int .u16 0), .nil, .nil], [], [])) (by kernel_rfl) rfl (by kernel_rfl)) ?_
  intro W base args ds gs before hval hW _ hk _
  exact order_contract H enc W base args ds gs before hval hW hk

theorem order_holds : Rows.QueueOrderUptoSaid :=
  OpenClaim.holds_of_cond 4 Try.f4 rfl rfl rfl rfl rfl rfl rfl ⟨rfl, rfl, rfl, rfl, rfl⟩ rfl rfl rfl rfl rfl (by kernel_rfl) Try.func4 (by kernel_rfl)
    (of_decide_eq_true (by kernel_rfl)) (by unfold Func.isWrapper; first | (rw [if_pos (by decide +kernel)]; kernel_rfl) | (rw [if_neg (by decide +kernel)]; exact ⟨rfl, rfl⟩))
    (fun os started H enc _ F => order_lifted os started H enc F)
end Go.Proofs.Ytielhclbefdgoaa
