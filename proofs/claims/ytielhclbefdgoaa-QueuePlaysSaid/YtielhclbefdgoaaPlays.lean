/-
  The law QueuePlays (rows of calls are answered as the document says: any most, any calls, the first 200) answers true, for every input.
  Conditions: none but the form's own.
-/
import Derived.Test.YtielhclbefdgoaaQ
import Derived.Test.YtielhclbefdgoaaO
import Derived.Deep.Fields
namespace Go.Proofs.Ytielhclbefdgoaa
open Go.ChangeShapes Go.WideShapes Go.ChangeAt Go.RowKit Go.Deep

section
variable {H : Type} {enc : TypeId × Value → H} {W : World} {fuel : Nat}

theorem byteBytes : Try.prog.bytesOf 5 = 1 := by kernel_rfl

/-- Bytes that are read, within the form's reach. -/
theorem open_reach {cs : List Value} {x : DataW H × List MemPlace} (h : DataW.trod enc Try.prog W 0 (fun _ => true) true fuel 31 cs = some x) (hw : (x.1.weights Try.prog 31).all (· ≤ reachBytes) = true) :
    ∃ (A : Option Addr) (bs : List UInt8) (c : Nat), cs = [.slice A bs.length c] ∧ bs.length ≤ c ∧ Src W (fun b => b < W.heap.size) A bs ∧ c ≤ reachBytes := by
  obtain ⟨A, bs, c, h1, h2, h3, _⟩ := open_bytes h
  refine ⟨A, bs, c, h1, h2, h3, ?_⟩
  rcases open_ints Try.underlying31 Try.underlying5 (by kernel_rfl) h with ⟨hcs, hx⟩ | ⟨a, len, cap, zs, hcs, _, hl, hm, hz, hx, hcell, hwz⟩
  · rw [h1] at hcs
    simp only [List.cons.injEq, Value.slice.injEq, and_true] at hcs
    omega
  · rw [h1] at hcs
    simp only [List.cons.injEq, Value.slice.injEq, and_true] at hcs
    simp only [if_true] at hz
    subst hx
    simp only [DataW.weights, Try.underlying31, List.all_cons, Bool.and_eq_true, decide_eq_true_eq, byteBytes, lits, List.length_map, List.length_take, List.length_drop] at hw
    have := hw.1
    omega

theorem weights_part {t : TypeId} {d : DataW H} {l : List (DataW H)} (hd : d ∈ l) (h : (DataW.weightsAll Try.prog t l).all (· ≤ reachBytes) = true) : (d.weights Try.prog t).all (· ≤ reachBytes) = true := by
  induction l with
  | nil => cases hd
  | cons x r ih =>
    simp only [DataW.weightsAll, List.all_append, Bool.and_eq_true] at h
    rcases List.mem_cons.1 hd with rfl | e
    · exact h.1
    · exact ih e h.2

theorem open_acts {cs : List Value} {x : DataW H × List MemPlace} (h : DataW.trod enc Try.prog W 0 (fun _ => true) true fuel 22 cs = some x) (hw : (x.1.weights Try.prog 22).all (· ≤ reachBytes) = true) :
    ∃ (A : Option Addr) (N C : Nat) (K1 K2 : Nat → Int) (RA : Nat → Option Addr) (RC : Nat → Nat) (R : Nat → List UInt8), cs = [.slice A N C] ∧ N ≤ reachBytes ∧
      ∀ k, k < N → ∃ a, A = some a ∧ a.block < W.heap.size ∧ W.cell? (a.add (k * 3)) = some (.int .i64 (K1 k)) ∧ W.cell? (a.add (k * 3 + 1)) = some (.int .i64 (K2 k)) ∧ W.cell? (a.add (k * 3 + 2)) = some (.slice (RA k) (R k).length (RC k)) ∧
        (R k).length ≤ RC k ∧ RC k ≤ reachBytes ∧ Src W (fun b => b < W.heap.size) (RA k) (R k) ∧ (-9223372036854775808 ≤ K2 k ∧ K2 k ≤ 9223372036854775807) := by
  rcases open_slice Try.underlying22 h with ⟨hcs, hx⟩ | ⟨a, len, cap, m, n, D, Pl, hcs, _, hl, hm, hmm, hx, hat⟩
  · exact ⟨none, 0, 0, fun _ => 0, fun _ => 0, fun _ => none, fun _ => 0, fun _ => [], hcs, Nat.zero_le _, fun k hk => absurd hk (by omega)⟩
  · simp only [if_true] at hmm
    have hC : Try.prog.cellsOf 33 = 3 := by kernel_rfl
    have hBy : Try.prog.bytesOf 33 = 40 := by kernel_rfl
    have hc1 : Try.prog.cellsOf 3 = 1 := by kernel_rfl
    have hc2 : Try.prog.cellsOf 31 = 1 := by kernel_rfl
    rw [hC] at hat
    subst hx
    simp only [DataW.weights, Try.underlying22, List.all_cons, List.all_append, Bool.and_eq_true, decide_eq_true_eq, hBy, List.length_map, List.length_range] at hw
    obtain ⟨hw0, hw1, _⟩ := hw
    have hrow : ∀ k, k < len → ∃ y : Int × Int × Option Addr × Nat × List UInt8, W.cell? (a.add (k * 3)) = some (.int .i64 y.1) ∧ W.cell? (a.add (k * 3 + 1)) = some (.int .i64 y.2.1) ∧ W.cell? (a.add (k * 3 + 2)) = some (.slice y.2.2.1 y.2.2.2.2.length y.2.2.2.1) ∧
        y.2.2.2.2.length ≤ y.2.2.2.1 ∧ y.2.2.2.1 ≤ reachBytes ∧ Src W (fun b => b < W.heap.size) y.2.2.1 y.2.2.2.2 ∧ (-9223372036854775808 ≤ y.2.1 ∧ y.2.1 ≤ 9223372036854775807) := fun k hk => by
      obtain ⟨cs', hcells, htr⟩ := hat k (by omega)
      obtain ⟨_, hlen, hcell⟩ := World.cells?_some hcells
      obtain ⟨ys, n', _, hy, _, hyl, hf⟩ := DataW.trod_struct Try.underlying33 htr
      have hwk := weights_part (List.mem_map.2 ⟨k, List.mem_range.2 hk, rfl⟩) hw1
      match cs', hlen with
      | [v0, v1, v2], _ =>
        match ys, hyl with
        | [y0, y1, y2], _ =>
          have g0 : DataW.trod enc Try.prog W 0 (fun _ => true) true n' 3 (List.take (Try.prog.cellsOf 3) [v0, v1, v2]) = some y0 := hf 0 _ rfl
          have g1 : DataW.trod enc Try.prog W 0 (fun _ => true) true n' 3 (List.take (Try.prog.cellsOf 3) [v1, v2]) = some y1 := hf 1 _ rfl
          have g2 : DataW.trod enc Try.prog W 0 (fun _ => true) true n' 31 (List.take (Try.prog.cellsOf 31) [v2]) = some y2 := hf 2 _ rfl
          rw [hc1] at g0 g1
          rw [hc2] at g2
          obtain ⟨i0, e0, _, _⟩ := DataW.trod_int Try.underlying3 g0
          obtain ⟨i1, e1, _, wf1⟩ := DataW.trod_int Try.underlying3 g1
          simp only [Prod.mk.injEq] at hy
          rw [hy.1] at hwk
          simp only [DataW.weights, Try.underlying33, List.map_cons, List.map_nil, DataW.weightsEach, List.all_append, Bool.and_eq_true] at hwk
          obtain ⟨A, bs, c, e2, hbc, hsrc, hcr⟩ := open_reach g2 hwk.2.2.1
          simp only [List.take_succ_cons, List.take_zero, List.cons.injEq, and_true] at e0 e1 e2
          have z0 := hcell 0 (by omega)
          have z1 := hcell 1 (by omega)
          have z2 := hcell 2 (by omega)
          rw [add_add_at] at z0 z1 z2
          simp only [List.getElem?_cons_zero, List.getElem?_cons_succ, Nat.add_zero, e0, e1, e2] at z0 z1 z2
          exact ⟨(i0, i1, A, c, bs), z0, z1, z2, hbc, hcr, hsrc, by simpa [Lit.wf, IntKind.min, IntKind.max, IntKind.signed, IntKind.bits] using wf1⟩
    have hch : ∃ Y : Nat → Int × Int × Option Addr × Nat × List UInt8, ∀ k, k < len → W.cell? (a.add (k * 3)) = some (.int .i64 (Y k).1) ∧ W.cell? (a.add (k * 3 + 1)) = some (.int .i64 (Y k).2.1) ∧ W.cell? (a.add (k * 3 + 2)) = some (.slice (Y k).2.2.1 (Y k).2.2.2.2.length (Y k).2.2.2.1) ∧
        (Y k).2.2.2.2.length ≤ (Y k).2.2.2.1 ∧ (Y k).2.2.2.1 ≤ reachBytes ∧ Src W (fun b => b < W.heap.size) (Y k).2.2.1 (Y k).2.2.2.2 ∧ (-9223372036854775808 ≤ (Y k).2.1 ∧ (Y k).2.1 ≤ 9223372036854775807) := by
      refine ⟨fun k => if hk : k < len then Classical.choose (hrow k hk) else (0, 0, none, 0, []), fun k hk => ?_⟩
      simp only [hk, dif_pos]
      exact Classical.choose_spec (hrow k hk)
    obtain ⟨Y, hY⟩ := hch
    refine ⟨some a, len, cap, fun k => (Y k).1, fun k => (Y k).2.1, fun k => (Y k).2.2.1, fun k => (Y k).2.2.2.1, fun k => (Y k).2.2.2.2, hcs, by omega, fun k hk => ?_⟩
    have hk' := hY k hk
    have hb := block_lt_of_cell hk'.1
    refine ⟨a, rfl, ?_, hk'⟩
    have e : (a.add (k * 3)).block = a.block := by unfold Addr.add; split <;> rfl
    rwa [e] at hb
end

set_option maxRecDepth 100000 in
theorem plays_lifted (os : Os) (started : os.Started) (H : Type) (enc : TypeId × Value → H) :
    ReturnsInHanded {} Try.checked os 3 .any (Rows.queuePlaysSpec.pre6 enc Try.prog Try.f3 Rows.queuePlaysRow.domain false) (Rows.queuePlaysSpec.post enc Try.prog Try.f3 false true false false) := by
  refine returnsInHanded_of_change_sized (C := Try.checked) own started (by kernel_rfl) Try.func3
    (ChangeSpec.witness6 (enc := enc) (C := Try.checked) false ⟨#[], #[.int .i64 0, .slice none 0 0], []⟩ 8 (by kernel_rfl) (by kernel_rfl) (by kernel_rfl) (by kernel_rfl)) ?_
  intro W base args ds gs before hval0 hW _ hsz0 _
  have hsz : (DataW.weightsEach Try.prog (Try.f3.params.toList ++ Rows.queuePlaysSpec.plain.varTypes Try.prog) (ds ++ gs)).all (· ≤ reachBytes) = true := hsz0
  have hval : ∀ (j : Nat) t v, Try.f3.params[j]? = some t → args[j]? = some v → Value.okWide Try.prog W .any base t v := hval0
  clear hsz0 hval0
  have hW' := hW
  obtain ⟨p, q, hA0, hV, rfl, hfz, hnd⟩ := hW
  have hA : DataW.TrodAll enc Try.prog W 0 (fun _ => true) true Try.f3.params.toList args.toList ds p := hA0
  rw [Try.params3] at hA hval hsz
  obtain ⟨v0, v1, d0, d1, p0, p1, rfl, rfl, rfl, h0, h1⟩ := trodAll_two hA
  obtain ⟨rfl, rfl⟩ := trodVars_none hV
  obtain ⟨mo, rfl, rfl, rfl, w0⟩ := open_int Try.underlying3 (hval 0 3 v0 rfl rfl) h0
  obtain ⟨a1, n1, c1, rfl⟩ := okWide_slice Try.underlying22 (hval 1 22 v1 rfl rfl)
  obtain ⟨f1, hf1⟩ := h1
  have hw1 : (d1.weights Try.prog 22).all (· ≤ reachBytes) = true := by
    have hh : (DataW.weightsEach Try.prog ([3, 22] ++ Rows.queuePlaysSpec.plain.varTypes Try.prog) ([.lit (.int .i64 mo), d1] ++ [])).all (· ≤ reachBytes) = true := hsz
    simp only [List.cons_append, List.nil_append, DataW.weightsEach, List.all_append, Bool.and_eq_true] at hh
    exact hh.2.1
  obtain ⟨A, N, C, K1, K2, RA, RC, R, hcs, hN, hrows⟩ := open_acts hf1 hw1
  simp only [Value.cells, List.cons.injEq, and_true] at hcs
  have hmo : -9223372036854775808 ≤ mo ∧ mo ≤ 9223372036854775807 := by simpa [Lit.wf, IntKind.min, IntKind.max, IntKind.signed, IntKind.bits] using w0
  rw [hcs] at hW' ⊢
  refine (plays_true mo hmo.1 hmo.2 A N C K1 K2 RA RC R W hN hrows).mono fun e W' ⟨he, hbw⟩ => ?_
  subst he
  exact ⟨_, rfl, law_post laidOut (by kernel_rfl) (by kernel_rfl) Try.underlying4 rfl hW' rfl rfl rfl hbw⟩

theorem plays_holds : Rows.QueuePlaysSaid :=
  OpenClaim.holds_of_wide 3 Try.f3 rfl rfl rfl rfl rfl rfl rfl ⟨rfl, rfl, rfl, rfl, rfl⟩ rfl rfl rfl rfl rfl (by kernel_rfl) Try.func3 (by kernel_rfl)
    (of_decide_eq_true (by kernel_rfl)) (by unfold Func.isWrapper; first | (rw [if_pos (by decide +kernel)]; kernel_rfl) | (rw [if_neg (by decide +kernel)]; exact ⟨rfl, rfl⟩))
    (fun os started H enc _ => plays_lifted os started H enc)
end Go.Proofs.Ytielhclbefdgoaa
