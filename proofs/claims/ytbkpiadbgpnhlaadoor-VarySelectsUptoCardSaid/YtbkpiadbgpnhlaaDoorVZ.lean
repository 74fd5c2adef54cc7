/-
  What arguments that are fields or slices of fields read, and how much they hold.
  Conditions: those that each theorem names.
-/
import Derived.Test.YtbkpiadbgpnhlaaDoorZA
import Derived.Test.YtbkpiadbgpnhlaaDoorVA
import Derived.Lib.SmallJoins
namespace Go.Proofs.YtbkpiadbgpnhlaaDoor.Hop
open Go.ChangeShapes Go.WideShapes Go.ChangeAt Go.RowKit Go.Deep

section
variable {H : Type} {enc : TypeId × Value → H} {W : World} {fuel : Nat}

theorem bulk_map (F : Nat → Fld) (D : Nat → DataW H) : ∀ l : List Nat, (∀ i ∈ l, (F i).1.length + (F i).2.length + 3 ≤ Rows.uptoBulk (D i)) → bulkF (l.map F) ≤ Rows.uptoBulkAll (l.map D)
  | [], _ => Nat.le_refl _
  | i :: r, h => by
    have h1 := h i (List.mem_cons_self ..)
    have h2 := bulk_map F D r (fun j hj => h j (List.mem_cons_of_mem _ hj))
    rw [List.map_cons, bulk_cons, List.map_cons]
    show _ ≤ Rows.uptoBulk (D i) + Rows.uptoBulkAll (r.map D)
    omega
theorem arg_fldsB {cs : List Value} {x : DataW H × List MemPlace} (h : DataW.trod enc Tryd.prog W 0 (fun _ => true) true fuel 22 cs = some x) :
    ∃ (A : Option Addr) (ls : List Fld) (n c : Nat), ls.length = n ∧ cs = [.slice A n c] ∧ n ≤ c ∧ SrcF W (fun _ => True) A ls ∧ bulkF ls ≤ Rows.uptoBulk x.1 := by
  rcases open_slice_pairs Tryd.underlying22 Tryd.underlying32 (by kernel_rfl) rfl rfl (by kernel_rfl) (by kernel_rfl) h with ⟨hcs, hx⟩ | ⟨a, len, cap, m, n, V0, V1, D0, D1, P0, P1, hcs, _, hl, hm, hmm, hx, hat⟩
  · exact ⟨none, [], 0, 0, rfl, hcs, Nat.le_refl _, fun h => absurd h (by simp), Nat.zero_le _⟩
  · simp only [if_true] at hmm
    subst hmm hx
    have hstr : ∀ i, i < len → (∃ s : ByteArray, V0 i = .string s ∧ D0 i = .lit (.string s.data.toList)) ∧ (∃ s : ByteArray, V1 i = .string s ∧ D1 i = .lit (.string s.data.toList)) := fun i hi => by
      obtain ⟨_, _, h0, h1⟩ := hat i (by omega)
      obtain ⟨s0, e0, y0, _⟩ := DataW.trod_string Tryd.underlying9 h0
      obtain ⟨s1, e1, y1, _⟩ := DataW.trod_string Tryd.underlying9 h1
      simp only [List.cons.injEq, and_true, Prod.mk.injEq] at e0 e1 y0 y1
      exact ⟨⟨s0, e0, y0.1⟩, ⟨s1, e1, y1.1⟩⟩
    have hlen : ((List.range len).map fun i => (strB (V0 i), strB (V1 i))).length = len := by simp
    refine ⟨some a, (List.range len).map fun i => (strB (V0 i), strB (V1 i)), len, _, hlen, hcs, hl, fun h0 => ?_, ?_⟩
    · have hb := block_lt_of_cell (hat 0 (by omega)).1
      have hab : a.block < W.heap.size := by
        have e : (a.add (0 * 2)).block = a.block := by unfold Addr.add; split <;> rfl
        rwa [e] at hb
      refine ⟨a, rfl, trivial, hab, fun i f hf => ?_⟩
      rw [List.getElem?_map, Option.map_eq_some_iff] at hf
      obtain ⟨j, hj, rfl⟩ := hf
      obtain ⟨hi, rfl⟩ := List.getElem?_eq_some_iff.1 hj
      rw [List.getElem_range]
      have hi' : i < len := by simpa using hi
      obtain ⟨⟨s0, e0, _⟩, ⟨s1, e1, _⟩⟩ := hstr i hi'
      obtain ⟨c0, c1, _⟩ := hat i (by omega)
      rw [c0, c1, e0, e1]
      unfold strV strB
      simp only
      rw [mk_bl, mk_bl]
      exact ⟨rfl, rfl⟩
    · refine Nat.le_trans (bulk_map _ (fun i => .agg [D0 i, D1 i]) _ fun i hi => ?_) ?_
      · have hi' : i < len := by simpa using hi
        obtain ⟨⟨s0, e0, d0⟩, ⟨s1, e1, d1⟩⟩ := hstr i hi'
        simp only
        rw [d0, d1, e0, e1]
        simp only [Rows.uptoBulk, Rows.uptoBulkAll, strB]
        have h0 : (bl s0).length = s0.data.toList.length := rfl
        have h1 : (bl s1).length = s1.data.toList.length := rfl
        omega
      · show _ ≤ Rows.uptoBulkAll _ + Rows.uptoBulkAll _ + 1
        omega

set_option maxRecDepth 100000 in
/-- A field, opened. -/
theorem arg_fld {r : Reach} {b0 : Nat} {v : Value} {d : DataW H} {p : List MemPlace} (hv : Value.okWide Tryd.prog W r b0 32 v) (h : DataW.Trod enc Tryd.prog W 0 (fun _ => true) true 32 v d p) :
    ∃ (f1 f2 : ByteArray), v = .agg #[.string f1, .string f2] ∧ f1.size + f2.size ≤ Rows.uptoBulk d := by
  obtain ⟨cs, rfl, hsz⟩ := okWide_struct Tryd.underlying32 hv
  obtain ⟨c0, c1, rfl⟩ := Go.Joins.array2 (hsz.trans (by kernel_rfl))
  obtain ⟨fu, hf⟩ := h
  obtain ⟨y0, y1, m, hx, _, h0, h1⟩ := trod_struct2 Tryd.underlying32 hf
  have es : Tryd.prog.cellsOf 9 = 1 := by kernel_rfl
  simp only [Value.cells, es, List.drop_zero, List.drop_succ_cons, List.take_succ_cons, List.take_zero] at h0 h1
  obtain ⟨f1, k0, d0, _⟩ := DataW.trod_string Tryd.underlying9 h0
  obtain ⟨f2, k1, d1, _⟩ := DataW.trod_string Tryd.underlying9 h1
  simp only [List.cons.injEq, and_true] at k0 k1
  subst k0 k1
  have z0 : f1.data.toList.length = f1.size := by simp
  have z1 : f2.data.toList.length = f2.size := by simp
  simp only [Prod.mk.injEq] at hx
  have hx1 : d = .agg [y0.1, y1.1] := hx.1
  have hu : Rows.uptoBulk y0.1 + (Rows.uptoBulk y1.1 + 0) ≤ Rows.uptoBulk d := by rw [hx1]; simp only [Rows.uptoBulk, Rows.uptoBulkAll]; omega
  have u0 : f1.size ≤ Rows.uptoBulk y0.1 := by rw [d0]; simp only [Rows.uptoBulk]; omega
  have u1 : f2.size ≤ Rows.uptoBulk y1.1 := by rw [d1]; simp only [Rows.uptoBulk]; omega
  exact ⟨f1, f2, rfl, by omega⟩
end
end Go.Proofs.YtbkpiadbgpnhlaaDoor.Hop
