/-
  What the arguments read: bytes, and lists of bytes; how large they are.
  Conditions: those that each theorem names.
-/
import Derived.Test.YtielhclbefdgoaaN
import Derived.Test.YtielhclbefdgoaaL
import Derived.Deep.Matrix
namespace Go.Proofs.Ytielhclbefdgoaa
open Go.ChangeShapes Go.WideShapes Go.ChangeAt Go.RowKit Go.Deep

theorem bulkAll_append {H : Type} (l r : List (DataW H)) : Rows.uptoBulkAll (l ++ r) = Rows.uptoBulkAll l + Rows.uptoBulkAll r := by
  induction l with
  | nil => simp [Rows.uptoBulkAll]
  | cons x l ih => simp only [List.cons_append, Rows.uptoBulkAll, ih]; omega

theorem bulk_lits {H : Type} (k : IntKind) (zs : List Int) : Rows.uptoBulkAll (H := H) (lits k zs) = zs.length := by
  induction zs with
  | nil => rfl
  | cons z l ih =>
    show Rows.uptoBulk _ + Rows.uptoBulkAll (lits k l) = _
    rw [ih]
    simp only [Rows.uptoBulk, List.length_cons]
    omega

def asBytes (zs : List Int) : List UInt8 := zs.map fun z => UInt8.ofNat z.toNat
theorem asBytes_get (zs : List Int) (i : Nat) (hi : i < zs.length) (hw : ∀ n ∈ zs, (Lit.int .u8 n).wf = true) : (vals (asBytes zs))[i]? = some (.int .u8 (zs.getD i 0)) := by
  have hm : zs[i] ∈ zs := List.getElem_mem hi
  have h := hw _ hm
  simp [Lit.wf, IntKind.min, IntKind.max, IntKind.signed, IntKind.bits] at h
  rw [vals_get]
  simp only [asBytes, List.getElem?_map, List.getElem?_eq_getElem hi, Option.map_some, List.getD_eq_getElem?_getD, Option.getD_some]
  congr 1
  unfold B
  congr 1
  rw [UInt8.toNat_ofNat']
  omega

section
variable {H : Type} {enc : TypeId × Value → H} {W : World} {fuel : Nat}

theorem open_bytes {cs : List Value} {x : DataW H × List MemPlace} (h : DataW.trod enc Try.prog W 0 (fun _ => true) true fuel 31 cs = some x) :
    ∃ (A : Option Addr) (bs : List UInt8) (c : Nat), cs = [.slice A bs.length c] ∧ bs.length ≤ c ∧ Src W (fun b => b < W.heap.size) A bs ∧ c + 1 ≤ Rows.uptoBulk x.1 := by
  rcases open_ints Try.underlying31 Try.underlying5 (by kernel_rfl) h with ⟨hcs, hx⟩ | ⟨a, len, cap, zs, hcs, _, hl, hm, hz, hx, hcell, hwz⟩
  · subst hx
    exact ⟨none, [], 0, hcs, Nat.le_refl _, fun h => absurd h (by simp), by simp [Rows.uptoBulk]⟩
  · simp only [if_true] at hz
    subst hx
    have hlen : (asBytes (zs.take len)).length = len := by simp [asBytes]; omega
    refine ⟨some a, asBytes (zs.take len), cap, by rw [hlen]; exact hcs, by omega, fun h0 => ?_, ?_⟩
    · have hb := block_lt_of_cell (hcell 0 (by omega))
      have hab : a.block < W.heap.size := by
        have e : (a.add 0).block = a.block := by unfold Addr.add; split <;> rfl
        rwa [e] at hb
      refine ⟨a, rfl, hab, hab, fun i v hv => ?_⟩
      have hi : i < (zs.take len).length := by
        have := (List.getElem?_eq_some_iff.1 hv).1
        rw [vals_length, hlen] at this
        simp; omega
      rw [asBytes_get _ i hi (fun n hn => hwz n (List.mem_of_mem_take hn))] at hv
      rw [hcell i (by simp at hi; omega), ← hv]
      have hi' : i < len := by simp at hi; omega
      simp [List.getD_eq_getElem?_getD, hi']
    · simp only [Rows.uptoBulk, bulk_lits, List.length_take, List.length_drop]
      omega

theorem total_bulk (R : Nat → List UInt8) (D : Nat → DataW H) (n : Nat) (h : ∀ k, k < n → (R k).length + 1 ≤ Rows.uptoBulk (D k)) : total R n + n ≤ Rows.uptoBulkAll ((List.range n).map D) := by
  induction n with
  | zero => simp [total, Rows.uptoBulkAll]
  | succ n ih =>
    have := ih (fun k hk => h k (by omega))
    have hn := h n (by omega)
    rw [List.range_succ, List.map_append, bulkAll_append]
    simp only [List.map_cons, List.map_nil, Rows.uptoBulkAll, total]
    omega

theorem bulk_part {d : DataW H} {l : List (DataW H)} (h : d ∈ l) : Rows.uptoBulk d ≤ Rows.uptoBulkAll l := by
  induction l with
  | nil => cases h
  | cons x r ih =>
    simp only [Rows.uptoBulkAll]
    rcases List.mem_cons.1 h with rfl | e
    · omega
    · have := ih e; omega

theorem open_rows {cs : List Value} {x : DataW H × List MemPlace} (h : DataW.trod enc Try.prog W 0 (fun _ => true) true fuel 48 cs = some x) :
    ∃ (A : Option Addr) (N C : Nat) (RA : Nat → Option Addr) (RC : Nat → Nat) (R : Nat → List UInt8), cs = [.slice A N C] ∧ total R N + N + 1 ≤ Rows.uptoBulk x.1 ∧
      ∀ k, k < N → ∃ a, A = some a ∧ a.block < W.heap.size ∧ W.cell? (a.add k) = some (.slice (RA k) (R k).length (RC k)) ∧ (R k).length ≤ RC k ∧ RC k ≤ Rows.uptoBulk x.1 ∧ Src W (fun b => b < W.heap.size) (RA k) (R k) := by
  rcases open_slice1 Try.underlying48 (by kernel_rfl) h with ⟨hcs, hx⟩ | ⟨a, len, cap, m, n, V, D, Pl, hcs, _, hl, hm, hmm, hx, hat⟩
  · subst hx
    exact ⟨none, 0, 0, fun _ => none, fun _ => 0, fun _ => [], hcs, by simp [Rows.uptoBulk, total], fun k hk => absurd hk (by omega)⟩
  · simp only [if_true] at hmm
    subst hmm hx
    have hrow : ∀ k, k < m → ∃ y : Option Addr × Nat × List UInt8, V k = .slice y.1 y.2.2.length y.2.1 ∧ y.2.2.length ≤ y.2.1 ∧ Src W (fun b => b < W.heap.size) y.1 y.2.2 ∧ y.2.1 + 1 ≤ Rows.uptoBulk (D k) := fun k hk => by
      obtain ⟨A, bs, c, h1, h2, h3, h4⟩ := open_bytes (hat k hk).2
      simp only [List.cons.injEq, and_true] at h1
      exact ⟨(A, c, bs), h1, h2, h3, h4⟩
    have hch : ∃ Y : Nat → Option Addr × Nat × List UInt8, ∀ k, k < m → V k = .slice (Y k).1 (Y k).2.2.length (Y k).2.1 ∧ (Y k).2.2.length ≤ (Y k).2.1 ∧ Src W (fun b => b < W.heap.size) (Y k).1 (Y k).2.2 ∧ (Y k).2.1 + 1 ≤ Rows.uptoBulk (D k) := by
      refine ⟨fun k => if hk : k < m then Classical.choose (hrow k hk) else (none, 0, []), fun k hk => ?_⟩
      simp only [hk, dif_pos]
      exact Classical.choose_spec (hrow k hk)
    obtain ⟨Y, hY⟩ := hch
    refine ⟨some a, len, m, fun k => (Y k).1, fun k => (Y k).2.1, fun k => (Y k).2.2, hcs, ?_, fun k hk => ?_⟩
    · have := total_bulk (fun k => (Y k).2.2) D len (fun k hk => by have := hY k (by omega); omega)
      simp only [Rows.uptoBulk]
      omega
    · obtain ⟨h1, h2, h3, h4⟩ := hY k (by omega)
      have hc := (hat k (by omega)).1
      have hb := block_lt_of_cell hc
      refine ⟨a, rfl, ?_, by rw [hc, h1], h2, ?_, h3⟩
      · have e : (a.add k).block = a.block := by unfold Addr.add; split <;> rfl
        rwa [e] at hb
      · have hp : Rows.uptoBulk (D k) ≤ Rows.uptoBulkAll ((List.range len).map D) := bulk_part (List.mem_map.2 ⟨k, List.mem_range.2 hk, rfl⟩)
        simp only [Rows.uptoBulk]
        omega
end
end Go.Proofs.Ytielhclbefdgoaa
