/-
  What an argument that is a slice of texts reads, and how much it holds.
  Conditions: those that each theorem names.
-/
import Derived.Test.YtbkpiadbgpnhlaaDoorZA
import Derived.Test.YtbkpiadbgpnhlaaDoorVZ
namespace Go.Proofs.YtbkpiadbgpnhlaaDoor.Var
open Go.ChangeShapes Go.WideShapes Go.ChangeAt Go.RowKit Go.Deep

section
variable {H : Type} {enc : TypeId × Value → H} {W : World} {fuel : Nat}

theorem bulk_strs : ∀ ss : List ByteArray, Rows.uptoBulkAll (H := H) (ChangeShapes.strs ss) = (ss.map fun s => s.size + 1).sum
  | [] => rfl
  | s :: r => by
    have h := bulk_strs r
    have hz : s.data.toList.length = s.size := by simp
    show Rows.uptoBulk (H := H) (.lit (.string s.data.toList)) + Rows.uptoBulkAll (ChangeShapes.strs r) = _
    rw [h, List.map_cons, List.sum_cons]
    simp only [Rows.uptoBulk]
    omega
theorem sum_count : ∀ ss : List ByteArray, ss.length ≤ (ss.map fun s => s.size + 1).sum
  | [] => Nat.le_refl _
  | s :: r => by
    have := sum_count r
    rw [List.map_cons, List.sum_cons, List.length_cons]
    omega
theorem sum_each : ∀ (ss : List ByteArray) (s : ByteArray), s ∈ ss → s.size ≤ (ss.map fun s => s.size + 1).sum
  | t :: r, s, h => by
    rw [List.map_cons, List.sum_cons]
    rcases List.mem_cons.1 h with rfl | h
    · omega
    · have := sum_each r s h
      omega
theorem arg_strsB {cs : List Value} {x : DataW H × List MemPlace} (h : DataW.trod enc Tryd.prog W 0 (fun _ => true) true fuel 23 cs = some x) :
    ∃ (A : Option Addr) (ls : List (List UInt8)) (n c : Nat), ls.length = n ∧ cs = [.slice A n c] ∧ SrcS W (fun _ => True) A ls ∧ n ≤ Rows.uptoBulk x.1 ∧ ∀ l ∈ ls, l.length ≤ Rows.uptoBulk x.1 := by
  rcases open_strings Tryd.underlying23 Tryd.underlying9 (by kernel_rfl) h with ⟨hcs, hx⟩ | ⟨a, len, cap, ss, hcs, _, hl, hm, hz, hx, hcell, hwz⟩
  · exact ⟨none, [], 0, 0, rfl, hcs, fun h => absurd h (by simp), Nat.zero_le _, fun _ h => by cases h⟩
  · simp only [if_true] at hz
    subst hx
    have hlen : ((ss.take len).map bl).length = len := by simp; omega
    have hbk : ∀ l ∈ (ss.take len).map bl, l.length ≤ ((ss.take len).map fun s => s.size + 1).sum := fun l hl' => by
      obtain ⟨s, hs, rfl⟩ := List.mem_map.1 hl'
      rw [bl_length]
      exact sum_each _ s hs
    have hct := sum_count (ss.take len)
    have hct2 : (ss.take len).length = len := by rw [List.length_take]; omega
    have hbs := bulk_strs (H := H) (ss.take len)
    refine ⟨some a, (ss.take len).map bl, len, cap, hlen, hcs, fun h0 => ?_, ?_, fun l hl' => ?_⟩
    · have hb := block_lt_of_cell (hcell 0 (by omega))
      have hab : a.block < W.heap.size := by
        have e : (a.add 0).block = a.block := by unfold Addr.add; split <;> rfl
        rwa [e] at hb
      refine ⟨a, rfl, trivial, hab, fun i l hl' => ?_⟩
      rw [List.getElem?_map, Option.map_eq_some_iff] at hl'
      obtain ⟨s, hs, rfl⟩ := hl'
      rw [List.getElem?_take] at hs
      split at hs
      · have hi : i < ss.length := (List.getElem?_eq_some_iff.1 hs).1
        rw [hcell i hi, List.getD_eq_getElem?_getD, hs]
        unfold strV
        rw [mk_bl]
        rfl
      · cases hs
    · simp only [Rows.uptoBulk]
      omega
    · have := hbk l hl'
      simp only [Rows.uptoBulk]
      omega
end
end Go.Proofs.YtbkpiadbgpnhlaaDoor.Var
