/-
  Plain mathematics of layer 7: how much a list of fields holds, and what follows of its elements.
  Conditions: those that each theorem names.
-/
import Derived.Test.YtcpohdejdiljnaaDoorFT
import Derived.Test.YtcpohdejdiljnaaDoorLW
namespace Go.Proofs.YtcpohdejdiljnaaDoor
open Go.RowKit

theorem elF_total (b : List UInt8) : ∀ n f k, f ≤ k → ((listFrom b n f k).map List.length).sum ≤ b.length - f
  | 0, f, k, _ => by simp [listFrom]
  | n + 1, f, k, hf => by
    have hx : (trimF ((b.drop f).take (k - f))).length ≤ k - f := Nat.le_trans (trimF_le _) (by rw [List.length_take]; omega)
    have hx2 : (trimF ((b.drop f).take (k - f))).length ≤ b.length - f := Nat.le_trans (trimF_le _) (by rw [List.length_take, List.length_drop]; omega)
    rw [listFrom]
    by_cases h : k < b.length
    · rw [if_pos h]
      split
      · exact elF_total b n f _ (by omega)
      · split
        · have := elF_total b n (k + 1) (k + 1) (by omega)
          rw [List.map_append, List.sum_append]
          split
          · simp; omega
          · simp; omega
        · exact elF_total b n f _ (by omega)
    · rw [if_neg h]
      split
      · split
        · simp
        · simp; omega
      · simp
theorem elF_count (b : List UInt8) : ∀ n f k, (listFrom b n f k).length + k ≤ b.length + 1 + (if b.length + 1 < k then k else 0)
  | 0, f, k => by simp [listFrom]; split <;> omega
  | n + 1, f, k => by
    rw [listFrom]
    by_cases h : k < b.length
    · rw [if_pos h]
      have hq := qskip_le (b.drop (k + 1))
      rw [List.length_drop] at hq
      split
      · have := elF_count b n f (k + 1 + qskip (b.drop (k + 1)))
        rw [if_neg (by omega)] at this ⊢
        omega
      · split
        · have := elF_count b n (k + 1) (k + 1)
          rw [List.length_append]
          rw [if_neg (by omega)] at this
          have e : (if b.length + 1 < k then k else 0) = 0 := if_neg (by omega)
          rw [e]
          split <;> simp <;> omega
        · have := elF_count b n f (k + 1)
          rw [if_neg (by omega)] at this ⊢
          omega
    · rw [if_neg h]
      split
      · split <;> simp <;> split <;> omega
      · simp
        split <;> omega
theorem list_count (b : List UInt8) : (listF b).length ≤ b.length + 1 := by
  have := elF_count b (b.length + 2) 0 0
  rw [if_neg (by omega)] at this
  simpa [listF] using this
theorem mem_sum : ∀ (l : List Nat) (x : Nat), x ∈ l → x ≤ l.sum
  | y :: r, x, h => by
    rw [List.sum_cons]
    rcases List.mem_cons.1 h with rfl | h
    · omega
    · have := mem_sum r x h; omega
theorem list_part (b x : List UInt8) (h : x ∈ listF b) : x.length ≤ b.length := by
  have h1 := elF_total b (b.length + 2) 0 0 (Nat.le_refl _)
  have h2 := mem_sum ((listF b).map List.length) x.length (List.mem_map.2 ⟨x, h, rfl⟩)
  unfold listF at h2
  exact Nat.le_trans h2 (Nat.le_trans h1 (by omega))

/-- How much a list of fields holds. -/
def bulkF (ls : List Fld) : Nat := (ls.map fun f => f.1.length + f.2.length + 3).sum
theorem bulkF_mem {ls : List Fld} {f : Fld} (h : f ∈ ls) : f.1.length + f.2.length + 3 ≤ bulkF ls := mem_sum _ _ (List.mem_map.2 ⟨f, h, rfl⟩)
theorem bulkF_cons (f : Fld) (r : List Fld) : bulkF (f :: r) = f.1.length + f.2.length + 3 + bulkF r := rfl
theorem bulkF_app (a b : List Fld) : bulkF (a ++ b) = bulkF a + bulkF b := by simp [bulkF]
theorem bulkF_len : ∀ ls : List Fld, ls.length ≤ bulkF ls
  | [] => Nat.le_refl _
  | f :: r => by
    have := bulkF_len r
    rw [bulkF_cons, List.length_cons]
    omega
theorem getF_cons (f : Fld) (r : List Fld) (nm : List UInt8) : getF (f :: r) nm = (if sameN nm f = true then [f.2] else []) ++ getF r nm := by
  unfold getF
  rw [List.filter_cons]
  split <;> simp
theorem elsF_bulk (nm : List UInt8) : ∀ ls : List Fld, (elsF (getF ls nm)).length ≤ bulkF ls
  | [] => by simp [getF, elsF]
  | f :: r => by
    have h := elsF_bulk nm r
    have hc := list_count f.2
    rw [getF_cons, bulkF_cons]
    unfold elsF at *
    rw [List.flatMap_append, List.length_append]
    have e : ∀ l : List UInt8, ([l].flatMap listF).length = (listF l).length := fun l => by simp
    split
    · rw [e]; omega
    · rw [List.flatMap_nil, List.length_nil]; omega
theorem getF_mem {ls : List Fld} {nm x : List UInt8} (h : x ∈ getF ls nm) : ∃ f ∈ ls, f.2 = x := by
  unfold getF at h
  obtain ⟨f, hf, rfl⟩ := List.mem_map.1 h
  exact ⟨f, (List.mem_filter.1 hf).1, rfl⟩
theorem elsF_part {ls : List Fld} {nm x : List UInt8} (h : x ∈ elsF (getF ls nm)) : x.length ≤ bulkF ls := by
  unfold elsF at h
  obtain ⟨v, hv, hx⟩ := List.mem_flatMap.1 h
  obtain ⟨f, hf, rfl⟩ := getF_mem hv
  have := bulkF_mem hf
  have := list_part _ _ hx
  omega
theorem Meek.small {ls : List Fld} (h : bulkF ls ≤ 1000000000) : Meek ls := by
  have hl := bulkF_len ls
  refine ⟨⟨by omega, fun f hf => ?_, ?_, ?_⟩, fun f hf => ?_, fun x hx => ?_, fun x hx => ?_⟩
  · have := bulkF_mem hf; omega
  · have := elsF_bulk lenN ls; omega
  · have := elsF_bulk codN ls; omega
  · have := bulkF_mem hf; omega
  · have := elsF_part hx; omega
  · have := elsF_part hx; omega
end Go.Proofs.YtcpohdejdiljnaaDoor
