/-
  What the law TextElements answers, as a call.
  Conditions: those that the theorem names.
-/
import Derived.Test.YtilfflpjlakkpaaDoorTK
import Derived.Lib.AppendStr
import Derived.Deep.RegionHeld3
namespace Go.Proofs.YtilfflpjlakkpaaDoor
open Go.RowKit

/-- append(v, s...), s a text. -/
theorem run_append_text (B : Nat) (w : World) (v : Value) (o : Option Nat) (bs l : List UInt8) (h : Own w v o bs) (ho : ∀ b, o = some b → B ≤ b) (hB : B ≤ w.heap.size) (hlen : bs.length + l.length ≤ 140737488355328) :
    ∃ (v' : Value) (w' : World) (o' : Option Nat), (Builtin.append_ #[33, 9] 33 #[v, .string ⟨l.toArray⟩]).run Tryd.prog w = .ok v' w' ∧ Own w' v' o' (bs ++ l) ∧ Turn (fun k => o = some k) w w' ∧ (∀ b, o' = some b → B ≤ b) := by
  obtain ⟨i, hi, hz, hsz, hby⟩ := byteParts
  obtain ⟨⟨h1, h2⟩, h3⟩ := h
  have hown : w.ownsRow B 5 1 v bs.length (vals bs) := by
    refine ⟨h1, ?_⟩
    rcases h2 with h2 | ⟨g, cap, cur, hv, _, r⟩
    · exact .inl h2
    · exact .inr ⟨g, cap, cur, hv, ho g (by rw [← h3, hv]; rfl), r⟩
  obtain ⟨v', w', hrun, h4, h5, _⟩ := Lib.run_append_own_string (P := Tryd.prog) w B 33 9 33 5 i Tryd.underlying33 Tryd.underlying9 hi hz hsz hby v bs.length (vals bs) hown ⟨l.toArray⟩ (by rw [size_mk]; simp only [maxLen]; omega) (by rw [size_mk]; omega) hB
  have hcells : Lib.strCells ⟨l.toArray⟩ = vals l := by simp [Lib.strCells, vals, YtilfflpjlakkpaaDoor.B]
  refine ⟨v', w', v'.ownBlock, hrun, ⟨?_, rfl⟩, Turn.of_grown h5 (fun k hk => by rw [← h3]; exact hk), fun b hb => (h4.lt b hb).1⟩
  rw [size_mk, hcells] at h4
  rw [List.length_append, vals_append]
  obtain ⟨h6, h7⟩ := h4
  refine ⟨h6, ?_⟩
  rcases h7 with h7 | ⟨g, cap, cur, hv, _, r⟩
  · exact .inl h7
  · exact .inr ⟨g, cap, cur, hv, Nat.zero_le _, r⟩

def joinTo (ls : List (List UInt8)) (k : Nat) : List UInt8 := joinF (ls.take k)
theorem joinF_snoc : ∀ (ls : List (List UInt8)) (x : List UInt8), joinF (ls ++ [x]) = if ls = [] then x else joinF ls ++ [44] ++ x
  | [], x => rfl
  | [y], x => by simp [joinF]
  | y :: z :: r, x => by
    have ih := joinF_snoc (z :: r) x
    rw [if_neg (by simp)] at ih ⊢
    show y ++ 44 :: joinF (z :: r ++ [x]) = _
    rw [ih]
    simp [joinF]
theorem joinTo_succ (ls : List (List UInt8)) (k : Nat) (x : List UInt8) (h : ls[k]? = some x) : joinTo ls (k + 1) = if k = 0 then x else joinTo ls k ++ [44] ++ x := by
  unfold joinTo
  rw [List.take_add_one, h, Option.toList_some, joinF_snoc]
  by_cases hk : k = 0
  · subst hk; simp
  · rw [if_neg hk, if_neg]
    intro e
    have hl : k < ls.length := (List.getElem?_eq_some_iff.1 h).1
    have := congrArg List.length e
    rw [List.length_take, List.length_nil] at this
    omega

theorem listFrom_total (b : List UInt8) : ∀ n f k, f ≤ k → ((listFrom b n f k).map List.length).sum ≤ b.length - f
  | 0, f, k, _ => by simp [listFrom]
  | n + 1, f, k, hf => by
    have hx : (trimF ((b.drop f).take (k - f))).length ≤ k - f := Nat.le_trans (trimF_length _) (by rw [List.length_take]; omega)
    have hx2 : (trimF ((b.drop f).take (k - f))).length ≤ b.length - f := Nat.le_trans (trimF_length _) (by rw [List.length_take, List.length_drop]; omega)
    rw [listFrom]
    by_cases h : k < b.length
    · rw [if_pos h]
      split
      · exact listFrom_total b n f _ (by omega)
      · split
        · have := listFrom_total b n (k + 1) (k + 1) (by omega)
          rw [List.map_append, List.sum_append]
          split
          · simp; omega
          · simp; omega
        · exact listFrom_total b n f _ (by omega)
    · rw [if_neg h]
      split
      · split
        · simp
        · simp; omega
      · simp
theorem joinF_length : ∀ ls : List (List UInt8), (joinF ls).length ≤ (ls.map List.length).sum + ls.length
  | [] => by simp [joinF]
  | [x] => by simp [joinF]
  | x :: y :: r => by
    have := joinF_length (y :: r)
    simp only [joinF, List.length_append, List.length_cons, List.map_cons, List.sum_cons] at *
    omega
theorem list_total (b : List UInt8) : ((listF b).map List.length).sum ≤ b.length := by
  have := listFrom_total b (b.length + 2) 0 0 (Nat.le_refl _)
  simpa [listF] using this
theorem sum_take : ∀ (l : List Nat) (k : Nat), (l.take k).sum ≤ l.sum
  | [], k => by simp
  | x :: l, 0 => by simp
  | x :: l, k + 1 => by
    have := sum_take l k
    simp only [List.take_succ_cons, List.sum_cons]
    omega
theorem joinTo_length (b : List UInt8) (k : Nat) : (joinTo (listF b) k).length ≤ 2 * b.length + 1 := by
  have h1 := joinF_length ((listF b).take k)
  have h2 : (((listF b).take k).map List.length).sum ≤ ((listF b).map List.length).sum := by
    rw [List.map_take]
    exact sum_take _ _
  have h3 := list_total b
  have h4 := listF_length b
  have h5 : ((listF b).take k).length ≤ (listF b).length := by rw [List.length_take]; omega
  unfold joinTo
  omega
end Go.Proofs.YtilfflpjlakkpaaDoor
