/-
  Plain mathematics of a ring of bytes, and what Take does as a call on a queue.
  Conditions: those that each theorem names.
-/
import Derived.Test.YtielhclbefdgoaaE
namespace Go.Proofs.Ytielhclbefdgoaa
open Go.RowKit

/-- n places behind f, round a ring of m. -/
def turnTo (m f n : Nat) : Nat := if m ≤ f + n then f + n - m else f + n

theorem cont_get (rs : List UInt8) (f n i : Nat) (hf : f ≤ rs.length) (hn : n ≤ rs.length) : (cont rs f n)[i]? = if i < n then rs[turnTo rs.length f i]? else none := by
  unfold cont turnTo
  rw [List.getElem?_take]
  split
  · rw [List.getElem?_append, List.length_drop]
    split
    · rw [List.getElem?_drop, if_neg (by omega)]
    · rw [List.getElem?_take, if_pos (by omega), if_pos (by omega)]
      congr 1
      omega
  · rfl

theorem cont_after (rs : List UInt8) (f c n : Nat) (hf : f < rs.length ∨ (rs.length = 0 ∧ f = 0)) (hc : c ≤ rs.length) (hn : n ≤ c) : cont rs (turnTo rs.length f n) (c - n) = (cont rs f c).drop n := by
  apply List.ext_getElem?
  intro i
  rw [cont_get _ _ _ _ (by unfold turnTo; split <;> omega) (by omega), List.getElem?_drop, cont_get _ _ _ _ (by omega) hc]
  by_cases h : i < c - n
  · rw [if_pos h, if_pos (by omega)]
    congr 1
    unfold turnTo
    repeat' split
    all_goals omega
  · rw [if_neg h, if_neg (by omega)]

theorem cont_take (rs : List UInt8) (f c n : Nat) (hn : n ≤ c) : cont rs f n = (cont rs f c).take n := by
  unfold cont
  rw [List.take_take, Nat.min_eq_left hn]

theorem splice_get {α : Type} (L cs : List α) (o i : Nat) (h : o + cs.length ≤ L.length) : (splice L o cs)[i]? = if o ≤ i ∧ i < o + cs.length then cs[i - o]? else L[i]? := by
  unfold splice
  rw [List.getElem?_append, List.length_take, Nat.min_eq_left (by omega)]
  by_cases h1 : i < o
  · rw [if_pos h1, List.getElem?_take, if_pos h1, if_neg (by omega)]
  · rw [if_neg h1, List.getElem?_append]
    by_cases h2 : i < o + cs.length
    · rw [if_pos (by omega), if_pos (by omega)]
    · rw [if_neg (by omega), if_neg (by omega), List.getElem?_drop]
      congr 1
      omega

theorem cont_push (rs bs : List UInt8) (f c k : Nat) (hf : f < rs.length ∨ (rs.length = 0 ∧ f = 0)) (hc : c + bs.length ≤ rs.length) (hk : k = min bs.length (rs.length - turnTo rs.length f c)) :
    cont (splice (splice rs (turnTo rs.length f c) (bs.take k)) 0 (bs.drop k)) f (c + bs.length) = cont rs f c ++ bs := by
  have ht : turnTo rs.length f c < rs.length ∨ (rs.length = 0 ∧ turnTo rs.length f c = 0) := by unfold turnTo; split <;> omega
  have hl1 : (bs.take k).length = k := by simp; omega
  have hl2 : (bs.drop k).length = bs.length - k := by simp
  have hs1 : (splice rs (turnTo rs.length f c) (bs.take k)).length = rs.length := length_splice _ _ _ (by omega)
  have hs2 : (splice (splice rs (turnTo rs.length f c) (bs.take k)) 0 (bs.drop k)).length = rs.length := by rw [length_splice _ _ _ (by omega), hs1]
  apply List.ext_getElem?
  intro i
  rw [cont_get _ _ _ _ (by omega) (by omega), hs2, List.getElem?_append, cont_length _ _ _ (by omega), cont_get _ _ _ _ (by omega) (by omega), splice_get _ _ _ _ (by omega), splice_get _ _ _ _ (by omega), hl1, hl2]
  have hr : turnTo rs.length f c = if rs.length ≤ f + c then f + c - rs.length else f + c := rfl
  have hi : turnTo rs.length f i = if rs.length ≤ f + i then f + i - rs.length else f + i := rfl
  generalize turnTo rs.length f c = t at *
  generalize turnTo rs.length f i = j at *
  by_cases h1 : i < c
  · rw [if_pos (by omega), if_pos h1, if_pos h1, if_neg (by split at hr <;> split at hi <;> omega), if_neg (by split at hr <;> split at hi <;> omega)]
  · rw [if_neg h1]
    by_cases h2 : i < c + bs.length
    · rw [if_pos h2]
      by_cases h3 : j < bs.length - k
      · rw [if_pos (by omega), List.getElem?_drop]
        congr 1
        split at hr <;> split at hi <;> omega
      · rw [if_neg (by omega), if_pos (by split at hr <;> split at hi <;> omega), List.getElem?_take, if_pos (by split at hr <;> split at hi <;> omega)]
        congr 1
        split at hr <;> split at hi <;> omega
    · rw [if_neg h2, List.getElem?_eq_none (by omega)]

theorem vals_splice (a b : List UInt8) (o : Nat) : splice (vals a) o (vals b) = vals (splice a o b) := by
  unfold splice
  rw [vals_append, vals_append, vals_take, vals_drop, vals_length]

end Go.Proofs.Ytielhclbefdgoaa
