/-
  What the document's own text functions do (the reference): Quote.
  Conditions: those that each theorem names.
-/
import Derived.Test.YtbkpiadbgpnhlaaDoorRB
namespace Go.Proofs.YtbkpiadbgpnhlaaDoor
open Go.RowKit

def quoB (c : UInt8) : List UInt8 := if c = 34 ∨ c = 92 then [92, c] else [c]
def quoTo (s : ByteArray) (k : Nat) : List UInt8 := 34 :: ((bl s).take k).flatMap quoB
def quoF (l : List UInt8) : List UInt8 := 34 :: l.flatMap quoB ++ [34]
theorem quoB_length (c : UInt8) : (quoB c).length ≤ 2 := by unfold quoB; split <;> simp
theorem quo_length (l : List UInt8) : (l.flatMap quoB).length ≤ 2 * l.length := by
  induction l with
  | nil => simp
  | cons c l ih => have := quoB_length c; simp only [List.flatMap_cons, List.length_append, List.length_cons]; omega
theorem quoTo_length (s : ByteArray) (k : Nat) : (quoTo s k).length ≤ 2 * k + 1 := by
  have := quo_length ((bl s).take k)
  have h : ((bl s).take k).length ≤ k := List.length_take_le _ _
  simp only [quoTo, List.length_cons]
  omega
theorem quoTo_succ (s : ByteArray) (k : Nat) (h : k < s.size) : quoTo s (k + 1) = quoTo s k ++ quoB s[k] := by
  unfold quoTo
  rw [bl_take s k h]
  simp
theorem quoTo_all (s : ByteArray) (k : Nat) (h : s.size ≤ k) : quoTo s k ++ [34] = quoF (bl s) := by
  unfold quoTo quoF
  rw [List.take_of_length_le (by rw [bl_length]; exact h)]
theorem quoB_yes (c : UInt8) (h : (c.toNat : Int) = 34 ∨ (c.toNat : Int) = 92) : quoB c = [92] ++ [c] := by
  unfold quoB
  have h' : c = 34 ∨ c = 92 := by
    rcases h with h | h
    · exact .inl (UInt8.toNat_inj.1 (by show c.toNat = 34; omega))
    · exact .inr (UInt8.toNat_inj.1 (by show c.toNat = 92; omega))
  rw [if_pos h']
  rfl
theorem quoB_no (c : UInt8) (h : ¬ ((c.toNat : Int) = 34 ∨ (c.toNat : Int) = 92)) : quoB c = [c] := by
  unfold quoB
  rw [if_neg]
  rintro (h' | h') <;> (subst h'; exact h (by decide))

theorem Push2.frame {wr w1 w2 : World} {o o1 o2 : Option Nat} (t1 : Turn (fun b => o = some b) wr w1) (t2 : Turn (fun b => o1 = some b) w1 w2) (h1 : ∀ b, o1 = some b → o = some b ∨ wr.heap.size ≤ b) (h2 : ∀ b, o2 = some b → o1 = some b ∨ w1.heap.size ≤ b) :
    Turn (fun b => o = some b) wr w2 ∧ ∀ b, o2 = some b → o = some b ∨ wr.heap.size ≤ b := by
  refine ⟨t1.trans t2 (fun b hb h => ?_), fun b hb => ?_⟩
  · rcases h1 b h with h | h
    · exact h
    · omega
  · rcases h2 b hb with h | h
    · exact h1 b h
    · exact .inr (Nat.le_trans t1.size h)

end Go.Proofs.YtbkpiadbgpnhlaaDoor
