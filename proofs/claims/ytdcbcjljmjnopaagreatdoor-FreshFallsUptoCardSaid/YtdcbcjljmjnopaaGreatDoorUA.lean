/-
  A range over a text, wherever its iterator lies; what stands behind a rune of several bytes.
  Conditions: those that each theorem names.
-/
import Derived.Test.YtdcbcjljmjnopaaGreatDoorBL
import Derived.Test.YtdcbcjljmjnopaaGreatDoorWords
import Derived.Laws.RangeAny
namespace Go.Proofs.YtdcbcjljmjnopaaGreatDoor
open Go.RowKit

theorem get_get (s : ByteArray) (k : Nat) (h : k < s.size) : s.get! k = s[k]'h := by
  simp [ByteArray.get!, getElem!_pos, h]
  rfl

/-- All bytes of a rune that is none of ASCII are from 128 on, and lie within the text. -/
theorem decode_wide (s : ByteArray) (pos : Nat) (h : pos < s.size) (ha : 128 ≤ (s[pos]'h).toNat) :
    ∀ j, j < (Utf8.decode s pos).2 → pos + j < s.size ∧ 128 ≤ (s.get! (pos + j)).toNat := by
  have hn : ¬ (s[pos]'h).toNat < 128 := by omega
  have h0 : pos + 0 < s.size ∧ 128 ≤ (s.get! (pos + 0)).toNat := ⟨h, by rw [get_at s pos h]; exact ha⟩
  have hc : ∀ k, (decide (pos + k < s.size) && (s.get! (pos + k)).toNat / 64 == 2) = true → pos + k < s.size ∧ 128 ≤ (s.get! (pos + k)).toNat := by
    intro k hk
    simp only [Bool.and_eq_true, decide_eq_true_eq, beq_iff_eq] at hk
    exact ⟨hk.1, by omega⟩
  have one : ∀ j, j < 1 → pos + j < s.size ∧ 128 ≤ (s.get! (pos + j)).toNat := by
    intro j hj
    obtain rfl : j = 0 := by omega
    exact h0
  simp only [Utf8.decode, get_at s pos h, hn, if_false]
  intro j
  repeat' split
  all_goals
    intro hj
    simp only [Bool.and_eq_true] at *
  · rename_i _ h1
    rcases (by omega : j = 0 ∨ j = 1) with rfl | rfl
    · exact h0
    · exact hc 1 h1.2
  · exact one j hj
  · rename_i h1 _
    rcases (by omega : j = 0 ∨ j = 1 ∨ j = 2) with rfl | rfl | rfl
    · exact h0
    · exact hc 1 h1.1.2
    · exact hc 2 h1.2
  · exact one j hj
  · rename_i h1 _
    rcases (by omega : j = 0 ∨ j = 1 ∨ j = 2 ∨ j = 3) with rfl | rfl | rfl | rfl
    · exact h0
    · exact hc 1 h1.1.1.2
    · exact hc 2 h1.1.2
    · exact hc 3 h1.2
  · exact one j hj
  · exact one j hj

/-- A step of a range: a byte of ASCII, or a rune of others. -/
theorem decode_step (s : ByteArray) (pos : Nat) (h : pos < s.size) :
    ((s[pos]'h).toNat < 128 ∧ Utf8.decode s pos = ((s[pos]'h).toNat, 1)) ∨
    (128 ≤ (s[pos]'h).toNat ∧ ∃ r n : Nat, Utf8.decode s pos = (r, n + 1) ∧ 128 ≤ r ∧ r ≤ 2147483647 ∧ pos + (n + 1) ≤ s.size ∧ ∀ c ∈ ((bl s).drop pos).take (n + 1), 128 ≤ c.toNat) := by
  by_cases ha : (s[pos]'h).toNat < 128
  · exact .inl ⟨ha, decode_ascii s pos h ha⟩
  · have ha' : 128 ≤ (s[pos]'h).toNat := by omega
    obtain ⟨h1, h2⟩ := decode_high s pos h ha'
    have h3 := decode_le s pos
    have h4 := decode_wide s pos h ha'
    obtain ⟨r, n, hd⟩ : ∃ r n, Utf8.decode s pos = (r, n) := ⟨_, _, rfl⟩
    rw [hd] at h1 h2 h3 h4
    obtain ⟨n, rfl⟩ : ∃ k, n = k + 1 := ⟨n - 1, by simp only at h2; omega⟩
    refine .inr ⟨ha', r, n, hd, h1, h3, ?_, fun c hc => ?_⟩
    · have := (h4 n (by simp)).1
      omega
    · obtain ⟨j, hj, e⟩ := List.mem_iff_getElem.1 hc
      rw [List.length_take] at hj
      obtain ⟨h5, h6⟩ := h4 j (by simp only; omega)
      rw [List.getElem_take, List.getElem_drop] at e
      rw [get_get s _ h5] at h6
      rw [← e]
      exact h6

/-- Block b is an iterator over s, at pos. -/
def AtIter (w : World) (b : Nat) (s : ByteArray) (pos : Nat) : Prop := w.heap[b]? = some (.stringIter s pos)
theorem AtIter.kept {w w' : World} {b : Nat} {s : ByteArray} {pos : Nat} {S : Nat → Prop} (h : AtIter w b s pos) (ht : Turn S w w') (hb : ¬ S b) : AtIter w' b s pos := by
  have hlt : b < w.heap.size := by
    rcases Nat.lt_or_ge b w.heap.size with h' | h'
    · exact h'
    · unfold AtIter at h; rw [Array.getElem?_eq_none h'] at h; cases h
  exact (ht.block b hlt hb).trans h
theorem AtIter.lt {w : World} {b : Nat} {s : ByteArray} {pos : Nat} (h : AtIter w b s pos) : b < w.heap.size := by
  rcases Nat.lt_or_ge b w.heap.size with h' | h'
  · exact h'
  · unfold AtIter at h; rw [Array.getElem?_eq_none h'] at h; cases h
theorem AtIter.pos {w : World} {b : Nat} {s : ByteArray} {pos : Nat} (h : AtIter w b s pos) : w.iterPos b = pos := by
  unfold AtIter at h
  simp [World.iterPos, h]
theorem AtIter.start (w : World) (s : ByteArray) : AtIter (w.iter s 0) w.heap.size s 0 := World.iter_heap w s 0

theorem next_some {P : Program} {w : World} {b : Nat} {s : ByteArray} {pos r n : Nat} (h : AtIter w b s pos) (hpos : pos < s.size) (hd : Utf8.decode s pos = (r, n)) :
    ∃ w1, (∀ ty, (Instr.next (.pointer (some ⟨b, 0, none⟩)) true ty).run P w = .ok (.tuple #[.bool true, .int .i64 (pos : Int), .int .i32 (r : Int)]) w1) ∧ AtIter w1 b s (pos + n) ∧ Turn (· = b) w w1 ∧ w1.heap.size = w.heap.size := by
  have hlt := h.lt
  unfold AtIter at h
  refine ⟨{ w with heap := w.heap.setIfInBounds b (.stringIter s (pos + n)) }, fun ty => ?_, ?_, ⟨rfl, rfl, rfl, by simp, fun k hk hn => ?_⟩, by simp⟩
  · simp only [Instr.next, getObj, setObj, Sem.run_bind, Sem.run, h, Result.andThen, hpos, if_true, hd]
    simp [goInt]
  · unfold AtIter
    simp [hlt]
  · have hn' : ¬ b = k := fun e => hn e.symm
    simp [hn']
theorem next_none {P : Program} {w : World} {b : Nat} {s : ByteArray} {pos : Nat} (h : AtIter w b s pos) (hpos : ¬ pos < s.size) (ty : TypeId) :
    (Instr.next (.pointer (some ⟨b, 0, none⟩)) true ty).run P w = .ok (.tuple #[.bool false]) w := by
  unfold AtIter at h
  simp [Instr.next, getObj, Sem.run, h, hpos]
end Go.Proofs.YtdcbcjljmjnopaaGreatDoor
