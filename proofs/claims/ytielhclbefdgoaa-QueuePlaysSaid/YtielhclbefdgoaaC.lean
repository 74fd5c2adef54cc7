/-
  Words for memory: a block that is known whole, what a call turned, a copy into a block that is known whole.
  Conditions: those that each theorem names.
-/
import Derived.Test.YtielhclbefdgoaaRows
import Derived.WalkKit
import Derived.WalkSpells
import Derived.Laws.CopyOwn
import Derived.Laws.OwnMore
import Derived.Deep.OwnRows
import Derived.Lib.Hide
import Derived.Deep.Draws
namespace Go.Proofs.Ytielhclbefdgoaa
open Go.RowKit

/-- Block g is just these cells, all free. -/
def Is (w : World) (g : Nat) (t : TypeId) (l : List Value) : Prop := w.heap[g]? = some (.cells l.toArray t (0, 0))

/-- From w to w' no block that was there has turned, but for those of S. -/
structure Turn (S : Nat → Prop) (w w' : World) : Prop where
  os : w'.os = w.os
  tape : w'.tape = w.tape
  output : w'.output = w.output
  size : w.heap.size ≤ w'.heap.size
  block : ∀ k, k < w.heap.size → ¬ S k → w'.heap[k]? = w.heap[k]?

section
variable {S S' : Nat → Prop} {w w' v : World} {g : Nat} {t : TypeId} {l : List Value}

theorem Is.lt (h : Is w g t l) : g < w.heap.size := by
  rcases Nat.lt_or_ge g w.heap.size with h' | h'
  · exact h'
  · unfold Is at h; rw [Array.getElem?_eq_none h'] at h; cases h
theorem Is.cell (h : Is w g t l) (i : Nat) : w.cell? ⟨g, i, none⟩ = l[i]? := by
  have := cell_of_row w g i l.toArray t (0, 0) h
  simpa using this
theorem Is.free (h : Is w g t l) (i : Nat) : w.frozen? ⟨g, i, none⟩ = false := by
  unfold Is at h; simp [World.frozen?, h]
theorem Is.drewN (h : Is w g t l) (n : Nat) : Is (w.drewN n) g t l := h
theorem Is.drew (h : Is w g t l) : Is w.drew g t l := h
theorem Is.alloc (h : Is w g t l) (o : Obj) : Is (w.alloc o) g t l := (Below.heap_alloc w o g h.lt).trans h
theorem Is.made (w : World) (t : TypeId) (l : List Value) : Is (w.alloc (.cells l.toArray t)) w.heap.size t l := heap_alloc_new w _
theorem Is.kept (h : Is w g t l) (ht : Turn S w w') (hg : ¬ S g) : Is w' g t l := (ht.block g h.lt hg).trans h
theorem Is.setRow (h : Is w g t l) (l' : List Value) : Is (w.setRow g l'.toArray) g t l' := setRow_heap w g _ _ t _ h
theorem Is.set (h : Is w g t l) (i : Nat) (u : Value) : Is (w.setCell ⟨g, i, none⟩ u) g t (l.set i u) := by
  unfold Is at h ⊢
  simp [World.setCell, Array.getElem?_modify, h]
theorem Is.far (h : Is w g t l) {p : Addr} (hp : g ≠ p.block) (u : Value) : Is (w.setCell p u) g t l := (Below.heap_setCell w p u g hp).trans h
theorem Is.ne {g' : Nat} {t' : TypeId} {l' : List Value} (h : Is w g t l) (h' : Is w g' t' l') (hne : t ≠ t') : g ≠ g' := by
  rintro rfl
  unfold Is at h h'
  rw [h] at h'
  injection h' with h'
  injection h' with _ ht
  exact hne ht
theorem Is.one {l' : List Value} (h : Is w g t l) (h' : Is w g t l') : l = l' := by
  unfold Is at h h'
  rw [h] at h'
  injection h' with h'
  injection h' with h' _
  simpa using h'

theorem Turn.refl (S : Nat → Prop) (w : World) : Turn S w w := ⟨rfl, rfl, rfl, Nat.le_refl _, fun _ _ _ => rfl⟩
theorem Turn.mono (h : Turn S w w') (hs : ∀ k, k < w.heap.size → S k → S' k) : Turn S' w w' := ⟨h.os, h.tape, h.output, h.size, fun k hk hn => h.block k hk fun hS => hn (hs k hk hS)⟩
theorem Turn.trans (h : Turn S w w') (h' : Turn S' w' v) (hs : ∀ k, k < w.heap.size → S' k → S k) : Turn S w v :=
  ⟨h'.os.trans h.os, h'.tape.trans h.tape, h'.output.trans h.output, Nat.le_trans h.size h'.size,
    fun k hk hn => (h'.block k (Nat.lt_of_lt_of_le hk h.size) fun hS => hn (hs k hk hS)).trans (h.block k hk hn)⟩
theorem Turn.drewN (h : Turn S w w') (n : Nat) : Turn S w (w'.drewN n) := ⟨h.os, h.tape, h.output, h.size, h.block⟩
theorem Turn.drew (h : Turn S w w') : Turn S w w'.drew := ⟨h.os, h.tape, h.output, h.size, h.block⟩
theorem Turn.alloc (h : Turn S w w') (o : Obj) : Turn S w (w'.alloc o) :=
  ⟨h.os, h.tape, h.output, Nat.le_trans h.size (by simp), fun k hk hn => (Below.heap_alloc w' o k (Nat.lt_of_lt_of_le hk h.size)).trans (h.block k hk hn)⟩
theorem Turn.setCell (h : Turn S w w') {p : Addr} (hp : p.block < w.heap.size → S p.block) (u : Value) : Turn S w (w'.setCell p u) :=
  ⟨h.os, h.tape, h.output, by simpa [World.setCell] using h.size, fun k hk hn => (Below.heap_setCell w' p u k (by
    rintro rfl
    exact hn (hp hk))).trans (h.block k hk hn)⟩
theorem Turn.setRow (h : Turn S w w') (hg : g < w.heap.size → S g) (a : Array Value) : Turn S w (w'.setRow g a) :=
  ⟨h.os, h.tape, h.output, by simpa [World.setRow] using h.size, fun k hk hn => (setRow_other w' g k a (by
    rintro rfl
    exact hn (hg hk))).trans (h.block k hk hn)⟩
theorem Turn.of_below (h : Below w.heap.size w w') : Turn S w w' := ⟨h.os, h.tape, h.output, h.size, fun k hk _ => h.block k hk⟩
theorem Turn.of_grown {row : Option Nat} (h : w.grownBy w' row) (hr : ∀ k, row = some k → S k) : Turn S w w' :=
  ⟨h.os, h.tape, h.output, h.size, fun k hk hn => h.block k hk fun e => hn (hr k e.symm)⟩
theorem Turn.below (h : Turn S w w') (hs : ∀ k, k < w.heap.size → ¬ S k) : Below w.heap.size w w' := ⟨h.os, h.tape, h.output, h.size, fun k hk => h.block k hk (hs k hk)⟩
theorem Turn.cell (h : Turn S w w') {p : Addr} (hp : p.block < w.heap.size) (hn : ¬ S p.block) : w'.cell? p = w.cell? p := World.cell?_of_block (w := w) (h.block p.block hp hn)
end

/-- A copy into block g, from place off on: cs is what the source had. -/
theorem run_copy_in {P : Program} (w : World) (dT sT ty elem : TypeId) (hu : P.underlying dT = some (.slice elem)) (hsz : (P.info? elem).map (·.size) = some 1)
    (dp sp : Option Addr) (dLen dCap sLen sCap k : Nat) (g off : Nat) (cur : List Value) (t : TypeId) (hg : Is w g t cur) (cs : List Value) (hk : cs.length = k) (hn : k = Nat.min sLen dLen)
    (hpos : 0 < k → dp = some ⟨g, off, none⟩ ∧ ∃ ad, sp = some ad ∧ ∀ j v, cs[j]? = some v → w.cell? (ad.add j) = some v)
    (hfit : off + k ≤ cur.length) (h1 : ∀ v ∈ cs, v.oneCell' = true) :
    ∃ w', (Builtin.copy_ #[dT, sT] ty #[.slice dp dLen dCap, .slice sp sLen sCap]).run P w = .ok (.int .i64 (k : Int)) w' ∧ Is w' g t (splice cur off cs) ∧ Turn (· = g) w w' ∧ w'.heap.size = w.heap.size := by
  subst hk
  by_cases h0 : cs.length = 0
  · obtain rfl : cs = [] := List.eq_nil_of_length_eq_zero h0
    exact ⟨w, run_copy_none (P := P) w dT sT ty elem dp sp dLen dCap sLen sCap hu hsz (by simpa using hn.symm), by simpa [splice] using hg, Turn.refl _ _, rfl⟩
  · obtain ⟨rfl, ad, rfl, hsrc⟩ := hpos (by omega)
    refine ⟨_, run_copy_row (P := P) w dT sT ty elem g off dLen dCap ad sLen sCap cur.toArray t cs hu hsz hg hn hsrc (by simpa using hfit) h1, ?_, (Turn.refl (· = g) w).setRow (fun _ => rfl) _, by simp [World.setRow]⟩
    simpa [splice] using hg.setRow (splice cur off cs)

/-- A byte as a value; a list of them. -/
def B (c : UInt8) : Value := .int .u8 c.toNat
def vals (l : List UInt8) : List Value := l.map B
theorem vals_length (l : List UInt8) : (vals l).length = l.length := by simp [vals]
theorem vals_append (a b : List UInt8) : vals (a ++ b) = vals a ++ vals b := by simp [vals]
theorem vals_take (n : Nat) (l : List UInt8) : vals (l.take n) = (vals l).take n := by simp [vals]
theorem vals_drop (n : Nat) (l : List UInt8) : vals (l.drop n) = (vals l).drop n := by simp [vals]
theorem vals_one (l : List UInt8) : ∀ v ∈ vals l, v.oneCell' = true := by
  intro v hv
  obtain ⟨c, _, rfl⟩ := List.mem_map.1 hv
  rfl
theorem vals_get (l : List UInt8) (i : Nat) : (vals l)[i]? = l[i]?.map B := by simp [vals]

/-- What the ring says: n bytes from f on, round its end. -/
def cont (rs : List UInt8) (f n : Nat) : List UInt8 := (rs.drop f ++ rs.take f).take n

theorem add_at (r o i : Nat) : (⟨r, o, none⟩ : Addr).add i = ⟨r, o + i, none⟩ := by
  unfold Addr.add
  split
  · next h => subst h; rfl
  · rfl
/-- What a piece of a block reads. -/
theorem Is.piece {w : World} {r : Nat} {t : TypeId} {l : List Value} (h : Is w r t l) (f k i : Nat) (v : Value) (hv : ((l.drop f).take k)[i]? = some v) : w.cell? ((⟨r, f, none⟩ : Addr).add i) = some v := by
  rw [add_at, h.cell]
  rw [List.getElem?_take] at hv
  split at hv
  · rw [List.getElem?_drop] at hv; exact hv
  · cases hv
theorem Is.bytes {w : World} {r : Nat} {t : TypeId} {l : List UInt8} (h : Is w r t (vals l)) (f k i : Nat) (v : Value) (hv : (vals ((l.drop f).take k))[i]? = some v) : w.cell? ((⟨r, f, none⟩ : Addr).add i) = some v :=
  h.piece f k i v (by rw [← vals_drop, ← vals_take]; exact hv)

theorem splice_nil {α : Type} (L : List α) (k : Nat) : splice L k [] = L := by simp [splice]

theorem byteInfo : (Try.prog.info? 5).map (fun i => (i.zero, i.size, i.bytes)) = some (some (.int .u8 0), 1, 1) := by kernel_rfl

/-- make([]byte, n): a block of its own, all noughts. -/
theorem run_make_bytes (n : Nat) (hn : n ≤ 16384) (w : World) : ∃ w', (Instr.makeSlice 31 (.int .i64 (n : Int)) (.int .i64 (n : Int))).run Try.prog w = .ok (.slice (some ⟨w.heap.size, 0, none⟩) n n) w' ∧
    Is w' w.heap.size 5 (vals (List.replicate n 0)) ∧ Turn (fun _ => False) w w' ∧ w'.heap.size = w.heap.size + 1 := by
  refine ⟨_, run_make_row' 31 5 (.int .u8 0) 1 Try.underlying31 byteInfo rfl .i64 .i64 n (by omega) (by omega) w, ?_, (Turn.refl _ _).alloc _, by simp⟩
  have h : madeCells #[.int .u8 0] n = (vals (List.replicate n 0)).toArray := by
    rw [← Array.toArray_toList (xs := madeCells #[.int .u8 0] n), toList_madeCells_one]
    simp [vals, B]
  rw [h]
  exact Is.made _ _ _

theorem size_setRow (w : World) (g : Nat) (a : Array Value) : (w.setRow g a).heap.size = w.heap.size := by simp [World.setRow]
end Go.Proofs.Ytielhclbefdgoaa
