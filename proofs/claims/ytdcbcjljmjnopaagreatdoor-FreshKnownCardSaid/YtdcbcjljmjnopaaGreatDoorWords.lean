/-
  Words for memory: a block that is known whole; what a call turned; bytes that a slice reads; a slice that a call appends to; what copy, make, append, s[k:], &s[k], string(b) do.
  Conditions: those that each theorem names.
-/
import Derived.Test.YtdcbcjljmjnopaaGreatDoorProg
import Derived.WalkKit
import Derived.WalkSpells
import Derived.WalkLawsBesides
import Derived.Laws.CopyOwn
import Derived.Laws.OwnMore
import Derived.Deep.OwnRows
import Derived.Lib.Hide
import Derived.Deep.Draws
import Derived.Deep.QuietTactic
import Derived.BigQuiet
import Derived.Lib.SlBytesConst
import Derived.Lib.BufferRead
import Derived.Maps.AppendAt
import Derived.OwnWalk
namespace Go.Proofs.YtdcbcjljmjnopaaGreatDoor
open Go.RowKit

/-- Block g is just these cells, all free. -/
def Is (w : World) (g : Nat) (t : TypeId) (l : List Value) : Prop := w.heap[g]? = some (.cells l.toArray t (0, 0))

/-- From w to w' no block that was there has turned, but for those of S. -/
structure Turn (S : Nat → Prop) (w w' : World) : Prop where
  os : w'.os = w.os
  tape : w'.tape = w.tape
  output : w'.output = w.output
  size : w.heap.size ≤ w'.heap.size
  block : ∀ k, k < w.heap.size → ¬ S k → w'.heap[k]? = w.heap[k]?

section
variable {S S' : Nat → Prop} {w w' v : World} {g : Nat} {t : TypeId} {l : List Value}

theorem Is.lt (h : Is w g t l) : g < w.heap.size := by
  rcases Nat.lt_or_ge g w.heap.size with h' | h'
  · exact h'
  · unfold Is at h; rw [Array.getElem?_eq_none h'] at h; cases h
theorem Is.cell (h : Is w g t l) (i : Nat) : w.cell? ⟨g, i, none⟩ = l[i]? := by
  have := cell_of_row w g i l.toArray t (0, 0) h
  simpa using this
theorem Is.free (h : Is w g t l) (i : Nat) : w.frozen? ⟨g, i, none⟩ = false := by
  unfold Is at h; simp [World.frozen?, h]
theorem Is.drewN (h : Is w g t l) (n : Nat) : Is (w.drewN n) g t l := h
theorem Is.drew (h : Is w g t l) : Is w.drew g t l := h
theorem Is.alloc (h : Is w g t l) (o : Obj) : Is (w.alloc o) g t l := (Below.heap_alloc w o g h.lt).trans h
theorem Is.made (w : World) (t : TypeId) (l : List Value) : Is (w.alloc (.cells l.toArray t)) w.heap.size t l := heap_alloc_new w _
theorem Is.kept (h : Is w g t l) (ht : Turn S w w') (hg : ¬ S g) : Is w' g t l := (ht.block g h.lt hg).trans h
theorem Is.setRow (h : Is w g t l) (l' : List Value) : Is (w.setRow g l'.toArray) g t l' := setRow_heap w g _ _ t _ h
theorem Is.set (h : Is w g t l) (i : Nat) (u : Value) : Is (w.setCell ⟨g, i, none⟩ u) g t (l.set i u) := by
  unfold Is at h ⊢
  simp [World.setCell, Array.getElem?_modify, h]
theorem Is.far (h : Is w g t l) {p : Addr} (hp : g ≠ p.block) (u : Value) : Is (w.setCell p u) g t l := (Below.heap_setCell w p u g hp).trans h
theorem Is.ne {g' : Nat} {t' : TypeId} {l' : List Value} (h : Is w g t l) (h' : Is w g' t' l') (hne : t ≠ t') : g ≠ g' := by
  rintro rfl
  unfold Is at h h'
  rw [h] at h'
  injection h' with h'
  injection h' with _ ht
  exact hne ht
theorem Is.one {l' : List Value} (h : Is w g t l) (h' : Is w g t l') : l = l' := by
  unfold Is at h h'
  rw [h] at h'
  injection h' with h'
  injection h' with h' _
  simpa using h'

theorem Turn.refl (S : Nat → Prop) (w : World) : Turn S w w := ⟨rfl, rfl, rfl, Nat.le_refl _, fun _ _ _ => rfl⟩
theorem Turn.mono (h : Turn S w w') (hs : ∀ k, k < w.heap.size → S k → S' k) : Turn S' w w' := ⟨h.os, h.tape, h.output, h.size, fun k hk hn => h.block k hk fun hS => hn (hs k hk hS)⟩
theorem Turn.trans (h : Turn S w w') (h' : Turn S' w' v) (hs : ∀ k, k < w.heap.size → S' k → S k) : Turn S w v :=
  ⟨h'.os.trans h.os, h'.tape.trans h.tape, h'.output.trans h.output, Nat.le_trans h.size h'.size,
    fun k hk hn => (h'.block k (Nat.lt_of_lt_of_le hk h.size) fun hS => hn (hs k hk hS)).trans (h.block k hk hn)⟩
theorem Turn.drewN (h : Turn S w w') (n : Nat) : Turn S w (w'.drewN n) := ⟨h.os, h.tape, h.output, h.size, h.block⟩
theorem Turn.drew (h : Turn S w w') : Turn S w w'.drew := ⟨h.os, h.tape, h.output, h.size, h.block⟩
theorem Turn.alloc (h : Turn S w w') (o : Obj) : Turn S w (w'.alloc o) :=
  ⟨h.os, h.tape, h.output, Nat.le_trans h.size (by simp), fun k hk hn => (Below.heap_alloc w' o k (Nat.lt_of_lt_of_le hk h.size)).trans (h.block k hk hn)⟩
theorem Turn.setCell (h : Turn S w w') {p : Addr} (hp : p.block < w.heap.size → S p.block) (u : Value) : Turn S w (w'.setCell p u) :=
  ⟨h.os, h.tape, h.output, by simpa [World.setCell] using h.size, fun k hk hn => (Below.heap_setCell w' p u k (by
    rintro rfl
    exact hn (hp hk))).trans (h.block k hk hn)⟩
theorem Turn.setRow (h : Turn S w w') (hg : g < w.heap.size → S g) (a : Array Value) : Turn S w (w'.setRow g a) :=
  ⟨h.os, h.tape, h.output, by simpa [World.setRow] using h.size, fun k hk hn => (setRow_other w' g k a (by
    rintro rfl
    exact hn (hg hk))).trans (h.block k hk hn)⟩
theorem Turn.of_below (h : Below w.heap.size w w') : Turn S w w' := ⟨h.os, h.tape, h.output, h.size, fun k hk _ => h.block k hk⟩
theorem Turn.of_grown {row : Option Nat} (h : w.grownBy w' row) (hr : ∀ k, row = some k → S k) : Turn S w w' :=
  ⟨h.os, h.tape, h.output, h.size, fun k hk hn => h.block k hk fun e => hn (hr k e.symm)⟩
theorem Turn.below (h : Turn S w w') (hs : ∀ k, k < w.heap.size → ¬ S k) : Below w.heap.size w w' := ⟨h.os, h.tape, h.output, h.size, fun k hk => h.block k hk (hs k hk)⟩
theorem Turn.cell (h : Turn S w w') {p : Addr} (hp : p.block < w.heap.size) (hn : ¬ S p.block) : w'.cell? p = w.cell? p := World.cell?_of_block (w := w) (h.block p.block hp hn)
end

/-- A copy into block g, from place off on: cs is what the source had. -/
theorem run_copy_in {P : Program} (w : World) (dT sT ty elem : TypeId) (hu : P.underlying dT = some (.slice elem)) (hsz : (P.info? elem).map (·.size) = some 1)
    (dp sp : Option Addr) (dLen dCap sLen sCap k : Nat) (g off : Nat) (cur : List Value) (t : TypeId) (hg : Is w g t cur) (cs : List Value) (hk : cs.length = k) (hn : k = Nat.min sLen dLen)
    (hpos : 0 < k → dp = some ⟨g, off, none⟩ ∧ ∃ ad, sp = some ad ∧ ∀ j v, cs[j]? = some v → w.cell? (ad.add j) = some v)
    (hfit : off + k ≤ cur.length) (h1 : ∀ v ∈ cs, v.oneCell' = true) :
    ∃ w', (Builtin.copy_ #[dT, sT] ty #[.slice dp dLen dCap, .slice sp sLen sCap]).run P w = .ok (.int .i64 (k : Int)) w' ∧ Is w' g t (splice cur off cs) ∧ Turn (· = g) w w' ∧ w'.heap.size = w.heap.size := by
  subst hk
  by_cases h0 : cs.length = 0
  · obtain rfl : cs = [] := List.eq_nil_of_length_eq_zero h0
    exact ⟨w, run_copy_none (P := P) w dT sT ty elem dp sp dLen dCap sLen sCap hu hsz (by simpa using hn.symm), by simpa [splice] using hg, Turn.refl _ _, rfl⟩
  · obtain ⟨rfl, ad, rfl, hsrc⟩ := hpos (by omega)
    refine ⟨_, run_copy_row (P := P) w dT sT ty elem g off dLen dCap ad sLen sCap cur.toArray t cs hu hsz hg hn hsrc (by simpa using hfit) h1, ?_, (Turn.refl (· = g) w).setRow (fun _ => rfl) _, by simp [World.setRow]⟩
    simpa [splice] using hg.setRow (splice cur off cs)

/-- A byte as a value; a list of them. -/
def B (c : UInt8) : Value := .int .u8 c.toNat
def vals (l : List UInt8) : List Value := l.map B
theorem vals_length (l : List UInt8) : (vals l).length = l.length := by simp [vals]
theorem vals_append (a b : List UInt8) : vals (a ++ b) = vals a ++ vals b := by simp [vals]
theorem vals_take (n : Nat) (l : List UInt8) : vals (l.take n) = (vals l).take n := by simp [vals]
theorem vals_drop (n : Nat) (l : List UInt8) : vals (l.drop n) = (vals l).drop n := by simp [vals]
theorem vals_one (l : List UInt8) : ∀ v ∈ vals l, v.oneCell' = true := by
  intro v hv
  obtain ⟨c, _, rfl⟩ := List.mem_map.1 hv
  rfl
theorem vals_get (l : List UInt8) (i : Nat) : (vals l)[i]? = l[i]?.map B := by simp [vals]

theorem add_at (r o i : Nat) : (⟨r, o, none⟩ : Addr).add i = ⟨r, o + i, none⟩ := by
  unfold Addr.add
  split
  · next h => subst h; rfl
  · rfl
/-- What a piece of a block reads. -/
theorem Is.piece {w : World} {r : Nat} {t : TypeId} {l : List Value} (h : Is w r t l) (f k i : Nat) (v : Value) (hv : ((l.drop f).take k)[i]? = some v) : w.cell? ((⟨r, f, none⟩ : Addr).add i) = some v := by
  rw [add_at, h.cell]
  rw [List.getElem?_take] at hv
  split at hv
  · rw [List.getElem?_drop] at hv; exact hv
  · cases hv
theorem Is.bytes {w : World} {r : Nat} {t : TypeId} {l : List UInt8} (h : Is w r t (vals l)) (f k i : Nat) (v : Value) (hv : (vals ((l.drop f).take k))[i]? = some v) : w.cell? ((⟨r, f, none⟩ : Addr).add i) = some v :=
  h.piece f k i v (by rw [← vals_drop, ← vals_take]; exact hv)

theorem splice_nil {α : Type} (L : List α) (k : Nat) : splice L k [] = L := by simp [splice]

theorem byteInfo : (Tryz.prog.info? 5).map (fun i => (i.zero, i.size, i.bytes)) = some (some (.int .u8 0), 1, 1) := by kernel_rfl

/-- make([]byte, n): a block of its own, all noughts. -/
theorem run_make_bytes (n : Nat) (hn : n ≤ 16384) (w : World) : ∃ w', (Instr.makeSlice 24 (.int .i64 (n : Int)) (.int .i64 (n : Int))).run Tryz.prog w = .ok (.slice (some ⟨w.heap.size, 0, none⟩) n n) w' ∧
    Is w' w.heap.size 5 (vals (List.replicate n 0)) ∧ Turn (fun _ => False) w w' ∧ w'.heap.size = w.heap.size + 1 := by
  refine ⟨_, run_make_row' 24 5 (.int .u8 0) 1 Tryz.underlying24 byteInfo rfl .i64 .i64 n (by omega) (by omega) w, ?_, (Turn.refl _ _).alloc _, by simp⟩
  have h : madeCells #[.int .u8 0] n = (vals (List.replicate n 0)).toArray := by
    rw [← Array.toArray_toList (xs := madeCells #[.int .u8 0] n), toList_madeCells_one]
    simp [vals, B]
  rw [h]
  exact Is.made _ _ _

theorem size_setRow (w : World) (g : Nat) (a : Array Value) : (w.setRow g a).heap.size = w.heap.size := by simp [World.setRow]
theorem byteSize : (Tryz.prog.info? 5).map (·.size) = some 1 := by kernel_rfl

/-- A slice value's address A reads the bytes bs, and lies in a block of which P holds. -/
def Src (w : World) (P : Nat → Prop) (A : Option Addr) (bs : List UInt8) : Prop :=
  0 < bs.length → ∃ ad : Addr, A = some ad ∧ P ad.block ∧ ad.block < w.heap.size ∧ ∀ i v, (vals bs)[i]? = some v → w.cell? (ad.add i) = some v

theorem Src.kept {w w' : World} {P S : Nat → Prop} {A : Option Addr} {bs : List UInt8} (h : Src w P A bs) (ht : Turn S w w') (hS : ∀ k, P k → ¬ S k) : Src w' P A bs := by
  intro h0
  obtain ⟨ad, hA, hP, hlt, hc⟩ := h h0
  refine ⟨ad, hA, hP, Nat.lt_of_lt_of_le hlt ht.size, fun i v hv => (ht.cell (p := ad.add i) ?_ ?_).trans (hc i v hv)⟩
  · unfold Addr.add; split <;> exact hlt
  · unfold Addr.add; split <;> exact hS _ hP
theorem Src.mono {w : World} {P P' : Nat → Prop} {A : Option Addr} {bs : List UInt8} (h : Src w P A bs) (hp : ∀ k, k < w.heap.size → P k → P' k) : Src w P' A bs := by
  intro h0
  obtain ⟨ad, hA, hP, hlt, hc⟩ := h h0
  exact ⟨ad, hA, hp _ hlt hP, hlt, hc⟩
theorem add_add_at (a : Addr) (i j : Nat) : (a.add i).add j = a.add (i + j) := by
  unfold Addr.add
  by_cases hi : i = 0 <;> by_cases hj : j = 0 <;> simp [hi, hj, Nat.add_assoc]

/-- b[k:], k the first ones' number. -/
theorem run_cut (A : Option Addr) (n c k : Nat) (hk : k ≤ n) (hn : n ≤ c) : ∃ A', (∀ W : World, (Instr.slice 24 (.slice A n c) (some (.int .i64 (k : Int))) none none).run Tryz.prog W = .ok (.slice A' (n - k) (c - k)) W) ∧
    (0 < n - k → A' = A.map (·.add k)) := by
  refine ⟨if c = k then A else A.map (·.add (k * 1)), fun W => ?_, fun h => ?_⟩
  · have h1 : ¬ n < k := by omega
    simp [Instr.slice, run_underlying Tryz.underlying24, Instr.sliceBounds, Instr.sliceBound, asIntOf, h1]
  · rw [if_neg (by omega), Nat.mul_one]

/-- Nothing but draws. -/
def Quiet (w w' : World) : Prop := ∃ n, w' = w.drewN n
theorem Quiet.turn {w w' : World} (h : Quiet w w') : Turn (fun _ => False) w w' := by
  obtain ⟨n, rfl⟩ := h
  exact (Turn.refl _ _).drewN n
theorem Quiet.size {w w' : World} (h : Quiet w w') : w'.heap.size = w.heap.size := by
  obtain ⟨n, rfl⟩ := h
  rfl
/-- string(b). -/
theorem run_text {P : Nat → Prop} (w : World) (A : Option Addr) (bs : List UInt8) (n c : Nat) (hn : bs.length = n) (h : Src w P A bs) : (convert 24 9 (.slice A n c)).run Tryz.prog w = .ok (.string ⟨bs.toArray⟩) w := by
  subst hn
  cases A with
  | none =>
    have hb : bs = [] := by
      cases bs with
      | nil => rfl
      | cons b l => obtain ⟨ad, hA, _⟩ := h (by simp); cases hA
    subst hb
    exact Lib.run_convert_nil_bytes w 24 9 5 c Tryz.underlying24 Tryz.underlying5 Tryz.underlying9
  | some a =>
    refine run_convert_bytes_back w 24 9 5 a c bs Tryz.underlying24 Tryz.underlying5 Tryz.underlying9 fun j hj => ?_
    obtain ⟨ad, hA, _, _, hc⟩ := h (by omega)
    injection hA with hA
    subst hA
    refine hc j _ ?_
    rw [vals_get, List.getElem?_eq_getElem hj]
    rfl

theorem Is.src {w : World} {g : Nat} {bs : List UInt8} (h : Is w g 5 (vals bs)) (P : Nat → Prop) (hP : P g) : Src w P (some ⟨g, 0, none⟩) bs := by
  intro _
  refine ⟨_, rfl, hP, h.lt, fun i v hv => ?_⟩
  rw [add_at, Nat.zero_add, h.cell]
  exact hv


/-- The slice value v is the call's own, at block o (none: nil), and has the bytes bs. -/
def Own (w : World) (v : Value) (o : Option Nat) (bs : List UInt8) : Prop := w.ownsRow 0 5 1 v bs.length (vals bs) ∧ v.ownBlock = o

theorem Own.nil (w : World) : Own w (.slice none 0 0) none [] := ⟨⟨by simp [vals], .inl ⟨rfl, rfl⟩⟩, rfl⟩

theorem Own.lt {w : World} {v : Value} {o : Option Nat} {bs : List UInt8} (h : Own w v o bs) (k : Nat) (hk : o = some k) : k < w.heap.size :=
  (h.1.lt k (h.2.trans hk)).2

theorem Own.kept {w w' : World} {v : Value} {o : Option Nat} {bs : List UInt8} {S : Nat → Prop} (h : Own w v o bs) (ht : Turn S w w') (hS : ∀ k, o = some k → ¬ S k) : Own w' v o bs := by
  obtain ⟨⟨h1, h2⟩, h3⟩ := h
  refine ⟨⟨h1, ?_⟩, h3⟩
  rcases h2 with h2 | ⟨g, cap, cur, hv, hg, hh, r⟩
  · exact .inl h2
  · refine .inr ⟨g, cap, cur, hv, hg, ?_, r⟩
    have hlt : g < w.heap.size := (Array.getElem?_eq_some_iff.1 hh).1
    rw [ht.block g hlt (hS g (by rw [← h3, hv]; rfl))]
    exact hh

/-- Its outer form, and what it reads. -/
theorem Own.src {w : World} {v : Value} {o : Option Nat} {bs : List UInt8} (h : Own w v o bs) (P : Nat → Prop) (hP : ∀ k, o = some k → P k) : ∃ A c, v = .slice A bs.length c ∧ Src w P A bs := by
  obtain ⟨⟨h1, h2⟩, h3⟩ := h
  rcases h2 with ⟨hv, hn⟩ | ⟨g, cap, cur, hv, hg, hh, hnc, _, hsz, htk⟩
  · refine ⟨none, 0, by rw [hv, hn], fun h => ?_⟩
    omega
  · refine ⟨some ⟨g, 0, none⟩, cap, hv, fun _ => ⟨_, rfl, hP g (by rw [← h3, hv]; rfl), (Array.getElem?_eq_some_iff.1 hh).1, fun i u hu => ?_⟩⟩
    rw [add_at, Nat.zero_add, cell_of_row w g i cur 5 (0, 0) hh, ← Array.getElem?_toList]
    rw [← htk, List.getElem?_take] at hu
    split at hu
    · exact hu
    · cases hu

theorem byteParts : ∃ i, Tryz.prog.info? 5 = some i ∧ i.zero = some (.int .u8 0) ∧ i.size = 1 ∧ i.bytes = 1 := by
  obtain ⟨i, hi, h⟩ := Option.map_eq_some_iff.1 byteInfo
  simp only [Prod.mk.injEq] at h
  exact ⟨i, hi, h.1, h.2.1, h.2.2⟩

set_option maxRecDepth 100000 in
/-- append(v, b...). -/
theorem run_append_src {P : Nat → Prop} (w : World) (v : Value) (o : Option Nat) (bs news : List UInt8) (h : Own w v o bs) (A : Option Addr) (n c : Nat) (hn : news.length = n) (hs : Src w P A news) (hlen : bs.length + news.length ≤ 140737488355328) :
    ∃ (v' : Value) (w' : World) (o' : Option Nat), (Builtin.append_ #[24, 24] 24 #[v, .slice A n c]).run Tryz.prog w = .ok v' w' ∧ Own w' v' o' (bs ++ news) ∧ Turn (fun k => o = some k) w w' ∧ (o' = o ∨ o' = some w.heap.size) := by
  subst hn
  obtain ⟨i, hi, hz, hsz, hby⟩ := byteParts
  obtain ⟨hown, ho⟩ := h
  cases A with
  | none =>
    have hb : news = [] := by
      cases news with
      | nil => rfl
      | cons b l => obtain ⟨ad, hA, _⟩ := hs (by simp); cases hA
    subst hb
    refine ⟨v, w, o, ?_, by rw [List.append_nil]; exact ⟨hown, ho⟩, Turn.refl _ _, .inl rfl⟩
    rcases hown.2 with ⟨rfl, _⟩ | ⟨g, cap, cur, rfl, _, _, hnc, _⟩
    · simp [Builtin.append_, run_underlying Tryz.underlying24, sizeOf, typeInfo, hi, Builtin.lenOf, Builtin.firstCells]
    · simp [Builtin.append_, run_underlying Tryz.underlying24, sizeOf, typeInfo, hi, Builtin.lenOf, Builtin.firstCells, hnc, storeCells]
  | some a =>
    have hcells : ∀ j u, (vals news)[j]? = some u → w.cell? (a.add j) = some u := by
      intro j u hu
      have hj : j < news.length := by
        have := (List.getElem?_eq_some_iff.1 hu).1
        rwa [vals_length] at this
      obtain ⟨ad, hA, _, _, hc⟩ := hs (by omega)
      injection hA with hA
      subst hA
      exact hc j u hu
    obtain ⟨v', w', hrun, h2, h3, _, h5⟩ := run_append_own_at (P := Tryz.prog) w 0 24 24 5 i (.int .u8 0) 1 1 Tryz.underlying24 hi hz hsz hby rfl (by omega) v bs.length (vals bs) hown a news.length c (vals news)
      (by rw [vals_length, Nat.mul_one]) hcells (vals_one _) (by simp only [maxLen]; omega) (by omega) (Nat.zero_le _)
    refine ⟨v', w', v'.ownBlock, hrun, ⟨?_, rfl⟩, Turn.of_grown h3 (fun k hk => by rw [← ho]; exact hk), by rw [← ho]; exact h5⟩
    rw [List.length_append, vals_append]
    exact h2

/-- An append whose run is known, at its place in a walk. -/
theorem append_by {P : Program} {w : World} {ops : Array Oper} {rest : List Oper} {o : Oper} {a : Act} {Q : Exit → Act → World → Prop} (hgd : o.guard = none) (s x : Operand) (t : TypeId)
    (ho : o.op = .call { callee := .builtin .append, args := #[s, x], argTypes := #[t, t] }) (v xv v' : Value) (w' : World) (hs : a.eval s = v) (hx : a.eval x = xv)
    (hrun : (Builtin.append_ #[t, t] o.type #[v, xv]).run P w = .ok v' w') (h : wpList P ops Q rest (a.put o.dst v') w') : wpList P ops Q (o :: rest) a w := by
  refine wpList_plain hgd fun K hK => ?_
  unfold Oper.wp execOp
  simp only [ho, resolve, invoke, builtin, Sem.run_bind, Sem.run_pure, Result.andThen_ok, List.map_toArray, List.map_cons, List.map_nil, hs, hx, hrun]
  exact hK _ _ h

/-- &s[k]. -/
theorem run_at (t e : TypeId) (ht : Tryz.prog.underlying t = some (.slice e)) (hsz : (Tryz.prog.info? e).map (·.size) = some 1) (a : Addr) (n c k : Nat) (hk : k < n) (W : World) :
    (Instr.indexAt t (.slice (some a) n c) (.int .i64 (k : Int))).run Tryz.prog W = .ok (.pointer (some (a.add k))) W := by
  obtain ⟨i, hi, hs⟩ := Option.map_eq_some_iff.1 hsz
  have h2 : ¬ n ≤ k := by omega
  simp [Instr.indexAt, run_underlying ht, asIntOf, h2, sizeOf, typeInfo, hi, hs]
end Go.Proofs.YtdcbcjljmjnopaaGreatDoor
