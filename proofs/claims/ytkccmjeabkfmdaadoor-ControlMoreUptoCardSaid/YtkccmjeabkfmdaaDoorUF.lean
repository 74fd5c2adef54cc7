/-
  What package text's Quote, unescape and Unquote do, call by call.
  Conditions: those that each theorem names.
-/
import Derived.Test.YtkccmjeabkfmdaaDoorUE
import Derived.Test.YtkccmjeabkfmdaaDoorUC
import Derived.Lib.AppendStr
namespace Go.Proofs.YtkccmjeabkfmdaaDoor
open Go.RowKit

/-- An append of a text to bytes whose run is known, at its place in a walk. -/
theorem append_txt_by {P : Program} {w : World} {ops : Array Oper} {rest : List Oper} {o : Oper} {a : Act} {Q : Exit → Act → World → Prop} (hgd : o.guard = none) (s x : Operand) (t u : TypeId)
    (ho : o.op = .call { callee := .builtin .append, args := #[s, x], argTypes := #[t, u] }) (v xv v' : Value) (w' : World) (hs : a.eval s = v) (hx : a.eval x = xv)
    (hrun : (Builtin.append_ #[t, u] o.type #[v, xv]).run P w = .ok v' w') (h : wpList P ops Q rest (a.put o.dst v') w') : wpList P ops Q (o :: rest) a w := by
  refine wpList_plain hgd fun K hK => ?_
  unfold Oper.wp execOp
  simp only [ho, resolve, invoke, builtin, Sem.run_bind, Sem.run_pure, Result.andThen_ok, List.map_toArray, List.map_cons, List.map_nil, hs, hx, hrun]
  exact hK _ _ h

/-- append(v, s...), s a text. -/
theorem run_add_text (B : Nat) (w : World) (v : Value) (o : Option Nat) (bs : List UInt8) (s : ByteArray) (h : Own w v o bs) (ho : ∀ b, o = some b → B ≤ b) (hB : B ≤ w.heap.size) (hlen : bs.length + s.size ≤ 140737488355328) :
    ∃ (v' : Value) (w' : World) (o' : Option Nat), (Builtin.append_ #[36, 9] 36 #[v, .string s]).run Tryd.prog w = .ok v' w' ∧ Own w' v' o' (bs ++ bl s) ∧ Turn (fun k => o = some k) w w' ∧ (∀ b, o' = some b → B ≤ b) := by
  obtain ⟨i, hi, hz, hsz, hby⟩ := byteParts
  obtain ⟨⟨h1, h2⟩, h3⟩ := h
  have hown : w.ownsRow B 5 1 v bs.length (vals bs) := by
    refine ⟨h1, ?_⟩
    rcases h2 with h2 | ⟨g, cap, cur, hv, _, r⟩
    · exact .inl h2
    · exact .inr ⟨g, cap, cur, hv, ho g (by rw [← h3, hv]; rfl), r⟩
  obtain ⟨v', w', hrun, h4, h5, _⟩ := Lib.run_append_own_string (P := Tryd.prog) w B 36 9 36 5 i Tryd.underlying36 Tryd.underlying9 hi hz hsz hby v bs.length (vals bs) hown s (by simp only [maxLen]; omega) hlen hB
  have hcells : Lib.strCells s = vals (bl s) := by simp [Lib.strCells, vals, YtkccmjeabkfmdaaDoor.B, bl]
  refine ⟨v', w', v'.ownBlock, hrun, ⟨?_, rfl⟩, Turn.of_grown h5 (fun k hk => by rw [← h3]; exact hk), fun b hb => (h4.lt b hb).1⟩
  rw [hcells] at h4
  rw [List.length_append, vals_append, bl_length]
  obtain ⟨h6, h7⟩ := h4
  refine ⟨h6, ?_⟩
  rcases h7 with h7 | ⟨g, cap, cur, hv, _, r⟩
  · exact .inl h7
  · exact .inr ⟨g, cap, cur, hv, Nat.zero_le _, r⟩

theorem Own.ne_iter {w : World} {v : Value} {o : Option Nat} {bs : List UInt8} {g : Nat} {s : ByteArray} {k : Nat} (h : Own w v o bs) (hi : AtIter w g s k) : ¬ o = some g := by
  intro e
  obtain ⟨⟨_, h2⟩, h3⟩ := h
  rcases h2 with ⟨rfl, _⟩ | ⟨g', cap, cur, hv, _, hh, _⟩
  · rw [e] at h3
    cases h3
  · rw [e, hv] at h3
    have : g' = g := by
      have h3' : some g' = some g := h3
      exact Option.some.inj h3'
    subst this
    unfold AtIter at hi
    rw [hi] at hh
    cases hh

theorem quo_high : ∀ (x : List UInt8), (∀ c ∈ x, 128 ≤ c.toNat) → x.flatMap quoB = x
  | [], _ => rfl
  | c :: x, h => by
    have hc := h c (by simp)
    rw [List.flatMap_cons, quoB_no c (by omega), quo_high x (fun d hd => h d (by simp [hd]))]
    rfl
theorem quoTo_wide (s : ByteArray) (k n : Nat) (h : ∀ c ∈ ((bl s).drop k).take n, 128 ≤ c.toNat) : quoTo s (k + n) = quoTo s k ++ ((bl s).drop k).take n := by
  unfold quoTo
  rw [List.take_add, List.flatMap_append, quo_high _ h]
  rfl

def QRel (W : World) (s : ByteArray) (v vf : Value) (wx : World) : Prop :=
  ∃ (k f : Nat) (o : Option Nat) (bs : List UInt8), f ≤ k ∧ k ≤ s.size ∧ vf = .int .i64 (f : Int) ∧ AtIter wx (W.heap.size + 1) s k ∧ Own wx v o bs ∧ (∀ b, o = some b → W.heap.size ≤ b) ∧ Below W.heap.size W wx ∧ bs ++ piece s f k = quoTo s k
/-- What a step of the range leaves. -/
theorem QRel.next {W wr w1 : World} {g : Nat} {s : ByteArray} {k : Nat} {v : Value} {o : Option Nat} {bs : List UInt8} (hg : W.heap.size ≤ g) (hit : AtIter wr g s k) (t1 : Turn (· = g) wr w1) (hown : Own wr v o bs) (hB : Below W.heap.size W wr) :
    Own w1 v o bs ∧ Below W.heap.size W w1 :=
  ⟨hown.kept t1 (fun b hb e => hown.ne_iter hit (by rw [hb, e])), hB.trans ⟨t1.os, t1.tape, t1.output, t1.size, fun b hb => t1.block b (by have := hB.size; omega) (by omega)⟩⟩
/-- What an append leaves. -/
theorem QRel.add {W w1 w2 : World} {g : Nat} {s : ByteArray} {k : Nat} {v : Value} {o : Option Nat} {bs : List UInt8} (hit : AtIter w1 g s k) (hown : Own w1 v o bs) (ho : ∀ b, o = some b → W.heap.size ≤ b) (hB : Below W.heap.size W w1) (t2 : Turn (fun b => o = some b) w1 w2) :
    AtIter w2 g s k ∧ Below W.heap.size W w2 :=
  ⟨hit.kept t2 (hown.ne_iter hit), hB.trans ⟨t2.os, t2.tape, t2.output, t2.size, fun b hb => t2.block b (by have := hB.size; omega) (fun h => by have := ho b h; omega)⟩⟩
theorem quo_bound (s : ByteArray) (f k : Nat) (bs : List UInt8) (hk : k ≤ s.size) (h : bs ++ piece s f k = quoTo s k) : bs.length ≤ 2 * s.size + 1 ∧ (quoTo s k).length ≤ 2 * s.size + 1 := by
  have h1 := quoTo_length s k
  have h2 := congrArg List.length h
  rw [List.length_append] at h2
  omega

end Go.Proofs.YtkccmjeabkfmdaaDoor
