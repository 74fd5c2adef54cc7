/-
  append(v, s...), s a text; append(v, c..), bytes laid down in a block of their own.
  Conditions: those that each theorem names.
-/
import Derived.Test.YtbkpiadbgpnhlaaDoorJ
import Derived.Test.YtbkpiadbgpnhlaaDoorBL
import Derived.Lib.AppendStr
namespace Go.Proofs.YtbkpiadbgpnhlaaDoor
open Go.RowKit

/-- An append of a text to bytes whose run is known, at its place in a walk. -/
theorem append_tx_by {P : Program} {w : World} {ops : Array Oper} {rest : List Oper} {o : Oper} {a : Act} {Q : Exit → Act → World → Prop} (hgd : o.guard = none) (s x : Operand) (t u : TypeId)
    (ho : o.op = .call { callee := .builtin .append, args := #[s, x], argTypes := #[t, u] }) (v xv v' : Value) (w' : World) (hs : a.eval s = v) (hx : a.eval x = xv)
    (hrun : (Builtin.append_ #[t, u] o.type #[v, xv]).run P w = .ok v' w') (h : wpList P ops Q rest (a.put o.dst v') w') : wpList P ops Q (o :: rest) a w := by
  refine wpList_plain hgd fun K hK => ?_
  unfold Oper.wp execOp
  simp only [ho, resolve, invoke, builtin, Sem.run_bind, Sem.run_pure, Result.andThen_ok, List.map_toArray, List.map_cons, List.map_nil, hs, hx, hrun]
  exact hK _ _ h
/-- append(v, s...), s a text. -/
theorem run_add_tx (B : Nat) (w : World) (v : Value) (o : Option Nat) (bs : List UInt8) (s : ByteArray) (h : Own w v o bs) (ho : ∀ b, o = some b → B ≤ b) (hB : B ≤ w.heap.size) (hlen : bs.length + s.size ≤ 140737488355328) :
    ∃ (v' : Value) (w' : World) (o' : Option Nat), (Builtin.append_ #[44, 9] 44 #[v, .string s]).run Tryd.prog w = .ok v' w' ∧ Own w' v' o' (bs ++ bl s) ∧ Turn (fun k => o = some k) w w' ∧ (∀ b, o' = some b → B ≤ b) := by
  obtain ⟨i, hi, hz, hsz, hby⟩ := byteParts
  obtain ⟨⟨h1, h2⟩, h3⟩ := h
  have hown : w.ownsRow B 5 1 v bs.length (vals bs) := by
    refine ⟨h1, ?_⟩
    rcases h2 with h2 | ⟨g, cap, cur, hv, _, r⟩
    · exact .inl h2
    · exact .inr ⟨g, cap, cur, hv, ho g (by rw [← h3, hv]; rfl), r⟩
  obtain ⟨v', w', hrun, h4, h5, _⟩ := Lib.run_append_own_string (P := Tryd.prog) w B 44 9 44 5 i Tryd.underlying44 Tryd.underlying9 hi hz hsz hby v bs.length (vals bs) hown s (by simp only [maxLen]; omega) hlen hB
  have hcells : Lib.strCells s = vals (bl s) := by simp [Lib.strCells, vals, YtbkpiadbgpnhlaaDoor.B, bl]
  refine ⟨v', w', v'.ownBlock, hrun, ⟨?_, rfl⟩, Turn.of_grown h5 (fun k hk => by rw [← h3]; exact hk), fun b hb => (h4.lt b hb).1⟩
  rw [hcells] at h4
  rw [List.length_append, vals_append, bl_length]
  obtain ⟨h6, h7⟩ := h4
  refine ⟨h6, ?_⟩
  rcases h7 with h7 | ⟨g, cap, cur, hv, _, r⟩
  · exact .inl h7
  · exact .inr ⟨g, cap, cur, hv, Nat.zero_le _, r⟩
theorem below_own {W w w' : World} {o : Option Nat} (hB : Below W.heap.size W w) (ho : ∀ b, o = some b → W.heap.size ≤ b) (ht : Turn (fun b => o = some b) w w') : Below W.heap.size W w' :=
  hB.trans ⟨ht.os, ht.tape, ht.output, ht.size, fun b hb => ht.block b (by have := hB.size; omega) (fun e => by have := ho b e; omega)⟩

/-- append(v, c..): bytes laid down in a block of their own. -/
theorem run_add_lit (B : Nat) (w : World) (v : Value) (o : Option Nat) (bs news : List UInt8) (h : Own w v o bs) (ho : ∀ b, o = some b → B ≤ b) (hB : B ≤ w.heap.size) (hlen : bs.length + news.length ≤ 140737488355328) (cur : Array Value) (hc : (vals news).toArray = cur) (n : Nat) (hn : news.length = n) :
    ∃ (v' : Value) (w' : World) (o' : Option Nat), (Builtin.append_ #[44, 44] 44 #[v, .slice (some ⟨w.heap.size, 0, none⟩) n n]).run Tryd.prog (w.alloc (.cells cur 5)) = .ok v' w' ∧ Own w' v' o' (bs ++ news) ∧ Turn (fun k => o = some k) w w' ∧ (∀ b, o' = some b → B ≤ b) := by
  subst hc
  have t0 : Turn (fun _ => False) w (w.alloc (.cells (vals news).toArray 5)) := (Turn.refl _ _).alloc _
  have hs := (Is.made w 5 (vals news)).src (fun _ => True) trivial
  obtain ⟨v', w', o', hrun, h2, h3, h4⟩ := run_append_src _ v o bs news (h.kept t0 (fun _ _ h => h)) _ n n hn hs hlen
  refine ⟨v', w', o', hrun, h2, (t0.mono (fun _ _ h => h.elim)).trans h3 (fun _ _ h => h), fun b hb => ?_⟩
  rcases h4 with h4 | h4
  · exact ho b (by rw [← h4]; exact hb)
  · rw [h4] at hb
    injection hb with hb
    have := t0.size
    omega
end Go.Proofs.YtbkpiadbgpnhlaaDoor
