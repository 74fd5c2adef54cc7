/-
  append(v, s...), s a text; append(v, c..), bytes laid down in a block of their own.
  Conditions: those that each theorem names.
-/
import Derived.Test.YtemgfppclakdmaaGreatDoorWords
import Derived.Scope
import Derived.WalkMore
import Derived.ScopeJumps
import Derived.Test.YtemgfppclakdmaaGreatDoorBL
import Derived.Lib.AppendStr
namespace Go.Proofs.YtemgfppclakdmaaGreatDoor
open Go.RowKit

/-- As Q; by a goto to label l: J l. -/
def jumpTo (J : Nat → Act → World → Prop) (Q : Exit → Act → World → Prop) : Exit → Act → World → Prop
  | .goto l, a, w => J l a w
  | e, a, w => Q e a w

/-- An append whose run is known, at a step of a region that draws its order. -/
theorem step_append_by {P : Program} {w : World} {ops : Array Oper} {o : Oper} {a : Act} {K : Act → World → Prop} {Q : Exit → Act → World → Prop} {E : Prop} (hgd : o.guard = none) (s x : Operand) (t : TypeId)
    (ho : o.op = .call { callee := .builtin .append, args := #[s, x], argTypes := #[t, t] }) (v xv v' : Value) (w' : World) (hs : a.eval s = v) (hx : a.eval x = xv)
    (hrun : (Builtin.append_ #[t, t] o.type #[v, xv]).run P w = .ok v' w') (h : K (a.put o.dst v') w') : if Region.wanted o (yielded ops a.tmps) = true then Oper.wp P o a w K Q else E := by
  have hw : Region.wanted o (yielded ops a.tmps) = true := by simp [Region.wanted, hgd]
  rw [if_pos hw]
  unfold Oper.wp execOp
  simp only [ho, resolve, invoke, builtin, Sem.run_bind, Sem.run_pure, Result.andThen_ok, List.map_toArray, List.map_cons, List.map_nil, hs, hx, hrun]
  exact h

section
variable {P : Program} {a : Act} {w : World} {Q : Exit → Act → World → Prop} {J : Nat → Act → World → Prop}
theorem jumpTo_goto (l : Nat) : jumpTo J Q (.goto l) a w = J l a w := rfl
theorem jumpTo_ret : jumpTo J Q .ret a w = Q .ret a w := rfl
theorem jumpTo_normal : jumpTo J Q .normal a w = Q .normal a w := rfl

/-- Several labels; J says what holds at a jump to each one, and how much is left. -/
theorem wp_scope_labels {c : Code} (J : Nat → Nat → Act → World → Prop) (first : c.wp P (jumpTo (fun l a w => ∃ m, J l m a w) Q) a w)
    (pass : ∀ l m a w, J l m a w → ∃ rest, findLabel c l = some rest ∧ rest.wp P (jumpTo (fun l' a' w' => ∃ m', m' < m ∧ J l' m' a' w') Q) a w) : (Code.scope c).wp P Q a w := by
  intro b k cs
  have hg : ∀ l rest, findLabel c l = some rest → gotoIn l (.inScope c :: k) = some (.code rest :: .inScope c :: k) := fun l rest hf => by simp [gotoIn, hf]
  have key : ∀ n l rest a w, findLabel c l = some rest → J l n a w → ∃ e a' w', Q e a' w' ∧ Arrives P (lone (b.at a (.code rest :: .inScope c :: k)) cs w) b k cs e a' w' := by
    intro n
    induction n using Nat.strongRecOn with
    | _ n ih =>
      intro l rest a w hf hJ
      obtain ⟨rest', hf', hp⟩ := pass l n a w hJ
      obtain rfl : rest' = rest := Option.some.inj (hf'.symm.trans hf)
      obtain ⟨e, a₁, w₁, hq, harr⟩ := hp b (.inScope c :: k) cs
      cases e with
      | normal => exact ⟨.normal, a₁, w₁, hq, Steps.trans harr (.one step_inScope)⟩
      | exit id => exact ⟨.exit id, a₁, w₁, hq, fun k' hk => harr k' (by simp [exitTo, hk])⟩
      | goto l' =>
        obtain ⟨m', hlt, hJ'⟩ := hq
        obtain ⟨rest2, hf2, _⟩ := pass l' m' a₁ w₁ hJ'
        obtain ⟨e₂, a₂, w₂, hq₂, harr₂⟩ := ih m' hlt l' rest2 a₁ w₁ hf2 hJ'
        exact ⟨e₂, a₂, w₂, hq₂, .of_steps (harr _ (hg l' rest2 hf2)) harr₂⟩
      | ret => exact ⟨_, a₁, w₁, hq, harr⟩
      | panic ch => exact ⟨_, a₁, w₁, hq, harr⟩
      | outgrown => exact ⟨_, a₁, w₁, hq, harr⟩
  obtain ⟨e, a₁, w₁, hq, harr⟩ := first b (.inScope c :: k) cs
  cases e with
  | normal => exact ⟨.normal, a₁, w₁, hq, .head step_scope (Steps.trans harr (.one step_inScope))⟩
  | exit id => exact ⟨.exit id, a₁, w₁, hq, fun k' hk => .head step_scope (harr k' (by simp [exitTo, hk]))⟩
  | goto l' =>
    obtain ⟨m, hJ'⟩ := hq
    obtain ⟨rest2, hf2, _⟩ := pass l' m a₁ w₁ hJ'
    obtain ⟨e₂, a₂, w₂, hq₂, harr₂⟩ := key m l' rest2 a₁ w₁ hf2 hJ'
    exact ⟨e₂, a₂, w₂, hq₂, .of_steps (.head step_scope (harr _ (hg l' rest2 hf2))) harr₂⟩
  | ret => exact ⟨_, a₁, w₁, hq, .of_steps (.one step_scope) harr⟩
  | panic ch => exact ⟨_, a₁, w₁, hq, .of_steps (.one step_scope) harr⟩
  | outgrown => exact ⟨_, a₁, w₁, hq, .of_steps (.one step_scope) harr⟩

/-- From a label on, whatever holds there: out, or to a label with less left. -/
def Pass (P : Program) (c : Code) (Q : Exit → Act → World → Prop) (J : Nat → Nat → Act → World → Prop) (l : Nat) : Prop :=
  ∀ m a w, J l m a w → ∃ rest, findLabel c l = some (.seq .skip rest) ∧ rest.wp P (jumpTo (fun l' a' w' => ∃ m', m' < m ∧ J l' m' a' w') Q) a w
theorem Pass.less {c rest : Code} {J : Nat → Nat → Act → World → Prop} {l m m' : Nat} (h : Pass P c Q J l) (hf : findLabel c l = some (.seq .skip rest)) (hm : m' ≤ m) (hJ : J l m' a w) : rest.wp P (jumpTo (fun l' a' w' => ∃ k, k < m ∧ J l' k a' w') Q) a w := by
  obtain ⟨r, hr, hw⟩ := h m' a w hJ
  obtain rfl : r = rest := by
    have := hr.symm.trans hf
    simp only [Option.some.injEq, Code.seq.injEq, true_and] at this
    exact this
  refine Code.wp_mono (fun e a w hq => ?_) hw
  cases e with
  | goto l' => obtain ⟨k, hk, hj⟩ := hq; exact ⟨k, by omega, hj⟩
  | _ => exact hq
theorem Pass.begin {c rest : Code} {J : Nat → Nat → Act → World → Prop} {l m : Nat} (h : Pass P c Q J l) (hf : findLabel c l = some (.seq .skip rest)) (hJ : J l m a w) : rest.wp P (jumpTo (fun l' a' w' => ∃ k, J l' k a' w') Q) a w := by
  refine Code.wp_mono (fun e a w hq => ?_) (h.less hf (Nat.le_refl m) hJ)
  cases e with
  | goto l' => obtain ⟨k, _, hj⟩ := hq; exact ⟨k, hj⟩
  | _ => exact hq
theorem Pass.whole {c : Code} {J : Nat → Nat → Act → World → Prop} {l m : Nat} (h : Pass P c Q J l) (hJ : J l m a w) : ∃ rest, findLabel c l = some rest ∧ rest.wp P (jumpTo (fun l' a' w' => ∃ m', m' < m ∧ J l' m' a' w') Q) a w := by
  obtain ⟨r, hr, hw⟩ := h m a w hJ
  exact ⟨_, hr, wp_seq (wp_skip hw)⟩
/-- Four labels; the run falls into label 0, and from there into label 2. -/
theorem wp_scope_four {c : Code} (J : Nat → Nat → Act → World → Prop) (hJ : ∀ l m a w, J l m a w → l < 4) (p1 : Pass P c Q J 1) (p2 : Pass P c Q J 2) (p3 : Pass P c Q J 3) (p0 : Pass P c Q J 2 → Pass P c Q J 0)
    (first : Pass P c Q J 0 → c.wp P (jumpTo (fun l a w => ∃ m, J l m a w) Q) a w) : (Code.scope c).wp P Q a w := by
  refine wp_scope_labels J (first (p0 p2)) fun l m a w h => ?_
  have hl := hJ l m a w h
  match l, hl, h with
  | 0, _, h => exact (p0 p2).whole h
  | 1, _, h => exact p1.whole h
  | 2, _, h => exact p2.whole h
  | 3, _, h => exact p3.whole h
end
end Go.Proofs.YtemgfppclakdmaaGreatDoor

namespace Go.Proofs.YtemgfppclakdmaaGreatDoor
open Go.RowKit

/-- An append of a text to bytes whose run is known, at its place in a walk. -/
theorem append_tx_by {P : Program} {w : World} {ops : Array Oper} {rest : List Oper} {o : Oper} {a : Act} {Q : Exit → Act → World → Prop} (hgd : o.guard = none) (s x : Operand) (t u : TypeId)
    (ho : o.op = .call { callee := .builtin .append, args := #[s, x], argTypes := #[t, u] }) (v xv v' : Value) (w' : World) (hs : a.eval s = v) (hx : a.eval x = xv)
    (hrun : (Builtin.append_ #[t, u] o.type #[v, xv]).run P w = .ok v' w') (h : wpList P ops Q rest (a.put o.dst v') w') : wpList P ops Q (o :: rest) a w := by
  refine wpList_plain hgd fun K hK => ?_
  unfold Oper.wp execOp
  simp only [ho, resolve, invoke, builtin, Sem.run_bind, Sem.run_pure, Result.andThen_ok, List.map_toArray, List.map_cons, List.map_nil, hs, hx, hrun]
  exact hK _ _ h
/-- append(v, s...), s a text. -/
theorem run_add_tx (B : Nat) (w : World) (v : Value) (o : Option Nat) (bs : List UInt8) (s : ByteArray) (h : Own w v o bs) (ho : ∀ b, o = some b → B ≤ b) (hB : B ≤ w.heap.size) (hlen : bs.length + s.size ≤ 140737488355328) :
    ∃ (v' : Value) (w' : World) (o' : Option Nat), (Builtin.append_ #[22, 9] 22 #[v, .string s]).run Tryz.prog w = .ok v' w' ∧ Own w' v' o' (bs ++ bl s) ∧ Turn (fun k => o = some k) w w' ∧ (∀ b, o' = some b → B ≤ b) := by
  obtain ⟨i, hi, hz, hsz, hby⟩ := byteParts
  obtain ⟨⟨h1, h2⟩, h3⟩ := h
  have hown : w.ownsRow B 5 1 v bs.length (vals bs) := by
    refine ⟨h1, ?_⟩
    rcases h2 with h2 | ⟨g, cap, cur, hv, _, r⟩
    · exact .inl h2
    · exact .inr ⟨g, cap, cur, hv, ho g (by rw [← h3, hv]; rfl), r⟩
  obtain ⟨v', w', hrun, h4, h5, _⟩ := Lib.run_append_own_string (P := Tryz.prog) w B 22 9 22 5 i Tryz.underlying22 Tryz.underlying9 hi hz hsz hby v bs.length (vals bs) hown s (by simp only [maxLen]; omega) hlen hB
  have hcells : Lib.strCells s = vals (bl s) := by simp [Lib.strCells, vals, YtemgfppclakdmaaGreatDoor.B, bl]
  refine ⟨v', w', v'.ownBlock, hrun, ⟨?_, rfl⟩, Turn.of_grown h5 (fun k hk => by rw [← h3]; exact hk), fun b hb => (h4.lt b hb).1⟩
  rw [hcells] at h4
  rw [List.length_append, vals_append, bl_length]
  obtain ⟨h6, h7⟩ := h4
  refine ⟨h6, ?_⟩
  rcases h7 with h7 | ⟨g, cap, cur, hv, _, r⟩
  · exact .inl h7
  · exact .inr ⟨g, cap, cur, hv, Nat.zero_le _, r⟩
theorem below_own {W w w' : World} {o : Option Nat} (hB : Below W.heap.size W w) (ho : ∀ b, o = some b → W.heap.size ≤ b) (ht : Turn (fun b => o = some b) w w') : Below W.heap.size W w' :=
  hB.trans ⟨ht.os, ht.tape, ht.output, ht.size, fun b hb => ht.block b (by have := hB.size; omega) (fun e => by have := ho b e; omega)⟩

/-- append(v, c..): bytes laid down in a block of their own. -/
theorem run_add_lit (B : Nat) (w : World) (v : Value) (o : Option Nat) (bs news : List UInt8) (h : Own w v o bs) (ho : ∀ b, o = some b → B ≤ b) (hB : B ≤ w.heap.size) (hlen : bs.length + news.length ≤ 140737488355328) (cur : Array Value) (hc : (vals news).toArray = cur) (n : Nat) (hn : news.length = n) :
    ∃ (v' : Value) (w' : World) (o' : Option Nat), (Builtin.append_ #[22, 22] 22 #[v, .slice (some ⟨w.heap.size, 0, none⟩) n n]).run Tryz.prog (w.alloc (.cells cur 5)) = .ok v' w' ∧ Own w' v' o' (bs ++ news) ∧ Turn (fun k => o = some k) w w' ∧ (∀ b, o' = some b → B ≤ b) := by
  subst hc
  have t0 : Turn (fun _ => False) w (w.alloc (.cells (vals news).toArray 5)) := (Turn.refl _ _).alloc _
  have hs := (Is.made w 5 (vals news)).src (fun _ => True) trivial
  obtain ⟨v', w', o', hrun, h2, h3, h4⟩ := run_append_src _ v o bs news (h.kept t0 (fun _ _ h => h)) _ n n hn hs hlen
  refine ⟨v', w', o', hrun, h2, (t0.mono (fun _ _ h => h.elim)).trans h3 (fun _ _ h => h), fun b hb => ?_⟩
  rcases h4 with h4 | h4
  · exact ho b (by rw [← h4]; exact hb)
  · rw [h4] at hb
    injection hb with hb
    have := t0.size
    omega
end Go.Proofs.YtemgfppclakdmaaGreatDoor
