/-
  A scope in which the run jumps to several labels.
  Conditions: those that each theorem names.
-/
import Derived.Test.YtbkpiadbgpnhlaaDoorWords
import Derived.Scope
import Derived.WalkMore
import Derived.ScopeJumps
namespace Go.Proofs.YtbkpiadbgpnhlaaDoor
open Go.RowKit

/-- As Q; by a goto to label l: J l. -/
def jumpTo (J : Nat → Act → World → Prop) (Q : Exit → Act → World → Prop) : Exit → Act → World → Prop
  | .goto l, a, w => J l a w
  | e, a, w => Q e a w

/-- An append whose run is known, at a step of a region that draws its order. -/
theorem step_append_by {P : Program} {w : World} {ops : Array Oper} {o : Oper} {a : Act} {K : Act → World → Prop} {Q : Exit → Act → World → Prop} {E : Prop} (hgd : o.guard = none) (s x : Operand) (t : TypeId)
    (ho : o.op = .call { callee := .builtin .append, args := #[s, x], argTypes := #[t, t] }) (v xv v' : Value) (w' : World) (hs : a.eval s = v) (hx : a.eval x = xv)
    (hrun : (Builtin.append_ #[t, t] o.type #[v, xv]).run P w = .ok v' w') (h : K (a.put o.dst v') w') : if Region.wanted o (yielded ops a.tmps) = true then Oper.wp P o a w K Q else E := by
  have hw : Region.wanted o (yielded ops a.tmps) = true := by simp [Region.wanted, hgd]
  rw [if_pos hw]
  unfold Oper.wp execOp
  simp only [ho, resolve, invoke, builtin, Sem.run_bind, Sem.run_pure, Result.andThen_ok, List.map_toArray, List.map_cons, List.map_nil, hs, hx, hrun]
  exact h

section
variable {P : Program} {a : Act} {w : World} {Q : Exit → Act → World → Prop} {J : Nat → Act → World → Prop}
theorem jumpTo_goto (l : Nat) : jumpTo J Q (.goto l) a w = J l a w := rfl
theorem jumpTo_ret : jumpTo J Q .ret a w = Q .ret a w := rfl
theorem jumpTo_normal : jumpTo J Q .normal a w = Q .normal a w := rfl

/-- Several labels; J says what holds at a jump to each one, and how much is left. -/
theorem wp_scope_labels {c : Code} (J : Nat → Nat → Act → World → Prop) (first : c.wp P (jumpTo (fun l a w => ∃ m, J l m a w) Q) a w)
    (pass : ∀ l m a w, J l m a w → ∃ rest, findLabel c l = some rest ∧ rest.wp P (jumpTo (fun l' a' w' => ∃ m', m' < m ∧ J l' m' a' w') Q) a w) : (Code.scope c).wp P Q a w := by
  intro b k cs
  have hg : ∀ l rest, findLabel c l = some rest → gotoIn l (.inScope c :: k) = some (.code rest :: .inScope c :: k) := fun l rest hf => by simp [gotoIn, hf]
  have key : ∀ n l rest a w, findLabel c l = some rest → J l n a w → ∃ e a' w', Q e a' w' ∧ Arrives P (lone (b.at a (.code rest :: .inScope c :: k)) cs w) b k cs e a' w' := by
    intro n
    induction n using Nat.strongRecOn with
    | _ n ih =>
      intro l rest a w hf hJ
      obtain ⟨rest', hf', hp⟩ := pass l n a w hJ
      obtain rfl : rest' = rest := Option.some.inj (hf'.symm.trans hf)
      obtain ⟨e, a₁, w₁, hq, harr⟩ := hp b (.inScope c :: k) cs
      cases e with
      | normal => exact ⟨.normal, a₁, w₁, hq, Steps.trans harr (.one step_inScope)⟩
      | exit id => exact ⟨.exit id, a₁, w₁, hq, fun k' hk => harr k' (by simp [exitTo, hk])⟩
      | goto l' =>
        obtain ⟨m', hlt, hJ'⟩ := hq
        obtain ⟨rest2, hf2, _⟩ := pass l' m' a₁ w₁ hJ'
        obtain ⟨e₂, a₂, w₂, hq₂, harr₂⟩ := ih m' hlt l' rest2 a₁ w₁ hf2 hJ'
        exact ⟨e₂, a₂, w₂, hq₂, .of_steps (harr _ (hg l' rest2 hf2)) harr₂⟩
      | ret => exact ⟨_, a₁, w₁, hq, harr⟩
      | panic ch => exact ⟨_, a₁, w₁, hq, harr⟩
      | outgrown => exact ⟨_, a₁, w₁, hq, harr⟩
  obtain ⟨e, a₁, w₁, hq, harr⟩ := first b (.inScope c :: k) cs
  cases e with
  | normal => exact ⟨.normal, a₁, w₁, hq, .head step_scope (Steps.trans harr (.one step_inScope))⟩
  | exit id => exact ⟨.exit id, a₁, w₁, hq, fun k' hk => .head step_scope (harr k' (by simp [exitTo, hk]))⟩
  | goto l' =>
    obtain ⟨m, hJ'⟩ := hq
    obtain ⟨rest2, hf2, _⟩ := pass l' m a₁ w₁ hJ'
    obtain ⟨e₂, a₂, w₂, hq₂, harr₂⟩ := key m l' rest2 a₁ w₁ hf2 hJ'
    exact ⟨e₂, a₂, w₂, hq₂, .of_steps (.head step_scope (harr _ (hg l' rest2 hf2))) harr₂⟩
  | ret => exact ⟨_, a₁, w₁, hq, .of_steps (.one step_scope) harr⟩
  | panic ch => exact ⟨_, a₁, w₁, hq, .of_steps (.one step_scope) harr⟩
  | outgrown => exact ⟨_, a₁, w₁, hq, .of_steps (.one step_scope) harr⟩

/-- From a label on, whatever holds there: out, or to a label with less left. -/
def Pass (P : Program) (c : Code) (Q : Exit → Act → World → Prop) (J : Nat → Nat → Act → World → Prop) (l : Nat) : Prop :=
  ∀ m a w, J l m a w → ∃ rest, findLabel c l = some (.seq .skip rest) ∧ rest.wp P (jumpTo (fun l' a' w' => ∃ m', m' < m ∧ J l' m' a' w') Q) a w
theorem Pass.less {c rest : Code} {J : Nat → Nat → Act → World → Prop} {l m m' : Nat} (h : Pass P c Q J l) (hf : findLabel c l = some (.seq .skip rest)) (hm : m' ≤ m) (hJ : J l m' a w) : rest.wp P (jumpTo (fun l' a' w' => ∃ k, k < m ∧ J l' k a' w') Q) a w := by
  obtain ⟨r, hr, hw⟩ := h m' a w hJ
  obtain rfl : r = rest := by
    have := hr.symm.trans hf
    simp only [Option.some.injEq, Code.seq.injEq, true_and] at this
    exact this
  refine Code.wp_mono (fun e a w hq => ?_) hw
  cases e with
  | goto l' => obtain ⟨k, hk, hj⟩ := hq; exact ⟨k, by omega, hj⟩
  | _ => exact hq
theorem Pass.begin {c rest : Code} {J : Nat → Nat → Act → World → Prop} {l m : Nat} (h : Pass P c Q J l) (hf : findLabel c l = some (.seq .skip rest)) (hJ : J l m a w) : rest.wp P (jumpTo (fun l' a' w' => ∃ k, J l' k a' w') Q) a w := by
  refine Code.wp_mono (fun e a w hq => ?_) (h.less hf (Nat.le_refl m) hJ)
  cases e with
  | goto l' => obtain ⟨k, _, hj⟩ := hq; exact ⟨k, hj⟩
  | _ => exact hq
theorem Pass.whole {c : Code} {J : Nat → Nat → Act → World → Prop} {l m : Nat} (h : Pass P c Q J l) (hJ : J l m a w) : ∃ rest, findLabel c l = some rest ∧ rest.wp P (jumpTo (fun l' a' w' => ∃ m', m' < m ∧ J l' m' a' w') Q) a w := by
  obtain ⟨r, hr, hw⟩ := h m a w hJ
  exact ⟨_, hr, wp_seq (wp_skip hw)⟩
/-- Four labels; the run falls into label 0, and from there into label 2. -/
theorem wp_scope_four {c : Code} (J : Nat → Nat → Act → World → Prop) (hJ : ∀ l m a w, J l m a w → l < 4) (p1 : Pass P c Q J 1) (p2 : Pass P c Q J 2) (p3 : Pass P c Q J 3) (p0 : Pass P c Q J 2 → Pass P c Q J 0)
    (first : Pass P c Q J 0 → c.wp P (jumpTo (fun l a w => ∃ m, J l m a w) Q) a w) : (Code.scope c).wp P Q a w := by
  refine wp_scope_labels J (first (p0 p2)) fun l m a w h => ?_
  have hl := hJ l m a w h
  match l, hl, h with
  | 0, _, h => exact (p0 p2).whole h
  | 1, _, h => exact p1.whole h
  | 2, _, h => exact p2.whole h
  | 3, _, h => exact p3.whole h
end
end Go.Proofs.YtbkpiadbgpnhlaaDoor
