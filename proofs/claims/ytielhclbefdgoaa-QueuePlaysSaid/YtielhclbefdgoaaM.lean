/-
  Words for memory, more: a slice that a call appends to; an element's address.
  Conditions: those that each theorem names.
-/
import Derived.Test.YtielhclbefdgoaaJ
import Derived.Maps.AppendAt
import Derived.OwnWalk
namespace Go.Proofs.Ytielhclbefdgoaa
open Go.RowKit

/-- The slice value v is the call's own, at block o (none: nil), and has the bytes bs. -/
def Own (w : World) (v : Value) (o : Option Nat) (bs : List UInt8) : Prop := w.ownsRow 0 5 1 v bs.length (vals bs) ∧ v.ownBlock = o

theorem Own.nil (w : World) : Own w (.slice none 0 0) none [] := ⟨⟨by simp [vals], .inl ⟨rfl, rfl⟩⟩, rfl⟩

theorem Own.lt {w : World} {v : Value} {o : Option Nat} {bs : List UInt8} (h : Own w v o bs) (k : Nat) (hk : o = some k) : k < w.heap.size :=
  (h.1.lt k (h.2.trans hk)).2

theorem Own.kept {w w' : World} {v : Value} {o : Option Nat} {bs : List UInt8} {S : Nat → Prop} (h : Own w v o bs) (ht : Turn S w w') (hS : ∀ k, o = some k → ¬ S k) : Own w' v o bs := by
  obtain ⟨⟨h1, h2⟩, h3⟩ := h
  refine ⟨⟨h1, ?_⟩, h3⟩
  rcases h2 with h2 | ⟨g, cap, cur, hv, hg, hh, r⟩
  · exact .inl h2
  · refine .inr ⟨g, cap, cur, hv, hg, ?_, r⟩
    have hlt : g < w.heap.size := (Array.getElem?_eq_some_iff.1 hh).1
    rw [ht.block g hlt (hS g (by rw [← h3, hv]; rfl))]
    exact hh

/-- Its outer form, and what it reads. -/
theorem Own.src {w : World} {v : Value} {o : Option Nat} {bs : List UInt8} (h : Own w v o bs) (P : Nat → Prop) (hP : ∀ k, o = some k → P k) : ∃ A c, v = .slice A bs.length c ∧ Src w P A bs := by
  obtain ⟨⟨h1, h2⟩, h3⟩ := h
  rcases h2 with ⟨hv, hn⟩ | ⟨g, cap, cur, hv, hg, hh, hnc, _, hsz, htk⟩
  · refine ⟨none, 0, by rw [hv, hn], fun h => ?_⟩
    omega
  · refine ⟨some ⟨g, 0, none⟩, cap, hv, fun _ => ⟨_, rfl, hP g (by rw [← h3, hv]; rfl), (Array.getElem?_eq_some_iff.1 hh).1, fun i u hu => ?_⟩⟩
    rw [add_at, Nat.zero_add, cell_of_row w g i cur 5 (0, 0) hh, ← Array.getElem?_toList]
    rw [← htk, List.getElem?_take] at hu
    split at hu
    · exact hu
    · cases hu

theorem byteParts : ∃ i, Try.prog.info? 5 = some i ∧ i.zero = some (.int .u8 0) ∧ i.size = 1 ∧ i.bytes = 1 := by
  obtain ⟨i, hi, h⟩ := Option.map_eq_some_iff.1 byteInfo
  simp only [Prod.mk.injEq] at h
  exact ⟨i, hi, h.1, h.2.1, h.2.2⟩

/-- append(v, b...). -/
theorem run_append_src {P : Nat → Prop} (w : World) (v : Value) (o : Option Nat) (bs news : List UInt8) (h : Own w v o bs) (A : Option Addr) (n c : Nat) (hn : news.length = n) (hs : Src w P A news) (hlen : bs.length + news.length ≤ 140737488355328) :
    ∃ (v' : Value) (w' : World) (o' : Option Nat), (Builtin.append_ #[31, 31] 31 #[v, .slice A n c]).run Try.prog w = .ok v' w' ∧ Own w' v' o' (bs ++ news) ∧ Turn (fun k => o = some k) w w' ∧ (o' = o ∨ o' = some w.heap.size) := by
  subst hn
  obtain ⟨i, hi, hz, hsz, hby⟩ := byteParts
  obtain ⟨hown, ho⟩ := h
  cases A with
  | none =>
    have hb : news = [] := by
      cases news with
      | nil => rfl
      | cons b l => obtain ⟨ad, hA, _⟩ := hs (by simp); cases hA
    subst hb
    refine ⟨v, w, o, ?_, by rw [List.append_nil]; exact ⟨hown, ho⟩, Turn.refl _ _, .inl rfl⟩
    rcases hown.2 with ⟨rfl, _⟩ | ⟨g, cap, cur, rfl, _, _, hnc, _⟩
    · simp [Builtin.append_, run_underlying Try.underlying31, sizeOf, typeInfo, hi, Builtin.lenOf, Builtin.firstCells]
    · simp [Builtin.append_, run_underlying Try.underlying31, sizeOf, typeInfo, hi, Builtin.lenOf, Builtin.firstCells, hnc, storeCells]
  | some a =>
    have hcells : ∀ j u, (vals news)[j]? = some u → w.cell? (a.add j) = some u := by
      intro j u hu
      have hj : j < news.length := by
        have := (List.getElem?_eq_some_iff.1 hu).1
        rwa [vals_length] at this
      obtain ⟨ad, hA, _, _, hc⟩ := hs (by omega)
      injection hA with hA
      subst hA
      exact hc j u hu
    obtain ⟨v', w', hrun, h2, h3, _, h5⟩ := run_append_own_at (P := Try.prog) w 0 31 31 5 i (.int .u8 0) 1 1 Try.underlying31 hi hz hsz hby rfl (by omega) v bs.length (vals bs) hown a news.length c (vals news)
      (by rw [vals_length, Nat.mul_one]) hcells (vals_one _) (by simp only [maxLen]; omega) (by omega) (Nat.zero_le _)
    refine ⟨v', w', v'.ownBlock, hrun, ⟨?_, rfl⟩, Turn.of_grown h3 (fun k hk => by rw [← ho]; exact hk), by rw [← ho]; exact h5⟩
    rw [List.length_append, vals_append]
    exact h2

theorem equal_own (w : World) (v v' : Value) (o o' : Option Nat) (xs ys : List UInt8) (h : Own w v o xs) (h' : Own w v' o' ys) :
    Calls Try.prog 13 #[v, v'] w fun e w' => e = .returned (.bool (xs == ys)) ∧ w = w' := by
  obtain ⟨A, c, rfl, hs⟩ := h.src (fun _ => True) (fun _ _ => trivial)
  obtain ⟨A', c', rfl, hs'⟩ := h'.src (fun _ => True) (fun _ _ => trivial)
  exact equal_any w A A' xs ys _ _ c c' rfl rfl hs hs'

/-- An append whose run is known, at its place in a walk. -/
theorem append_by {P : Program} {w : World} {ops : Array Oper} {rest : List Oper} {o : Oper} {a : Act} {Q : Exit → Act → World → Prop} (hgd : o.guard = none) (s x : Operand) (t : TypeId)
    (ho : o.op = .call { callee := .builtin .append, args := #[s, x], argTypes := #[t, t] }) (v xv v' : Value) (w' : World) (hs : a.eval s = v) (hx : a.eval x = xv)
    (hrun : (Builtin.append_ #[t, t] o.type #[v, xv]).run P w = .ok v' w') (h : wpList P ops Q rest (a.put o.dst v') w') : wpList P ops Q (o :: rest) a w := by
  refine wpList_plain hgd fun K hK => ?_
  unfold Oper.wp execOp
  simp only [ho, resolve, invoke, builtin, Sem.run_bind, Sem.run_pure, Result.andThen_ok, List.map_toArray, List.map_cons, List.map_nil, hs, hx, hrun]
  exact hK _ _ h

/-- &s[k]. -/
theorem run_at (t e : TypeId) (ht : Try.prog.underlying t = some (.slice e)) (hsz : (Try.prog.info? e).map (·.size) = some 1) (a : Addr) (n c k : Nat) (hk : k < n) (W : World) :
    (Instr.indexAt t (.slice (some a) n c) (.int .i64 (k : Int))).run Try.prog W = .ok (.pointer (some (a.add k))) W := by
  obtain ⟨i, hi, hs⟩ := Option.map_eq_some_iff.1 hsz
  have h2 : ¬ n ≤ k := by omega
  simp [Instr.indexAt, run_underlying ht, asIntOf, h2, sizeOf, typeInfo, hi, hs]
end Go.Proofs.Ytielhclbefdgoaa
