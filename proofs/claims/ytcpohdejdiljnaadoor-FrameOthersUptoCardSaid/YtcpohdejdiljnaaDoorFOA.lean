/-
  Plain mathematics of P7.4: order, other fields, how names are written.
  Conditions: those that each theorem names.
-/
import Derived.Test.YtcpohdejdiljnaaDoorFOB
namespace Go.Proofs.YtcpohdejdiljnaaDoor
open Go.RowKit

theorem flatMap_perm {α β : Type} (f : α → List β) : ∀ {a b : List α}, a.Perm b → (a.flatMap f).Perm (b.flatMap f) := by
  intro a b h
  induction h with
  | nil => exact List.Perm.refl _
  | cons x _ ih => rw [List.flatMap_cons, List.flatMap_cons]; exact ih.append_left _
  | swap x y l =>
    rw [List.flatMap_cons, List.flatMap_cons, List.flatMap_cons, List.flatMap_cons, ← List.append_assoc, ← List.append_assoc]
    exact List.perm_append_comm.append_right _
  | trans _ _ h1 h2 => exact h1.trans h2
theorem all_perm {α : Type} (p : α → Bool) {a b : List α} (h : a.Perm b) : a.all p = b.all p := by
  rw [Bool.eq_iff_iff, List.all_eq_true, List.all_eq_true]
  exact ⟨fun k x hx => k x (h.mem_iff.2 hx), fun k x hx => k x (h.mem_iff.1 hx)⟩
theorem elsF_perm {a b : List (List UInt8)} (h : a.Perm b) : (elsF a).Perm (elsF b) := flatMap_perm listF h
theorem codF_perm (mi : Int) {a b : List (List UInt8)} (h : a.Perm b) : codF mi a = codF mi b := by
  unfold codF
  rw [h.length_eq, all_perm isChk h]
theorem sure_first {xs ys : List (List UInt8)} (h : xs.Perm ys) (hs : sureL xs = true) (hn : xs ≠ []) : sureL ys = true ∧ firstF ys = firstF xs := by
  unfold sureL at hs
  rw [List.all_eq_true] at hs
  cases ys with
  | nil => exact absurd h.eq_nil hn
  | cons y r =>
    have hy : rdF y = firstF xs := by
      have := hs y (h.mem_iff.2 (List.mem_cons_self ..))
      unfold okL at this
      rw [Bool.and_eq_true] at this
      exact eq_of_beq this.1
    have e : firstF (y :: r) = firstF xs := hy
    refine ⟨?_, e⟩
    unfold sureL
    rw [e, List.all_eq_true]
    exact fun z hz => hs z (h.mem_iff.2 hz)
theorem lenF_perm {xs ys : List (List UInt8)} (h : xs.Perm ys) : lenF xs = lenF ys := by
  unfold lenF
  by_cases hn : xs = []
  · subst hn
    rw [h.symm.eq_nil]
  · have hl := h.length_eq
    have hx : xs.length ≠ 0 := fun k => hn (List.eq_nil_of_length_eq_zero k)
    have hy : ys ≠ [] := fun k => hn (by subst k; exact h.eq_nil)
    cases hs : sureL xs with
    | true =>
      obtain ⟨h1, h2⟩ := sure_first h hs hn
      rw [h1, h2, hl]
    | false =>
      have hs' : sureL ys = false := by
        cases hz : sureL ys with
        | false => rfl
        | true =>
          have := (sure_first h.symm hz hy).1
          rw [hs] at this
          exact this.symm
      rw [hs', if_pos (.inr rfl), if_pos (.inr rfl)]
theorem perm_nil {a b : List (List UInt8)} (h : a.Perm b) : (a ≠ []) = (b ≠ []) := by
  rw [eq_iff_iff]
  exact ⟨fun k e => k (by subst e; exact h.eq_nil), fun k e => k (by subst e; exact h.symm.eq_nil)⟩
theorem reqK_perm (mi : Int) {l ls : List Fld} (h1 : (getF l lenN).Perm (getF ls lenN)) (h2 : (getF l codN).Perm (getF ls codN)) : reqK mi l = reqK mi ls := by
  unfold reqK
  simp only [perm_nil h1, perm_nil h2, codF_perm mi (elsF_perm h2), lenF_perm (elsF_perm h1)]

theorem getF_app (a b : List Fld) (nm : List UInt8) : getF (a ++ b) nm = getF a nm ++ getF b nm := by unfold getF; rw [List.filter_append, List.map_append]
theorem getF_rev (ls : List Fld) (nm : List UInt8) : getF ls.reverse nm = (getF ls nm).reverse := by unfold getF; rw [List.filter_reverse, List.map_reverse]
theorem bulkF_rev (ls : List Fld) : bulkF ls.reverse = bulkF ls := by unfold bulkF; rw [List.map_reverse, List.sum_reverse]
theorem bulkF_take (ls : List Fld) (k : Nat) : bulkF (ls.take k) ≤ bulkF ls := by
  have := bulkF_app (ls.take k) (ls.drop k)
  rw [List.take_append_drop] at this
  omega
/-- A field that is no length's and no coding's. -/
def freeF (g : Fld) : Bool := !(lowF g.1 == lowF lenN) && !(lowF g.1 == lowF codN)
def upFld (f : Fld) : Fld := (upF f.1, f.2)
def freeG : Option Fld → List Fld
  | some g => if freeF g = true then [g] else []
  | none => []
def upG : Option Fld → List Fld
  | some f => [upFld f]
  | none => []
/-- Others laid among a message's own, the names written large. -/
def mixF (ls others : List Fld) : Nat → List Fld
  | 0 => []
  | k + 1 => mixF ls others k ++ (freeG others[k]? ++ upG ls[k]?)
theorem getF_one (f : Fld) (nm : List UInt8) : getF [f] nm = if sameN nm f = true then [f.2] else [] := by unfold getF; rw [List.filter_cons]; split <;> rfl
theorem free_get (g : Fld) (h : freeF g = true) (nm : List UInt8) (hn : nm = lenN ∨ nm = codN) : getF [g] nm = [] := by
  unfold freeF at h
  rw [Bool.and_eq_true] at h
  rw [getF_one, if_neg]
  unfold sameN
  rcases hn with rfl | rfl
  · simpa using h.1
  · simpa using h.2
theorem up_get (f : Fld) (nm : List UInt8) : getF [upFld f] nm = getF [f] nm := by
  rw [getF_one, getF_one]
  unfold sameN upFld
  simp only
  rw [low_upF]
theorem mix_get (ls others : List Fld) (nm : List UInt8) (hn : nm = lenN ∨ nm = codN) : ∀ k, k ≤ ls.length → getF (mixF ls others k) nm = getF (ls.take k) nm
  | 0, _ => by simp [mixF]
  | k + 1, hk => by
    obtain ⟨f, hf⟩ : ∃ f, ls[k]? = some f := ⟨ls[k]'(by omega), List.getElem?_eq_getElem _⟩
    have ih := mix_get ls others nm hn k (by omega)
    rw [mixF, hf, take_snoc ls k f hf, getF_app, getF_app, getF_app, ih, show upG (some f) = [upFld f] from rfl, up_get]
    congr 1
    cases others[k]? with
    | none => rfl
    | some g =>
      unfold freeG
      simp only
      split
      · next h => rw [free_get g h nm hn]; rfl
      · rfl
theorem upF_length (l : List UInt8) : (upF l).length = l.length := by simp [upF]
theorem mix_bulk (ls others : List Fld) : ∀ k, bulkF (mixF ls others k) ≤ bulkF (ls.take k) + bulkF (others.take k)
  | 0 => Nat.zero_le _
  | k + 1 => by
    have ih := mix_bulk ls others k
    rw [mixF, bulkF_app, bulkF_app]
    have h1 : bulkF (ls.take k) + bulkF (upG ls[k]?) ≤ bulkF (ls.take (k + 1)) := by
      cases hf : ls[k]? with
      | none =>
        have : ls.take (k + 1) = ls.take k := by
          rw [List.getElem?_eq_none_iff] at hf
          rw [List.take_of_length_le hf, List.take_of_length_le (by omega)]
        rw [this]
        exact Nat.le_refl _
      | some f =>
        rw [take_snoc ls k f hf, bulkF_app]
        show _ + ((upF f.1).length + f.2.length + 3 + 0) ≤ _ + (f.1.length + f.2.length + 3 + 0)
        rw [upF_length]
        exact Nat.le_refl _
    have h2 : bulkF (others.take k) + bulkF (freeG others[k]?) ≤ bulkF (others.take (k + 1)) := by
      cases hf : others[k]? with
      | none =>
        have : others.take (k + 1) = others.take k := by
          rw [List.getElem?_eq_none_iff] at hf
          rw [List.take_of_length_le hf, List.take_of_length_le (by omega)]
        rw [this]
        exact Nat.le_refl _
      | some g =>
        rw [take_snoc others k g hf, bulkF_app]
        unfold freeG
        simp only
        split
        · exact Nat.le_refl _
        · exact Nat.add_le_add_left (Nat.zero_le _) _
    omega
theorem mix_length (ls others : List Fld) : ∀ k, (mixF ls others k).length ≤ 2 * k
  | 0 => Nat.le_refl _
  | k + 1 => by
    have ih := mix_length ls others k
    rw [mixF, List.length_append, List.length_append]
    have h1 : (upG ls[k]?).length ≤ 1 := by cases ls[k]? <;> simp [upG]
    have h2 : (freeG others[k]?).length ≤ 1 := by
      cases others[k]? with
      | none => simp [freeG]
      | some g => unfold freeG; simp only; split <;> simp
    omega
theorem reqK_mix (mi : Int) (ls others : List Fld) : reqK mi (mixF ls others ls.length) = reqK mi ls := by
  have h1 := mix_get ls others lenN (.inl rfl) ls.length (Nat.le_refl _)
  have h2 := mix_get ls others codN (.inr rfl) ls.length (Nat.le_refl _)
  rw [List.take_length] at h1 h2
  exact reqK_perm mi (by rw [h1]) (by rw [h2])
theorem reqK_rev (mi : Int) (ls : List Fld) : reqK mi ls.reverse = reqK mi ls := reqK_perm mi (by rw [getF_rev]; exact List.reverse_perm _) (by rw [getF_rev]; exact List.reverse_perm _)

theorem SrcF.turned {w w' : World} {P S : Nat → Prop} {A : Option Addr} {ls : List Fld} (h : SrcF w P A ls) (ht : Turn S w w') (hS : ∀ k, P k → ¬ S k) : SrcF w' P A ls := fun h0 => by
  obtain ⟨ad, h1, h2, h3, h4⟩ := h h0
  have hb : ∀ j, (ad.add j).block = ad.block := fun j => by unfold Addr.add; split <;> rfl
  refine ⟨ad, h1, h2, Nat.lt_of_lt_of_le h3 ht.size, fun i f hf => ?_⟩
  obtain ⟨c1, c2⟩ := h4 i f hf
  exact ⟨(ht.cell (by rw [hb]; exact h3) (by rw [hb]; exact hS _ h2)).trans c1, (ht.cell (by rw [hb]; exact h3) (by rw [hb]; exact hS _ h2)).trans c2⟩
theorem SrcF.mono {w : World} {P P' : Nat → Prop} {A : Option Addr} {ls : List Fld} (h : SrcF w P A ls) (hP : ∀ k, k < w.heap.size → P k → P' k) : SrcF w P' A ls := fun h0 => by
  obtain ⟨ad, h1, h2, h3, h4⟩ := h h0
  exact ⟨ad, h1, hP _ h3 h2, h3, h4⟩
/-- l[:k]. -/
theorem run_front_fld (A : Option Addr) (n c k : Nat) (hk : k ≤ c) : ∃ A', (∀ W : World, (Instr.slice 22 (.slice A n c) none (some (.int .i64 (k : Int))) none).run Tryd.prog W = .ok (.slice A' k c) W) ∧
    ∀ (w : World) (P : Nat → Prop) (ls : List Fld), ls.length = n → k ≤ n → SrcF w P A ls → SrcF w P A' (ls.take k) := by
  obtain ⟨i, hin, _⟩ := Option.map_eq_some_iff.1 fldSize
  refine ⟨if c = 0 then A else A.map (·.add (0 * 2)), fun W => ?_, fun w P ls hn hkn h => ?_⟩
  · simp [Instr.slice, run_underlying Tryd.underlying22, Instr.sliceBounds, Instr.sliceBound, asIntOf, hk, sizeOf, typeInfo, hin]
  · intro h0
    rw [List.length_take] at h0
    obtain ⟨ad, rfl, hP, hlt, hc⟩ := h (by omega)
    rw [if_neg (by omega)]
    refine ⟨ad.add (0 * 2), rfl, ?_, ?_, fun i f hf => ?_⟩
    · unfold Addr.add; split <;> exact hP
    · unfold Addr.add; split <;> exact hlt
    · rw [add_add_at, add_add_at, Nat.zero_mul, Nat.zero_add, Nat.zero_add]
      refine hc i f ?_
      rw [List.getElem?_take] at hf
      split at hf
      · exact hf
      · cases hf
end Go.Proofs.YtcpohdejdiljnaaDoor
