/-
  Words for the walks of stage 16's laws: appends to nil and of more, rows of which names are written, pieces of lists of fields; how much the names hold.
  Conditions: those that each theorem names.
-/
import Derived.Test.YtbkpiadbgpnhlaaDoorWI
import Derived.Deep.CutRange
import Derived.Deep.RegionHeld3
namespace Go.Proofs.YtbkpiadbgpnhlaaDoor.Var
open Go.RowKit Hop

/-- append(nil, l...). -/
theorem nil_app {P : Nat → Prop} (X : World) (A : Option Addr) (ls : List Fld) (n c : Nat) (hn : ls.length = n) (hmax : n ≤ 1000000001) (h : SrcF X P A ls) :
    ∃ (A1 : Option Addr) (c1 : Nat) (w1 : World) (o1 : Option Nat), (Builtin.append_ #[22, 22] 22 #[.slice none 0 0, .slice A n c]).run Tryd.prog X = .ok (.slice A1 n c1) w1 ∧ OwnF w1 (.slice A1 n c1) o1 ls ∧ (∀ b, o1 = some b → X.heap.size ≤ b) ∧ Below X.heap.size X w1 := by
  obtain ⟨v1, w1, o1, hrun, own1, t1, ho1⟩ := run_append_srcF X (.slice none 0 0) none [] ls (OwnF.nil X) A n c hn h (by simp; omega)
  rw [List.nil_append] at own1
  have T1 := own_turn (o := none) (o' := o1) (Below.refl X.heap.size X) (fun _ h => by cases h) t1 (fun b hb => by
    rcases ho1 with h | h
    · rw [h] at hb; cases hb
    · rw [h] at hb; injection hb with hb; right; omega)
  obtain ⟨A1, c1, hv1, _⟩ := own1.src (fun _ => True) (fun _ _ => trivial)
  rw [hn] at hv1
  subst hv1
  exact ⟨A1, c1, w1, o1, hrun, own1, T1.2, T1.1⟩
/-- append(v, l...), v and l as they lie. -/
theorem more_app {P : Nat → Prop} (X : World) (v : Value) (o : Option Nat) (ls news : List Fld) (h : OwnF X v o ls) (A : Option Addr) (n c m : Nat) (hn : news.length = n) (hm : ls.length + n = m) (hs : SrcF X P A news) (hmax : m ≤ 1000000100) {W : World} (hW : Below W.heap.size W X) (ho : ∀ b, o = some b → W.heap.size ≤ b) :
    ∃ (A1 : Option Addr) (c1 : Nat) (w1 : World) (o1 : Option Nat), (Builtin.append_ #[22, 22] 22 #[v, .slice A n c]).run Tryd.prog X = .ok (.slice A1 m c1) w1 ∧ OwnF w1 (.slice A1 m c1) o1 (ls ++ news) ∧ (∀ b, o1 = some b → W.heap.size ≤ b) ∧ Below W.heap.size W w1 ∧ Turn (fun k => o = some k) X w1 := by
  obtain ⟨v1, w1, o1, hrun, own1, t1, ho1⟩ := run_append_srcF X v o ls news h A n c hn hs (by omega)
  have T1 := own_turn (o' := o1) hW ho t1 (fun b hb => by
    rcases ho1 with h | h
    · rw [h] at hb; exact .inl hb
    · rw [h] at hb; injection hb with hb; right; omega)
  obtain ⟨A1, c1, hv1, _⟩ := own1.src (fun _ => True) (fun _ _ => trivial)
  rw [List.length_append, hn, hm] at hv1
  subst hv1
  exact ⟨A1, c1, w1, o1, hrun, own1, T1.2, T1.1, t1⟩
theorem OwnF.reads {w : World} {A : Option Addr} {n c : Nat} {o : Option Nat} {ls : List Fld} (h : OwnF w (.slice A n c) o ls) : SrcF w (fun _ => True) A ls := by
  obtain ⟨A1, c1, hv1, s⟩ := h.src (fun _ => True) (fun _ _ => trivial)
  injection hv1 with h1
  subst h1
  exact s
theorem own_below {w w' : World} {v : Value} {o : Option Nat} {ls : List Fld} (h : OwnF w v o ls) (hb : Below w.heap.size w w') : OwnF w' v o ls := h.kept (Turn.of_below (S := fun _ => False) hb) (fun _ _ h => h)
/-- A list of the call's own, of which the names may be written. -/
def RowW (w : World) (A : Option Addr) (o : Option Nat) (n : Nat) : Prop := 0 < n → ∃ g cur, A = some ⟨g, 0, none⟩ ∧ o = some g ∧ w.heap[g]? = some (.cells cur 32 (0, 0)) ∧ n * 2 ≤ cur.size
theorem RowW.kept {w w' : World} {A : Option Addr} {o : Option Nat} {n : Nat} {S : Nat → Prop} (h : RowW w A o n) (ht : Turn S w w') (hS : ∀ k, o = some k → ¬ S k) : RowW w' A o n := fun h0 => by
  obtain ⟨g, cur, h1, h2, h3, h4⟩ := h h0
  exact ⟨g, cur, h1, h2, (ht.block g (Array.getElem?_eq_some_iff.1 h3).1 (hS g h2)).trans h3, h4⟩
theorem RowW.at {w : World} {A : Option Addr} {o : Option Nat} {n k c : Nat} (h : RowW w A o n) (hk : k < n) : ∃ g u, o = some g ∧ (∀ Wx, (Instr.indexAt 22 (.slice A n c) (.int .i64 (k : Int))).run Tryd.prog Wx = .ok (.pointer (some ⟨g, k * 2, none⟩)) Wx) ∧
    w.cell? ⟨g, k * 2, none⟩ = some u ∧ w.frozen? ⟨g, k * 2, none⟩ = false ∧ g < w.heap.size ∧ ∀ u, RowW (w.setCell ⟨g, k * 2, none⟩ u) A o n := by
  obtain ⟨g, cur, h1, h2, h3, h4⟩ := h (by omega)
  have hc := cell_of_row w g (k * 2) cur 32 (0, 0) h3
  have hlt : k * 2 < cur.size := by omega
  refine ⟨g, _, h2, fun Wx => ?_, hc.trans (Array.getElem?_eq_getElem hlt), by simp [World.frozen?, h3], (Array.getElem?_eq_some_iff.1 h3).1, fun u _ => ⟨g, cur.setIfInBounds (k * 2) u, h1, h2, ?_, by simpa using h4⟩⟩
  · rw [h1]
    exact at_row 22 32 2 Tryd.underlying22 fldSize g n c k hk Wx
  · simp [World.setCell, Array.getElem?_modify, h3]
theorem rowW {w : World} {v : Value} {o : Option Nat} {ls : List Fld} (h : OwnF w v o ls) : ∃ A c, v = .slice A ls.length c ∧ SrcF w (fun _ => True) A ls ∧ RowW w A o ls.length := h.row
theorem below_put {w wr : World} (hB : Below w.heap.size w wr) {p : Addr} (hp : w.heap.size ≤ p.block) (u : Value) : Below w.heap.size w (wr.setCell p u) :=
  ((Turn.of_below (S := fun b => b = p.block) hB).setCell (fun _ => rfl) u).below (fun k hk e => by omega)
theorem quiet_below {w w' : World} (h : Quiet w w') : Below w.heap.size w w' := h.turn.below (fun _ _ h => h)
/-! ## pieces -/
theorem srcf_take {w : World} {P : Nat → Prop} {A : Option Addr} {ls : List Fld} (h : SrcF w P A ls) (k : Nat) : SrcF w P A (ls.take k) := fun h0 => by
  rw [List.length_take] at h0
  obtain ⟨ad, h1, h2, h3, h4⟩ := h (by omega)
  refine ⟨ad, h1, h2, h3, fun i f hf => h4 i f ?_⟩
  rw [List.getElem?_take] at hf
  split at hf
  · exact hf
  · cases hf
theorem run_front_fl (A : Option Addr) (n c k : Nat) (hk : k ≤ c) : ∃ A', (∀ W : World, (Instr.slice 22 (.slice A n c) none (some (.int .i64 (k : Int))) none).run Tryd.prog W = .ok (.slice A' k c) W) ∧
    ∀ (w : World) (P : Nat → Prop) (ls : List Fld), SrcF w P A ls → SrcF w P A' (ls.take k) := by
  refine ⟨if c = 0 then A else A.map (·.add (0 * 2)), fun W => ?_, fun w P ls h => ?_⟩
  · simp [Instr.slice, run_underlying Tryd.underlying22, Instr.sliceBounds, Instr.sliceBound, asIntOf, hk]
  · have : (if c = 0 then A else A.map (·.add (0 * 2))) = A := by
      split
      · rfl
      · cases A with
        | none => rfl
        | some a => simp [Addr.add]
    rw [this]
    exact srcf_take h k
theorem run_back_fl (A : Option Addr) (n c k : Nat) (hk : k ≤ n) (hn : n ≤ c) : ∃ A', (∀ W : World, (Instr.slice 22 (.slice A n c) (some (.int .i64 (k : Int))) none none).run Tryd.prog W = .ok (.slice A' (n - k) (c - k)) W) ∧
    ∀ (w : World) (P : Nat → Prop) (ls : List Fld), ls.length = n → SrcF w P A ls → SrcF w P A' (ls.drop k) := by
  refine ⟨if c = k then A else A.map (·.add (k * 2)), fun W => ?_, fun w P ls hl h h0 => ?_⟩
  · obtain ⟨i, hi, hs⟩ := Option.map_eq_some_iff.1 fldSize
    simp [Instr.slice, run_underlying Tryd.underlying22, Instr.sliceBounds, Instr.sliceBound, asIntOf, hk, sizeOf, typeInfo, hi, hs]
  · rw [List.length_drop] at h0
    obtain ⟨ad, hA, hP, hlt, hc⟩ := h (by omega)
    rw [if_neg (by omega), hA]
    have hb : (ad.add (k * 2)).block = ad.block := by unfold Addr.add; split <;> rfl
    refine ⟨ad.add (k * 2), rfl, by rw [hb]; exact hP, by rw [hb]; exact hlt, fun i r hr => ?_⟩
    rw [List.getElem?_drop] at hr
    rw [add_add_at, add_add_at, show k * 2 + i * 2 = (k + i) * 2 by omega, show k * 2 + (i * 2 + 1) = (k + i) * 2 + 1 by omega]
    exact hc _ r hr

/-- append(nil, l...), texts. -/
theorem nil_apps {P : Nat → Prop} (X : World) (A : Option Addr) (ls : List (List UInt8)) (n c : Nat) (hn : ls.length = n) (hmax : n ≤ 1000000001) (h : SrcS X P A ls) :
    ∃ (A1 : Option Addr) (c1 : Nat) (w1 : World), (Builtin.append_ #[23, 23] 23 #[.slice none 0 0, .slice A n c]).run Tryd.prog X = .ok (.slice A1 n c1) w1 ∧ SrcS w1 (fun _ => True) A1 ls ∧ Below X.heap.size X w1 := by
  obtain ⟨v1, w1, o1, hrun, own1, t1, ho1⟩ := run_append_strs X (.slice none 0 0) none [] ls (OwnS.nil X) A n c hn h (by simp; omega)
  rw [List.nil_append] at own1
  obtain ⟨A1, c1, hv1, src⟩ := own1.src (fun _ => True) (fun _ _ => trivial)
  rw [hn] at hv1
  subst hv1
  exact ⟨A1, c1, w1, hrun, src, t1.below (fun _ _ h => by cases h)⟩

/-! ## how much the names hold -/
theorem fold_sub : ∀ (xs ns : List (List UInt8)), (xs.foldl stepN ns).Sublist (ns ++ xs)
  | [], ns => by rw [List.append_nil]; exact List.Sublist.refl _
  | y :: r, ns => by
    rw [List.foldl_cons]
    refine (fold_sub r (stepN ns y)).trans ?_
    rcases step_or ns y with ⟨h, _⟩ | ⟨h, _⟩
    · rw [h]
      exact List.Sublist.append (List.Sublist.refl _) (List.sublist_cons_self _ _)
    · rw [h, List.append_assoc]
      exact List.Sublist.refl _
theorem ded_sub (xs : List (List UInt8)) : (dedF xs).Sublist xs := fold_sub xs []
theorem sum_sub : ∀ {a b : List Nat}, a.Sublist b → a.sum ≤ b.sum
  | _, _, .slnil => Nat.le_refl _
  | _, _, .cons f h => by have := sum_sub h; rw [List.sum_cons]; omega
  | _, _, .cons_cons f h => by have := sum_sub h; rw [List.sum_cons, List.sum_cons]; omega
theorem list_total (b : List UInt8) : ((listF b).map List.length).sum ≤ b.length := elF_total b (b.length + 2) 0 0 (Nat.le_refl _)
theorem elem_total (nm : List UInt8) : ∀ ls : List Fld, ((elemF ls nm).map List.length).sum ≤ bulkF ls
  | [] => by simp [getF, elemF]
  | f :: r => by
    have h := elem_total nm r
    have hc := list_total f.2
    rw [show (f :: r : List Fld) = [f] ++ r from rfl, elem_app, elem_one, List.map_append, List.sum_append, bulk_app]
    rw [show bulkF [f] = f.1.length + f.2.length + 3 from by simp [bulkF]]
    split
    · omega
    · simp; omega
theorem names_total (ls : List Fld) : ((namesF ls).map List.length).sum ≤ bulkF ls := by
  refine Nat.le_trans (sum_sub ((ded_sub (lowsF ls)).map _)) ?_
  unfold lowsF
  rw [List.map_map, show (List.length ∘ lowF) = (List.length : List UInt8 → Nat) from funext fun x => lowF_length x]
  exact elem_total varyN ls
theorem each_sum : ∀ ns : List (List UInt8), bulkF (eachF ns) = (ns.map List.length).sum + 10 * ns.length
  | [] => rfl
  | x :: r => by
    rw [show eachF (x :: r) = (bigV, [32, 44, 32] ++ x) :: eachF r from rfl, bulk_cons, each_sum r, List.map_cons, List.sum_cons, List.length_cons]
    simp only [List.length_append, List.length_cons, List.length_nil, bigV]
    omega
theorem bulk_eachN (ls : List Fld) : bulkF (eachF (namesF ls)) ≤ 11 * bulkF ls := by
  rw [each_sum]
  have h1 := names_total ls
  have h2 := names_len ls
  omega
theorem each_len (ns : List (List UInt8)) : (eachF ns).length = ns.length := by simp [eachF]
theorem each_snoc (ns : List (List UInt8)) (k : Nat) (x : List UInt8) (h : ns[k]? = some x) : eachF (ns.take (k + 1)) = eachF (ns.take k) ++ [(bigV, [32, 44, 32] ++ x)] := by
  rw [take_snoc ns k x h]
  simp [eachF]
theorem get_sum (ls : List Fld) (nm : List UInt8) : sumV (getF ls nm) ≤ bulkF ls := sum_bulk (lowF nm) ls
theorem sum_take (vs : List (List UInt8)) (k : Nat) : sumV (vs.take k) ≤ sumV vs := by
  conv => rhs; rw [← List.take_append_drop k vs]
  rw [sum_app]
  omega
theorem join_take_len {vs : List (List UInt8)} {k : Nat} {v : List UInt8} (h : joinV (vs.take k) = some v) : v.length + 2 ≤ sumV vs := by
  have h1 := join_size h
  have h2 := sum_take vs k
  omega
theorem join_snocs (vs : List (List UInt8)) (k : Nat) (x : List UInt8) (h : vs[k]? = some x) : joinV (vs.take (k + 1)) = putV (joinV (vs.take k)) x := by
  rw [take_snoc vs k x h, join_snoc]
end Go.Proofs.YtbkpiadbgpnhlaaDoor.Var
