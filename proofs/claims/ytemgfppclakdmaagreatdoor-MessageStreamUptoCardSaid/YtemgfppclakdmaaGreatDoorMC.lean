/-
  Plain mathematics: fields that are read of bytes are few and short.
  Conditions: none.
-/
import Derived.Test.YtemgfppclakdmaaGreatDoorHE
import Derived.Test.YtemgfppclakdmaaGreatDoorFT
import Derived.Test.YtemgfppclakdmaaGreatDoorMB
namespace Go.Proofs.YtemgfppclakdmaaGreatDoor
open Go.RowKit

theorem flds_cells (ls : List Fld) : ∀ v ∈ flds ls, v.oneCell' = true := by
  intro v hv
  obtain ⟨f, _, h⟩ := List.mem_flatMap.1 hv
  simp at h
  rcases h with rfl | rfl <;> rfl
set_option maxRecDepth 100000 in
/-- append(v, l...). -/
theorem run_append_srcF {P : Nat → Prop} (w : World) (v : Value) (o : Option Nat) (ls news : List Fld) (h : OwnF w v o ls) (A : Option Addr) (n c : Nat) (hn : news.length = n) (hs : SrcF w P A news) (hlen : (ls.length + news.length) * 32 ≤ 140737488355328) :
    ∃ (v' : Value) (w' : World) (o' : Option Nat), (Builtin.append_ #[23, 23] 23 #[v, .slice A n c]).run Tryz.prog w = .ok v' w' ∧ OwnF w' v' o' (ls ++ news) ∧ Turn (fun k => o = some k) w w' ∧ (o' = o ∨ o' = some w.heap.size) := by
  subst hn
  obtain ⟨i, hi, hz, hsz, hby⟩ := fldParts
  obtain ⟨hown, ho⟩ := h
  cases A with
  | none =>
    have hb : news = [] := by
      cases news with
      | nil => rfl
      | cons b l => obtain ⟨ad, hA, _⟩ := hs (by simp); cases hA
    subst hb
    refine ⟨v, w, o, ?_, by rw [List.append_nil]; exact ⟨hown, ho⟩, Turn.refl _ _, .inl rfl⟩
    rcases hown.2 with ⟨rfl, _⟩ | ⟨g, cap, cur, rfl, _, _, hnc, _⟩
    · simp [Builtin.append_, run_underlying Tryz.underlying23, sizeOf, typeInfo, hi, Builtin.lenOf, Builtin.firstCells]
    · simp [Builtin.append_, run_underlying Tryz.underlying23, sizeOf, typeInfo, hi, Builtin.lenOf, Builtin.firstCells, hnc, storeCells]
  | some a =>
    have hcells : ∀ j u, (flds news)[j]? = some u → w.cell? (a.add j) = some u := by
      intro j u hu
      have hj : j < news.length * 2 := by
        have := (List.getElem?_eq_some_iff.1 hu).1
        rwa [flds_length] at this
      obtain ⟨ad, hA, _, _, hc⟩ := hs (by omega)
      injection hA with hA
      subst hA
      obtain ⟨f, hf⟩ : ∃ f, news[j / 2]? = some f := ⟨news[j / 2]'(by omega), List.getElem?_eq_getElem _⟩
      obtain ⟨c0, c1⟩ := hc (j / 2) f hf
      obtain ⟨g0, g1⟩ := flds_get news (j / 2) f hf
      rcases Nat.mod_two_eq_zero_or_one j with h0 | h0
      · have e : j / 2 * 2 = j := by omega
        rw [e] at c0 g0
        rw [g0] at hu
        rw [c0, ← hu]
      · have e : j / 2 * 2 + 1 = j := by omega
        rw [e] at c1 g1
        rw [g1] at hu
        rw [c1, ← hu]
    by_cases h0 : news.length = 0
    · obtain rfl : news = [] := List.eq_nil_of_length_eq_zero h0
      obtain ⟨v', w', hrun, h2, h3, _, h5⟩ := run_append_own_at (P := Tryz.prog) w 0 23 23 58 i (.agg #[.string ⟨#[]⟩, .string ⟨#[]⟩]) 2 32 Tryz.underlying23 hi hz hsz hby rfl (by omega) v ls.length (flds ls) hown a 0 c []
        rfl (fun j u hu => by simp at hu) (fun u hu => by cases hu) (by simp only [maxLen]; simp at hlen; omega) (by simpa using hlen) (Nat.zero_le _)
      refine ⟨v', w', v'.ownBlock, hrun, ⟨?_, rfl⟩, Turn.of_grown h3 (fun k hk => by rw [← ho]; exact hk), by rw [← ho]; exact h5⟩
      simpa using h2
    · obtain ⟨v', w', hrun, h2, h3, _, h5⟩ := run_append_own_at (P := Tryz.prog) w 0 23 23 58 i (.agg #[.string ⟨#[]⟩, .string ⟨#[]⟩]) 2 32 Tryz.underlying23 hi hz hsz hby rfl (by omega) v ls.length (flds ls) hown a news.length c (flds news)
        (flds_length news) hcells (flds_cells _) (by simp only [maxLen]; omega) hlen (Nat.zero_le _)
      refine ⟨v', w', v'.ownBlock, hrun, ⟨?_, rfl⟩, Turn.of_grown h3 (fun k hk => by rw [← ho]; exact hk), by rw [← ho]; exact h5⟩
      rw [List.length_append, flds_append]
      exact h2
/-- What a list of the call's own lies in. -/
theorem OwnF.row {w : World} {v : Value} {o : Option Nat} {ls : List Fld} (h : OwnF w v o ls) : ∃ A c, v = .slice A ls.length c ∧ SrcF w (fun _ => True) A ls ∧ (0 < ls.length → ∃ g cur, A = some ⟨g, 0, none⟩ ∧ o = some g ∧ w.heap[g]? = some (.cells cur 58 (0, 0)) ∧ ls.length * 2 ≤ cur.size) := by
  obtain ⟨A, c, hv, hs⟩ := h.src (fun _ => True) (fun _ _ => trivial)
  refine ⟨A, c, hv, hs, fun h0 => ?_⟩
  obtain ⟨⟨h1, h2⟩, h3⟩ := h
  rcases h2 with ⟨_, hn⟩ | ⟨g, cap, cur, hv2, _, hh, hnc, _, hsz, htk⟩
  · omega
  · rw [hv2] at hv h3
    injection hv with hA
    exact ⟨g, cur, hA.symm, h3.symm, hh, by rw [hsz]; omega⟩
end Go.Proofs.YtemgfppclakdmaaGreatDoor

namespace Go.Proofs.YtemgfppclakdmaaGreatDoor
open Go.RowKit

theorem elF_total (b : List UInt8) : ∀ n f k, f ≤ k → ((listFrom b n f k).map List.length).sum ≤ b.length - f
  | 0, f, k, _ => by simp [listFrom]
  | n + 1, f, k, hf => by
    have hx : (trimF ((b.drop f).take (k - f))).length ≤ k - f := Nat.le_trans (trimF_le _) (by rw [List.length_take]; omega)
    have hx2 : (trimF ((b.drop f).take (k - f))).length ≤ b.length - f := Nat.le_trans (trimF_le _) (by rw [List.length_take, List.length_drop]; omega)
    rw [listFrom]
    by_cases h : k < b.length
    · rw [if_pos h]
      split
      · exact elF_total b n f _ (by omega)
      · split
        · have := elF_total b n (k + 1) (k + 1) (by omega)
          rw [List.map_append, List.sum_append]
          split
          · simp; omega
          · simp; omega
        · exact elF_total b n f _ (by omega)
    · rw [if_neg h]
      split
      · split
        · simp
        · simp; omega
      · simp
theorem elF_count (b : List UInt8) : ∀ n f k, (listFrom b n f k).length + k ≤ b.length + 1 + (if b.length + 1 < k then k else 0)
  | 0, f, k => by simp [listFrom]; split <;> omega
  | n + 1, f, k => by
    rw [listFrom]
    by_cases h : k < b.length
    · rw [if_pos h]
      have hq := qskip_le (b.drop (k + 1))
      rw [List.length_drop] at hq
      split
      · have := elF_count b n f (k + 1 + qskip (b.drop (k + 1)))
        rw [if_neg (by omega)] at this ⊢
        omega
      · split
        · have := elF_count b n (k + 1) (k + 1)
          rw [List.length_append]
          rw [if_neg (by omega)] at this
          have e : (if b.length + 1 < k then k else 0) = 0 := if_neg (by omega)
          rw [e]
          split <;> simp <;> omega
        · have := elF_count b n f (k + 1)
          rw [if_neg (by omega)] at this ⊢
          omega
    · rw [if_neg h]
      split
      · split <;> simp <;> split <;> omega
      · simp
        split <;> omega
theorem list_count (b : List UInt8) : (listF b).length ≤ b.length + 1 := by
  have := elF_count b (b.length + 2) 0 0
  rw [if_neg (by omega)] at this
  simpa [listF] using this
theorem mem_sum : ∀ (l : List Nat) (x : Nat), x ∈ l → x ≤ l.sum
  | y :: r, x, h => by
    rw [List.sum_cons]
    rcases List.mem_cons.1 h with rfl | h
    · omega
    · have := mem_sum r x h; omega
theorem list_part (b x : List UInt8) (h : x ∈ listF b) : x.length ≤ b.length := by
  have h1 := elF_total b (b.length + 2) 0 0 (Nat.le_refl _)
  have h2 := mem_sum ((listF b).map List.length) x.length (List.mem_map.2 ⟨x, h, rfl⟩)
  unfold listF at h2
  exact Nat.le_trans h2 (Nat.le_trans h1 (by omega))

/-- How much a list of fields holds. -/
def bulkF (ls : List Fld) : Nat := (ls.map fun f => f.1.length + f.2.length + 3).sum
theorem bulkF_mem {ls : List Fld} {f : Fld} (h : f ∈ ls) : f.1.length + f.2.length + 3 ≤ bulkF ls := mem_sum _ _ (List.mem_map.2 ⟨f, h, rfl⟩)
theorem bulkF_cons (f : Fld) (r : List Fld) : bulkF (f :: r) = f.1.length + f.2.length + 3 + bulkF r := rfl
theorem bulkF_app (a b : List Fld) : bulkF (a ++ b) = bulkF a + bulkF b := by simp [bulkF]
theorem bulkF_len : ∀ ls : List Fld, ls.length ≤ bulkF ls
  | [] => Nat.le_refl _
  | f :: r => by
    have := bulkF_len r
    rw [bulkF_cons, List.length_cons]
    omega
theorem getF_cons (f : Fld) (r : List Fld) (nm : List UInt8) : getF (f :: r) nm = (if sameN nm f = true then [f.2] else []) ++ getF r nm := by
  unfold getF
  rw [List.filter_cons]
  split <;> simp
theorem elsF_bulk (nm : List UInt8) : ∀ ls : List Fld, (elsF (getF ls nm)).length ≤ bulkF ls
  | [] => by simp [getF, elsF]
  | f :: r => by
    have h := elsF_bulk nm r
    have hc := list_count f.2
    rw [getF_cons, bulkF_cons]
    unfold elsF at *
    rw [List.flatMap_append, List.length_append]
    have e : ∀ l : List UInt8, ([l].flatMap listF).length = (listF l).length := fun l => by simp
    split
    · rw [e]; omega
    · rw [List.flatMap_nil, List.length_nil]; omega
theorem getF_mem {ls : List Fld} {nm x : List UInt8} (h : x ∈ getF ls nm) : ∃ f ∈ ls, f.2 = x := by
  unfold getF at h
  obtain ⟨f, hf, rfl⟩ := List.mem_map.1 h
  exact ⟨f, (List.mem_filter.1 hf).1, rfl⟩
theorem elsF_part {ls : List Fld} {nm x : List UInt8} (h : x ∈ elsF (getF ls nm)) : x.length ≤ bulkF ls := by
  unfold elsF at h
  obtain ⟨v, hv, hx⟩ := List.mem_flatMap.1 h
  obtain ⟨f, hf, rfl⟩ := getF_mem hv
  have := bulkF_mem hf
  have := list_part _ _ hx
  omega
theorem Meek.small {ls : List Fld} (h : bulkF ls ≤ 1000000000) : Meek ls := by
  have hl := bulkF_len ls
  refine ⟨⟨by omega, fun f hf => ?_, ?_, ?_⟩, fun f hf => ?_, fun x hx => ?_, fun x hx => ?_⟩
  · have := bulkF_mem hf; omega
  · have := elsF_bulk lenN ls; omega
  · have := elsF_bulk codN ls; omega
  · have := bulkF_mem hf; omega
  · have := elsF_part hx; omega
  · have := elsF_part hx; omega
end Go.Proofs.YtemgfppclakdmaaGreatDoor

namespace Go.Proofs.YtemgfppclakdmaaGreatDoor
open Go.RowKit

theorem trim_short (l : List UInt8) : (trimF l).length ≤ l.length := by
  unfold trimF rtrim ltrim
  rw [List.length_reverse]
  have h1 := (List.dropWhile_sublist blankB (l := (l.dropWhile blankB).reverse)).length_le
  have h2 := (List.dropWhile_sublist blankB (l := l)).length_le
  rw [List.length_reverse] at h1
  omega
def Sm9 (at0 : Nat) (nm v : List UInt8) (l : List Fld) : Prop := nm.length ≤ at0 ∧ v.length ≤ at0 ∧ ∀ f ∈ l, f.1.length ≤ 2048 ∧ f.2.length ≤ 2048
theorem Sm9.step {at0 part long part' long' : Nat} {nm v nm' v' : List UInt8} {l l' : List Fld} {c : UInt8} (h : Sm9 at0 nm v l) (hs : stepF at0 c part long nm v l = .go part' long' nm' v' l') : Sm9 (at0 + 1) nm' v' l' := by
  obtain ⟨h1, h2, h3⟩ := h
  unfold stepF at hs
  repeat' split at hs
  all_goals
    first
      | (cases hs; done)
      | (injection hs with e1 e2 e3 e4 e5
         subst e1 e2 e3 e4 e5
         refine ⟨?_, ?_, ?_⟩ <;> first
           | omega
           | exact h3
           | (rw [List.length_append, List.length_singleton]; omega)
           | (simp; done)
           | (intro f hf
              rw [List.mem_append, List.mem_singleton] at hf
              rcases hf with hf | rfl
              · exact h3 f hf
              · have := trim_short v
                exact ⟨by show nm.length ≤ 2048; omega, by show (trimF v).length ≤ 2048; omega⟩))
theorem run_small : ∀ (b : List UInt8) (at0 part long : Nat) (nm v : List UInt8) (l : List Fld), Sm9 at0 nm v l → ∀ f ∈ (runF at0 part long nm v l b).1, f.1.length ≤ 2048 ∧ f.2.length ≤ 2048
  | [], _, _, _, _, _, _, _ => by simp [runF]
  | c :: b, at0, part, long, nm, v, l, hS => by
    cases hs : stepF at0 c part long nm v l with
    | stop l2 n2 e2 =>
      rw [runF_stop hs]
      have : l2 = [] ∨ l2 = l := by
        unfold stepF at hs
        repeat' split at hs
        all_goals
          first
            | (cases hs; done)
            | (injection hs with e1 _ _; exact .inl e1.symm)
            | (injection hs with e1 _ _; exact .inr e1.symm)
      rcases this with rfl | rfl
      · simp
      · exact hS.2.2
    | go part' long' nm' v' l2 =>
      rw [runF_go hs]
      exact run_small b _ _ _ _ _ _ (hS.step hs)
theorem bulk_few (ls : List Fld) (h : ∀ f ∈ ls, f.1.length ≤ 2048 ∧ f.2.length ≤ 2048) : bulkF ls ≤ ls.length * 4099 := by
  induction ls with
  | nil => simp [bulkF]
  | cons f r ih =>
    have h1 := h f (by simp)
    have h2 := ih (fun g hg => h g (by simp [hg]))
    rw [bulkF_cons, List.length_cons]
    omega
theorem parse_bulk (b : List UInt8) (l : List Fld) (n : Nat) (h : parseH b = (l, n, 0)) : bulkF l ≤ 1000000 := by
  have h1 := (parse_fine b l n h).2
  have h2 := run_small b 0 0 0 [] [] [] ⟨by simp, by simp, fun _ h => by cases h⟩
  have h3 : runF 0 0 0 [] [] [] b = (l, n, 0) := h
  rw [h3] at h2
  have := bulk_few l h2
  omega
theorem fieldsM_bulk (b : List UInt8) (at0 : Nat) : bulkF (fieldsM b at0).1 ≤ 1000000 := by
  obtain ⟨l, u, e, hq⟩ : ∃ l u e, parseH ((b.take 2048).drop at0) = (l, u, e) := ⟨_, _, _, rfl⟩
  unfold fieldsM
  rw [hq]
  simp only
  split
  · simp [bulkF]
  · split
    · simp [bulkF]
    · next h0 =>
      have he : e = 0 := by simpa using h0
      rw [he] at hq
      exact parse_bulk _ l u hq
end Go.Proofs.YtemgfppclakdmaaGreatDoor
