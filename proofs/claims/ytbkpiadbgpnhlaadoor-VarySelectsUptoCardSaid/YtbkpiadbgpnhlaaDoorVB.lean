/-
  Words on rows that are written in place: append of a list of texts, clear; the search by a function value.
  Conditions: those that each theorem names.
-/
import Derived.Test.YtbkpiadbgpnhlaaDoorVA
import Derived.Test.YtbkpiadbgpnhlaaDoorLW
import Derived.Lib.SliceRun
import Derived.Laws.IdiomCopy
namespace Go.Proofs.YtbkpiadbgpnhlaaDoor.Hop
open Go.RowKit

set_option maxRecDepth 100000 in
/-- append(v, s...). -/
theorem run_append_strs {P : Nat → Prop} (w : World) (v : Value) (o : Option Nat) (ls news : List (List UInt8)) (h : OwnS w v o ls) (A : Option Addr) (n c : Nat) (hn : news.length = n) (hs : SrcS w P A news) (hlen : (ls.length + news.length) * 16 ≤ 140737488355328) :
    ∃ (v' : Value) (w' : World) (o' : Option Nat), (Builtin.append_ #[23, 23] 23 #[v, .slice A n c]).run Tryd.prog w = .ok v' w' ∧ OwnS w' v' o' (ls ++ news) ∧ Turn (fun k => o = some k) w w' ∧ (∀ k, o' = some k → o = some k ∨ w.heap.size ≤ k) := by
  subst hn
  obtain ⟨i, hin, hz, hsz, hby⟩ := strParts
  obtain ⟨hown, ho⟩ := h
  cases A with
  | none =>
    have hb : news = [] := by
      cases news with
      | nil => rfl
      | cons b l => obtain ⟨ad, hA, _⟩ := hs (by simp); cases hA
    subst hb
    refine ⟨v, w, o, ?_, by rw [List.append_nil]; exact ⟨hown, ho⟩, Turn.refl _ _, fun k hk => .inl hk⟩
    rcases hown.2 with ⟨rfl, _⟩ | ⟨g, cap, cur, rfl, _, _, hnc, _⟩
    · simp [Builtin.append_, run_underlying Tryd.underlying23, sizeOf, typeInfo, hin, Builtin.lenOf, Builtin.firstCells]
    · simp [Builtin.append_, run_underlying Tryd.underlying23, sizeOf, typeInfo, hin, Builtin.lenOf, Builtin.firstCells, hnc, storeCells]
  | some a =>
    have hcells : ∀ j u, (strs news)[j]? = some u → w.cell? (a.add j) = some u := by
      intro j u hu
      have hj : j < news.length := by
        have := (List.getElem?_eq_some_iff.1 hu).1
        rwa [strs_length] at this
      obtain ⟨ad, hA, _, _, hc⟩ := hs (by omega)
      injection hA with hA
      subst hA
      have h1 := hc j _ (List.getElem?_eq_getElem hj)
      rw [h1, ← hu]
      simp [strs, List.getElem?_eq_getElem hj]
    obtain ⟨v', w', hrun, h2, h3, _, h5⟩ := run_append_own_at (P := Tryd.prog) w 0 23 23 9 i (.string ⟨#[]⟩) 1 16 Tryd.underlying23 hin hz hsz hby rfl (by omega) v ls.length (strs ls) hown a news.length c (strs news)
      (by rw [strs_length, Nat.mul_one]) hcells (strs_one _) (by simp only [maxLen]; omega) (by omega) (Nat.zero_le _)
    refine ⟨v', w', v'.ownBlock, hrun, ⟨?_, rfl⟩, Turn.of_grown h3 (fun k hk => by rw [← ho]; exact hk), fun k hk => ?_⟩
    · rw [List.length_append, strs, List.map_append]
      exact h2
    · rcases h5 with h | h
      · left; rw [← ho, ← h, hk]
      · right
        rw [h] at hk
        injection hk with hk
        omega

/-- A row of a list's own: its block whole. -/
theorem ownS_row {w : World} {v : Value} {o : Option Nat} {ls : List (List UInt8)} (h : OwnS w v o ls) : (v = .slice none 0 0 ∧ ls = [] ∧ o = none) ∨ ∃ g c cur, v = .slice (some ⟨g, 0, none⟩) ls.length c ∧ o = some g ∧ Is w g 9 cur ∧ ls.length ≤ c ∧ c ≤ maxLen ∧ cur.length = c ∧ cur.take ls.length = strs ls := by
  obtain ⟨⟨h1, h2⟩, h3⟩ := h
  rcases h2 with ⟨rfl, hn⟩ | ⟨g, cap, cur, rfl, hg, hh, hnc, hcm, hsz, htk⟩
  · exact .inl ⟨rfl, List.eq_nil_of_length_eq_zero hn, h3.symm⟩
  · refine .inr ⟨g, cap, cur.toList, rfl, h3.symm, ?_, hnc, hcm, by simpa using hsz, by simpa using htk⟩
    unfold Is
    simpa using hh
theorem row_ownS {w : World} {g c : Nat} {cur : List Value} {ls : List (List UInt8)} (h : Is w g 9 cur) (hn : ls.length ≤ c) (hc : c ≤ maxLen) (hl : cur.length = c) (ht : cur.take ls.length = strs ls) : OwnS w (.slice (some ⟨g, 0, none⟩) ls.length c) (some g) ls := by
  refine ⟨⟨by simp [strs], .inr ⟨g, c, cur.toArray, rfl, Nat.zero_le _, h, hn, hc, by simpa using hl, by simpa using ht⟩⟩, rfl⟩
theorem ownF_row {w : World} {v : Value} {o : Option Nat} {ls : List Fld} (h : OwnF w v o ls) : (v = .slice none 0 0 ∧ ls = [] ∧ o = none) ∨ ∃ g c cur, v = .slice (some ⟨g, 0, none⟩) ls.length c ∧ o = some g ∧ Is w g 32 cur ∧ ls.length ≤ c ∧ c ≤ maxLen ∧ cur.length = c * 2 ∧ cur.take (ls.length * 2) = flds ls := by
  obtain ⟨⟨h1, h2⟩, h3⟩ := h
  rcases h2 with ⟨rfl, hn⟩ | ⟨g, cap, cur, rfl, hg, hh, hnc, hcm, hsz, htk⟩
  · exact .inl ⟨rfl, List.eq_nil_of_length_eq_zero hn, h3.symm⟩
  · refine .inr ⟨g, cap, cur.toList, rfl, h3.symm, ?_, hnc, hcm, by simpa using hsz, by simpa using htk⟩
    unfold Is
    simpa using hh
theorem row_ownF {w : World} {g c : Nat} {cur : List Value} {ls : List Fld} (h : Is w g 32 cur) (hn : ls.length ≤ c) (hc : c ≤ maxLen) (hl : cur.length = c * 2) (ht : cur.take (ls.length * 2) = flds ls) : OwnF w (.slice (some ⟨g, 0, none⟩) ls.length c) (some g) ls := by
  refine ⟨⟨flds_length ls, .inr ⟨g, c, cur.toArray, rfl, Nat.zero_le _, h, hn, hc, by simpa using hl, by simpa using ht⟩⟩, rfl⟩

theorem size_setCells' (g : Nat) : ∀ (vs : List Value) (o : Nat) (w : World), (w.setCells g o vs).heap.size = w.heap.size
  | [], _, _ => rfl
  | v :: r, o, w => by
    rw [World.setCells, size_setCells' g r]
    simp [World.setCell]
theorem is_setCells {g : Nat} {t : TypeId} : ∀ (vs : List Value) (w : World) (o : Nat) (cur : List Value), Is w g t cur → ∃ cur', Is (w.setCells g o vs) g t cur' ∧ cur'.length = cur.length ∧ cur'.take o = cur.take o ∧ Turn (· = g) w (w.setCells g o vs)
  | [], w, o, cur, h => ⟨cur, h, rfl, rfl, Turn.refl _ _⟩
  | v :: r, w, o, cur, h => by
    obtain ⟨cur', h1, h2, h3, h4⟩ := is_setCells r (w.setCell ⟨g, o, none⟩ v) (o + 1) (cur.set o v) (h.set o v)
    refine ⟨cur', h1, by rw [h2, List.length_set], ?_, ((Turn.refl (· = g) w).setCell (fun _ => rfl) v).trans h4 (fun _ _ h => h)⟩
    have e := congrArg (List.take o) h3
    rw [List.take_take, List.take_take, Nat.min_eq_left (by omega)] at e
    rw [e, List.take_set_of_le (Nat.le_refl _)]
/-- clear(s), the elements of one cell or of several. -/
theorem run_clear (w : World) (t e ty : TypeId) (z : Value) (zs : List Value) (ht : Tryd.prog.underlying t = some (.slice e)) (hv : ∀ w, (zeroValue e).run Tryd.prog w = .ok z w) (hz : z.cells.toList = zs) (h1 : ∀ v ∈ zs, v.oneCell' = true) (g tt o n c : Nat) (cur : List Value) (hg : Is w g tt cur) (hfit : o + n * zs.length ≤ cur.length) :
    ∃ w' cur', (Builtin.clear_ #[t] ty #[.slice (some ⟨g, o, none⟩) n c]).run Tryd.prog w = .ok (.tuple #[]) w' ∧ Is w' g tt cur' ∧ cur'.length = cur.length ∧ cur'.take o = cur.take o ∧ Turn (· = g) w w' ∧ w'.heap.size = w.heap.size := by
  obtain ⟨vs, hvs⟩ : ∃ vs, (Builtin.zeroCells z.cells n).toList = vs := ⟨_, rfl⟩
  have hlen : vs.length = n * zs.length := by
    rw [← hvs, ← hz]
    simp [Builtin.zeroCells]
  have hone : ∀ v ∈ vs, v.oneCell' = true := by
    intro v hv'
    rw [← hvs] at hv'
    simp only [Builtin.zeroCells, Array.toList_map, Array.toList_range, List.mem_map, List.mem_range] at hv'
    obtain ⟨i, hi, rfl⟩ := hv'
    refine h1 _ ?_
    rw [← hz]
    have hp : 0 < z.cells.size := by
      rcases Nat.eq_zero_or_pos z.cells.size with h0 | h0
      · rw [h0] at hi; simp at hi
      · exact h0
    have hm := Nat.mod_lt i hp
    rw [getElem!_pos z.cells _ hm, Array.mem_toList_iff]
    exact Array.getElem_mem hm
  have hst := run_storeCells_cells (P := Tryd.prog) g o vs 0 w (fun j hj => by
    rw [Nat.add_zero, hg.cell]
    rw [List.getElem?_eq_getElem (by omega)]
    rfl) (fun j _ => hg.free _) hone
  rw [Nat.add_zero] at hst
  obtain ⟨cur', i1, i2, i3, i4⟩ := is_setCells vs w o cur hg
  refine ⟨_, cur', ?_, i1, i2, i3, i4, size_setCells' _ _ _ _⟩
  cases n with
  | zero =>
    have : vs = [] := List.eq_nil_of_length_eq_zero (by omega)
    subst this
    simp [Builtin.clear_, run_underlying ht, World.setCells]
  | succ m => simp [Builtin.clear_, run_underlying ht, hv, hvs, hst]
end Go.Proofs.YtbkpiadbgpnhlaaDoor.Hop
