/-
  append(v, l...), l a slice of fields; what a list of the call's own lies in.
  Conditions: those that each theorem names.
-/
import Derived.Test.YtdcbcjljmjnopaaGreatDoorHE
namespace Go.Proofs.YtdcbcjljmjnopaaGreatDoor
open Go.RowKit

theorem flds_cells (ls : List Fld) : ∀ v ∈ flds ls, v.oneCell' = true := by
  intro v hv
  obtain ⟨f, _, h⟩ := List.mem_flatMap.1 hv
  simp at h
  rcases h with rfl | rfl <;> rfl
set_option maxRecDepth 100000 in
/-- append(v, l...). -/
theorem run_append_srcF {P : Nat → Prop} (w : World) (v : Value) (o : Option Nat) (ls news : List Fld) (h : OwnF w v o ls) (A : Option Addr) (n c : Nat) (hn : news.length = n) (hs : SrcF w P A news) (hlen : (ls.length + news.length) * 32 ≤ 140737488355328) :
    ∃ (v' : Value) (w' : World) (o' : Option Nat), (Builtin.append_ #[23, 23] 23 #[v, .slice A n c]).run Tryz.prog w = .ok v' w' ∧ OwnF w' v' o' (ls ++ news) ∧ Turn (fun k => o = some k) w w' ∧ (o' = o ∨ o' = some w.heap.size) := by
  subst hn
  obtain ⟨i, hi, hz, hsz, hby⟩ := fldParts
  obtain ⟨hown, ho⟩ := h
  cases A with
  | none =>
    have hb : news = [] := by
      cases news with
      | nil => rfl
      | cons b l => obtain ⟨ad, hA, _⟩ := hs (by simp); cases hA
    subst hb
    refine ⟨v, w, o, ?_, by rw [List.append_nil]; exact ⟨hown, ho⟩, Turn.refl _ _, .inl rfl⟩
    rcases hown.2 with ⟨rfl, _⟩ | ⟨g, cap, cur, rfl, _, _, hnc, _⟩
    · simp [Builtin.append_, run_underlying Tryz.underlying23, sizeOf, typeInfo, hi, Builtin.lenOf, Builtin.firstCells]
    · simp [Builtin.append_, run_underlying Tryz.underlying23, sizeOf, typeInfo, hi, Builtin.lenOf, Builtin.firstCells, hnc, storeCells]
  | some a =>
    have hcells : ∀ j u, (flds news)[j]? = some u → w.cell? (a.add j) = some u := by
      intro j u hu
      have hj : j < news.length * 2 := by
        have := (List.getElem?_eq_some_iff.1 hu).1
        rwa [flds_length] at this
      obtain ⟨ad, hA, _, _, hc⟩ := hs (by omega)
      injection hA with hA
      subst hA
      obtain ⟨f, hf⟩ : ∃ f, news[j / 2]? = some f := ⟨news[j / 2]'(by omega), List.getElem?_eq_getElem _⟩
      obtain ⟨c0, c1⟩ := hc (j / 2) f hf
      obtain ⟨g0, g1⟩ := flds_get news (j / 2) f hf
      rcases Nat.mod_two_eq_zero_or_one j with h0 | h0
      · have e : j / 2 * 2 = j := by omega
        rw [e] at c0 g0
        rw [g0] at hu
        rw [c0, ← hu]
      · have e : j / 2 * 2 + 1 = j := by omega
        rw [e] at c1 g1
        rw [g1] at hu
        rw [c1, ← hu]
    by_cases h0 : news.length = 0
    · obtain rfl : news = [] := List.eq_nil_of_length_eq_zero h0
      obtain ⟨v', w', hrun, h2, h3, _, h5⟩ := run_append_own_at (P := Tryz.prog) w 0 23 23 42 i (.agg #[.string ⟨#[]⟩, .string ⟨#[]⟩]) 2 32 Tryz.underlying23 hi hz hsz hby rfl (by omega) v ls.length (flds ls) hown a 0 c []
        rfl (fun j u hu => by simp at hu) (fun u hu => by cases hu) (by simp only [maxLen]; simp at hlen; omega) (by simpa using hlen) (Nat.zero_le _)
      refine ⟨v', w', v'.ownBlock, hrun, ⟨?_, rfl⟩, Turn.of_grown h3 (fun k hk => by rw [← ho]; exact hk), by rw [← ho]; exact h5⟩
      simpa using h2
    · obtain ⟨v', w', hrun, h2, h3, _, h5⟩ := run_append_own_at (P := Tryz.prog) w 0 23 23 42 i (.agg #[.string ⟨#[]⟩, .string ⟨#[]⟩]) 2 32 Tryz.underlying23 hi hz hsz hby rfl (by omega) v ls.length (flds ls) hown a news.length c (flds news)
        (flds_length news) hcells (flds_cells _) (by simp only [maxLen]; omega) hlen (Nat.zero_le _)
      refine ⟨v', w', v'.ownBlock, hrun, ⟨?_, rfl⟩, Turn.of_grown h3 (fun k hk => by rw [← ho]; exact hk), by rw [← ho]; exact h5⟩
      rw [List.length_append, flds_append]
      exact h2
/-- What a list of the call's own lies in. -/
theorem OwnF.row {w : World} {v : Value} {o : Option Nat} {ls : List Fld} (h : OwnF w v o ls) : ∃ A c, v = .slice A ls.length c ∧ SrcF w (fun _ => True) A ls ∧ (0 < ls.length → ∃ g cur, A = some ⟨g, 0, none⟩ ∧ o = some g ∧ w.heap[g]? = some (.cells cur 42 (0, 0)) ∧ ls.length * 2 ≤ cur.size) := by
  obtain ⟨A, c, hv, hs⟩ := h.src (fun _ => True) (fun _ _ => trivial)
  refine ⟨A, c, hv, hs, fun h0 => ?_⟩
  obtain ⟨⟨h1, h2⟩, h3⟩ := h
  rcases h2 with ⟨_, hn⟩ | ⟨g, cap, cur, hv2, _, hh, hnc, _, hsz, htk⟩
  · omega
  · rw [hv2] at hv h3
    injection hv with hA
    exact ⟨g, cur, hA.symm, h3.symm, hh, by rw [hsz]; omega⟩
end Go.Proofs.YtdcbcjljmjnopaaGreatDoor
