/-
  Quoted texts and pairs: plain mathematics.
  Conditions: those that each theorem names.
-/
import Derived.Test.YtbkpiadbgpnhlaaDoorPA
import Derived.Test.YtbkpiadbgpnhlaaDoorRF
namespace Go.Proofs.YtbkpiadbgpnhlaaDoor

theorem tok_pair (l : List UInt8) (h : tokF l = true) : pairF l = some (lowF l, []) := by
  obtain ⟨_, h2⟩ := tok_mem l h
  have he : eqAt l = l.length := by
    unfold eqAt
    rw [List.findIdx_eq_length]
    intro c hc
    have := (tokB_facts c (h2 c hc)).2.2.2.2.2.1
    simpa using this
  unfold pairF
  rw [he, List.take_length, if_neg (by rw [h]; simp), if_pos rfl]

/-! Quoted strings. -/
theorem quo_body (l rest : List UInt8) : qskip (l.flatMap quoB ++ 34 :: rest) = (l.flatMap quoB).length + 1 := by
  induction l with
  | nil => simp [qskip_end 34 rest rfl]
  | cons c l ih =>
    by_cases h : c = 34 ∨ c = 92
    · have e : quoB c = [92, c] := by unfold quoB; rw [if_pos h]
      rw [List.flatMap_cons, e]
      show qskip (92 :: c :: (l.flatMap quoB ++ 34 :: rest)) = _
      rw [qskip_back 92 _ rfl, if_neg (by simp), List.drop_succ_cons, List.drop_zero, ih]
      simp
      omega
    · have e : quoB c = [c] := by unfold quoB; rw [if_neg h]
      rw [List.flatMap_cons, e]
      show qskip (c :: (l.flatMap quoB ++ 34 :: rest)) = _
      rw [qskip_other c _ (fun e => h (.inl e)) (fun e => h (.inr e)), ih]
      simp
      omega
theorem unq_body (l : List UInt8) : ubody (l.flatMap quoB ++ [34]) = if visF l then some l else none := by
  induction l with
  | nil => rfl
  | cons c l ih =>
    have hv : visF (c :: l) = (shownB c && visF l) := by simp [visF]
    rw [hv]
    by_cases h : c = 34 ∨ c = 92
    · have e : quoB c = [92, c] := by unfold quoB; rw [if_pos h]
      have hs : shownB c = true := by rcases h with rfl | rfl <;> decide
      rw [List.flatMap_cons, e]
      show ubody (92 :: c :: (l.flatMap quoB ++ [34])) = _
      rw [ubody_back 92 c _ rfl, ih, hs]
      cases visF l <;> simp
    · have e : quoB c = [c] := by unfold quoB; rw [if_neg h]
      rw [List.flatMap_cons, e]
      show ubody (c :: (l.flatMap quoB ++ [34])) = _
      rw [ubody_other c _ (fun e => h (.inl e)) (fun e => h (.inr e)), ih]
      cases shownB c <;> cases visF l <;> simp
theorem unq_quo (l : List UInt8) : unqF (quoF l) = if visF l then some l else none := by
  show unqF (34 :: (l.flatMap quoB ++ [34])) = _
  rw [unqF, if_pos rfl, unq_body]
theorem unq_vis : ∀ (l x : List UInt8), ubody l = some x → visF x = true
  | [], x, h => by simp [ubody] at h
  | [c], x, h => by
    simp only [ubody] at h
    split at h
    · injection h with h; subst h; rfl
    · cases h
  | c :: d :: l, x, h => by
    simp only [ubody] at h
    split at h
    · cases h
    · split at h
      · split at h
        · next hs =>
          obtain ⟨y, hy, rfl⟩ := Option.map_eq_some_iff.1 h
          have := unq_vis l y hy
          simp [visF] at this ⊢
          exact ⟨hs, this⟩
        · cases h
      · split at h
        · next hs =>
          obtain ⟨y, hy, rfl⟩ := Option.map_eq_some_iff.1 h
          have := unq_vis (d :: l) y hy
          simp [visF] at this ⊢
          exact ⟨hs, this⟩
        · cases h
theorem unq_shown (l x : List UInt8) (h : unqF l = some x) : visF x = true := by
  cases l with
  | nil => simp [unqF] at h
  | cons c l =>
    simp only [unqF] at h
    split at h
    · exact unq_vis l x h
    · cases h
end Go.Proofs.YtbkpiadbgpnhlaaDoor
