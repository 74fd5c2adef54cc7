/-
  Plain mathematics of texts: small letters, blanks, tokens, quoted strings.
  Conditions: those that each theorem names.
-/
import Derived.Test.YtdcbcjljmjnopaaGreatDoorRC
namespace Go.Proofs.YtdcbcjljmjnopaaGreatDoor

theorem byte_all (P : UInt8 → Bool) (h : (List.range 256).all (fun n => P (UInt8.ofNat n)) = true) (c : UInt8) : P c = true := by
  have hm : c.toNat ∈ List.range 256 := List.mem_range.2 c.toNat_lt
  have := List.all_eq_true.1 h c.toNat hm
  simpa using this

theorem lowB_twice (c : UInt8) : lowB (lowB c) = lowB c := by
  have := byte_all (fun c => lowB (lowB c) == lowB c) (by decide +kernel) c
  simpa using this
theorem lowF_twice (l : List UInt8) : lowF (lowF l) = lowF l := by
  simp only [lowF, List.map_map]
  congr 1
  funext c
  exact lowB_twice c
theorem lowF_length (l : List UInt8) : (lowF l).length = l.length := by simp [lowF]

theorem tokB_facts (c : UInt8) (h : tokB c = true) : tokB (lowB c) = true ∧ shownB c = true ∧ blankB c = false ∧ c ≠ 34 ∧ c ≠ 44 ∧ c ≠ 61 ∧ c ≠ 92 := by
  have := byte_all (fun c => !tokB c || (tokB (lowB c) && shownB c && !blankB c && c != 34 && c != 44 && c != 61 && c != 92)) (by decide +kernel) c
  simp [h] at this
  simpa [and_assoc] using this

theorem trim_left (l : List UInt8) : ∀ c r, ltrim l = c :: r → blankB c = false := by
  intro c r h
  unfold ltrim at h
  induction l with
  | nil => simp at h
  | cons a l ih =>
    rw [List.dropWhile_cons] at h
    split at h
    · exact ih h
    · next hb =>
      injection h with h1 _
      subst h1
      simpa using hb

/-- No blank at either end. -/
def Bare (l : List UInt8) : Prop := (∀ c r, l = c :: r → blankB c = false) ∧ (∀ c r, l = r ++ [c] → blankB c = false)
theorem trim_bare (l : List UInt8) (h : Bare l) : trimF l = l := by
  have h1 : ltrim l = l := by
    cases l with
    | nil => rfl
    | cons c r => exact ltrim_no c r (h.1 c r rfl)
  unfold trimF
  rw [h1]
  rcases List.eq_nil_or_concat l with rfl | ⟨r, c, rfl⟩
  · rfl
  · rw [List.concat_eq_append] at h ⊢
    exact rtrim_no c r (h.2 c r rfl)
theorem rtrim_front (l : List UInt8) (c : UInt8) (r : List UInt8) (h : rtrim l = c :: r) : ∃ t, l = c :: r ++ t := by
  unfold rtrim at h
  refine ⟨(l.reverse.takeWhile blankB).reverse, ?_⟩
  rw [← h, ← List.reverse_append, List.takeWhile_append_dropWhile, List.reverse_reverse]
theorem bare_trim (l : List UInt8) : Bare (trimF l) := by
  refine ⟨fun c r h => ?_, fun c r h => ?_⟩
  · unfold trimF at h
    obtain ⟨t, ht⟩ := rtrim_front _ _ _ h
    exact trim_left l c (r ++ t) ht
  · unfold trimF rtrim at h
    have h2 : (ltrim l).reverse.dropWhile blankB = c :: r.reverse := by
      have := congrArg List.reverse h
      simpa using this
    have h3 : ltrim ((ltrim l).reverse) = c :: r.reverse := h2
    exact trim_left _ _ _ h3
theorem trim_twice (l : List UInt8) : trimF (trimF l) = trimF l := trim_bare _ (bare_trim l)

theorem tok_mem (l : List UInt8) (h : tokF l = true) : l ≠ [] ∧ ∀ c ∈ l, tokB c = true := by
  unfold tokF at h
  simp only [Bool.and_eq_true, Bool.not_eq_true', List.all_eq_true] at h
  exact ⟨by intro e; rw [e] at h; simp at h, h.2⟩
theorem tok_low (l : List UInt8) (h : tokF l = true) : tokF (lowF l) = true := by
  obtain ⟨h1, h2⟩ := tok_mem l h
  unfold tokF lowF
  simp only [Bool.and_eq_true, Bool.not_eq_true', List.all_eq_true]
  refine ⟨by cases l <;> simp_all, fun c hc => ?_⟩
  obtain ⟨d, hd, rfl⟩ := List.mem_map.1 hc
  exact (tokB_facts d (h2 d hd)).1
theorem tok_vis (l : List UInt8) (h : tokF l = true) : visF l = true := by
  obtain ⟨_, h2⟩ := tok_mem l h
  exact List.all_eq_true.2 fun c hc => (tokB_facts c (h2 c hc)).2.1
theorem tok_bare (l : List UInt8) (h : tokF l = true) : Bare l := by
  obtain ⟨_, h2⟩ := tok_mem l h
  exact ⟨fun c r e => (tokB_facts c (h2 c (by rw [e]; simp))).2.2.1, fun c r e => (tokB_facts c (h2 c (by rw [e]; simp))).2.2.1⟩
end Go.Proofs.YtdcbcjljmjnopaaGreatDoor
