/-
  Plain mathematics of P7.3: where one coding stands, all the rest of the fields' text is blanks and commas.
  Conditions: those that each theorem names.
-/
import Derived.Test.YtcpohdejdiljnaaDoorFW
import Derived.Test.YtcpohdejdiljnaaDoorShelf2
namespace Go.Proofs.YtcpohdejdiljnaaDoor
open Go.RowKit

def sepB (c : UInt8) : Bool := blankB c || c == 44
def sepL (l : List UInt8) : Prop := ∀ c ∈ l, sepB c = true
theorem sepL_app {a b : List UInt8} (ha : sepL a) (hb : sepL b) : sepL (a ++ b) := fun c hc => (List.mem_append.1 hc).elim (ha c) (hb c)
theorem sepL_comma {a b : List UInt8} (ha : sepL a) (hb : sepL b) : sepL (a ++ 44 :: b) := sepL_app ha (fun c hc => by
  rcases List.mem_cons.1 hc with rfl | h
  · rfl
  · exact hb c h)
theorem sepL_blank {a : List UInt8} (h : ∀ c ∈ a, blankB c = true) : sepL a := fun c hc => by unfold sepB; rw [h c hc]; rfl
/-- What texts say, each one behind a comma. -/
def glue : List (List UInt8) → List UInt8
  | [] => []
  | [x] => x
  | x :: y :: r => x ++ 44 :: glue (y :: r)
theorem glue_cons (x : List UInt8) (r : List (List UInt8)) (h : r ≠ []) : glue (x :: r) = x ++ 44 :: glue r := by
  cases r with
  | nil => exact absurd rfl h
  | cons y r => rfl
theorem join_glue : ∀ l : List (List UInt8), Lib.join l [44] = glue l
  | [] => rfl
  | [x] => by simp [Lib.join, glue, List.intercalate]
  | x :: y :: r => by
    have := join_glue (y :: r)
    unfold Lib.join at *
    rw [glue, ← this]
    simp [List.intercalate]
theorem partsF_some (l : List UInt8) : ∀ n cur, l.length ≤ n → ∀ k, k = l → partsF cur k ≠ [] := by
  intro n
  induction n generalizing l with
  | zero =>
    intro cur h k hk
    subst hk
    obtain rfl : k = [] := by cases k <;> simp_all
    rw [partsF_nil]; simp
  | succ n ih =>
    intro cur h k hk
    subst hk
    cases k with
    | nil => rw [partsF_nil]; simp
    | cons c t =>
      have ht : t.length ≤ n := by simpa using h
      by_cases h34 : c = 34
      · subst h34
        rw [partsF_quote]
        exact ih (t.drop (qskip t)) _ (by rw [List.length_drop]; omega) _ rfl
      · by_cases h44 : c = 44
        · subst h44
          rw [partsF_comma]; simp
        · rw [partsF_other cur t c h34 h44]
          exact ih t _ ht _ rfl
theorem glue_parts (n : Nat) : ∀ (l cur : List UInt8), l.length ≤ n → glue (partsF cur l) = cur ++ l := by
  induction n with
  | zero =>
    intro l cur h
    obtain rfl : l = [] := by cases l <;> simp_all
    rw [partsF_nil]; simp [glue]
  | succ n ih =>
    intro l cur h
    cases l with
    | nil => rw [partsF_nil]; simp [glue]
    | cons c t =>
      have ht : t.length ≤ n := by simpa using h
      by_cases h34 : c = 34
      · subst h34
        rw [partsF_quote, ih _ _ (by rw [List.length_drop]; omega), List.append_assoc, List.cons_append, List.take_append_drop]
      · by_cases h44 : c = 44
        · subst h44
          rw [partsF_comma, glue_cons _ _ (partsF_some t _ _ (Nat.le_refl _) _ rfl), ih t [] ht]
          simp
        · rw [partsF_other cur t c h34 h44, ih t _ ht, List.append_assoc]
          rfl
theorem drop_blank : ∀ l : List UInt8, ∃ a, (∀ c ∈ a, blankB c = true) ∧ l = a ++ l.dropWhile blankB
  | [] => ⟨[], (fun _ h => by cases h), rfl⟩
  | c :: r => by
    obtain ⟨a, h1, h2⟩ := drop_blank r
    cases hc : blankB c with
    | false => exact ⟨[], (fun _ h => by cases h), by simp [hc]⟩
    | true =>
      refine ⟨c :: a, fun d hd => ?_, ?_⟩
      · rcases List.mem_cons.1 hd with rfl | h
        · exact hc
        · exact h1 d h
      · rw [List.dropWhile_cons, if_pos hc, List.cons_append, ← h2]
theorem trim_split (x : List UInt8) : ∃ a b, sepL a ∧ sepL b ∧ x = a ++ (trimF x ++ b) := by
  obtain ⟨a, h1, h2⟩ := drop_blank x
  obtain ⟨b, h3, h4⟩ := drop_blank (ltrim x).reverse
  have e : ltrim x = trimF x ++ b.reverse := by
    unfold trimF rtrim
    rw [← List.reverse_append, ← h4, List.reverse_reverse]
  exact ⟨a, b.reverse, sepL_blank h1, sepL_blank (fun c hc => h3 c (List.mem_reverse.1 hc)), by rw [← e]; exact h2⟩
/-- Where a text has no element, it is blanks and commas; where it has one, that, and blanks and commas. -/
def Holds : List (List UInt8) → List UInt8 → Prop
  | [], t => sepL t
  | [x], t => ∃ a b, sepL a ∧ sepL b ∧ t = a ++ (x ++ b)
  | _ :: _ :: _, _ => True
theorem Holds.glue {e1 e2 : List (List UInt8)} {t1 t2 : List UInt8} (h1 : Holds e1 t1) (h2 : Holds e2 t2) : Holds (e1 ++ e2) (t1 ++ 44 :: t2) := by
  match e1, e2, h1, h2 with
  | [], [], h1, h2 => exact sepL_comma h1 h2
  | [], [x], h1, ⟨a, b, ha, hb, e⟩ => exact ⟨t1 ++ 44 :: a, b, sepL_comma h1 ha, hb, by rw [e]; simp⟩
  | [x], [], ⟨a, b, ha, hb, e⟩, h2 => exact ⟨a, b ++ 44 :: t2, ha, sepL_comma hb h2, by rw [e]; simp⟩
  | [], _ :: _ :: _, _, _ => exact trivial
  | [_], _ :: _, _, _ => exact trivial
  | _ :: _ :: _, _, _, _ => exact trivial
theorem holds_part (p : List UInt8) : Holds (elemsOf [p]) p := by
  obtain ⟨a, b, ha, hb, e⟩ := trim_split p
  rw [elemsOf_cons]
  show Holds ((if trimF p = [] then [] else [trimF p]) ++ []) p
  rw [List.append_nil]
  split
  · next h =>
    rw [h] at e
    show sepL p
    rw [e]
    exact sepL_app ha hb
  · exact ⟨a, b, ha, hb, e⟩
theorem holds_parts : ∀ ps : List (List UInt8), ps ≠ [] → Holds (elemsOf ps) (glue ps)
  | [], h => absurd rfl h
  | [p], _ => holds_part p
  | p :: q :: r, _ => by
    have h1 := holds_part p
    have h2 := holds_parts (q :: r) (by simp)
    have h3 := h1.glue h2
    rw [← elemsOf_append] at h3
    exact h3
theorem holds_list (v : List UInt8) : Holds (listF v) v := by
  have h := holds_parts (partsF [] v) (partsF_some v _ _ (Nat.le_refl _) _ rfl)
  rw [← listF_eq, glue_parts _ v [] (Nat.le_refl _)] at h
  exact h
theorem holds_els : ∀ vs : List (List UInt8), Holds (elsF vs) (glue vs)
  | [] => fun c h => by cases h
  | [v] => by
    have := holds_list v
    unfold elsF
    simpa [glue] using this
  | v :: x :: r => by
    have h1 := holds_list v
    have h2 := holds_els (x :: r)
    have e : elsF (v :: x :: r) = listF v ++ elsF (x :: r) := by simp [elsF]
    rw [e]
    exact h1.glue h2

theorem low_same (c : UInt8) : Lib.lowerB c = lowB c := by
  have h : ∀ n : Fin 256, Lib.lowerB (UInt8.ofNat n.val) = lowB (UInt8.ofNat n.val) := by decide +kernel
  have := h ⟨c.toNat, c.toNat_lt⟩
  simpa using this
theorem sep_facts (c : UInt8) (h : sepB c = true) : lowB c = c ∧ c ≠ 99 ∧ c.toNat < 128 := by
  have k : ∀ n : Fin 256, sepB (UInt8.ofNat n.val) = true → lowB (UInt8.ofNat n.val) = UInt8.ofNat n.val ∧ UInt8.ofNat n.val ≠ 99 ∧ (UInt8.ofNat n.val).toNat < 128 := by decide +kernel
  have := k ⟨c.toNat, c.toNat_lt⟩
  simp only [UInt8.ofNat_toNat] at this
  exact this h
theorem low_small (c : UInt8) (h : (lowB c).toNat < 128) : c.toNat < 128 := by
  have k : ∀ n : Fin 256, (lowB (UInt8.ofNat n.val)).toNat < 128 → (UInt8.ofNat n.val).toNat < 128 := by decide +kernel
  have := k ⟨c.toNat, c.toNat_lt⟩
  simp only [UInt8.ofNat_toNat] at this
  exact this h
theorem low_sep {a : List UInt8} (h : sepL a) : lowF a = a := by
  unfold lowF
  rw [List.map_congr_left (g := id) (fun c hc => (sep_facts c (h c hc)).1), List.map_id]
theorem index_no : ∀ b : List UInt8, (∀ c ∈ b, c ≠ 99) → Lib.index b chkN = -1
  | [], _ => rfl
  | c :: r, h => by
    have ih := index_no r (fun d hd => h d (List.mem_cons_of_mem _ hd))
    have hc : (99 == c) = false := by simpa using fun e => (h c (List.mem_cons_self ..)) e.symm
    rw [Lib.index, ih]
    have : chkN.isPrefixOf (c :: r) = false := by unfold chkN; rw [List.isPrefixOf_cons_cons, hc]; rfl
    rw [this]
    rfl
theorem index_at (b : List UInt8) : ∀ a : List UInt8, (∀ c ∈ a, c ≠ 99) → Lib.index (a ++ (chkN ++ b)) chkN = (a.length : Int)
  | [], _ => by
    show Lib.index (99 :: ([104, 117, 110, 107, 101, 100] ++ b)) chkN = 0
    rw [Lib.index]
    have : chkN.isPrefixOf (99 :: ([104, 117, 110, 107, 101, 100] ++ b)) = true := by simp [chkN, List.isPrefixOf]
    rw [this]
    rfl
  | c :: r, h => by
    have ih := index_at b r (fun d hd => h d (List.mem_cons_of_mem _ hd))
    have hc : (99 == c) = false := by simpa using fun e => (h c (List.mem_cons_self ..)) e.symm
    rw [List.cons_append, Lib.index, ih]
    have : chkN.isPrefixOf (c :: (r ++ (chkN ++ b))) = false := by
      show List.isPrefixOf (99 :: [104, 117, 110, 107, 101, 100]) _ = false
      rw [List.isPrefixOf_cons_cons, hc]; rfl
    rw [this]
    have e : (((r.length : Int)) == -1) = false := beq_eq_false_iff_ne.2 (by omega)
    rw [e]
    simp
theorem count_one (a b : List UInt8) (ha : sepL a) (hb : sepL b) : Lib.count (a ++ (chkN ++ b)) chkN = 1 := by
  unfold Lib.count
  have h1 := index_at b a (fun c hc => (sep_facts c (ha c hc)).2.1)
  have h2 := index_no b (fun c hc => (sep_facts c (hb c hc)).2.1)
  have hl : (a ++ (chkN ++ b)).length + 1 = (a.length + b.length + 6) + 1 + 1 := by simp [chkN]; omega
  rw [hl, Lib.countFrom, h1]
  have e : (((a.length : Int)) == -1) = false := beq_eq_false_iff_ne.2 (by omega)
  rw [e]
  have hd : (a ++ (chkN ++ b)).drop ((a.length : Int).toNat + chkN.length) = b := by
    rw [show (a.length : Int).toNat + chkN.length = (a ++ chkN).length by simp, ← List.append_assoc, List.drop_left]
  rw [hd, Lib.countFrom, h2]
  rfl
/-- The joined text of codings that are one, chunked. -/
theorem one_coding (vs : List (List UInt8)) (x : List UInt8) (h : elsF vs = [x]) (hx : isChk x = true) : (∀ c ∈ glue vs, c.toNat < 128) ∧ Lib.count (Lib.toLowerA (glue vs)) chkN = 1 := by
  have hh := holds_els vs
  rw [h] at hh
  obtain ⟨a, b, ha, hb, e⟩ := hh
  have hlow : lowF x = chkN := eq_of_beq hx
  constructor
  · intro c hc
    rw [e] at hc
    rcases List.mem_append.1 hc with h1 | h1
    · exact (sep_facts c (ha c h1)).2.2
    · rcases List.mem_append.1 h1 with h2 | h2
      · apply low_small
        have : lowB c ∈ chkN := by rw [← hlow]; exact List.mem_map.2 ⟨c, h2, rfl⟩
        have k : ∀ d ∈ chkN, d.toNat < 128 := by decide
        exact k _ this
      · exact (sep_facts c (hb c h2)).2.2
  · have e2 : Lib.toLowerA (glue vs) = a ++ (chkN ++ b) := by
      have e3 : Lib.toLowerA (glue vs) = lowF (glue vs) := by
        unfold Lib.toLowerA lowF
        exact List.map_congr_left fun c _ => low_same c
      rw [e3, e]
      have := low_sep ha
      have := low_sep hb
      unfold lowF at *
      rw [List.map_append, List.map_append]
      simp_all
    rw [e2]
    exact count_one a b ha hb
end Go.Proofs.YtcpohdejdiljnaaDoor
