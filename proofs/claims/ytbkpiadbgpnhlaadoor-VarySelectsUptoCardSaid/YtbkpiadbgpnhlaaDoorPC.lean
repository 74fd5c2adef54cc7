/-
  Plain mathematics of texts: elements, put together again, are the same.
  Conditions: those that each theorem names.
-/
import Derived.Test.YtbkpiadbgpnhlaaDoorPB
namespace Go.Proofs.YtbkpiadbgpnhlaaDoor

/-- One sign outside of quoted parts, or a quoted part that ends. -/
def Block (b : List UInt8) : Prop := (∃ c, b = [c] ∧ c ≠ 34 ∧ c ≠ 44) ∨ (Whole1 b ∧ ∃ r, b = 34 :: r ∧ ∃ q, b = q ++ [34])
def W (x : List UInt8) : Prop := ∃ bs : List (List UInt8), x = bs.flatten ∧ ∀ b ∈ bs, Block b
/-- .. and behind them, maybe, a quoted part that reaches the text's end. -/
def T (x : List UInt8) : Prop := ∃ a o, x = a ++ o ∧ W a ∧ (o = [] ∨ ∃ l, o = 34 :: l ∧ qskip l = l.length)

theorem Block.whole {b : List UInt8} (h : Block b) : Whole1 b := by
  rcases h with ⟨c, rfl, h1, h2⟩ | ⟨h, _⟩
  · exact Whole1.plain c h1 h2
  · exact h
theorem W.nil : W [] := ⟨[], rfl, fun _ h => by cases h⟩
theorem W.append {x y : List UInt8} (hx : W x) (hy : W y) : W (x ++ y) := by
  obtain ⟨bs, rfl, h1⟩ := hx
  obtain ⟨cs, rfl, h2⟩ := hy
  exact ⟨bs ++ cs, by simp, fun b hb => by rcases List.mem_append.1 hb with h | h; exact h1 b h; exact h2 b h⟩
theorem W.block {b : List UInt8} (h : Block b) : W b := ⟨[b], by simp, fun c hc => by simp at hc; subst hc; exact h⟩
theorem W.whole {x : List UInt8} (h : W x) : Whole1 x := by
  obtain ⟨bs, rfl, h⟩ := h
  induction bs with
  | nil => exact Whole1.nil
  | cons b bs ih =>
    rw [List.flatten_cons]
    exact Whole1.append (h b (by simp)).whole (ih fun c hc => h c (by simp [hc]))
theorem W.tail {x : List UInt8} (h : W x) : T x := ⟨x, [], by simp, h, .inl rfl⟩
theorem T.parts {x : List UInt8} (h : T x) (cur : List UInt8) : partsF cur x = [cur ++ x] := by
  obtain ⟨a, o, rfl, ha, ho⟩ := h
  rw [ha.whole]
  rcases ho with rfl | ⟨l, rfl, hl⟩
  · rw [partsF_nil, List.append_nil]
  · rw [partsF_quote, hl, List.take_length, List.drop_length, partsF_nil, List.append_assoc]

theorem qskip_closed : ∀ (l rest : List UInt8), qskip l < l.length → qskip (l.take (qskip l) ++ rest) = qskip l
  | [], _, h => absurd h (by simp [qskip])
  | [c], _, h => absurd h (by simp [qskip])
  | c :: d :: l, rest, h => by
    by_cases h34 : c = 34
    · rw [qskip_end c _ h34]
      show qskip (c :: rest) = 1
      exact qskip_end c rest h34
    · by_cases h92 : c = 92
      · have e : qskip (c :: d :: l) = 2 + qskip l := by simp [qskip, h92]
        rw [e] at h ⊢
        simp only [List.length_cons] at h
        have ih := qskip_closed l rest (by omega)
        rw [Nat.add_comm 2, List.take_succ_cons, List.take_succ_cons]
        show qskip (c :: d :: (l.take (qskip l) ++ rest)) = _
        have e2 : qskip (c :: d :: (l.take (qskip l) ++ rest)) = 2 + qskip (l.take (qskip l) ++ rest) := by simp [qskip, h92]
        rw [e2, ih]
        omega
      · rw [qskip_other c _ h34 h92] at h ⊢
        simp only [List.length_cons] at h
        have ih := qskip_closed (d :: l) rest (by simp only [List.length_cons]; omega)
        rw [Nat.add_comm 1, List.take_succ_cons]
        show qskip (c :: ((d :: l).take (qskip (d :: l)) ++ rest)) = _
        rw [qskip_other c _ h34 h92, ih]
        omega
theorem qskip_last : ∀ (l : List UInt8), qskip l < l.length → ∃ q, l.take (qskip l) = q ++ [34]
  | [], h => absurd h (by simp [qskip])
  | [c], h => absurd h (by simp [qskip])
  | c :: d :: l, h => by
    by_cases h34 : c = 34
    · rw [qskip_end c _ h34]
      exact ⟨[], by simp [h34]⟩
    · by_cases h92 : c = 92
      · have e : qskip (c :: d :: l) = 2 + qskip l := by simp [qskip, h92]
        rw [e] at h ⊢
        simp only [List.length_cons] at h
        obtain ⟨q, hq⟩ := qskip_last l (by omega)
        exact ⟨c :: d :: q, by rw [Nat.add_comm 2, List.take_succ_cons, List.take_succ_cons, hq]; rfl⟩
      · rw [qskip_other c _ h34 h92] at h ⊢
        simp only [List.length_cons] at h
        obtain ⟨q, hq⟩ := qskip_last (d :: l) (by simp only [List.length_cons]; omega)
        exact ⟨c :: q, by rw [Nat.add_comm 1, List.take_succ_cons, hq]; rfl⟩
theorem qskip_blank : ∀ (l : List UInt8) (b : UInt8), blankB b = true → qskip (l ++ [b]) = (l ++ [b]).length → qskip l = l.length
  | [], _, _, _ => rfl
  | [c], _, _, _ => by simp [qskip]
  | c :: d :: l, b, hb, h => by
    by_cases h34 : c = 34
    · rw [List.cons_append, qskip_end c _ h34] at h
      simp at h
    · by_cases h92 : c = 92
      · have e : ∀ m, qskip (c :: d :: m) = 2 + qskip m := fun m => by simp [qskip, h92]
        rw [List.cons_append, List.cons_append, e] at h
        rw [e]
        have ih := qskip_blank l b hb (by simp at h ⊢; omega)
        simp [ih]
        omega
      · rw [List.cons_append, qskip_other c _ h34 h92] at h
        rw [qskip_other c _ h34 h92]
        have ih := qskip_blank (d :: l) b hb (by simp at h ⊢; omega)
        rw [ih]
        simp
        omega

theorem closed_block (l : List UInt8) (h : qskip l < l.length) : Block (34 :: l.take (qskip l)) := by
  refine .inr ⟨fun cur rest => ?_, _, rfl, ?_⟩
  · rw [List.cons_append, partsF_quote, qskip_closed l rest h]
    have hl : (l.take (qskip l)).length = qskip l := by rw [List.length_take]; omega
    rw [List.take_append, List.drop_append, hl, Nat.sub_self, List.take_zero, List.append_nil, List.drop_zero, List.take_take, Nat.min_self, List.drop_of_length_le (by omega), List.nil_append]
  · obtain ⟨q, hq⟩ := qskip_last l h
    exact ⟨34 :: q, by rw [hq]; rfl⟩

theorem parts_shape : ∀ (n : Nat) (l cur : List UInt8), l.length < n → W cur → ∃ ws x, partsF cur l = ws ++ [x] ∧ (∀ w ∈ ws, W w) ∧ T x
  | 0, l, _, h, _ => absurd h (by omega)
  | n + 1, [], cur, _, hc => ⟨[], cur, partsF_nil cur, (fun _ h => by cases h), hc.tail⟩
  | n + 1, c :: l, cur, h, hc => by
    simp only [List.length_cons] at h
    by_cases h34 : c = 34
    · subst h34
      rw [partsF_quote]
      by_cases hq : qskip l < l.length
      · exact parts_shape n (l.drop (qskip l)) _ (by rw [List.length_drop]; omega) (hc.append (W.block (closed_block l hq)))
      · have hq' : qskip l = l.length := by have := qskip_le l; omega
        refine ⟨[], cur ++ 34 :: l, by rw [hq', List.take_length, List.drop_length, partsF_nil]; rfl, fun _ h => (by cases h), cur, 34 :: l, rfl, hc, .inr ⟨l, rfl, hq'⟩⟩
    · by_cases h44 : c = 44
      · subst h44
        rw [partsF_comma]
        obtain ⟨ws, x, h1, h2, h3⟩ := parts_shape n l [] (by omega) W.nil
        exact ⟨cur :: ws, x, by rw [h1]; rfl, fun w hw => by rcases List.mem_cons.1 hw with rfl | hw; exact hc; exact h2 w hw, h3⟩
      · rw [partsF_other _ _ c h34 h44]
        exact parts_shape n l _ (by omega) (hc.append (W.block (.inl ⟨c, rfl, h34, h44⟩)))

theorem W.cons {b x : List UInt8} (hb : Block b) (hx : W x) : W (b ++ x) := (W.block hb).append hx
theorem flat_ltrim (o : List UInt8) (ho : o = [] ∨ ∃ l, o = 34 :: l) : ∀ bs : List (List UInt8), (∀ b ∈ bs, Block b) → ∃ cs : List (List UInt8), ltrim (bs.flatten ++ o) = cs.flatten ++ o ∧ ∀ b ∈ cs, Block b
  | [], _ => by
    refine ⟨[], ?_, fun _ h => by cases h⟩
    rcases ho with rfl | ⟨l, rfl⟩
    · rfl
    · exact ltrim_no 34 l (by decide)
  | b :: bs, h => by
    rcases h b (by simp) with ⟨c, rfl, h1, h2⟩ | ⟨hw, r, hr, hq⟩
    · cases hb : blankB c with
      | true =>
        obtain ⟨cs, h3, h4⟩ := flat_ltrim o ho bs (fun d hd => h d (by simp [hd]))
        refine ⟨cs, ?_, h4⟩
        rw [List.flatten_cons, List.append_assoc]
        show ltrim (c :: (bs.flatten ++ o)) = _
        rw [ltrim_yes c _ hb, h3]
      | false =>
        refine ⟨[c] :: bs, ?_, h⟩
        rw [List.flatten_cons, List.append_assoc]
        exact ltrim_no c _ hb
    · refine ⟨b :: bs, ?_, h⟩
      rw [List.flatten_cons, List.append_assoc, hr]
      exact ltrim_no 34 _ (by decide)
theorem W.ltrim {x : List UInt8} (h : W x) : W (ltrim x) := by
  obtain ⟨bs, rfl, h⟩ := h
  obtain ⟨cs, h1, h2⟩ := flat_ltrim [] (.inl rfl) bs h
  rw [List.append_nil, List.append_nil] at h1
  exact ⟨cs, h1, h2⟩
theorem T.ltrim {x : List UInt8} (h : T x) : T (ltrim x) := by
  obtain ⟨a, o, rfl, ⟨bs, rfl, hb⟩, ho⟩ := h
  have ho' : o = [] ∨ ∃ l, o = 34 :: l := by
    rcases ho with h | ⟨l, h, _⟩
    · exact .inl h
    · exact .inr ⟨l, h⟩
  obtain ⟨cs, h1, h2⟩ := flat_ltrim o ho' bs hb
  exact ⟨cs.flatten, o, h1, ⟨cs, rfl, h2⟩, ho⟩
theorem flat_rtrim : ∀ (n : Nat) (bs : List (List UInt8)), bs.length ≤ n → (∀ b ∈ bs, Block b) → W (rtrim bs.flatten)
  | 0, bs, hn, _ => by
    obtain rfl : bs = [] := List.eq_nil_of_length_eq_zero (by omega)
    exact W.nil
  | n + 1, bs, hn, h => by
    rcases List.eq_nil_or_concat bs with rfl | ⟨cs, b, rfl⟩
    · exact W.nil
    · rw [List.concat_eq_append] at hn h ⊢
      simp only [List.length_append, List.length_cons, List.length_nil] at hn
      have hb := h b (by simp)
      have hw : W (cs ++ [b]).flatten := ⟨_, rfl, h⟩
      have e : (cs ++ [b]).flatten = cs.flatten ++ b := by simp
      rcases hb with ⟨c, rfl, h1, h2⟩ | ⟨_, r, _, q, hq⟩
      · cases hc : blankB c with
        | true => rw [e, rtrim_yes c _ hc]; exact flat_rtrim n cs (by omega) (fun d hd => h d (by simp [hd]))
        | false => rw [e, rtrim_no c _ hc, ← e]; exact hw
      · have : rtrim (cs.flatten ++ b) = cs.flatten ++ b := by
          rw [hq, ← List.append_assoc]
          exact rtrim_no 34 _ (by decide)
        rw [e, this, ← e]
        exact hw
theorem open_rtrim (a : List UInt8) (ha : W a) : ∀ (n : Nat) (l : List UInt8), l.length ≤ n → qskip l = l.length → T (rtrim (a ++ 34 :: l))
  | n, l, hn, hl => by
    rcases List.eq_nil_or_concat l with rfl | ⟨m, c, rfl⟩
    · rw [rtrim_no 34 a (by decide)]
      exact ⟨a, [34], rfl, ha, .inr ⟨[], rfl, rfl⟩⟩
    · rw [List.concat_eq_append] at hn hl ⊢
      have e : a ++ 34 :: (m ++ [c]) = (a ++ 34 :: m) ++ [c] := by simp
      cases hc : blankB c with
      | true =>
        rw [e, rtrim_yes c _ hc]
        cases n with
        | zero => simp at hn
        | succ n => exact open_rtrim a ha n m (by simp at hn; omega) (qskip_blank m c hc hl)
      | false =>
        rw [e, rtrim_no c _ hc, ← e]
        exact ⟨a, 34 :: (m ++ [c]), rfl, ha, .inr ⟨_, rfl, hl⟩⟩
theorem W.trim {x : List UInt8} (h : W x) : W (trimF x) := by
  obtain ⟨bs, hx, hb⟩ := h.ltrim
  unfold trimF
  rw [hx]
  exact flat_rtrim _ bs (Nat.le_refl _) hb
theorem T.trim {x : List UInt8} (h : T x) : T (trimF x) := by
  obtain ⟨a, o, hx, ha, ho⟩ := h.ltrim
  unfold trimF
  rw [hx]
  rcases ho with rfl | ⟨l, rfl, hl⟩
  · rw [List.append_nil]
    obtain ⟨bs, rfl, hb⟩ := ha
    exact (flat_rtrim _ bs (Nat.le_refl _) hb).tail
  · exact open_rtrim a ha _ l (Nat.le_refl _) hl

/-- Elements with a comma between them. -/
def joinF : List (List UInt8) → List UInt8
  | [] => []
  | [x] => x
  | x :: y :: r => x ++ 44 :: joinF (y :: r)

theorem elems_bare (ps : List (List UInt8)) : ∀ x ∈ elemsOf ps, x ≠ [] ∧ trimF x = x := by
  intro x hx
  obtain ⟨h1, h2⟩ := List.mem_filter.1 hx
  obtain ⟨y, _, rfl⟩ := List.mem_map.1 h1
  exact ⟨by simpa using h2, trim_twice y⟩
theorem elems_same (ls : List (List UInt8)) (h : ∀ x ∈ ls, x ≠ [] ∧ trimF x = x) : elemsOf ls = ls := by
  induction ls with
  | nil => rfl
  | cons x r ih =>
    obtain ⟨h1, h2⟩ := h x (by simp)
    rw [elemsOf_cons, h2, if_neg h1, ih fun y hy => h y (by simp [hy])]
    rfl
/-- All but the last go on as one part; the last may have a quoted part without an end. -/
def Chain (ls : List (List UInt8)) : Prop := ∃ ws ts, ls = ws ++ ts ∧ ts.length ≤ 1 ∧ (∀ w ∈ ws, W w) ∧ ∀ t ∈ ts, T t
theorem Chain.parts : ∀ (ws ts : List (List UInt8)), ws ++ ts ≠ [] → ts.length ≤ 1 → (∀ w ∈ ws, W w) → (∀ t ∈ ts, T t) → partsF [] (joinF (ws ++ ts)) = ws ++ ts
  | [], [], h, _, _, _ => absurd rfl h
  | [], [t], _, _, _, ht => (ht t (by simp)).parts []
  | [], _ :: _ :: _, _, h, _, _ => absurd h (by simp)
  | [w], [], _, _, hw, _ => (hw w (by simp)).tail.parts []
  | w :: v :: ws, ts, _, h1, hw, ht => by
    have ih := Chain.parts (v :: ws) ts (by simp) h1 (fun x hx => hw x (by simp [hx])) ht
    show partsF [] (w ++ 44 :: joinF (v :: ws ++ ts)) = _
    rw [(hw w (by simp)).whole, partsF_comma, ih]
    rfl
  | [w], t :: ts, _, h1, hw, ht => by
    have ih := Chain.parts [] (t :: ts) (by simp) h1 (fun x hx => by cases hx) ht
    show partsF [] (w ++ 44 :: joinF (t :: ts)) = _
    rw [(hw w (by simp)).whole, partsF_comma]
    have e : joinF (t :: ts) = joinF ([] ++ t :: ts) := rfl
    rw [e, ih]
    rfl
theorem Chain.list {ls : List (List UInt8)} (h : Chain ls) (hb : ∀ x ∈ ls, x ≠ [] ∧ trimF x = x) : listF (joinF ls) = ls := by
  by_cases h0 : ls = []
  · subst h0
    rfl
  · obtain ⟨ws, ts, rfl, h1, h2, h3⟩ := h
    rw [listF_eq, Chain.parts ws ts h0 h1 h2 h3, elems_same _ hb]
theorem list_chain (b : List UInt8) : Chain (listF b) := by
  obtain ⟨ws, x, h1, h2, h3⟩ := parts_shape (b.length + 1) b [] (by omega) W.nil
  rw [listF_eq, h1, elemsOf_append]
  refine ⟨elemsOf ws, elemsOf [x], rfl, ?_, fun w hw => ?_, fun t ht => ?_⟩
  · rw [elemsOf_cons]
    split <;> simp [elemsOf]
  · obtain ⟨y, hy, rfl⟩ := List.mem_map.1 (List.mem_filter.1 hw).1
    exact (h2 y hy).trim
  · obtain ⟨y, hy, rfl⟩ := List.mem_map.1 (List.mem_filter.1 ht).1
    simp at hy
    subst hy
    exact h3.trim
/-- Elements, put together again, are the same; with commas and blanks ahead, too. -/
theorem list_join (b : List UInt8) : listF (joinF (listF b)) = listF b := (list_chain b).list (by rw [listF_eq]; exact elems_bare _)
theorem list_ahead (l : List UInt8) : listF ([32, 44, 9, 44] ++ l) = listF l := by
  rw [listF_eq, listF_eq]
  show elemsOf (partsF [] (32 :: 44 :: 9 :: 44 :: l)) = _
  rw [partsF_other _ _ 32 (by decide) (by decide), partsF_comma, partsF_other _ _ 9 (by decide) (by decide), partsF_comma, elemsOf_cons, elemsOf_cons, if_pos (by decide), if_pos (by decide)]
  rfl
/-- A text without quotes, a comma, and any text: the elements of both. -/
theorem parts_plain (t : List UInt8) : ∀ (b cur : List UInt8), (∀ c ∈ b, c ≠ 34) → partsF cur (b ++ 44 :: t) = partsF cur b ++ partsF [] t
  | [], cur, _ => partsF_comma cur t
  | c :: b, cur, h => by
    have ih := fun cur => parts_plain t b cur fun d hd => h d (by simp [hd])
    by_cases h44 : c = 44
    · subst h44
      rw [List.cons_append, partsF_comma, partsF_comma, ih]
      rfl
    · rw [List.cons_append, partsF_other _ _ c (h c (by simp)) h44, partsF_other _ _ c (h c (by simp)) h44, ih]
theorem list_both (b t : List UInt8) (h : ∀ c ∈ b, c ≠ 34) : listF (b ++ 44 :: t) = listF b ++ listF t := by
  rw [listF_eq, listF_eq, listF_eq, parts_plain t b [] h, elemsOf_append]
end Go.Proofs.YtbkpiadbgpnhlaaDoor
