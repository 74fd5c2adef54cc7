/-
  Plain mathematics of texts: how a text is parted into elements.
  Conditions: those that each theorem names.
-/
import Derived.Test.YtdcbcjljmjnopaaGreatDoorPA
import Derived.Test.YtdcbcjljmjnopaaGreatDoorRF
namespace Go.Proofs.YtdcbcjljmjnopaaGreatDoor

theorem tok_pair (l : List UInt8) (h : tokF l = true) : pairF l = some (lowF l, []) := by
  obtain ⟨_, h2⟩ := tok_mem l h
  have he : eqAt l = l.length := by
    unfold eqAt
    rw [List.findIdx_eq_length]
    intro c hc
    have := (tokB_facts c (h2 c hc)).2.2.2.2.2.1
    simpa using this
  unfold pairF
  rw [he, List.take_length, if_neg (by rw [h]; simp), if_pos rfl]

/-! Quoted strings. -/
theorem quo_body (l rest : List UInt8) : qskip (l.flatMap quoB ++ 34 :: rest) = (l.flatMap quoB).length + 1 := by
  induction l with
  | nil => simp [qskip_end 34 rest rfl]
  | cons c l ih =>
    by_cases h : c = 34 ∨ c = 92
    · have e : quoB c = [92, c] := by unfold quoB; rw [if_pos h]
      rw [List.flatMap_cons, e]
      show qskip (92 :: c :: (l.flatMap quoB ++ 34 :: rest)) = _
      rw [qskip_back 92 _ rfl, if_neg (by simp), List.drop_succ_cons, List.drop_zero, ih]
      simp
      omega
    · have e : quoB c = [c] := by unfold quoB; rw [if_neg h]
      rw [List.flatMap_cons, e]
      show qskip (c :: (l.flatMap quoB ++ 34 :: rest)) = _
      rw [qskip_other c _ (fun e => h (.inl e)) (fun e => h (.inr e)), ih]
      simp
      omega
theorem unq_body (l : List UInt8) : ubody (l.flatMap quoB ++ [34]) = if visF l then some l else none := by
  induction l with
  | nil => rfl
  | cons c l ih =>
    have hv : visF (c :: l) = (shownB c && visF l) := by simp [visF]
    rw [hv]
    by_cases h : c = 34 ∨ c = 92
    · have e : quoB c = [92, c] := by unfold quoB; rw [if_pos h]
      have hs : shownB c = true := by rcases h with rfl | rfl <;> decide
      rw [List.flatMap_cons, e]
      show ubody (92 :: c :: (l.flatMap quoB ++ [34])) = _
      rw [ubody_back 92 c _ rfl, ih, hs]
      cases visF l <;> simp
    · have e : quoB c = [c] := by unfold quoB; rw [if_neg h]
      rw [List.flatMap_cons, e]
      show ubody (c :: (l.flatMap quoB ++ [34])) = _
      rw [ubody_other c _ (fun e => h (.inl e)) (fun e => h (.inr e)), ih]
      cases shownB c <;> cases visF l <;> simp
theorem unq_quo (l : List UInt8) : unqF (quoF l) = if visF l then some l else none := by
  show unqF (34 :: (l.flatMap quoB ++ [34])) = _
  rw [unqF, if_pos rfl, unq_body]
theorem unq_vis : ∀ (l x : List UInt8), ubody l = some x → visF x = true
  | [], x, h => by simp [ubody] at h
  | [c], x, h => by
    simp only [ubody] at h
    split at h
    · injection h with h; subst h; rfl
    · cases h
  | c :: d :: l, x, h => by
    simp only [ubody] at h
    split at h
    · cases h
    · split at h
      · split at h
        · next hs =>
          obtain ⟨y, hy, rfl⟩ := Option.map_eq_some_iff.1 h
          have := unq_vis l y hy
          simp [visF] at this ⊢
          exact ⟨hs, this⟩
        · cases h
      · split at h
        · next hs =>
          obtain ⟨y, hy, rfl⟩ := Option.map_eq_some_iff.1 h
          have := unq_vis (d :: l) y hy
          simp [visF] at this ⊢
          exact ⟨hs, this⟩
        · cases h
theorem unq_shown (l x : List UInt8) (h : unqF l = some x) : visF x = true := by
  cases l with
  | nil => simp [unqF] at h
  | cons c l =>
    simp only [unqF] at h
    split at h
    · exact unq_vis l x h
    · cases h
end Go.Proofs.YtdcbcjljmjnopaaGreatDoor

namespace Go.Proofs.YtdcbcjljmjnopaaGreatDoor

/-- The parts of a text, cut at its commas but not within quoted parts; cur is what the present part has so far; n is more than what is left. -/
def parts : Nat → List UInt8 → List UInt8 → List (List UInt8)
  | 0, _, _ => []
  | _ + 1, cur, [] => [cur]
  | n + 1, cur, c :: l => if c = 34 then parts n (cur ++ c :: l.take (qskip l)) (l.drop (qskip l)) else if c = 44 then cur :: parts n [] l else parts n (cur ++ [c]) l
def elemsOf (ps : List (List UInt8)) : List (List UInt8) := (ps.map trimF).filter fun x => !x.isEmpty
theorem elemsOf_append (a b : List (List UInt8)) : elemsOf (a ++ b) = elemsOf a ++ elemsOf b := by simp [elemsOf]
theorem elemsOf_cons (x : List UInt8) (b : List (List UInt8)) : elemsOf (x :: b) = (if trimF x = [] then [] else [trimF x]) ++ elemsOf b := by
  simp only [elemsOf, List.map_cons, List.filter_cons]
  cases trimF x <;> simp

theorem parts_fuel : ∀ (n m : Nat) (cur l : List UInt8), l.length < n → l.length < m → parts n cur l = parts m cur l
  | 0, _, _, _, h, _ => absurd h (by omega)
  | _, 0, _, _, _, h => absurd h (by omega)
  | n + 1, m + 1, cur, [], _, _ => rfl
  | n + 1, m + 1, cur, c :: l, h, h' => by
    simp only [List.length_cons] at h h'
    simp only [parts]
    rw [parts_fuel n m (cur ++ c :: l.take (qskip l)) (l.drop (qskip l)) (by rw [List.length_drop]; omega) (by rw [List.length_drop]; omega), parts_fuel n m [] l (by omega) (by omega), parts_fuel n m (cur ++ [c]) l (by omega) (by omega)]

theorem listFrom_parts (b : List UInt8) : ∀ (n f k : Nat), f ≤ k → k ≤ b.length → b.length < n + k → listFrom b n f k = elemsOf (parts n ((b.drop f).take (k - f)) (b.drop k))
  | 0, f, k, _, _, h => absurd h (by omega)
  | n + 1, f, k, hf, hk, hn => by
    rw [listFrom]
    by_cases hlt : k < b.length
    · rw [if_pos hlt]
      have hg : b[k]? = some b[k] := List.getElem?_eq_getElem hlt
      have hd : b.drop k = b[k] :: b.drop (k + 1) := List.drop_eq_getElem_cons hlt
      have hq := qskip_le (b.drop (k + 1))
      have hql := hq
      rw [List.length_drop] at hq
      rw [hd, parts, hg]
      by_cases h34 : b[k] = 34
      · rw [if_pos (by rw [h34]), if_pos h34]
        rw [listFrom_parts b n f (k + 1 + qskip (b.drop (k + 1))) (by omega) (by omega) (by omega), List.drop_drop]
        congr 2
        have e1 : k + 1 + qskip (b.drop (k + 1)) - f = (k - f) + (1 + qskip (b.drop (k + 1))) := by omega
        rw [e1, List.take_add, List.drop_drop, show f + (k - f) = k by omega, hd, Nat.add_comm 1, List.take_succ_cons]
      · rw [if_neg (fun e => h34 (Option.some.inj e)), if_neg h34]
        by_cases h44 : b[k] = 44
        · rw [if_pos (by rw [h44]), if_pos h44, elemsOf_cons]
          rw [listFrom_parts b n (k + 1) (k + 1) (by omega) (by omega) (by omega), Nat.sub_self, List.take_zero]
        · rw [if_neg (fun e => h44 (Option.some.inj e)), if_neg h44]
          rw [listFrom_parts b n f (k + 1) (by omega) (by omega) (by omega)]
          congr 2
          have e1 : k + 1 - f = (k - f) + 1 := by omega
          rw [e1, List.take_add, List.drop_drop, show f + (k - f) = k by omega, hd]
          rfl
    · obtain rfl : k = b.length := by omega
      rw [if_neg (by omega), if_pos rfl, List.drop_length, parts, elemsOf_cons]
      simp [elemsOf]

theorem listF_parts (b : List UInt8) : listF b = elemsOf (parts (b.length + 2) [] b) := by
  unfold listF
  rw [listFrom_parts b _ 0 0 (by omega) (by omega) (by omega)]
  simp

/-- The parts of a text, with as much fuel as it needs. -/
def partsF (cur l : List UInt8) : List (List UInt8) := parts (l.length + 1) cur l
theorem listF_eq (b : List UInt8) : listF b = elemsOf (partsF [] b) := by
  rw [listF_parts, partsF, parts_fuel _ (b.length + 1) _ _ (by omega) (by omega)]
theorem partsF_nil (cur : List UInt8) : partsF cur [] = [cur] := rfl
theorem partsF_quote (cur l : List UInt8) : partsF cur (34 :: l) = partsF (cur ++ 34 :: l.take (qskip l)) (l.drop (qskip l)) := by
  unfold partsF
  rw [List.length_cons, parts, if_pos rfl]
  exact parts_fuel _ _ _ _ (by rw [List.length_drop]; omega) (by omega)
theorem partsF_comma (cur l : List UInt8) : partsF cur (44 :: l) = cur :: partsF [] l := by
  unfold partsF
  rw [List.length_cons, parts, if_neg (by decide), if_pos rfl]
theorem partsF_other (cur l : List UInt8) (c : UInt8) (h : c ≠ 34) (h' : c ≠ 44) : partsF cur (c :: l) = partsF (cur ++ [c]) l := by
  unfold partsF
  rw [List.length_cons, parts, if_neg h, if_neg h']

/-- A text that goes on as one part: its quoted parts end, no comma stands outside of them. -/
def Whole1 (x : List UInt8) : Prop := ∀ cur rest, partsF cur (x ++ rest) = partsF (cur ++ x) rest
theorem Whole1.nil : Whole1 [] := fun cur rest => by simp
theorem Whole1.append {x y : List UInt8} (hx : Whole1 x) (hy : Whole1 y) : Whole1 (x ++ y) := fun cur rest => by
  rw [List.append_assoc, hx, hy, List.append_assoc]
theorem Whole1.plain (c : UInt8) (h : c ≠ 34) (h' : c ≠ 44) : Whole1 [c] := fun cur rest => partsF_other cur rest c h h'
theorem Whole1.quo (l : List UInt8) : Whole1 (quoF l) := fun cur rest => by
  have e : quoF l ++ rest = 34 :: (l.flatMap quoB ++ 34 :: rest) := by simp [quoF]
  rw [e, partsF_quote, quo_body]
  have h1 : (l.flatMap quoB ++ 34 :: rest).take ((l.flatMap quoB).length + 1) = l.flatMap quoB ++ [34] := by
    rw [List.take_append, List.take_of_length_le (by omega)]
    congr 1
    rw [show (l.flatMap quoB).length + 1 - (l.flatMap quoB).length = 1 by omega]
    rfl
  have h2 : (l.flatMap quoB ++ 34 :: rest).drop ((l.flatMap quoB).length + 1) = rest := by
    rw [List.drop_append, List.drop_of_length_le (by omega), show (l.flatMap quoB).length + 1 - (l.flatMap quoB).length = 1 by omega]
    rfl
  rw [h1, h2]
  congr 1
theorem Whole1.all (l : List UInt8) (h : ∀ c ∈ l, c ≠ 34 ∧ c ≠ 44) : Whole1 l := by
  induction l with
  | nil => exact Whole1.nil
  | cons c l ih =>
    have := Whole1.append (Whole1.plain c (h c (by simp)).1 (h c (by simp)).2) (ih fun d hd => h d (by simp [hd]))
    exact this

theorem tok_list (l : List UInt8) (h : tokF l = true) : listF l = [l] := by
  obtain ⟨hne, h2⟩ := tok_mem l h
  have hw : Whole1 l := Whole1.all l fun c hc => ⟨(tokB_facts c (h2 c hc)).2.2.2.1, (tokB_facts c (h2 c hc)).2.2.2.2.1⟩
  have := hw [] []
  rw [List.append_nil, List.nil_append, partsF_nil] at this
  rw [listF_eq, this, elemsOf_cons, trim_bare l (tok_bare l h), if_neg hne]
  rfl

theorem quo_bare (l : List UInt8) : Bare (quoF l) := by
  refine ⟨fun c r e => ?_, fun c r e => ?_⟩
  · injection e with e _
    rw [← e]
    decide
  · have e' : quoF l = (34 :: l.flatMap quoB) ++ [34] := rfl
    rw [e'] at e
    have := List.append_inj' e rfl
    have h := this.2
    injection h with h _
    rw [← h]
    decide
theorem rtrim_blanks (l : List UInt8) (c : UInt8) (h : blankB c = true) : rtrim (l ++ [c]) = rtrim l := rtrim_yes c l h

/-- A quoted text stands in a list as it is. -/
theorem list_quo (l : List UInt8) : listF ([97, 44, 32] ++ quoF l ++ [32, 44, 98, 61] ++ quoF l) = [[97], quoF l, [98, 61] ++ quoF l] := by
  rw [listF_eq]
  have e : [97, 44, 32] ++ quoF l ++ [32, 44, 98, 61] ++ quoF l = 97 :: 44 :: 32 :: (quoF l ++ (32 :: 44 :: 98 :: 61 :: (quoF l ++ []))) := by simp
  rw [e, partsF_other _ _ 97 (by decide) (by decide), partsF_comma, partsF_other _ _ 32 (by decide) (by decide), Whole1.quo l, partsF_other _ _ 32 (by decide) (by decide), partsF_comma, partsF_other _ _ 98 (by decide) (by decide), partsF_other _ _ 61 (by decide) (by decide), Whole1.quo l, partsF_nil]
  have hq := trim_bare _ (quo_bare l)
  have t1 : trimF ([] ++ [97]) = [97] := by decide
  have t2 : trimF ([] ++ [32] ++ quoF l ++ [32]) = quoF l := by
    have : [] ++ [32] ++ quoF l ++ [32] = 32 :: (quoF l ++ [32]) := by simp
    rw [this]
    unfold trimF
    rw [ltrim_yes 32 _ (by decide)]
    have h1 : ltrim (quoF l ++ [32]) = quoF l ++ [32] := ltrim_no 34 _ (by decide)
    rw [h1, rtrim_blanks _ 32 (by decide)]
    have h2 : ltrim (quoF l) = quoF l := ltrim_no 34 _ (by decide)
    unfold trimF at hq
    rw [h2] at hq
    exact hq
  have t3 : trimF ([] ++ [98] ++ [61] ++ quoF l) = [98, 61] ++ quoF l := by
    apply trim_bare
    refine ⟨fun c r e => ?_, fun c r e => ?_⟩
    · injection e with e _
      rw [← e]
      decide
    · have e' : [] ++ [98] ++ [61] ++ quoF l = (98 :: 61 :: 34 :: l.flatMap quoB) ++ [34] := rfl
      rw [e'] at e
      have h := (List.append_inj' e rfl).2
      injection h with h _
      rw [← h]
      decide
  rw [elemsOf_cons, elemsOf_cons, elemsOf_cons, t1, t2, t3, if_neg (by simp), if_neg (by simp [quoF]), if_neg (by simp)]
  rfl
theorem pair_quo (l : List UInt8) : pairF ([98, 61] ++ quoF l) = if visF l then some ([98], l) else none := by
  have he : eqAt ([98, 61] ++ quoF l) = 1 := by
    unfold eqAt
    simp [List.findIdx_cons]
  have hd : ([98, 61] ++ quoF l).drop (1 + 1) = quoF l := by simp
  have ht : ([98, 61] ++ quoF l).take 1 = [98] := by simp
  have hn : tokF (quoF l) = false := by
    unfold tokF quoF
    simp only [List.cons_append, List.all_cons]
    rw [show tokB 34 = false by decide]
    simp
  unfold pairF
  rw [he, hd, ht, if_neg (by decide), if_neg (by simp [quoF]), if_neg (by rw [hn]; simp), unq_quo]
  cases visF l
  · rfl
  · rfl
end Go.Proofs.YtdcbcjljmjnopaaGreatDoor
