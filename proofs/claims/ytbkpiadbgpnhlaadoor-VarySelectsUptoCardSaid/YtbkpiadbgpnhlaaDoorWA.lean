/-
  Plain mathematics of layer 16: names that a response varies by, each once; what a request wants by names; what follows of them.
  Conditions: those that each theorem names.
-/
import Derived.Test.YtbkpiadbgpnhlaaDoorVA
import Derived.Test.YtbkpiadbgpnhlaaDoorPC
namespace Go.Proofs.YtbkpiadbgpnhlaaDoor.Var
open Go.RowKit Hop

def varyN : List UInt8 := [118, 97, 114, 121]
def starN : List UInt8 := [42]
def commaN : List UInt8 := [44, 32]
/-- A name more, if it is none of those that were met, and no star. -/
def stepN (ns : List (List UInt8)) (x : List UInt8) : List (List UInt8) := if (x == starN) = true ∨ (ns.any fun y => y == x) = true then ns else ns ++ [x]
/-- Each once, without a star. -/
def dedF (xs : List (List UInt8)) : List (List UInt8) := xs.foldl stepN []
def lowsF (ls : List Fld) : List (List UInt8) := (elemF ls varyN).map lowF
def namesF (ls : List Fld) : List (List UInt8) := dedF (lowsF ls)
def starF (ls : List Fld) : Bool := (lowsF ls).any fun x => x == starN

theorem ded_snoc (xs : List (List UInt8)) (x : List UInt8) : dedF (xs ++ [x]) = stepN (dedF xs) x := by simp [dedF]
theorem any_mem (ns : List (List UInt8)) (x : List UInt8) : (ns.any fun y => y == x) = true ↔ x ∈ ns := by simp
theorem step_yes {ns : List (List UInt8)} {x : List UInt8} (h1 : x ≠ starN) (h2 : x ∉ ns) : stepN ns x = ns ++ [x] := if_neg (by
  rintro (h | h)
  · exact h1 (by simpa using h)
  · exact h2 ((any_mem ns x).1 h))
theorem step_star (ns : List (List UInt8)) : stepN ns starN = ns := if_pos (.inl (by simp))
theorem step_old {ns : List (List UInt8)} {x : List UInt8} (h : x ∈ ns) : stepN ns x = ns := if_pos (.inr ((any_mem ns x).2 h))
theorem step_or (ns : List (List UInt8)) (x : List UInt8) : (stepN ns x = ns ∧ (x = starN ∨ x ∈ ns)) ∨ (stepN ns x = ns ++ [x] ∧ x ≠ starN ∧ x ∉ ns) := by
  by_cases h1 : x = starN
  · subst h1
    exact .inl ⟨step_star ns, .inl rfl⟩
  · by_cases h2 : x ∈ ns
    · exact .inl ⟨step_old h2, .inr h2⟩
    · exact .inr ⟨step_yes h1 h2, h1, h2⟩
theorem fold_mem : ∀ (xs ns : List (List UInt8)) (x : List UInt8), x ∈ xs.foldl stepN ns ↔ x ∈ ns ∨ (x ∈ xs ∧ x ≠ starN)
  | [], ns, x => by simp
  | y :: r, ns, x => by
    rw [List.foldl_cons, fold_mem r (stepN ns y) x]
    rcases step_or ns y with ⟨h1, h2⟩ | ⟨h1, h2, h3⟩
    · rw [h1, List.mem_cons]
      constructor
      · rintro (h | ⟨h, h'⟩)
        · exact .inl h
        · exact .inr ⟨.inr h, h'⟩
      · rintro (h | ⟨rfl | h, h'⟩)
        · exact .inl h
        · rcases h2 with h2 | h2
          · exact absurd h2 h'
          · exact .inl h2
        · exact .inr ⟨h, h'⟩
    · rw [h1, List.mem_append, List.mem_singleton, List.mem_cons]
      constructor
      · rintro ((h | rfl) | ⟨h, h'⟩)
        · exact .inl h
        · exact .inr ⟨.inl rfl, h2⟩
        · exact .inr ⟨.inr h, h'⟩
      · rintro (h | ⟨rfl | h, h'⟩)
        · exact .inl (.inl h)
        · exact .inl (.inr rfl)
        · exact .inr ⟨h, h'⟩
theorem ded_mem (xs : List (List UInt8)) (x : List UInt8) : x ∈ dedF xs ↔ x ∈ xs ∧ x ≠ starN := by
  unfold dedF
  rw [fold_mem]
  simp
theorem fold_nodup : ∀ (xs ns : List (List UInt8)), ns.Nodup → (xs.foldl stepN ns).Nodup
  | [], _, h => h
  | y :: r, ns, h => by
    rw [List.foldl_cons]
    refine fold_nodup r _ ?_
    rcases step_or ns y with ⟨h1, _⟩ | ⟨h1, _, h3⟩
    · rw [h1]; exact h
    · rw [h1, List.nodup_append]
      refine ⟨h, by simp, fun a ha b hb e => ?_⟩
      rw [List.mem_singleton] at hb
      subst hb
      subst e
      exact h3 ha
theorem ded_nodup (xs : List (List UInt8)) : (dedF xs).Nodup := fold_nodup xs [] (by simp)
theorem fold_len : ∀ (xs ns : List (List UInt8)), (xs.foldl stepN ns).length ≤ ns.length + xs.length
  | [], _ => Nat.le_refl _
  | y :: r, ns => by
    rw [List.foldl_cons]
    have := fold_len r (stepN ns y)
    rw [List.length_cons]
    rcases step_or ns y with ⟨h1, _⟩ | ⟨h1, _⟩
    · rw [h1] at this ⊢; omega
    · rw [h1] at this ⊢
      rw [List.length_append, List.length_singleton] at this
      omega
theorem ded_len (xs : List (List UInt8)) : (dedF xs).length ≤ xs.length := by
  have := fold_len xs []
  simpa [dedF] using this
/-- Names that were told are told again. -/
theorem fold_same : ∀ (xs ns : List (List UInt8)), (∀ x ∈ xs, x ≠ starN ∧ x ∉ ns) → xs.Nodup → xs.foldl stepN ns = ns ++ xs
  | [], _, _, _ => by simp
  | y :: r, ns, h, hd => by
    obtain ⟨h1, h2⟩ := h y (by simp)
    obtain ⟨d1, d2⟩ := List.nodup_cons.1 hd
    rw [List.foldl_cons, step_yes h1 h2, fold_same r (ns ++ [y]) (fun x hx => ⟨(h x (by simp [hx])).1, fun hm => ?_⟩) d2, List.append_assoc]
    · rfl
    · rcases List.mem_append.1 hm with hm | hm
      · exact (h x (by simp [hx])).2 hm
      · rw [List.mem_singleton] at hm
        subst hm
        exact d1 hx
theorem ded_same {xs : List (List UInt8)} (h : ∀ x ∈ xs, x ≠ starN) (hd : xs.Nodup) : dedF xs = xs := fold_same xs [] (fun x hx => ⟨h x hx, by simp⟩) hd
theorem ded_twice (xs : List (List UInt8)) : dedF (dedF xs) = dedF xs := ded_same (fun x hx => ((ded_mem xs x).1 hx).2) (ded_nodup xs)
theorem fold_old : ∀ (ys ns : List (List UInt8)), (∀ y ∈ ys, y = starN ∨ y ∈ ns) → ys.foldl stepN ns = ns
  | [], _, _ => rfl
  | y :: r, ns, h => by
    have e : stepN ns y = ns := by
      rcases h y (by simp) with rfl | h
      · exact step_star ns
      · exact step_old h
    rw [List.foldl_cons, e]
    exact fold_old r ns fun x hx => h x (by simp [hx])
theorem ded_self (xs : List (List UInt8)) : dedF (xs ++ xs) = dedF xs := by
  unfold dedF
  rw [List.foldl_append]
  refine fold_old xs _ fun y hy => ?_
  by_cases h : y = starN
  · exact .inl h
  · exact .inr ((ded_mem xs y).2 ⟨hy, h⟩)

/-! ## small letters within lists -/
theorem low_facts (c : UInt8) : (lowB c == 34) = (c == 34) ∧ (lowB c == 44) = (c == 44) ∧ (lowB c == 92) = (c == 92) ∧ blankB (lowB c) = blankB c := by
  have := byte_all (fun c => ((lowB c == 34) == (c == 34)) && (((lowB c == 44) == (c == 44)) && (((lowB c == 92) == (c == 92)) && (blankB (lowB c) == blankB c)))) (by decide +kernel) c
  simp only [Bool.and_eq_true, beq_iff_eq] at this
  exact this
theorem low34 (c : UInt8) : lowB c = 34 ↔ c = 34 := by have := (low_facts c).1; rw [Bool.eq_iff_iff] at this; simpa using this
theorem low44 (c : UInt8) : lowB c = 44 ↔ c = 44 := by have := (low_facts c).2.1; rw [Bool.eq_iff_iff] at this; simpa using this
theorem low92 (c : UInt8) : lowB c = 92 ↔ c = 92 := by have := (low_facts c).2.2.1; rw [Bool.eq_iff_iff] at this; simpa using this
theorem low_nil (l : List UInt8) : lowF l = [] ↔ l = [] := by simp [lowF]
theorem low_app (a b : List UInt8) : lowF (a ++ b) = lowF a ++ lowF b := by simp [lowF]
theorem low_take (l : List UInt8) (k : Nat) : lowF (l.take k) = (lowF l).take k := by simp [lowF, List.map_take]
theorem low_drop (l : List UInt8) (k : Nat) : lowF (l.drop k) = (lowF l).drop k := by simp [lowF, List.map_drop]
theorem low_qskip : ∀ l : List UInt8, qskip (lowF l) = qskip l
  | [] => rfl
  | [c] => by
    show qskip [lowB c] = qskip [c]
    simp [qskip]
  | c :: d :: l => by
    show qskip (lowB c :: lowB d :: lowF l) = qskip (c :: d :: l)
    by_cases h34 : c = 34
    · rw [qskip_end _ _ ((low34 c).2 h34), qskip_end _ _ h34]
    · by_cases h92 : c = 92
      · have e1 : qskip (lowB c :: lowB d :: lowF l) = 2 + qskip (lowF l) := by simp [qskip, (low92 c).2 h92]
        have e2 : qskip (c :: d :: l) = 2 + qskip l := by simp [qskip, h92]
        rw [e1, e2, low_qskip l]
      · rw [qskip_other _ _ (fun e => h34 ((low34 c).1 e)) (fun e => h92 ((low92 c).1 e)), qskip_other _ _ h34 h92]
        have := low_qskip (d :: l)
        exact congrArg (1 + ·) this
theorem low_parts : ∀ (n : Nat) (cur l : List UInt8), parts n (lowF cur) (lowF l) = (parts n cur l).map lowF
  | 0, _, _ => rfl
  | n + 1, cur, [] => rfl
  | n + 1, cur, c :: l => by
    show parts (n + 1) (lowF cur) (lowB c :: lowF l) = _
    rw [parts, parts]
    by_cases h34 : c = 34
    · rw [if_pos ((low34 c).2 h34), if_pos h34, low_qskip l, ← low_take, ← low_drop]
      have e : lowF cur ++ lowB c :: lowF (l.take (qskip l)) = lowF (cur ++ c :: l.take (qskip l)) := by rw [low_app]; rfl
      rw [e]
      exact low_parts n _ _
    · rw [if_neg (fun e => h34 ((low34 c).1 e)), if_neg h34]
      by_cases h44 : c = 44
      · rw [if_pos ((low44 c).2 h44), if_pos h44, List.map_cons]
        congr 1
        exact low_parts n [] l
      · rw [if_neg (fun e => h44 ((low44 c).1 e)), if_neg h44]
        have e : lowF cur ++ [lowB c] = lowF (cur ++ [c]) := by rw [low_app]; rfl
        rw [e]
        exact low_parts n _ _
theorem low_partsF (l : List UInt8) : partsF [] (lowF l) = (partsF [] l).map lowF := by
  unfold partsF
  rw [lowF_length]
  exact low_parts _ [] l
theorem low_drops (l : List UInt8) : (lowF l).dropWhile blankB = lowF (l.dropWhile blankB) := by
  induction l with
  | nil => rfl
  | cons c r ih =>
    show (lowB c :: lowF r).dropWhile blankB = _
    rw [List.dropWhile_cons, List.dropWhile_cons, (low_facts c).2.2.2]
    cases blankB c with
    | true => exact ih
    | false => rfl
theorem low_rev (l : List UInt8) : (lowF l).reverse = lowF l.reverse := by simp [lowF]
theorem low_trim (l : List UInt8) : trimF (lowF l) = lowF (trimF l) := by
  unfold trimF rtrim ltrim
  rw [low_drops, low_rev, low_drops, low_rev]
theorem low_elems : ∀ ps : List (List UInt8), elemsOf (ps.map lowF) = (elemsOf ps).map lowF
  | [] => rfl
  | x :: r => by
    rw [List.map_cons, elemsOf_cons, elemsOf_cons, low_trim, low_elems r, List.map_append]
    by_cases h : trimF x = []
    · rw [if_pos ((low_nil _).2 h), if_pos h]
      rfl
    · rw [if_neg (fun e => h ((low_nil _).1 e)), if_neg h]
      rfl
theorem low_list (b : List UInt8) : listF (lowF b) = (listF b).map lowF := by rw [listF_eq, listF_eq, low_partsF, low_elems]
/-- An element, alone, is one. -/
theorem list_alone (b x : List UInt8) (h : x ∈ listF b) : listF x = [x] := by
  obtain ⟨ws, ts, h1, _, h3, h4⟩ := list_chain b
  have hb := elems_bare (partsF [] b)
  rw [← listF_eq] at hb
  obtain ⟨hne, htr⟩ := hb x h
  rw [h1] at h
  have hT : T x := by
    rcases List.mem_append.1 h with h | h
    · exact (h3 x h).tail
    · exact h4 x h
  have := hT.parts []
  rw [List.nil_append] at this
  rw [listF_eq, this, elemsOf_cons, htr, if_neg hne]
  rfl
theorem list_behind (l : List UInt8) : listF ([32, 44, 32] ++ l) = listF l := by
  have e : ([32, 44, 32] ++ l : List UInt8) = 32 :: 44 :: 32 :: l := rfl
  rw [e, listF_eq, partsF_other _ _ 32 (by decide) (by decide), partsF_comma, elemsOf_cons, show trimF ([] ++ [32]) = [] from by decide, if_pos rfl, List.nil_append]
  rw [partsF_other _ _ 32 (by decide) (by decide), listF_eq]
  have g : ∀ (n : Nat) (l cur : List UInt8), l.length < n → elemsOf (partsF ([] ++ [32] ++ cur) l) = elemsOf (partsF cur l) := by
    have ht : ∀ x : List UInt8, trimF ([] ++ [32] ++ x) = trimF x := fun x => rfl
    intro n
    induction n with
    | zero => intro l cur h; omega
    | succ n ih =>
      intro l cur h
      cases l with
      | nil => rw [partsF_nil, partsF_nil, elemsOf_cons, elemsOf_cons, ht]
      | cons c l =>
        rw [List.length_cons] at h
        by_cases h34 : c = 34
        · subst h34
          rw [partsF_quote, partsF_quote, List.append_assoc]
          exact ih _ _ (by rw [List.length_drop]; omega)
        · by_cases h44 : c = 44
          · subst h44
            rw [partsF_comma, partsF_comma, elemsOf_cons, elemsOf_cons, ht]
          · rw [partsF_other _ _ c h34 h44, partsF_other _ _ c h34 h44, List.append_assoc]
            exact ih _ _ (by omega)
  have := g (l.length + 1) l [] (by omega)
  rw [List.append_nil] at this
  exact this
theorem bare_ne {b x : List UInt8} (h : x ∈ listF b) : x ≠ [] := by
  have hb := elems_bare (partsF [] b)
  rw [← listF_eq] at hb
  exact (hb x h).1

/-! ## names, and names again -/
theorem lows_app (a b : List Fld) : lowsF (a ++ b) = lowsF a ++ lowsF b := by unfold lowsF; rw [elem_app, List.map_append]
theorem mem_lows {ls : List Fld} {x : List UInt8} (h : x ∈ lowsF ls) : ∃ b e, e ∈ listF b ∧ lowF e = x := by
  obtain ⟨e, he, rfl⟩ := List.mem_map.1 h
  obtain ⟨b, _, hb⟩ := List.mem_flatMap.1 he
  exact ⟨b, e, hb, rfl⟩
theorem name_facts {ls : List Fld} {x : List UInt8} (h : x ∈ namesF ls) : x ≠ starN ∧ x ≠ [] ∧ lowF x = x ∧ listF x = [x] := by
  obtain ⟨h1, h2⟩ := (ded_mem _ x).1 h
  obtain ⟨b, e, he, rfl⟩ := mem_lows h1
  refine ⟨h2, fun h => bare_ne he ((low_nil e).1 h), lowF_twice e, ?_⟩
  rw [low_list, list_alone b e he]
  rfl
theorem names_nodup (ls : List Fld) : (namesF ls).Nodup := ded_nodup _
def bigV : List UInt8 := [86, 65, 82, 89]
/-- Each name in a field of its own. -/
def eachF (ns : List (List UInt8)) : List Fld := ns.map fun x => (bigV, [32, 44, 32] ++ x)
theorem elem_each (ns : List (List UInt8)) (h : ∀ x ∈ ns, listF x = [x]) : elemF (eachF ns) varyN = ns := by
  induction ns with
  | nil => rfl
  | cons x r ih =>
    rw [show eachF (x :: r) = [(bigV, [32, 44, 32] ++ x)] ++ eachF r from rfl, elem_app, elem_one, ih fun y hy => h y (by simp [hy])]
    simp only
    rw [show (lowF bigV == lowF varyN) = true from by decide, if_pos rfl, list_behind, h x (by simp)]
    rfl
theorem map_same {ns : List (List UInt8)} (h : ∀ x ∈ ns, lowF x = x) : ns.map lowF = ns := by
  induction ns with
  | nil => rfl
  | cons x r ih => rw [List.map_cons, h x (by simp), ih fun y hy => h y (by simp [hy])]
theorem lows_each (ls : List Fld) : lowsF (eachF (namesF ls)) = namesF ls := by
  unfold lowsF
  rw [elem_each _ fun x hx => (name_facts hx).2.2.2]
  exact map_same fun x hx => (name_facts hx).2.2.1
theorem names_each (ls : List Fld) : namesF (eachF (namesF ls)) = namesF ls := by
  show dedF (lowsF (eachF (namesF ls))) = _
  rw [lows_each]
  exact ded_twice _
theorem star_each (ls : List Fld) : starF (eachF (namesF ls)) = false := by
  unfold starF
  rw [lows_each, List.any_eq_false]
  intro x hx
  simpa using (name_facts hx).1
theorem names_self (ls : List Fld) : namesF (ls ++ ls) = namesF ls := by unfold namesF; rw [lows_app]; exact ded_self _
theorem star_self (ls : List Fld) : starF (ls ++ ls) = starF ls := by unfold starF; rw [lows_app, List.any_append, Bool.or_self]
theorem star_first (ls : List Fld) : starF ([([86, 97, 114, 121], [42])] ++ ls) = true := by
  unfold starF
  rw [lows_app, List.any_append]
  rw [show (lowsF [([86, 97, 114, 121], [42])]).any (fun x => x == starN) = true from by decide]
  rfl
theorem lows_len (ls : List Fld) : (lowsF ls).length ≤ bulkF ls := by
  unfold lowsF
  rw [List.length_map]
  exact elem_bulk _ _
theorem names_len (ls : List Fld) : (namesF ls).length ≤ bulkF ls := Nat.le_trans (ded_len _) (lows_len ls)
theorem lows_part {ls : List Fld} {x : List UInt8} (h : x ∈ lowsF ls) : x.length ≤ bulkF ls := by
  obtain ⟨e, he, rfl⟩ := List.mem_map.1 h
  rw [lowF_length]
  exact elem_part he
theorem names_part {ls : List Fld} {x : List UInt8} (h : x ∈ namesF ls) : x.length ≤ bulkF ls := lows_part ((ded_mem _ x).1 h).1
theorem bulk_each (ns : List (List UInt8)) (B : Nat) (h : ∀ x ∈ ns, x.length ≤ B) : bulkF (eachF ns) ≤ (B + 10) * ns.length := by
  induction ns with
  | nil => simp [eachF, bulkF]
  | cons x r ih =>
    have h1 := ih fun y hy => h y (by simp [hy])
    have h2 := h x (by simp)
    rw [show eachF (x :: r) = (bigV, [32, 44, 32] ++ x) :: eachF r from rfl, bulk_cons, List.length_cons]
    simp only [List.length_append, List.length_cons, List.length_nil, bigV]
    have : (B + 10) * (r.length + 1) = (B + 10) * r.length + (B + 10) := Nat.mul_succ _ _
    omega

/-! ## what a request wants -/
def putV (acc : Option (List UInt8)) (x : List UInt8) : Option (List UInt8) := match acc with
  | none => some x
  | some v => some (v ++ commaN ++ x)
/-- Values, put together. -/
def joinV (vs : List (List UInt8)) : Option (List UInt8) := vs.foldl putV none
/-- Those of the fields with that name, small letters for capital ones. -/
def valK (ls : List Fld) (key : List UInt8) : Option (List UInt8) := joinV ((ls.filter fun f => lowF f.1 == key).map (·.2))
theorem valK_get (ls : List Fld) (nm : List UInt8) : valK ls (lowF nm) = joinV (getF ls nm) := rfl
def wantF (ls : List Fld) (nm : List UInt8) : List Fld := match valK ls (lowF nm) with
  | none => []
  | some v => [(nm, v)]
def selF (names : List (List UInt8)) (ls : List Fld) : List Fld := names.flatMap (wantF ls)
theorem join_snoc (vs : List (List UInt8)) (x : List UInt8) : joinV (vs ++ [x]) = putV (joinV vs) x := by simp [joinV]
theorem valK_snoc (ls : List Fld) (f : Fld) (key : List UInt8) : valK (ls ++ [f]) key = if lowF f.1 = key then putV (valK ls key) f.2 else valK ls key := by
  unfold valK
  rw [List.filter_append, List.map_append]
  by_cases h : lowF f.1 = key
  · rw [if_pos h, ← join_snoc]
    congr 2
    simp [h]
  · rw [if_neg h]
    have : (lowF f.1 == key) = false := by simpa using h
    simp [this]
theorem put_none (acc : Option (List UInt8)) (x : List UInt8) : putV acc x ≠ none := by cases acc <;> simp [putV]
theorem fold_none : ∀ (vs : List (List UInt8)) (acc : Option (List UInt8)), vs.foldl putV acc = none ↔ vs = [] ∧ acc = none
  | [], acc => by simp
  | x :: r, acc => by
    rw [List.foldl_cons, fold_none r]
    constructor
    · rintro ⟨_, h⟩; exact absurd h (put_none _ _)
    · rintro ⟨h, _⟩; cases h
theorem join_none (vs : List (List UInt8)) : joinV vs = none ↔ vs = [] := by unfold joinV; rw [fold_none]; simp
/-- How long. -/
def sumV (vs : List (List UInt8)) : Nat := (vs.map fun v => v.length + 2).sum
theorem sum_app (a b : List (List UInt8)) : sumV (a ++ b) = sumV a + sumV b := by simp [sumV]
theorem fold_size : ∀ (vs : List (List UInt8)) (a v : List UInt8), vs.foldl putV (some a) = some v → v.length = a.length + sumV vs
  | [], a, v, h => by
    simp only [List.foldl_nil, Option.some.injEq] at h
    rw [h]
    rfl
  | x :: r, a, v, h => by
    rw [List.foldl_cons] at h
    have := fold_size r _ v h
    simp only [List.length_append] at this
    rw [show sumV (x :: r) = x.length + 2 + sumV r from rfl, show commaN.length = 2 from rfl] at *
    omega
theorem join_size {vs : List (List UInt8)} {v : List UInt8} (h : joinV vs = some v) : v.length + 2 = sumV vs := by
  cases vs with
  | nil => cases h
  | cons x r =>
    have := fold_size r x v h
    rw [show sumV (x :: r) = x.length + 2 + sumV r from rfl]
    omega
theorem sum_bulk (key : List UInt8) : ∀ ls : List Fld, sumV ((ls.filter fun f => lowF f.1 == key).map (·.2)) ≤ bulkF ls
  | [] => Nat.le_refl _
  | f :: r => by
    have := sum_bulk key r
    rw [List.filter_cons, bulk_cons]
    split
    · rw [List.map_cons, show ∀ x s, sumV (x :: s) = x.length + 2 + sumV s from fun _ _ => rfl]
      omega
    · omega
theorem val_bulk {ls : List Fld} {key v : List UInt8} (h : valK ls key = some v) : v.length + 2 ≤ bulkF ls := by
  have h1 := join_size h
  have h2 := sum_bulk key ls
  omega
/-- One value more is another answer. -/
theorem join_more (a b : List (List UInt8)) (x : List UInt8) : joinV (a ++ [x] ++ b) ≠ joinV (a ++ b) := by
  intro h
  cases hv : joinV (a ++ b) with
  | none =>
    rw [hv, join_none] at h
    simp at h
  | some v =>
    rw [hv] at h
    have h1 := join_size h
    have h2 := join_size hv
    rw [sum_app, sum_app] at h1
    rw [sum_app] at h2
    have : sumV [x] = x.length + 2 := rfl
    omega
theorem sel_app (a b : List (List UInt8)) (ls : List Fld) : selF (a ++ b) ls = selF a ls ++ selF b ls := by simp [selF]
theorem sel_snoc (names : List (List UInt8)) (k : Nat) (nm : List UInt8) (ls : List Fld) (h : names[k]? = some nm) : selF (names.take (k + 1)) ls = selF (names.take k) ls ++ wantF ls nm := by
  rw [take_snoc names k nm h, sel_app]
  congr 1
  simp [selF]
theorem want_len (ls : List Fld) (nm : List UInt8) : (wantF ls nm).length ≤ 1 := by unfold wantF; split <;> simp
theorem sel_len (ls : List Fld) : ∀ names : List (List UInt8), (selF names ls).length ≤ names.length
  | [] => Nat.le_refl _
  | nm :: r => by
    have h1 := sel_len ls r
    have h2 := want_len ls nm
    rw [show selF (nm :: r) ls = wantF ls nm ++ selF r ls from rfl, List.length_append, List.length_cons]
    omega
theorem mem_sel {names : List (List UInt8)} {ls : List Fld} {nm v : List UInt8} : (nm, v) ∈ selF names ls ↔ nm ∈ names ∧ valK ls (lowF nm) = some v := by
  unfold selF
  rw [List.mem_flatMap]
  constructor
  · rintro ⟨x, hx, hm⟩
    unfold wantF at hm
    split at hm
    · cases hm
    · next v' hv =>
      rw [List.mem_singleton] at hm
      injection hm with e1 e2
      subst e1
      subst e2
      exact ⟨hx, hv⟩
  · rintro ⟨hx, hv⟩
    refine ⟨nm, hx, ?_⟩
    unfold wantF
    rw [hv]
    exact List.mem_singleton.2 rfl
/-- P16.4. -/
theorem sel_same (names : List (List UInt8)) (a b : List Fld) : (selF names a == selF names b) = names.all fun nm => valK a (lowF nm) == valK b (lowF nm) := by
  rw [Bool.eq_iff_iff, beq_iff_eq, List.all_eq_true]
  constructor
  · intro h nm hn
    rw [beq_iff_eq]
    cases ha : valK a (lowF nm) with
    | none =>
      cases hb : valK b (lowF nm) with
      | none => rfl
      | some v =>
        have : (nm, v) ∈ selF names b := mem_sel.2 ⟨hn, hb⟩
        rw [← h] at this
        rw [(mem_sel.1 this).2] at ha
        cases ha
    | some v =>
      have : (nm, v) ∈ selF names a := mem_sel.2 ⟨hn, ha⟩
      rw [h] at this
      exact (mem_sel.1 this).2.symm
  · intro h
    unfold selF
    have : ∀ r : List (List UInt8), (∀ nm ∈ r, nm ∈ names) → r.flatMap (wantF a) = r.flatMap (wantF b) := by
      intro r
      induction r with
      | nil => intro _; rfl
      | cons nm r ih =>
        intro hr
        rw [List.flatMap_cons, List.flatMap_cons, ih fun x hx => hr x (by simp [hx])]
        congr 1
        unfold wantF
        have := h nm (hr nm (by simp))
        rw [beq_iff_eq] at this
        rw [this]
    exact this names fun _ h => h
/-- A field more, at any place. -/
theorem sel_more (names : List (List UInt8)) (x y : List Fld) (f : Fld) : (selF names (x ++ [f] ++ y) == selF names (x ++ y)) = !(names.any fun nm => lowF nm == lowF f.1) := by
  rw [sel_same, Bool.eq_iff_iff, List.all_eq_true, Bool.not_eq_true', List.any_eq_false]
  constructor
  · intro h nm hn he
    have h1 := h nm hn
    have e : lowF nm = lowF f.1 := by simpa using he
    rw [beq_iff_eq] at h1
    unfold valK at h1
    rw [List.filter_append, List.filter_append, List.filter_append, List.map_append, List.map_append, List.map_append] at h1
    rw [show [f].filter (fun f => lowF f.1 == lowF nm) = [f] from by simp [e]] at h1
    exact join_more _ _ f.2 h1
  · intro h nm hn
    have hne : (lowF f.1 == lowF nm) = false := by
      have := h nm hn
      simp only [beq_iff_eq] at this
      simpa using fun e => this e.symm
    rw [beq_iff_eq]
    unfold valK
    rw [List.filter_append, List.filter_append, List.filter_append]
    rw [show [f].filter (fun f => lowF f.1 == lowF nm) = [] from by simp [hne]]
    rw [List.append_nil]
/-- Names with small letters. -/
def smallF (ls : List Fld) : List Fld := ls.map fun f => (lowF f.1, f.2)
theorem val_small (ls : List Fld) (key : List UInt8) : valK (smallF ls) key = valK ls key := by
  unfold valK smallF
  congr 1
  induction ls with
  | nil => rfl
  | cons f r ih =>
    rw [List.map_cons, List.filter_cons, List.filter_cons]
    simp only [lowF_twice]
    split
    · rw [List.map_cons, List.map_cons, ih]
    · exact ih
theorem sel_small (names : List (List UInt8)) (ls : List Fld) : (selF names (smallF ls) == selF names ls) = true := by
  rw [sel_same, List.all_eq_true]
  intro nm _
  rw [val_small]
  simp
theorem small_len (ls : List Fld) : (smallF ls).length = ls.length := by simp [smallF]
theorem bulk_small : ∀ ls : List Fld, bulkF (smallF ls) = bulkF ls
  | [] => rfl
  | f :: r => by
    rw [show smallF (f :: r) = (lowF f.1, f.2) :: smallF r from rfl, bulk_cons, bulk_cons, bulk_small r, lowF_length]
theorem small_snoc (ls : List Fld) (k : Nat) (f : Fld) (h : ls[k]? = some f) : smallF (ls.take (k + 1)) = smallF (ls.take k) ++ [(lowF f.1, f.2)] := by
  rw [take_snoc ls k f h]
  simp [smallF]
end Go.Proofs.YtbkpiadbgpnhlaaDoor.Var
