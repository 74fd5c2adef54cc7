/-
  What package frame's each does with a closure.
  Conditions: those that each theorem names.
-/
import Derived.Test.YtemgfppclakdmaaGreatDoorPA
import Derived.Test.YtemgfppclakdmaaGreatDoorUD
import Derived.Test.YtemgfppclakdmaaGreatDoorFA
import Derived.Test.YtemgfppclakdmaaGreatDoorNC
import Derived.Laws.Rows
import Derived.Deep.CutBlock
namespace Go.Proofs.YtemgfppclakdmaaGreatDoor
open Go.RowKit


/-- Where the first '=' stands; how many bytes there are, if there is none. -/
def eqAt (l : List UInt8) : Nat := l.findIdx (· == 61)
def pairF (l : List UInt8) : Option (List UInt8 × List UInt8) :=
  if tokF (l.take (eqAt l)) = false then none
  else if eqAt l = l.length then some (lowF l, [])
  else if tokF (l.drop (eqAt l + 1)) = true then some (lowF (l.take (eqAt l)), l.drop (eqAt l + 1))
  else (unqF (l.drop (eqAt l + 1))).map fun x => (lowF (l.take (eqAt l)), x)
/-- Three results: two texts, and whether there are any. -/
def Pairs (r : Option (List UInt8 × List UInt8)) (w : World) (e : Ending) (w' : World) : Prop :=
  e = .returned (.tuple #[.string ⟨((r.map (·.1)).getD []).toArray⟩, .string ⟨((r.map (·.2)).getD []).toArray⟩, .bool r.isSome]) ∧ Below w.heap.size w w'

theorem eq61 (c : UInt8) : c = 61 ↔ (c.toNat : Int) = 61 := u8_eq c 61 (by omega)
theorem eqAt_none (l : List UInt8) (k : Nat) (h : ∀ j c, j < k → l[j]? = some c → c ≠ 61) (hk : k = l.length) : eqAt l = l.length := by
  unfold eqAt
  rw [List.findIdx_eq_length]
  intro x hx
  obtain ⟨j, hj, rfl⟩ := List.mem_iff_getElem.1 hx
  simpa using h j _ (by omega) (List.getElem?_eq_getElem hj)
theorem eqAt_some (l : List UInt8) (k : Nat) (c : UInt8) (h : ∀ j c, j < k → l[j]? = some c → c ≠ 61) (hk : l[k]? = some c) (hc : c = 61) : eqAt l = k := by
  unfold eqAt
  have hlt : k < l.length := (List.getElem?_eq_some_iff.1 hk).1
  rw [List.findIdx_eq hlt]
  refine ⟨?_, fun j hj => ?_⟩
  · have := (List.getElem?_eq_some_iff.1 hk).2
    rw [this, hc]
    rfl
  · have := h j _ hj (List.getElem?_eq_getElem (by omega))
    simpa using this

def PairRel (s : ByteArray) (w : World) (i : Value) (wx : World) : Prop := ∃ k : Nat, k ≤ s.size ∧ i = .int .i64 (k : Int) ∧ (∀ j c, j < k → (bl s)[j]? = some c → c ≠ 61) ∧ w = wx

end Go.Proofs.YtemgfppclakdmaaGreatDoor

namespace Go.Proofs.YtemgfppclakdmaaGreatDoor

theorem tok_pair (l : List UInt8) (h : tokF l = true) : pairF l = some (lowF l, []) := by
  obtain ⟨_, h2⟩ := tok_mem l h
  have he : eqAt l = l.length := by
    unfold eqAt
    rw [List.findIdx_eq_length]
    intro c hc
    have := (tokB_facts c (h2 c hc)).2.2.2.2.2.1
    simpa using this
  unfold pairF
  rw [he, List.take_length, if_neg (by rw [h]; simp), if_pos rfl]

/-! Quoted strings. -/
theorem quo_body (l rest : List UInt8) : qskip (l.flatMap quoB ++ 34 :: rest) = (l.flatMap quoB).length + 1 := by
  induction l with
  | nil => simp [qskip_end 34 rest rfl]
  | cons c l ih =>
    by_cases h : c = 34 ∨ c = 92
    · have e : quoB c = [92, c] := by unfold quoB; rw [if_pos h]
      rw [List.flatMap_cons, e]
      show qskip (92 :: c :: (l.flatMap quoB ++ 34 :: rest)) = _
      rw [qskip_back 92 _ rfl, if_neg (by simp), List.drop_succ_cons, List.drop_zero, ih]
      simp
      omega
    · have e : quoB c = [c] := by unfold quoB; rw [if_neg h]
      rw [List.flatMap_cons, e]
      show qskip (c :: (l.flatMap quoB ++ 34 :: rest)) = _
      rw [qskip_other c _ (fun e => h (.inl e)) (fun e => h (.inr e)), ih]
      simp
      omega
theorem unq_body (l : List UInt8) : ubody (l.flatMap quoB ++ [34]) = if visF l then some l else none := by
  induction l with
  | nil => rfl
  | cons c l ih =>
    have hv : visF (c :: l) = (shownB c && visF l) := by simp [visF]
    rw [hv]
    by_cases h : c = 34 ∨ c = 92
    · have e : quoB c = [92, c] := by unfold quoB; rw [if_pos h]
      have hs : shownB c = true := by rcases h with rfl | rfl <;> decide
      rw [List.flatMap_cons, e]
      show ubody (92 :: c :: (l.flatMap quoB ++ [34])) = _
      rw [ubody_back 92 c _ rfl, ih, hs]
      cases visF l <;> simp
    · have e : quoB c = [c] := by unfold quoB; rw [if_neg h]
      rw [List.flatMap_cons, e]
      show ubody (c :: (l.flatMap quoB ++ [34])) = _
      rw [ubody_other c _ (fun e => h (.inl e)) (fun e => h (.inr e)), ih]
      cases shownB c <;> cases visF l <;> simp
theorem unq_quo (l : List UInt8) : unqF (quoF l) = if visF l then some l else none := by
  show unqF (34 :: (l.flatMap quoB ++ [34])) = _
  rw [unqF, if_pos rfl, unq_body]
theorem unq_vis : ∀ (l x : List UInt8), ubody l = some x → visF x = true
  | [], x, h => by simp [ubody] at h
  | [c], x, h => by
    simp only [ubody] at h
    split at h
    · injection h with h; subst h; rfl
    · cases h
  | c :: d :: l, x, h => by
    simp only [ubody] at h
    split at h
    · cases h
    · split at h
      · split at h
        · next hs =>
          obtain ⟨y, hy, rfl⟩ := Option.map_eq_some_iff.1 h
          have := unq_vis l y hy
          simp [visF] at this ⊢
          exact ⟨hs, this⟩
        · cases h
      · split at h
        · next hs =>
          obtain ⟨y, hy, rfl⟩ := Option.map_eq_some_iff.1 h
          have := unq_vis (d :: l) y hy
          simp [visF] at this ⊢
          exact ⟨hs, this⟩
        · cases h
theorem unq_shown (l x : List UInt8) (h : unqF l = some x) : visF x = true := by
  cases l with
  | nil => simp [unqF] at h
  | cons c l =>
    simp only [unqF] at h
    split at h
    · exact unq_vis l x h
    · cases h
end Go.Proofs.YtemgfppclakdmaaGreatDoor

namespace Go.Proofs.YtemgfppclakdmaaGreatDoor

/-- The parts of a text, cut at its commas but not within quoted parts; cur is what the present part has so far; n is more than what is left. -/
def parts : Nat → List UInt8 → List UInt8 → List (List UInt8)
  | 0, _, _ => []
  | _ + 1, cur, [] => [cur]
  | n + 1, cur, c :: l => if c = 34 then parts n (cur ++ c :: l.take (qskip l)) (l.drop (qskip l)) else if c = 44 then cur :: parts n [] l else parts n (cur ++ [c]) l
def elemsOf (ps : List (List UInt8)) : List (List UInt8) := (ps.map trimF).filter fun x => !x.isEmpty
theorem elemsOf_append (a b : List (List UInt8)) : elemsOf (a ++ b) = elemsOf a ++ elemsOf b := by simp [elemsOf]
theorem elemsOf_cons (x : List UInt8) (b : List (List UInt8)) : elemsOf (x :: b) = (if trimF x = [] then [] else [trimF x]) ++ elemsOf b := by
  simp only [elemsOf, List.map_cons, List.filter_cons]
  cases trimF x <;> simp

theorem parts_fuel : ∀ (n m : Nat) (cur l : List UInt8), l.length < n → l.length < m → parts n cur l = parts m cur l
  | 0, _, _, _, h, _ => absurd h (by omega)
  | _, 0, _, _, _, h => absurd h (by omega)
  | n + 1, m + 1, cur, [], _, _ => rfl
  | n + 1, m + 1, cur, c :: l, h, h' => by
    simp only [List.length_cons] at h h'
    simp only [parts]
    rw [parts_fuel n m (cur ++ c :: l.take (qskip l)) (l.drop (qskip l)) (by rw [List.length_drop]; omega) (by rw [List.length_drop]; omega), parts_fuel n m [] l (by omega) (by omega), parts_fuel n m (cur ++ [c]) l (by omega) (by omega)]

theorem listFrom_parts (b : List UInt8) : ∀ (n f k : Nat), f ≤ k → k ≤ b.length → b.length < n + k → listFrom b n f k = elemsOf (parts n ((b.drop f).take (k - f)) (b.drop k))
  | 0, f, k, _, _, h => absurd h (by omega)
  | n + 1, f, k, hf, hk, hn => by
    rw [listFrom]
    by_cases hlt : k < b.length
    · rw [if_pos hlt]
      have hg : b[k]? = some b[k] := List.getElem?_eq_getElem hlt
      have hd : b.drop k = b[k] :: b.drop (k + 1) := List.drop_eq_getElem_cons hlt
      have hq := qskip_le (b.drop (k + 1))
      have hql := hq
      rw [List.length_drop] at hq
      rw [hd, parts, hg]
      by_cases h34 : b[k] = 34
      · rw [if_pos (by rw [h34]), if_pos h34]
        rw [listFrom_parts b n f (k + 1 + qskip (b.drop (k + 1))) (by omega) (by omega) (by omega), List.drop_drop]
        congr 2
        have e1 : k + 1 + qskip (b.drop (k + 1)) - f = (k - f) + (1 + qskip (b.drop (k + 1))) := by omega
        rw [e1, List.take_add, List.drop_drop, show f + (k - f) = k by omega, hd, Nat.add_comm 1, List.take_succ_cons]
      · rw [if_neg (fun e => h34 (Option.some.inj e)), if_neg h34]
        by_cases h44 : b[k] = 44
        · rw [if_pos (by rw [h44]), if_pos h44, elemsOf_cons]
          rw [listFrom_parts b n (k + 1) (k + 1) (by omega) (by omega) (by omega), Nat.sub_self, List.take_zero]
        · rw [if_neg (fun e => h44 (Option.some.inj e)), if_neg h44]
          rw [listFrom_parts b n f (k + 1) (by omega) (by omega) (by omega)]
          congr 2
          have e1 : k + 1 - f = (k - f) + 1 := by omega
          rw [e1, List.take_add, List.drop_drop, show f + (k - f) = k by omega, hd]
          rfl
    · obtain rfl : k = b.length := by omega
      rw [if_neg (by omega), if_pos rfl, List.drop_length, parts, elemsOf_cons]
      simp [elemsOf]

theorem listF_parts (b : List UInt8) : listF b = elemsOf (parts (b.length + 2) [] b) := by
  unfold listF
  rw [listFrom_parts b _ 0 0 (by omega) (by omega) (by omega)]
  simp

/-- The parts of a text, with as much fuel as it needs. -/
def partsF (cur l : List UInt8) : List (List UInt8) := parts (l.length + 1) cur l
theorem listF_eq (b : List UInt8) : listF b = elemsOf (partsF [] b) := by
  rw [listF_parts, partsF, parts_fuel _ (b.length + 1) _ _ (by omega) (by omega)]
theorem partsF_nil (cur : List UInt8) : partsF cur [] = [cur] := rfl
theorem partsF_quote (cur l : List UInt8) : partsF cur (34 :: l) = partsF (cur ++ 34 :: l.take (qskip l)) (l.drop (qskip l)) := by
  unfold partsF
  rw [List.length_cons, parts, if_pos rfl]
  exact parts_fuel _ _ _ _ (by rw [List.length_drop]; omega) (by omega)
theorem partsF_comma (cur l : List UInt8) : partsF cur (44 :: l) = cur :: partsF [] l := by
  unfold partsF
  rw [List.length_cons, parts, if_neg (by decide), if_pos rfl]
theorem partsF_other (cur l : List UInt8) (c : UInt8) (h : c ≠ 34) (h' : c ≠ 44) : partsF cur (c :: l) = partsF (cur ++ [c]) l := by
  unfold partsF
  rw [List.length_cons, parts, if_neg h, if_neg h']

/-- A text that goes on as one part: its quoted parts end, no comma stands outside of them. -/
def Whole1 (x : List UInt8) : Prop := ∀ cur rest, partsF cur (x ++ rest) = partsF (cur ++ x) rest
theorem Whole1.nil : Whole1 [] := fun cur rest => by simp
theorem Whole1.append {x y : List UInt8} (hx : Whole1 x) (hy : Whole1 y) : Whole1 (x ++ y) := fun cur rest => by
  rw [List.append_assoc, hx, hy, List.append_assoc]
theorem Whole1.plain (c : UInt8) (h : c ≠ 34) (h' : c ≠ 44) : Whole1 [c] := fun cur rest => partsF_other cur rest c h h'
theorem Whole1.quo (l : List UInt8) : Whole1 (quoF l) := fun cur rest => by
  have e : quoF l ++ rest = 34 :: (l.flatMap quoB ++ 34 :: rest) := by simp [quoF]
  rw [e, partsF_quote, quo_body]
  have h1 : (l.flatMap quoB ++ 34 :: rest).take ((l.flatMap quoB).length + 1) = l.flatMap quoB ++ [34] := by
    rw [List.take_append, List.take_of_length_le (by omega)]
    congr 1
    rw [show (l.flatMap quoB).length + 1 - (l.flatMap quoB).length = 1 by omega]
    rfl
  have h2 : (l.flatMap quoB ++ 34 :: rest).drop ((l.flatMap quoB).length + 1) = rest := by
    rw [List.drop_append, List.drop_of_length_le (by omega), show (l.flatMap quoB).length + 1 - (l.flatMap quoB).length = 1 by omega]
    rfl
  rw [h1, h2]
  congr 1
theorem Whole1.all (l : List UInt8) (h : ∀ c ∈ l, c ≠ 34 ∧ c ≠ 44) : Whole1 l := by
  induction l with
  | nil => exact Whole1.nil
  | cons c l ih =>
    have := Whole1.append (Whole1.plain c (h c (by simp)).1 (h c (by simp)).2) (ih fun d hd => h d (by simp [hd]))
    exact this

theorem tok_list (l : List UInt8) (h : tokF l = true) : listF l = [l] := by
  obtain ⟨hne, h2⟩ := tok_mem l h
  have hw : Whole1 l := Whole1.all l fun c hc => ⟨(tokB_facts c (h2 c hc)).2.2.2.1, (tokB_facts c (h2 c hc)).2.2.2.2.1⟩
  have := hw [] []
  rw [List.append_nil, List.nil_append, partsF_nil] at this
  rw [listF_eq, this, elemsOf_cons, trim_bare l (tok_bare l h), if_neg hne]
  rfl

theorem quo_bare (l : List UInt8) : Bare (quoF l) := by
  refine ⟨fun c r e => ?_, fun c r e => ?_⟩
  · injection e with e _
    rw [← e]
    decide
  · have e' : quoF l = (34 :: l.flatMap quoB) ++ [34] := rfl
    rw [e'] at e
    have := List.append_inj' e rfl
    have h := this.2
    injection h with h _
    rw [← h]
    decide
theorem rtrim_blanks (l : List UInt8) (c : UInt8) (h : blankB c = true) : rtrim (l ++ [c]) = rtrim l := rtrim_yes c l h

/-- A quoted text stands in a list as it is. -/
theorem list_quo (l : List UInt8) : listF ([97, 44, 32] ++ quoF l ++ [32, 44, 98, 61] ++ quoF l) = [[97], quoF l, [98, 61] ++ quoF l] := by
  rw [listF_eq]
  have e : [97, 44, 32] ++ quoF l ++ [32, 44, 98, 61] ++ quoF l = 97 :: 44 :: 32 :: (quoF l ++ (32 :: 44 :: 98 :: 61 :: (quoF l ++ []))) := by simp
  rw [e, partsF_other _ _ 97 (by decide) (by decide), partsF_comma, partsF_other _ _ 32 (by decide) (by decide), Whole1.quo l, partsF_other _ _ 32 (by decide) (by decide), partsF_comma, partsF_other _ _ 98 (by decide) (by decide), partsF_other _ _ 61 (by decide) (by decide), Whole1.quo l, partsF_nil]
  have hq := trim_bare _ (quo_bare l)
  have t1 : trimF ([] ++ [97]) = [97] := by decide
  have t2 : trimF ([] ++ [32] ++ quoF l ++ [32]) = quoF l := by
    have : [] ++ [32] ++ quoF l ++ [32] = 32 :: (quoF l ++ [32]) := by simp
    rw [this]
    unfold trimF
    rw [ltrim_yes 32 _ (by decide)]
    have h1 : ltrim (quoF l ++ [32]) = quoF l ++ [32] := ltrim_no 34 _ (by decide)
    rw [h1, rtrim_blanks _ 32 (by decide)]
    have h2 : ltrim (quoF l) = quoF l := ltrim_no 34 _ (by decide)
    unfold trimF at hq
    rw [h2] at hq
    exact hq
  have t3 : trimF ([] ++ [98] ++ [61] ++ quoF l) = [98, 61] ++ quoF l := by
    apply trim_bare
    refine ⟨fun c r e => ?_, fun c r e => ?_⟩
    · injection e with e _
      rw [← e]
      decide
    · have e' : [] ++ [98] ++ [61] ++ quoF l = (98 :: 61 :: 34 :: l.flatMap quoB) ++ [34] := rfl
      rw [e'] at e
      have h := (List.append_inj' e rfl).2
      injection h with h _
      rw [← h]
      decide
  rw [elemsOf_cons, elemsOf_cons, elemsOf_cons, t1, t2, t3, if_neg (by simp), if_neg (by simp [quoF]), if_neg (by simp)]
  rfl
theorem pair_quo (l : List UInt8) : pairF ([98, 61] ++ quoF l) = if visF l then some ([98], l) else none := by
  have he : eqAt ([98, 61] ++ quoF l) = 1 := by
    unfold eqAt
    simp [List.findIdx_cons]
  have hd : ([98, 61] ++ quoF l).drop (1 + 1) = quoF l := by simp
  have ht : ([98, 61] ++ quoF l).take 1 = [98] := by simp
  have hn : tokF (quoF l) = false := by
    unfold tokF quoF
    simp only [List.cons_append, List.all_cons]
    rw [show tokB 34 = false by decide]
    simp
  unfold pairF
  rw [he, hd, ht, if_neg (by decide), if_neg (by simp [quoF]), if_neg (by rw [hn]; simp), unq_quo]
  cases visF l
  · rfl
  · rfl
end Go.Proofs.YtemgfppclakdmaaGreatDoor

namespace Go.Proofs.YtemgfppclakdmaaGreatDoor
open Go.RowKit

/-- The parts of a text, sign by sign: within a quoted part, and behind a sign that takes the next one along. -/
def mach (cur : List UInt8) (q t : Bool) : List UInt8 → List (List UInt8)
  | [] => [cur]
  | c :: l =>
    if t then mach (cur ++ [c]) q false l
    else if c = 92 then mach (cur ++ [c]) q q l
    else if c = 34 then mach (cur ++ [c]) (!q) false l
    else if c = 44 ∧ q = false then cur :: mach [] q false l
    else mach (cur ++ [c]) q false l

theorem mach_parts : ∀ (n : Nat) (l cur : List UInt8), l.length ≤ n → mach cur false false l = partsF cur l ∧ mach cur true false l = partsF (cur ++ l.take (qskip l)) (l.drop (qskip l))
  | _, [], cur, _ => ⟨by simp [mach, partsF_nil], by simp [mach, qskip, partsF_nil]⟩
  | 0, _ :: _, _, h => absurd h (by simp)
  | n + 1, c :: l, cur, h => by
    have hl : l.length ≤ n := by simpa using h
    constructor
    · by_cases h92 : c = 92
      · subst h92
        rw [partsF_other cur l 92 (by decide) (by decide), ← (mach_parts n l _ hl).1]
        simp [mach]
      · by_cases h34 : c = 34
        · subst h34
          rw [partsF_quote, show cur ++ 34 :: l.take (qskip l) = (cur ++ [34]) ++ l.take (qskip l) by simp, ← (mach_parts n l _ hl).2]
          simp [mach]
        · by_cases h44 : c = 44
          · subst h44
            rw [partsF_comma, ← (mach_parts n l _ hl).1]
            simp [mach]
          · rw [partsF_other cur l c h34 h44, ← (mach_parts n l _ hl).1]
            simp [mach, h92, h34, h44]
    · by_cases h92 : c = 92
      · subst h92
        rw [qskip_back 92 l rfl]
        cases l with
        | nil => simp [mach, qskip, partsF_nil]
        | cons d l =>
          have hl2 : l.length ≤ n := by simp at hl; omega
          have := (mach_parts n l (cur ++ [92] ++ [d]) hl2).2
          rw [if_neg (by simp)]
          simp only [mach]
          simp only [List.drop_succ_cons, List.drop_zero]
          rw [show 1 + 1 + qskip l = qskip l + 1 + 1 by omega, List.take_succ_cons, List.take_succ_cons, List.drop_succ_cons, List.drop_succ_cons]
          simpa using this
      · by_cases h34 : c = 34
        · subst h34
          rw [qskip_end 34 l rfl]
          have := (mach_parts n l (cur ++ [34]) hl).1
          simpa [mach] using this
        · have := (mach_parts n l (cur ++ [c]) hl).2
          rw [qskip_other c l h34 h92, show 1 + qskip l = qskip l + 1 by omega, List.take_succ_cons, List.drop_succ_cons]
          simp only [mach, h92, h34]
          simpa using this
theorem mach_list (l : List UInt8) : elemsOf (mach [] false false l) = listF l := by rw [(mach_parts l.length l [] (Nat.le_refl _)).1, listF_eq]

theorem mach_high : ∀ (x : List UInt8) (cur l : List UInt8) (q : Bool), (∀ c ∈ x, 128 ≤ c.toNat) → mach cur q false (x ++ l) = mach (cur ++ x) q false l
  | [], cur, l, q, _ => by simp
  | c :: x, cur, l, q, h => by
    have hc := h c (by simp)
    have h92 : c ≠ 92 := by rintro rfl; revert hc; decide
    have h34 : c ≠ 34 := by rintro rfl; revert hc; decide
    have h44 : c ≠ 44 := by rintro rfl; revert hc; decide
    have := mach_high x (cur ++ [c]) l q (fun d hd => h d (by simp [hd]))
    rw [List.cons_append]
    simp only [mach, h92, h34, h44]
    simpa using this
theorem mach_wide (x : List UInt8) (cur l : List UInt8) (q t : Bool) (hne : x ≠ []) (h : ∀ c ∈ x, 128 ≤ c.toNat) : mach cur q t (x ++ l) = mach (cur ++ x) q false l := by
  cases t with
  | false => exact mach_high x cur l q h
  | true =>
    cases x with
    | nil => exact absurd rfl hne
    | cons c x =>
      have := mach_high x (cur ++ [c]) l q (fun d hd => h d (by simp [hd]))
      rw [List.cons_append]
      simp only [mach]
      simpa using this
theorem mach_taken (c : UInt8) (cur l : List UInt8) (q : Bool) : mach cur q true (c :: l) = mach (cur ++ [c]) q false l := by simp [mach]
theorem mach_back (c : UInt8) (cur l : List UInt8) (q : Bool) (h : c = 92) : mach cur q false (c :: l) = mach (cur ++ [c]) q q l := by simp [mach, h]
theorem mach_quote (c : UInt8) (cur l : List UInt8) (q : Bool) (h : c = 34) : mach cur q false (c :: l) = mach (cur ++ [c]) (!q) false l := by simp [mach, h]
theorem mach_comma (c : UInt8) (cur l : List UInt8) (h : c = 44) : mach cur false false (c :: l) = cur :: mach [] false false l := by simp [mach, h]
theorem mach_other (c : UInt8) (cur l : List UInt8) (q : Bool) (h : c ≠ 92) (h' : c ≠ 34) (h'' : c ≠ 44 ∨ q = true) : mach cur q false (c :: l) = mach (cur ++ [c]) q false l := by
  rcases h'' with h'' | h'' <;> simp [mach, h, h', h'']

def elOf (x : List UInt8) : List (List UInt8) := if trimF x = [] then [] else [trimF x]
def Adds (b : Nat) (o : Option Nat) (ls : List (List UInt8)) (w : World) (e : Ending) (w' : World) : Prop :=
  e = .returned (.tuple #[]) ∧ ∃ v' o', Is w' b 114 [v'] ∧ OwnS w' v' o' ls ∧ Turn (fun k => k = b ∨ o = some k) w w' ∧ ∀ k, o' = some k → o = some k ∨ w.heap.size ≤ k

set_option maxHeartbeats 1000000 in
set_option maxRecDepth 100000 in
theorem add_any (s : ByteArray) (b : Nat) (v : Value) (o : Option Nat) (ls : List (List UInt8)) (w : World) (hs : s.size ≤ 140737488351232) (hb : Is w b 114 [v]) (hown : OwnS w v o ls) (hob : ∀ k, o = some k → k ≠ b) (hlen : ls.length ≤ 1000000000000) :
    Calls Tryz.prog 149 #[.string s, .pointer (some ⟨b, 0, none⟩)] w (Adds b o (ls ++ elOf (bl s)) w) := by
  have C := Lib.hid (ty_trim s w hs)
  have HE := Lib.hid (show elOf (bl s) = if trimF (bl s) = [] then [] else [trimF (bl s)] from rfl)
  generalize trimF (bl s) = x at *
  cases x with
  | nil =>
    go_enter Tryz.func149, Tryz.ntmps149
    go_wp2_with fail
    refine C.out.mono ?_
    rintro e w1 ⟨rfl, b1⟩
    go_wp2_with fail
    go_end0
    refine ⟨rfl, v, o, ?_⟩
    rw [show elOf (bl s) = [] from HE.out.trans (if_pos (by simp)), List.append_nil]
    exact ⟨hb.kept (Turn.of_below (S := fun _ => False) b1) (fun h => h), hown.kept (Turn.of_below (S := fun _ => False) b1) (fun _ _ h => h), Turn.of_below b1, fun k hk => .inl hk⟩
  | cons c x =>
    go_enter Tryz.func149, Tryz.ntmps149
    go_wp2_with fail
    refine C.out.mono ?_
    rintro e w1 ⟨rfl, b1⟩
    have hb1 : Is w1 b 114 [v] := hb.kept (Turn.of_below (S := fun _ => False) b1) (fun h => h)
    have hown1 : OwnS w1 v o ls := hown.kept (Turn.of_below (S := fun _ => False) b1) (fun _ _ h => h)
    obtain ⟨v', w', o', hrun, own', t', ho'⟩ := run_push_str w1 v o ls (c :: x) hown1 (by omega)
    have hz := b1.size
    have hb2 : Is w' b 114 [v] := hb1.kept t' (fun h => hob b h rfl)
    have z : w1.cell? ⟨b, 0, none⟩ = some v := hb1.cell 0
    have z2 : w'.cell? ⟨b, 0, none⟩ = some v := hb2.cell 0
    have zf := hb2.free 0
    obtain ⟨A, cp, rfl, _⟩ := own'.src (fun _ => True) (fun _ _ => trivial)
    generalize hn : (ls ++ [c :: x]).length = n at *
    have HN := Lib.hid hn
    clear hn
    have HRU := Lib.hid hrun
    have HO' := Lib.hid ho'
    have HOB := Lib.hid hob
    clear hrun ho' hob
    go_wp2_with (at_builtin; refine append_by rfl (.tmp 8) (.tmp 10) 114 rfl _ _ (.slice A n cp) w' rfl rfl HRU.out ?_)
    go_end0
    have HE2 : elOf (bl s) = [c :: x] := HE.out.trans (if_neg (by simp))
    rw [HE2]
    refine ⟨rfl, .slice A n cp, o', hb2.set 0 _, own'.kept ((Turn.refl (· = b) _).setCell (fun _ => rfl) _) (fun k hk e => ?_), ?_, fun k hk => ?_⟩
    · rcases HO'.out k hk with h | h
      · exact HOB.out k h e
      · have := hb.lt
        omega
    · refine ((Turn.of_below b1).trans (t'.mono (S' := fun k => k = b ∨ o = some k) (fun k _ h => .inr h)) (fun k _ h => h)).setCell (fun _ => .inl rfl) _
    · rcases HO'.out k hk with h | h
      · exact .inl h
      · exact .inr (by omega)

theorem piece_more (s : ByteArray) (f k n : Nat) (h : f ≤ k) : piece s f (k + n) = piece s f k ++ ((bl s).drop k).take n := by
  unfold piece
  rw [show k + n - f = (k - f) + n by omega, List.take_add, List.drop_drop, show f + (k - f) = k by omega]
theorem drop_more (s : ByteArray) (k n : Nat) : (bl s).drop k = ((bl s).drop k).take n ++ (bl s).drop (k + n) := by
  rw [← List.drop_drop, List.take_append_drop]
theorem take_one (s : ByteArray) (k : Nat) (h : k < s.size) : ((bl s).drop k).take 1 = [s[k]] := by
  rw [bl_drop s k h]
  rfl

def LRel (W : World) (s : ByteArray) (r : List (List UInt8)) (vf vq vt : Value) (wx : World) : Prop :=
  ∃ (k f : Nat) (q t : Bool) (v : Value) (o : Option Nat) (ls : List (List UInt8)), f ≤ k ∧ k ≤ s.size ∧ vf = .int .i64 (f : Int) ∧ vq = .bool q ∧ vt = .bool t ∧ AtIter wx (W.heap.size + 1) s k ∧ Is wx W.heap.size 114 [v] ∧ OwnS wx v o ls ∧
    (∀ b, o = some b → W.heap.size + 2 ≤ b) ∧ Below W.heap.size W wx ∧ ls ++ elemsOf (mach (piece s f k) q t ((bl s).drop k)) = r

/-- What a step of the range leaves. -/
theorem LRel.next {W wr w1 : World} {s : ByteArray} {k n : Nat} {v : Value} {o : Option Nat} {ls : List (List UInt8)} (hit1 : AtIter w1 (W.heap.size + 1) s (k + n)) (t1 : Turn (· = W.heap.size + 1) wr w1) (hb : Is wr W.heap.size 114 [v]) (hown : OwnS wr v o ls)
    (ho : ∀ b, o = some b → W.heap.size + 2 ≤ b) (hB : Below W.heap.size W wr) : AtIter w1 (W.heap.size + 1) s (k + n) ∧ Is w1 W.heap.size 114 [v] ∧ OwnS w1 v o ls ∧ Below W.heap.size W w1 :=
  ⟨hit1, hb.kept t1 (by omega), hown.kept t1 (fun b hb e => by have := ho b hb; omega), hB.trans ⟨t1.os, t1.tape, t1.output, t1.size, fun b hb => t1.block b (by have := hB.size; omega) (by omega)⟩⟩

/-- What an element that was added leaves. -/
theorem LRel.added {W w1 w2 : World} {s : ByteArray} {k : Nat} {o o2 : Option Nat} (hit1 : AtIter w1 (W.heap.size + 1) s (k + 1)) (ho : ∀ b, o = some b → W.heap.size + 2 ≤ b) (hB : Below W.heap.size W w1)
    (t2 : Turn (fun b => b = W.heap.size ∨ o = some b) w1 w2) (ho2 : ∀ b, o2 = some b → o = some b ∨ w1.heap.size ≤ b) :
    AtIter w2 (W.heap.size + 1) s (k + 1) ∧ (∀ b, o2 = some b → W.heap.size + 2 ≤ b) ∧ Below W.heap.size W w2 := by
  have hz := hit1.lt
  refine ⟨hit1.kept t2 ?_, fun b hb => ?_, hB.trans ⟨t2.os, t2.tape, t2.output, t2.size, fun b hb => t2.block b (by omega) ?_⟩⟩
  · rintro (h | h)
    · omega
    · have := ho _ h
      omega
  · rcases ho2 b hb with h | h
    · exact ho b h
    · omega
  · rintro (h | h)
    · omega
    · have := ho _ h
      omega

set_option maxHeartbeats 4000000 in
set_option maxRecDepth 100000 in
theorem ty_list (s : ByteArray) (W : World) (hs : s.size ≤ 140737488351232) (hl : (listF (bl s)).length ≤ 1000000000000) : Calls Tryz.prog 127 #[.string s] W (Lists (listF (bl s)) W) := by
  obtain ⟨r, hr⟩ : ∃ r, r = listF (bl s) := ⟨_, rfl⟩
  rw [← hr]
  rw [← hr] at hl
  have HR := Lib.hid hr
  clear hr
  go_enter Tryz.func127, Tryz.ntmps127
  go_wp2_with fail
  go_loopw [5, 6, 7, 8, 9] (fun vf vq vt _ _ wx => LRel W s r vf vq vt wx) (fun _ _ _ _ _ wx => s.size - wx.iterPos (W.heap.size + 1))
  case atStart =>
    have hb0 : Is (W.alloc (.cells #[.slice none 0 0] 114)) W.heap.size 114 [.slice none 0 0] := Is.made W 114 [.slice none 0 0]
    have t0 : Turn (fun _ => False) (W.alloc (.cells #[.slice none 0 0] 114)) ((W.alloc (.cells #[.slice none 0 0] 114)).iter s 0) := (Turn.refl _ _).alloc _
    have hit0 : AtIter ((W.alloc (.cells #[.slice none 0 0] 114)).iter s 0) (W.heap.size + 1) s 0 := by
      have := AtIter.start (W.alloc (.cells #[.slice none 0 0] 114)) s
      simpa using this
    refine ⟨0, 0, false, false, .slice none 0 0, none, [], Nat.le_refl _, Nat.zero_le _, rfl, rfl, rfl, hit0, hb0.kept t0 (fun h => h), OwnS.nil _, (fun _ h => by cases h), ((Below.refl _ _).alloc (Nat.le_refl _) _).alloc (by simp) _, ?_⟩
    rw [HR.out, ← mach_list, piece_self]
    rfl
  case round =>
    obtain ⟨k, f, q, t, v, o, ls, hfk, hk, rfl, rfl, rfl, hit, hb, hown, ho, hB, hu⟩ := hrel
    have hll : ls.length ≤ 1000000000000 := by
      have := congrArg List.length hu
      rw [List.length_append] at this
      omega
    have HM := Lib.hid hit.pos
    have HU := Lib.hid hu
    clear hu
    by_cases hlt : k < s.size
    · rcases decode_step s k hlt with ⟨hc, hd⟩ | ⟨hc, x, n, hd, hx1, hx2, hn, hw⟩
      · obtain ⟨w1, hnx, hit1, t1, z1⟩ := next_some (P := Tryz.prog) hit hlt hd
        obtain ⟨hit1, hb1, hown1, hB1⟩ := LRel.next hit1 t1 hb hown ho hB
        have HO := Lib.hid ho
        have HD := Lib.hid (bl_drop s k hlt)
        have HP := Lib.hid (show piece s f (k + 1) = piece s f k ++ [s[k]] by rw [piece_more s f k 1 hfk, take_one s k hlt])
        have hz1 : W.heap.size + 1 < w1.heap.size := hit1.lt
        clear hd z1 t1 hit hb hown hB ho
        cases t with
        | true =>
          have HF := Lib.hid (show ls ++ elemsOf (mach (piece s f (k + 1)) q false ((bl s).drop (k + 1))) = r by
            have := HU.out
            rw [HD.out, mach_taken] at this
            rw [HP.out]
            exact this)
          go_wp2_with fail
          refine ⟨⟨k + 1, f, q, false, v, o, ls, by omega, hlt, rfl, rfl, rfl, hit1, hb1, hown1, HO.out, hB1, HF.out⟩, ?_⟩
          rw [hit1.pos, HM.out]
          omega
        | false =>
          by_cases h92 : (s[k].toNat : Int) = 92
          · have e1 : ((s[k].toNat : Int) == 92) = true := by simpa using h92
            have HF := Lib.hid (show ls ++ elemsOf (mach (piece s f (k + 1)) q q ((bl s).drop (k + 1))) = r by
              have := HU.out
              rw [HD.out, mach_back _ _ _ _ ((eq92 _).2 h92)] at this
              rw [HP.out]
              exact this)
            clear h92
            go_wp2_with fail
            refine ⟨⟨k + 1, f, q, q, v, o, ls, by omega, hlt, rfl, rfl, rfl, hit1, hb1, hown1, HO.out, hB1, HF.out⟩, ?_⟩
            rw [hit1.pos, HM.out]
            omega
          · have e1 : ((s[k].toNat : Int) == 92) = false := by simpa using h92
            by_cases h34 : (s[k].toNat : Int) = 34
            · have e2 : ((s[k].toNat : Int) == 34) = true := by simpa using h34
              have HF := Lib.hid (show ls ++ elemsOf (mach (piece s f (k + 1)) (!q) false ((bl s).drop (k + 1))) = r by
                have := HU.out
                rw [HD.out, mach_quote _ _ _ _ ((eq34 _).2 h34)] at this
                rw [HP.out]
                exact this)
              clear h92 h34
              go_wp2_with fail
              refine ⟨⟨k + 1, f, !q, false, v, o, ls, by omega, hlt, rfl, rfl, rfl, hit1, hb1, hown1, HO.out, hB1, HF.out⟩, ?_⟩
              rw [hit1.pos, HM.out]
              omega
            · have e2 : ((s[k].toNat : Int) == 34) = false := by simpa using h34
              by_cases h44 : (s[k].toNat : Int) = 44
              · have e3 : ((s[k].toNat : Int) == 44) = true := by simpa using h44
                cases q with
                | true =>
                  have HF := Lib.hid (show ls ++ elemsOf (mach (piece s f (k + 1)) true false ((bl s).drop (k + 1))) = r by
                    have := HU.out
                    rw [HD.out, mach_other _ _ _ _ (fun h => h92 ((eq92 _).1 h)) (fun h => h34 ((eq34 _).1 h)) (.inr rfl)] at this
                    rw [HP.out]
                    exact this)
                  clear h92 h34 h44
                  go_wp2_with fail
                  refine ⟨⟨k + 1, f, true, false, v, o, ls, by omega, hlt, rfl, rfl, rfl, hit1, hb1, hown1, HO.out, hB1, HF.out⟩, ?_⟩
                  rw [hit1.pos, HM.out]
                  omega
                | false =>
                  have HF := Lib.hid (show (ls ++ elOf (piece s f k)) ++ elemsOf (mach (piece s (k + 1) (k + 1)) false false ((bl s).drop (k + 1))) = r by
                    have := HU.out
                    rw [HD.out, mach_comma _ _ _ ((eq44 _).2 h44), elemsOf_cons] at this
                    rw [piece_self, List.append_assoc]
                    exact this)
                  have CA := Lib.hid (add_any (s.extract f k) W.heap.size v o ls w1 (by have := extract_size s f k; omega) hb1 hown1 (fun b hb e => by have := HO.out b hb; omega) (by omega))
                  rw [extract_bl] at CA
                  clear h92 h34 h44
                  go_wp2_with fail
                  refine CA.out.mono ?_
                  rintro e w2 ⟨rfl, v2, o2, hb2, hown2, t2, ho2⟩
                  obtain ⟨hit2, ho2, hB2⟩ := LRel.added hit1 HO.out hB1 t2 ho2
                  have HO2 := Lib.hid ho2
                  clear ho2 t2
                  go_wp2_with fail
                  refine ⟨⟨k + 1, k + 1, false, false, v2, o2, _, Nat.le_refl _, hlt, by simp, rfl, rfl, hit2, hb2, hown2, HO2.out, hB2, HF.out⟩, ?_⟩
                  rw [hit2.pos, HM.out]
                  omega
              · have e3 : ((s[k].toNat : Int) == 44) = false := by simpa using h44
                have HF := Lib.hid (show ls ++ elemsOf (mach (piece s f (k + 1)) q false ((bl s).drop (k + 1))) = r by
                  have := HU.out
                  rw [HD.out, mach_other _ _ _ _ (fun h => h92 ((eq92 _).1 h)) (fun h => h34 ((eq34 _).1 h)) (.inl (fun h => h44 ((eq44 _).1 h)))] at this
                  rw [HP.out]
                  exact this)
                clear h92 h34 h44
                go_wp2_with fail
                refine ⟨⟨k + 1, f, q, false, v, o, ls, by omega, hlt, rfl, rfl, rfl, hit1, hb1, hown1, HO.out, hB1, HF.out⟩, ?_⟩
                rw [hit1.pos, HM.out]
                omega
      · obtain ⟨w1, hnx, hit1, t1, z1⟩ := next_some (P := Tryz.prog) hit hlt hd
        obtain ⟨hit1, hb1, hown1, hB1⟩ := LRel.next hit1 t1 hb hown ho hB
        have HO := Lib.hid ho
        have HF := Lib.hid (show ls ++ elemsOf (mach (piece s f (k + (n + 1))) q false ((bl s).drop (k + (n + 1)))) = r by
          have := HU.out
          rw [drop_more s k (n + 1), mach_wide _ _ _ _ _ (by
            intro h
            have := congrArg List.length h
            rw [List.length_take, List.length_drop, bl_length] at this
            simp at this
            omega) hw] at this
          rw [piece_more s f k (n + 1) hfk]
          exact this)
        clear hd z1 t1 hit hb hown hB ho hw
        have e1 : ((x : Int) == 92) = false := beq_eq_false_iff_ne.2 (by omega)
        have e2 : ((x : Int) == 34) = false := beq_eq_false_iff_ne.2 (by omega)
        have e3 : ((x : Int) == 44) = false := beq_eq_false_iff_ne.2 (by omega)
        cases t with
        | true =>
          go_wp2_with fail
          refine ⟨⟨k + (n + 1), f, q, false, v, o, ls, by omega, hn, rfl, rfl, rfl, hit1, hb1, hown1, HO.out, hB1, HF.out⟩, ?_⟩
          rw [hit1.pos, HM.out]
          omega
        | false =>
          go_wp2_with fail
          refine ⟨⟨k + (n + 1), f, q, false, v, o, ls, by omega, hn, rfl, rfl, rfl, hit1, hb1, hown1, HO.out, hB1, HF.out⟩, ?_⟩
          rw [hit1.pos, HM.out]
          omega
    · have hnx := next_none (P := Tryz.prog) hit hlt
      have HO := Lib.hid ho
      have HF := Lib.hid (show ls ++ elOf (piece s f s.size) = r by
        have := HU.out
        obtain rfl : k = s.size := by omega
        rw [List.drop_of_length_le (by rw [bl_length]; exact Nat.le_refl _), mach, elemsOf_cons] at this
        rw [← this]
        simp [elOf, elemsOf])
      have hz : W.heap.size + 1 < wr.heap.size := hit.lt
      have CA := Lib.hid (add_any (s.extract f s.size) W.heap.size v o ls wr (by have := extract_size s f s.size; omega) hb hown (fun b hb e => by have := HO.out b hb; omega) (by omega))
      rw [extract_bl, HF.out] at CA
      clear ho
      go_wp2_with fail
      refine CA.out.mono ?_
      rintro e w2 ⟨rfl, v2, o2, hb2, hown2, t2, ho2⟩
      have z : w2.cell? ⟨W.heap.size, 0, none⟩ = some v2 := hb2.cell 0
      have HO2 := Lib.hid ho2
      clear ho2
      go_wp2_with fail
      go_ret
      refine ⟨v2, o2, rfl, hown2, fun b hb => ?_, hB.trans ⟨t2.os, t2.tape, t2.output, t2.size, fun b hb => t2.block b (by omega) ?_⟩⟩
      · rcases HO2.out b hb with h | h
        · have := HO.out b h
          omega
        · omega
      · rintro (h | h)
        · omega
        · have := HO.out b h
          omega

theorem mach_length : ∀ (l cur : List UInt8) (q t : Bool), (mach cur q t l).length ≤ l.length + 1
  | [], _, _, _ => by simp [mach]
  | c :: l, cur, q, t => by
    have h : ∀ cur q t, (mach cur q t l).length ≤ l.length + 1 := fun cur q t => mach_length l cur q t
    simp only [mach, List.length_cons]
    repeat' split
    all_goals first
      | exact Nat.le_succ_of_le (h _ _ _)
      | exact Nat.succ_le_succ (h _ _ _)
theorem elemsOf_length : ∀ (ps : List (List UInt8)), (elemsOf ps).length ≤ ps.length
  | [] => by simp [elemsOf]
  | x :: ps => by
    rw [elemsOf_cons, List.length_append, List.length_cons]
    have := elemsOf_length ps
    split <;> simp <;> omega
theorem tx_list (s : ByteArray) (W : World) (hs : s.size ≤ 1000000000) : Calls Tryz.prog 127 #[.string s] W (Lists (listF (bl s)) W) := by
  refine ty_list s W (by omega) ?_
  have h1 := elemsOf_length (mach [] false false (bl s))
  have h2 := mach_length (bl s) [] false false
  rw [mach_list] at h1
  rw [bl_length] at h2
  omega
end Go.Proofs.YtemgfppclakdmaaGreatDoor

namespace Go.Proofs.YtemgfppclakdmaaGreatDoor
open Go.RowKit

def saidL (p : Sd) : List Value := [.int .u64 (p.1 : Int), .string ⟨p.2.1.toArray⟩, .int .i64 (p.2.2 : Int)]
def saidV (p : Sd) : Value := .agg #[.int .u64 (p.1 : Int), .string ⟨p.2.1.toArray⟩, .int .i64 (p.2.2 : Int)]
theorem saidStruct : Tryz.prog.underlying 152 = some (.struct (Tryz.prog.fieldsOf 152)) := by kernel_rfl
theorem saidSize : (Tryz.prog.info? 152).map (·.size) = some 3 := by kernel_rfl

set_option maxHeartbeats 2000000 in
set_option maxRecDepth 100000 in
theorem read_any (s : ByteArray) (w : World) : Calls Tryz.prog 97 #[.string s] w fun e w' => e = .returned (saidV (rdF (bl s))) ∧ Below w.heap.size w w' := by
  have C := Lib.hid (fun X : World => decimal_any s X)
  have HR := Lib.hid (show rdF (bl s) = if (readF 10 (bl s)).2 = 3 then (0, bl s, 3) else ((readF 10 (bl s)).1, [], (readF 10 (bl s)).2) from rfl)
  generalize readF 10 (bl s) = p at *
  obtain ⟨n, k⟩ := p
  unfold Read at C
  simp only at HR C
  have I0 := Lib.hid (Is.made w 152 [.int .u64 0, .string ⟨#[]⟩, .int .i64 0])
  have B0 := Lib.hid ((Below.refl w.heap.size w).alloc (Nat.le_refl _) (.cells #[.int .u64 0, .string ⟨#[]⟩, .int .i64 0] 152))
  obtain ⟨g, hg⟩ : ∃ g, w.heap.size = g := ⟨_, rfl⟩
  rw [hg] at I0
  by_cases h3 : (k : Int) = 3
  · have e3 : ((k : Int) == 3) = true := by simpa using h3
    have HQ := Lib.hid (HR.out.trans (if_pos (by omega)))
    go_enter Tryz.func97, Tryz.ntmps97
    go_wp2_with fail
    refine (C.out _).mono ?_
    rintro e w1 ⟨rfl, b1⟩
    have I1 := Lib.hid (I0.out.kept (Turn.of_below (S := fun _ => False) b1) (fun h => h))
    have B1 := Lib.hid (B0.out.trans (b1.mono B0.out.size))
    have HG := Lib.hid hg
    clear b1 hg
    have c0 : w1.cell? ⟨g, 0, none⟩ = some (.int .u64 0) := I1.out.cell 0
    have c1 : w1.cell? ⟨g, 1, none⟩ = some (.string ⟨#[]⟩) := I1.out.cell 1
    have c2 : w1.cell? ⟨g, 2, none⟩ = some (.int .i64 0) := I1.out.cell 2
    have f0 : w1.frozen? ⟨g, 0, none⟩ = false := I1.out.free 0
    have f1 : w1.frozen? ⟨g, 1, none⟩ = false := I1.out.free 1
    have f2 : w1.frozen? ⟨g, 2, none⟩ = false := I1.out.free 2
    go_wp2_with fail
    have I6 := Lib.hid (((I1.out.set 0 (.int .u64 0)).set 1 (.string s)).set 2 (.int .i64 3))
    have B6 := Lib.hid (((((Turn.of_below (S := fun k => k = g) B1.out).setCell (p := ⟨g, 0, none⟩) (fun _ => rfl) (.int .u64 0)).setCell (p := ⟨g, 1, none⟩) (fun _ => rfl) (.string s)).setCell (p := ⟨g, 2, none⟩) (fun _ => rfl) (.int .i64 3)).below (fun k hk e => by rw [e, ← HG.out] at hk; omega))
    refine bodyPost_ret (results_cell_row rfl _ _ g _ _ _ _ rfl I6.out saidStruct rfl saidSize) rfl ?_
    exact ⟨by rw [HQ.out]; simp [saidV, mk_bl], B6.out⟩
  · have e3 : ((k : Int) == 3) = false := by simpa using h3
    have HQ := Lib.hid (HR.out.trans (if_neg (by omega)))
    go_enter Tryz.func97, Tryz.ntmps97
    go_wp2_with fail
    refine (C.out _).mono ?_
    rintro e w1 ⟨rfl, b1⟩
    have I1 := Lib.hid (I0.out.kept (Turn.of_below (S := fun _ => False) b1) (fun h => h))
    have B1 := Lib.hid (B0.out.trans (b1.mono B0.out.size))
    have HG := Lib.hid hg
    clear b1 hg
    have c0 : w1.cell? ⟨g, 0, none⟩ = some (.int .u64 0) := I1.out.cell 0
    have c1 : w1.cell? ⟨g, 1, none⟩ = some (.string ⟨#[]⟩) := I1.out.cell 1
    have c2 : w1.cell? ⟨g, 2, none⟩ = some (.int .i64 0) := I1.out.cell 2
    have f0 : w1.frozen? ⟨g, 0, none⟩ = false := I1.out.free 0
    have f1 : w1.frozen? ⟨g, 1, none⟩ = false := I1.out.free 1
    have f2 : w1.frozen? ⟨g, 2, none⟩ = false := I1.out.free 2
    go_wp2_with fail
    have I6 := Lib.hid (((I1.out.set 0 (.int .u64 (n : Int))).set 1 (.string ⟨#[]⟩)).set 2 (.int .i64 (k : Int)))
    have B6 := Lib.hid (((((Turn.of_below (S := fun k => k = g) B1.out).setCell (p := ⟨g, 0, none⟩) (fun _ => rfl) (.int .u64 (n : Int))).setCell (p := ⟨g, 1, none⟩) (fun _ => rfl) (.string ⟨#[]⟩)).setCell (p := ⟨g, 2, none⟩) (fun _ => rfl) (.int .i64 (k : Int))).below (fun k hk e => by rw [e, ← HG.out] at hk; omega))
    refine bodyPost_ret (results_cell_row rfl _ _ g _ _ _ _ rfl I6.out saidStruct rfl saidSize) rfl ?_
    exact ⟨by rw [HQ.out]; simp [saidV], B6.out⟩

theorem saidGuard : Tryz.prog.eqGuardType Tryz.prog.depth 152 = false := by kernel_rfl
theorem saidHeld : Tryz.prog.stoodInHeld 152 = false := by kernel_rfl
theorem saidFields : ∃ f0 f1 f2 : Field, (Tryz.prog.fieldsOf 152).toList = [f0, f1, f2] ∧ f0.name ≠ "_" ∧ f1.name ≠ "_" ∧ f2.name ≠ "_" ∧ f0.type = 63 ∧ f1.type = 9 ∧ f2.type = 26 ∧ f0.offset = 0 ∧ f1.offset = 1 ∧ f2.offset = 2 := by
  have h : (Tryz.prog.fieldsOf 152).toList.map (fun f => (f.name, f.type, f.offset)) = [("number", 63, 0), ("tooLong", 9, 1), ("err", 26, 2)] := by kernel_rfl
  generalize (Tryz.prog.fieldsOf 152).toList = l at *
  rcases l with _ | ⟨f0, _ | ⟨f1, _ | ⟨f2, _ | ⟨f3, r⟩⟩⟩⟩
  · simp at h
  · simp at h
  · simp at h
  · simp only [List.map_cons, List.map_nil, List.cons.injEq, Prod.mk.injEq, and_true] at h
    obtain ⟨⟨a, b, c⟩, ⟨d, e, f⟩, m, n, k⟩ := h
    exact ⟨f0, f1, f2, rfl, by rw [a]; decide, by rw [d]; decide, by rw [m]; decide, b, e, n, c, f, k⟩
  · simp at h
theorem part_int (t : TypeId) (k : IntKind) (hu : Tryz.prog.underlying t = some (.int k)) (xs : Array Value) (o : Nat) (k' : IntKind) (n : Int) (h : xs[o]? = some (.int k' n)) (W : World) : (part t xs o).run Tryz.prog W = .ok (.int k' n) W := by
  simp [part, isAgg, run_underlying hu, h]
theorem run_eql_said (a c a' c' : Int) (b b' : ByteArray) (W : World) : (binOp .eql 152 (.agg #[.int .u64 a, .string b, .int .i64 c]) (.agg #[.int .u64 a', .string b', .int .i64 c'])).run Tryz.prog W = .ok (.bool (a == a' && (b.toList == b'.toList && c == c'))) W := by
  obtain ⟨f0, f1, f2, hl, n0, n1, n2, t0, t1, t2, o0, o1, o2⟩ := saidFields
  rw [run_eql_struct, run_equalIn_agg W 9999 _ _ _ saidStruct saidHeld, hl]
  simp only [Op.eqFields, n0, n1, n2, ne_eq, not_false_eq_true, if_true, t0, t1, t2, o0, o1, o2, Sem.run_bind, Sem.run_ite, Sem.run_pure]
  rw [part_int _ _ Tryz.underlying63 _ 0 _ a rfl, Result.andThen_ok, part_int _ _ Tryz.underlying63 _ 0 _ a' rfl, Result.andThen_ok, run_equalIn_int W 9998 _ _ _ a a' Tryz.underlying63, Result.andThen_ok]
  cases ha : (a == a')
  · simp [Result.andThen]
  · rw [part_str _ 1 b rfl, Result.andThen_ok, part_str _ 1 b' rfl, Result.andThen_ok, run_equalIn_string W 9998 _ b b' Tryz.underlying9, Result.andThen_ok]
    cases hb : (b.toList == b'.toList)
    · simp [Result.andThen]
    · rw [part_int _ _ Tryz.underlying26 _ 2 _ c rfl, Result.andThen_ok, part_int _ _ Tryz.underlying26 _ 2 _ c' rfl, Result.andThen_ok, run_equalIn_int W 9998 _ _ _ c c' Tryz.underlying26, Result.andThen_ok]
      cases hc : (c == c') <;> simp [Result.andThen]

theorem chk_bl : bl ⟨#[99, 104, 117, 110, 107, 101, 100]⟩ = chkN := rfl
set_option maxHeartbeats 2000000 in
set_option maxRecDepth 100000 in
/-- One more coding. -/
theorem cod1_any (x : ByteArray) (gc gs n : Nat) (b : Bool) (X : World) (Ic : Is X gc 3 [.int .i64 (n : Int)]) (Ib : Is X gs 4 [.bool b]) (hn : n ≤ 1000000000000) :
    Calls Tryz.prog 95 #[.string x, .pointer (some ⟨gc, 0, none⟩), .pointer (some ⟨gs, 0, none⟩)] X fun e w' =>
      e = .returned (.tuple #[]) ∧ Is w' gc 3 [.int .i64 ((n + 1 : Nat) : Int)] ∧ Is w' gs 4 [.bool (b && isChk (bl x))] ∧ Turn (fun k => k = gc ∨ k = gs) X w' := by
  have hne : gc ≠ gs := Ic.ne Ib (by decide)
  have c0 : X.cell? ⟨gc, 0, none⟩ = some (.int .i64 (n : Int)) := Ic.cell 0
  have f0 : X.frozen? ⟨gc, 0, none⟩ = false := Ic.free 0
  have I1 := Lib.hid (Ic.set 0 (.int .i64 ((n : Int) + 1)))
  have I2 := Lib.hid (Ib.far (p := ⟨gc, 0, none⟩) (Ne.symm hne) (.int .i64 ((n : Int) + 1)))
  have T1 := Lib.hid ((Turn.refl (fun k => k = gc ∨ k = gs) X).setCell (p := ⟨gc, 0, none⟩) (fun _ => .inl rfl) (.int .i64 ((n : Int) + 1)))
  have c1 : (X.setCell ⟨gc, 0, none⟩ (.int .i64 ((n : Int) + 1))).cell? ⟨gs, 0, none⟩ = some (.bool b) := I2.out.cell 0
  have f1 : (X.setCell ⟨gc, 0, none⟩ (.int .i64 ((n : Int) + 1))).frozen? ⟨gs, 0, none⟩ = false := I2.out.free 0
  have C := Lib.hid (fun W : World => ty_same x ⟨#[99, 104, 117, 110, 107, 101, 100]⟩ W)
  have HK := Lib.hid (show isChk (bl x) = (lowF (bl x) == lowF (bl ⟨#[99, 104, 117, 110, 107, 101, 100]⟩)) by rw [chk_bl]; rfl)
  generalize (lowF (bl x) == lowF (bl ⟨#[99, 104, 117, 110, 107, 101, 100]⟩)) = q at *
  have HNE := Lib.hid hne
  have HN := Lib.hid (show ((n + 1 : Nat) : Int) = (n : Int) + 1 by simp)
  rw [HK.out, HN.out]
  clear Ic Ib hne HN HK
  cases b with
  | false =>
    go_enter Tryz.func95, Tryz.ntmps95
    go_wp2_with fail
    go_end0
    exact ⟨rfl, I1.out.far (p := ⟨gs, 0, none⟩) HNE.out _, I2.out.set 0 _, T1.out.setCell (p := ⟨gs, 0, none⟩) (fun _ => .inr rfl) _⟩
  | true =>
    go_enter Tryz.func95, Tryz.ntmps95
    go_wp2_with fail
    refine (C.out _).mono ?_
    rintro e w1 ⟨rfl, b1⟩
    have J1 := Lib.hid (I1.out.kept (Turn.of_below (S := fun _ => False) b1) (fun h => h))
    have J2 := Lib.hid (I2.out.kept (Turn.of_below (S := fun _ => False) b1) (fun h => h))
    have T2 := Lib.hid (T1.out.trans (Turn.of_below (S := fun _ => False) b1) (fun _ _ h => h.elim))
    clear b1
    have c2 : w1.cell? ⟨gs, 0, none⟩ = some (.bool true) := J2.out.cell 0
    have f2 : w1.frozen? ⟨gs, 0, none⟩ = false := J2.out.free 0
    go_wp2_with fail
    go_end0
    exact ⟨rfl, J1.out.far (p := ⟨gs, 0, none⟩) HNE.out _, J2.out.set 0 _, T2.out.setCell (p := ⟨gs, 0, none⟩) (fun _ => .inr rfl) _⟩
end Go.Proofs.YtemgfppclakdmaaGreatDoor

namespace Go.Proofs.YtemgfppclakdmaaGreatDoor
open Go.RowKit

theorem sd_beq (rn pn re pe : Nat) (rt pt : List UInt8) : ((rn, rt, re) == (pn, pt, pe)) = ((rn : Int) == (pn : Int) && ((⟨rt.toArray⟩ : ByteArray).toList == (⟨pt.toArray⟩ : ByteArray).toList && (re : Int) == (pe : Int))) := by
  rw [Lib.toList_data, Lib.toList_data, Bool.eq_iff_iff]
  simp only [beq_iff_eq, Prod.mk.injEq, Bool.and_eq_true, Int.natCast_inj]

set_option maxHeartbeats 8000000 in
set_option maxRecDepth 100000 in
theorem len1_in (x : ByteArray) (gc gf gs n rn re pn pe : Nat) (rt pt : ByteArray) (b q : Bool) (X : World) (Ic : Is X gc 3 [.int .i64 (n : Int)]) (If : Is X gf 152 [.int .u64 (pn : Int), .string pt, .int .i64 (pe : Int)]) (Ib : Is X gs 4 [.bool b]) (hn : n ≤ 1000000000000)
    (hC : ∀ W : World, Calls Tryz.prog 97 #[.string x] W fun e w' => e = .returned (.agg #[.int .u64 (rn : Int), .string rt, .int .i64 (re : Int)]) ∧ Below W.heap.size W w')
    (HS : ∀ W : World, (binOp .eql 152 (.agg #[.int .u64 (rn : Int), .string rt, .int .i64 (re : Int)]) (.agg #[.int .u64 (pn : Int), .string pt, .int .i64 (pe : Int)])).run Tryz.prog W = .ok (.bool q) W)
    (HT : ∀ W : World, (binOp .eql 152 (.agg #[.int .u64 (rn : Int), .string rt, .int .i64 (re : Int)]) (.agg #[.int .u64 (rn : Int), .string rt, .int .i64 (re : Int)])).run Tryz.prog W = .ok (.bool true) W) :
    Calls Tryz.prog 96 #[.string x, .pointer (some ⟨gc, 0, none⟩), .pointer (some ⟨gf, 0, none⟩), .pointer (some ⟨gs, 0, none⟩)] X fun e w' =>
      e = .returned (.tuple #[]) ∧ Is w' gc 3 [.int .i64 ((n : Int) + 1)] ∧ Is w' gf 152 (if n = 0 then [.int .u64 (rn : Int), .string rt, .int .i64 (re : Int)] else [.int .u64 (pn : Int), .string pt, .int .i64 (pe : Int)]) ∧
        Is w' gs 4 [.bool (b && ((if n = 0 then true else q) && ((re : Int) != 5)))] ∧ Turn (fun k => k = gc ∨ k = gf ∨ k = gs) X w' := by
  have ncf : gc ≠ gf := Ic.ne If (by decide)
  have nbc : gs ≠ gc := Ib.ne Ic (by decide)
  have nbf : gs ≠ gf := Ib.ne If (by decide)
  have C := Lib.hid hC
  clear hC
  by_cases h0 : n = 0
  · rw [if_pos h0, if_pos h0]
    have e0 : ((n : Int) == 0) = true := by simpa using h0
    clear h0 HS
    cases b
    · rw [show (false && (true && ((re : Int) != 5))) = false from rfl]
      go_enter Tryz.func96, Tryz.ntmps96
      go_wp2_with fail
      refine (C.out _).mono ?_
      rintro e w1 ⟨rfl, b1⟩
      have T2 := Lib.hid ((Turn.of_below (S := fun k => k = gc ∨ k = gf ∨ k = gs) b1).alloc (.cells #[.int .u64 (rn : Int), .string rt, .int .i64 (re : Int)] 152))
      have Kc2 := Lib.hid ((Ic.kept (Turn.of_below (S := fun _ => False) b1) (fun h => h)).alloc (.cells #[.int .u64 (rn : Int), .string rt, .int .i64 (re : Int)] 152))
      have Kf2 := Lib.hid ((If.kept (Turn.of_below (S := fun _ => False) b1) (fun h => h)).alloc (.cells #[.int .u64 (rn : Int), .string rt, .int .i64 (re : Int)] 152))
      have Kb2 := Lib.hid ((Ib.kept (Turn.of_below (S := fun _ => False) b1) (fun h => h)).alloc (.cells #[.int .u64 (rn : Int), .string rt, .int .i64 (re : Int)] 152))
      have Kg2 := Lib.hid (Is.made w1 152 [.int .u64 (rn : Int), .string rt, .int .i64 (re : Int)])
      have nc : gc ≠ w1.heap.size := fun e => by have := (Ic.kept (Turn.of_below (S := fun _ => False) b1) (fun h => h)).lt; omega
      have nf : gf ≠ w1.heap.size := fun e => by have := (If.kept (Turn.of_below (S := fun _ => False) b1) (fun h => h)).lt; omega
      have nb : gs ≠ w1.heap.size := fun e => by have := (Ib.kept (Turn.of_below (S := fun _ => False) b1) (fun h => h)).lt; omega
      clear b1 Ic If Ib
      go_upto_region 1 with fail
      generalize w1.alloc (.cells #[.int .u64 (rn : Int), .string rt, .int .i64 (re : Int)] 152) = w2 at *
      generalize w1.heap.size = g at *
      have cc20 : w2.cell? ⟨gc, 0, none⟩ = some (.int .i64 (n : Int)) := Kc2.out.cell 0
      have cf20 : w2.cell? ⟨gf, 0, none⟩ = some (.int .u64 (pn : Int)) := Kf2.out.cell 0
      have ff20 : w2.frozen? ⟨gf, 0, none⟩ = false := Kf2.out.free 0
      have cf21 : w2.cell? ⟨gf, 1, none⟩ = some (.string pt) := Kf2.out.cell 1
      have ff21 : w2.frozen? ⟨gf, 1, none⟩ = false := Kf2.out.free 1
      have cf22 : w2.cell? ⟨gf, 2, none⟩ = some (.int .i64 (pe : Int)) := Kf2.out.cell 2
      have ff22 : w2.frozen? ⟨gf, 2, none⟩ = false := Kf2.out.free 2
      have cg20 : w2.cell? ⟨g, 0, none⟩ = some (.int .u64 (rn : Int)) := Kg2.out.cell 0
      have cg21 : w2.cell? ⟨g, 1, none⟩ = some (.string rt) := Kg2.out.cell 1
      have cg22 : w2.cell? ⟨g, 2, none⟩ = some (.int .i64 (re : Int)) := Kg2.out.cell 2
      go_upto_region 3 with fail
      have Kc3 := Lib.hid ((((Kc2.out).far (p := ⟨gf, 0, none⟩) ncf (.int .u64 (rn : Int))).far (p := ⟨gf, 1, none⟩) ncf (.string rt)).far (p := ⟨gf, 2, none⟩) ncf (.int .i64 (re : Int)))
      have Kb3 := Lib.hid ((((Kb2.out).far (p := ⟨gf, 0, none⟩) nbf (.int .u64 (rn : Int))).far (p := ⟨gf, 1, none⟩) nbf (.string rt)).far (p := ⟨gf, 2, none⟩) nbf (.int .i64 (re : Int)))
      have Kg3 := Lib.hid ((((Kg2.out).far (p := ⟨gf, 0, none⟩) (Ne.symm nf) (.int .u64 (rn : Int))).far (p := ⟨gf, 1, none⟩) (Ne.symm nf) (.string rt)).far (p := ⟨gf, 2, none⟩) (Ne.symm nf) (.int .i64 (re : Int)))
      have Kf3 := Lib.hid ((((Kf2.out).set 0 (.int .u64 (rn : Int))).set 1 (.string rt)).set 2 (.int .i64 (re : Int)))
      have T3 := Lib.hid (((T2.out.setCell (p := ⟨gf, 0, none⟩) (fun _ => .inr (.inl rfl)) (.int .u64 (rn : Int))).setCell (p := ⟨gf, 1, none⟩) (fun _ => .inr (.inl rfl)) (.string rt)).setCell (p := ⟨gf, 2, none⟩) (fun _ => .inr (.inl rfl)) (.int .i64 (re : Int)))
      clear Kc2 Kb2 Kg2 Kf2 T2 cc20 cf20 ff20 cf21 ff21 cf22 ff22 cg20 cg21 cg22
      generalize (((w2.setCell ⟨gf, 0, none⟩ (.int .u64 (rn : Int))).setCell ⟨gf, 1, none⟩ (.string rt)).setCell ⟨gf, 2, none⟩ (.int .i64 (re : Int))) = w3 at *
      simp only [List.set_cons_zero, List.set_cons_succ] at Kf3
      have cc30 : w3.cell? ⟨gc, 0, none⟩ = some (.int .i64 (n : Int)) := Kc3.out.cell 0
      have fc30 : w3.frozen? ⟨gc, 0, none⟩ = false := Kc3.out.free 0
      go_upto_region 4 with fail
      have Kc4 := Lib.hid (Kc3.out.set 0 (.int .i64 ((n : Int) + 1)))
      have Kf4 := Lib.hid (Kf3.out.far (p := ⟨gc, 0, none⟩) (Ne.symm ncf) (.int .i64 ((n : Int) + 1)))
      have Kb4 := Lib.hid (Kb3.out.far (p := ⟨gc, 0, none⟩) nbc (.int .i64 ((n : Int) + 1)))
      have Kg4 := Lib.hid (Kg3.out.far (p := ⟨gc, 0, none⟩) (Ne.symm nc) (.int .i64 ((n : Int) + 1)))
      have T4 := Lib.hid (T3.out.setCell (p := ⟨gc, 0, none⟩) (fun _ => .inl rfl) (.int .i64 ((n : Int) + 1)))
      clear Kc3 Kf3 Kb3 Kg3 T3 cc30 fc30
      generalize w3.setCell ⟨gc, 0, none⟩ (.int .i64 ((n : Int) + 1)) = w4 at *
      have cb40 : w4.cell? ⟨gs, 0, none⟩ = some (.bool false) := Kb4.out.cell 0
      have fb40 : w4.frozen? ⟨gs, 0, none⟩ = false := Kb4.out.free 0
      go_wp2_with fail
      go_end0
      exact ⟨rfl, Kc4.out.far (p := ⟨gs, 0, none⟩) (Ne.symm nbc) _, Kf4.out.far (p := ⟨gs, 0, none⟩) (Ne.symm nbf) _, Kb4.out.set 0 _, T4.out.setCell (p := ⟨gs, 0, none⟩) (fun _ => .inr (.inr rfl)) _⟩
    · rw [show (true && (true && ((re : Int) != 5))) = ((re : Int) != 5) from rfl]
      go_enter Tryz.func96, Tryz.ntmps96
      go_wp2_with fail
      refine (C.out _).mono ?_
      rintro e w1 ⟨rfl, b1⟩
      have T2 := Lib.hid ((Turn.of_below (S := fun k => k = gc ∨ k = gf ∨ k = gs) b1).alloc (.cells #[.int .u64 (rn : Int), .string rt, .int .i64 (re : Int)] 152))
      have Kc2 := Lib.hid ((Ic.kept (Turn.of_below (S := fun _ => False) b1) (fun h => h)).alloc (.cells #[.int .u64 (rn : Int), .string rt, .int .i64 (re : Int)] 152))
      have Kf2 := Lib.hid ((If.kept (Turn.of_below (S := fun _ => False) b1) (fun h => h)).alloc (.cells #[.int .u64 (rn : Int), .string rt, .int .i64 (re : Int)] 152))
      have Kb2 := Lib.hid ((Ib.kept (Turn.of_below (S := fun _ => False) b1) (fun h => h)).alloc (.cells #[.int .u64 (rn : Int), .string rt, .int .i64 (re : Int)] 152))
      have Kg2 := Lib.hid (Is.made w1 152 [.int .u64 (rn : Int), .string rt, .int .i64 (re : Int)])
      have nc : gc ≠ w1.heap.size := fun e => by have := (Ic.kept (Turn.of_below (S := fun _ => False) b1) (fun h => h)).lt; omega
      have nf : gf ≠ w1.heap.size := fun e => by have := (If.kept (Turn.of_below (S := fun _ => False) b1) (fun h => h)).lt; omega
      have nb : gs ≠ w1.heap.size := fun e => by have := (Ib.kept (Turn.of_below (S := fun _ => False) b1) (fun h => h)).lt; omega
      clear b1 Ic If Ib
      go_upto_region 1 with fail
      generalize w1.alloc (.cells #[.int .u64 (rn : Int), .string rt, .int .i64 (re : Int)] 152) = w2 at *
      generalize w1.heap.size = g at *
      have cc20 : w2.cell? ⟨gc, 0, none⟩ = some (.int .i64 (n : Int)) := Kc2.out.cell 0
      have cf20 : w2.cell? ⟨gf, 0, none⟩ = some (.int .u64 (pn : Int)) := Kf2.out.cell 0
      have ff20 : w2.frozen? ⟨gf, 0, none⟩ = false := Kf2.out.free 0
      have cf21 : w2.cell? ⟨gf, 1, none⟩ = some (.string pt) := Kf2.out.cell 1
      have ff21 : w2.frozen? ⟨gf, 1, none⟩ = false := Kf2.out.free 1
      have cf22 : w2.cell? ⟨gf, 2, none⟩ = some (.int .i64 (pe : Int)) := Kf2.out.cell 2
      have ff22 : w2.frozen? ⟨gf, 2, none⟩ = false := Kf2.out.free 2
      have cg20 : w2.cell? ⟨g, 0, none⟩ = some (.int .u64 (rn : Int)) := Kg2.out.cell 0
      have cg21 : w2.cell? ⟨g, 1, none⟩ = some (.string rt) := Kg2.out.cell 1
      have cg22 : w2.cell? ⟨g, 2, none⟩ = some (.int .i64 (re : Int)) := Kg2.out.cell 2
      go_upto_region 3 with fail
      have Kc3 := Lib.hid ((((Kc2.out).far (p := ⟨gf, 0, none⟩) ncf (.int .u64 (rn : Int))).far (p := ⟨gf, 1, none⟩) ncf (.string rt)).far (p := ⟨gf, 2, none⟩) ncf (.int .i64 (re : Int)))
      have Kb3 := Lib.hid ((((Kb2.out).far (p := ⟨gf, 0, none⟩) nbf (.int .u64 (rn : Int))).far (p := ⟨gf, 1, none⟩) nbf (.string rt)).far (p := ⟨gf, 2, none⟩) nbf (.int .i64 (re : Int)))
      have Kg3 := Lib.hid ((((Kg2.out).far (p := ⟨gf, 0, none⟩) (Ne.symm nf) (.int .u64 (rn : Int))).far (p := ⟨gf, 1, none⟩) (Ne.symm nf) (.string rt)).far (p := ⟨gf, 2, none⟩) (Ne.symm nf) (.int .i64 (re : Int)))
      have Kf3 := Lib.hid ((((Kf2.out).set 0 (.int .u64 (rn : Int))).set 1 (.string rt)).set 2 (.int .i64 (re : Int)))
      have T3 := Lib.hid (((T2.out.setCell (p := ⟨gf, 0, none⟩) (fun _ => .inr (.inl rfl)) (.int .u64 (rn : Int))).setCell (p := ⟨gf, 1, none⟩) (fun _ => .inr (.inl rfl)) (.string rt)).setCell (p := ⟨gf, 2, none⟩) (fun _ => .inr (.inl rfl)) (.int .i64 (re : Int)))
      clear Kc2 Kb2 Kg2 Kf2 T2 cc20 cf20 ff20 cf21 ff21 cf22 ff22 cg20 cg21 cg22
      generalize (((w2.setCell ⟨gf, 0, none⟩ (.int .u64 (rn : Int))).setCell ⟨gf, 1, none⟩ (.string rt)).setCell ⟨gf, 2, none⟩ (.int .i64 (re : Int))) = w3 at *
      simp only [List.set_cons_zero, List.set_cons_succ] at Kf3
      have cc30 : w3.cell? ⟨gc, 0, none⟩ = some (.int .i64 (n : Int)) := Kc3.out.cell 0
      have fc30 : w3.frozen? ⟨gc, 0, none⟩ = false := Kc3.out.free 0
      go_upto_region 4 with fail
      have Kc4 := Lib.hid (Kc3.out.set 0 (.int .i64 ((n : Int) + 1)))
      have Kf4 := Lib.hid (Kf3.out.far (p := ⟨gc, 0, none⟩) (Ne.symm ncf) (.int .i64 ((n : Int) + 1)))
      have Kb4 := Lib.hid (Kb3.out.far (p := ⟨gc, 0, none⟩) nbc (.int .i64 ((n : Int) + 1)))
      have Kg4 := Lib.hid (Kg3.out.far (p := ⟨gc, 0, none⟩) (Ne.symm nc) (.int .i64 ((n : Int) + 1)))
      have T4 := Lib.hid (T3.out.setCell (p := ⟨gc, 0, none⟩) (fun _ => .inl rfl) (.int .i64 ((n : Int) + 1)))
      clear Kc3 Kf3 Kb3 Kg3 T3 cc30 fc30
      generalize w3.setCell ⟨gc, 0, none⟩ (.int .i64 ((n : Int) + 1)) = w4 at *
      have cb40 : w4.cell? ⟨gs, 0, none⟩ = some (.bool true) := Kb4.out.cell 0
      have fb40 : w4.frozen? ⟨gs, 0, none⟩ = false := Kb4.out.free 0
      have cf40 : w4.cell? ⟨gf, 0, none⟩ = some (.int .u64 (rn : Int)) := Kf4.out.cell 0
      have cf41 : w4.cell? ⟨gf, 1, none⟩ = some (.string rt) := Kf4.out.cell 1
      have cf42 : w4.cell? ⟨gf, 2, none⟩ = some (.int .i64 (re : Int)) := Kf4.out.cell 2
      have cg40 : w4.cell? ⟨g, 0, none⟩ = some (.int .u64 (rn : Int)) := Kg4.out.cell 0
      have cg41 : w4.cell? ⟨g, 1, none⟩ = some (.string rt) := Kg4.out.cell 1
      have cg42 : w4.cell? ⟨g, 2, none⟩ = some (.int .i64 (re : Int)) := Kg4.out.cell 2
      go_wp2_with fail
      go_end0
      exact ⟨rfl, Kc4.out.far (p := ⟨gs, 0, none⟩) (Ne.symm nbc) _, Kf4.out.far (p := ⟨gs, 0, none⟩) (Ne.symm nbf) _, Kb4.out.set 0 _, T4.out.setCell (p := ⟨gs, 0, none⟩) (fun _ => .inr (.inr rfl)) _⟩
  · rw [if_neg h0, if_neg h0]
    have e0 : ((n : Int) == 0) = false := by simpa using h0
    clear h0 HT
    cases b
    · rw [show (false && (q && ((re : Int) != 5))) = false from rfl]
      go_enter Tryz.func96, Tryz.ntmps96
      go_wp2_with fail
      refine (C.out _).mono ?_
      rintro e w1 ⟨rfl, b1⟩
      have T2 := Lib.hid ((Turn.of_below (S := fun k => k = gc ∨ k = gf ∨ k = gs) b1).alloc (.cells #[.int .u64 (rn : Int), .string rt, .int .i64 (re : Int)] 152))
      have Kc2 := Lib.hid ((Ic.kept (Turn.of_below (S := fun _ => False) b1) (fun h => h)).alloc (.cells #[.int .u64 (rn : Int), .string rt, .int .i64 (re : Int)] 152))
      have Kf2 := Lib.hid ((If.kept (Turn.of_below (S := fun _ => False) b1) (fun h => h)).alloc (.cells #[.int .u64 (rn : Int), .string rt, .int .i64 (re : Int)] 152))
      have Kb2 := Lib.hid ((Ib.kept (Turn.of_below (S := fun _ => False) b1) (fun h => h)).alloc (.cells #[.int .u64 (rn : Int), .string rt, .int .i64 (re : Int)] 152))
      have Kg2 := Lib.hid (Is.made w1 152 [.int .u64 (rn : Int), .string rt, .int .i64 (re : Int)])
      have nc : gc ≠ w1.heap.size := fun e => by have := (Ic.kept (Turn.of_below (S := fun _ => False) b1) (fun h => h)).lt; omega
      have nf : gf ≠ w1.heap.size := fun e => by have := (If.kept (Turn.of_below (S := fun _ => False) b1) (fun h => h)).lt; omega
      have nb : gs ≠ w1.heap.size := fun e => by have := (Ib.kept (Turn.of_below (S := fun _ => False) b1) (fun h => h)).lt; omega
      clear b1 Ic If Ib
      go_upto_region 1 with fail
      generalize w1.alloc (.cells #[.int .u64 (rn : Int), .string rt, .int .i64 (re : Int)] 152) = w2 at *
      generalize w1.heap.size = g at *
      have cc20 : w2.cell? ⟨gc, 0, none⟩ = some (.int .i64 (n : Int)) := Kc2.out.cell 0
      have fc20 : w2.frozen? ⟨gc, 0, none⟩ = false := Kc2.out.free 0
      have cf20 : w2.cell? ⟨gf, 0, none⟩ = some (.int .u64 (pn : Int)) := Kf2.out.cell 0
      have cf21 : w2.cell? ⟨gf, 1, none⟩ = some (.string pt) := Kf2.out.cell 1
      have cf22 : w2.cell? ⟨gf, 2, none⟩ = some (.int .i64 (pe : Int)) := Kf2.out.cell 2
      have cg20 : w2.cell? ⟨g, 0, none⟩ = some (.int .u64 (rn : Int)) := Kg2.out.cell 0
      have cg21 : w2.cell? ⟨g, 1, none⟩ = some (.string rt) := Kg2.out.cell 1
      have cg22 : w2.cell? ⟨g, 2, none⟩ = some (.int .i64 (re : Int)) := Kg2.out.cell 2
      go_upto_region 3 with fail
      have Kc3 := Kc2
      have Kf3 := Kf2
      have Kb3 := Kb2
      have Kg3 := Kg2
      have T3 := T2
      clear Kc2 Kb2 Kg2 Kf2 T2 cf20 cf21 cf22 cg20 cg21 cg22
      go_upto_region 4 with fail
      have Kc4 := Lib.hid (Kc3.out.set 0 (.int .i64 ((n : Int) + 1)))
      have Kf4 := Lib.hid (Kf3.out.far (p := ⟨gc, 0, none⟩) (Ne.symm ncf) (.int .i64 ((n : Int) + 1)))
      have Kb4 := Lib.hid (Kb3.out.far (p := ⟨gc, 0, none⟩) nbc (.int .i64 ((n : Int) + 1)))
      have Kg4 := Lib.hid (Kg3.out.far (p := ⟨gc, 0, none⟩) (Ne.symm nc) (.int .i64 ((n : Int) + 1)))
      have T4 := Lib.hid (T3.out.setCell (p := ⟨gc, 0, none⟩) (fun _ => .inl rfl) (.int .i64 ((n : Int) + 1)))
      clear Kc3 Kf3 Kb3 Kg3 T3 cc20 fc20
      generalize w2.setCell ⟨gc, 0, none⟩ (.int .i64 ((n : Int) + 1)) = w4 at *
      have cb40 : w4.cell? ⟨gs, 0, none⟩ = some (.bool false) := Kb4.out.cell 0
      have fb40 : w4.frozen? ⟨gs, 0, none⟩ = false := Kb4.out.free 0
      go_wp2_with fail
      go_end0
      exact ⟨rfl, Kc4.out.far (p := ⟨gs, 0, none⟩) (Ne.symm nbc) _, Kf4.out.far (p := ⟨gs, 0, none⟩) (Ne.symm nbf) _, Kb4.out.set 0 _, T4.out.setCell (p := ⟨gs, 0, none⟩) (fun _ => .inr (.inr rfl)) _⟩
    cases q
    · rw [show (true && (false && ((re : Int) != 5))) = false from rfl]
      go_enter Tryz.func96, Tryz.ntmps96
      go_wp2_with fail
      refine (C.out _).mono ?_
      rintro e w1 ⟨rfl, b1⟩
      have T2 := Lib.hid ((Turn.of_below (S := fun k => k = gc ∨ k = gf ∨ k = gs) b1).alloc (.cells #[.int .u64 (rn : Int), .string rt, .int .i64 (re : Int)] 152))
      have Kc2 := Lib.hid ((Ic.kept (Turn.of_below (S := fun _ => False) b1) (fun h => h)).alloc (.cells #[.int .u64 (rn : Int), .string rt, .int .i64 (re : Int)] 152))
      have Kf2 := Lib.hid ((If.kept (Turn.of_below (S := fun _ => False) b1) (fun h => h)).alloc (.cells #[.int .u64 (rn : Int), .string rt, .int .i64 (re : Int)] 152))
      have Kb2 := Lib.hid ((Ib.kept (Turn.of_below (S := fun _ => False) b1) (fun h => h)).alloc (.cells #[.int .u64 (rn : Int), .string rt, .int .i64 (re : Int)] 152))
      have Kg2 := Lib.hid (Is.made w1 152 [.int .u64 (rn : Int), .string rt, .int .i64 (re : Int)])
      have nc : gc ≠ w1.heap.size := fun e => by have := (Ic.kept (Turn.of_below (S := fun _ => False) b1) (fun h => h)).lt; omega
      have nf : gf ≠ w1.heap.size := fun e => by have := (If.kept (Turn.of_below (S := fun _ => False) b1) (fun h => h)).lt; omega
      have nb : gs ≠ w1.heap.size := fun e => by have := (Ib.kept (Turn.of_below (S := fun _ => False) b1) (fun h => h)).lt; omega
      clear b1 Ic If Ib
      go_upto_region 1 with fail
      generalize w1.alloc (.cells #[.int .u64 (rn : Int), .string rt, .int .i64 (re : Int)] 152) = w2 at *
      generalize w1.heap.size = g at *
      have cc20 : w2.cell? ⟨gc, 0, none⟩ = some (.int .i64 (n : Int)) := Kc2.out.cell 0
      have fc20 : w2.frozen? ⟨gc, 0, none⟩ = false := Kc2.out.free 0
      have cf20 : w2.cell? ⟨gf, 0, none⟩ = some (.int .u64 (pn : Int)) := Kf2.out.cell 0
      have cf21 : w2.cell? ⟨gf, 1, none⟩ = some (.string pt) := Kf2.out.cell 1
      have cf22 : w2.cell? ⟨gf, 2, none⟩ = some (.int .i64 (pe : Int)) := Kf2.out.cell 2
      have cg20 : w2.cell? ⟨g, 0, none⟩ = some (.int .u64 (rn : Int)) := Kg2.out.cell 0
      have cg21 : w2.cell? ⟨g, 1, none⟩ = some (.string rt) := Kg2.out.cell 1
      have cg22 : w2.cell? ⟨g, 2, none⟩ = some (.int .i64 (re : Int)) := Kg2.out.cell 2
      go_upto_region 3 with fail
      have Kc3 := Kc2
      have Kf3 := Kf2
      have Kb3 := Kb2
      have Kg3 := Kg2
      have T3 := T2
      clear Kc2 Kb2 Kg2 Kf2 T2 cf20 cf21 cf22 cg20 cg21 cg22
      go_upto_region 4 with fail
      have Kc4 := Lib.hid (Kc3.out.set 0 (.int .i64 ((n : Int) + 1)))
      have Kf4 := Lib.hid (Kf3.out.far (p := ⟨gc, 0, none⟩) (Ne.symm ncf) (.int .i64 ((n : Int) + 1)))
      have Kb4 := Lib.hid (Kb3.out.far (p := ⟨gc, 0, none⟩) nbc (.int .i64 ((n : Int) + 1)))
      have Kg4 := Lib.hid (Kg3.out.far (p := ⟨gc, 0, none⟩) (Ne.symm nc) (.int .i64 ((n : Int) + 1)))
      have T4 := Lib.hid (T3.out.setCell (p := ⟨gc, 0, none⟩) (fun _ => .inl rfl) (.int .i64 ((n : Int) + 1)))
      clear Kc3 Kf3 Kb3 Kg3 T3 cc20 fc20
      generalize w2.setCell ⟨gc, 0, none⟩ (.int .i64 ((n : Int) + 1)) = w4 at *
      have cb40 : w4.cell? ⟨gs, 0, none⟩ = some (.bool true) := Kb4.out.cell 0
      have fb40 : w4.frozen? ⟨gs, 0, none⟩ = false := Kb4.out.free 0
      have cf40 : w4.cell? ⟨gf, 0, none⟩ = some (.int .u64 (pn : Int)) := Kf4.out.cell 0
      have cf41 : w4.cell? ⟨gf, 1, none⟩ = some (.string pt) := Kf4.out.cell 1
      have cf42 : w4.cell? ⟨gf, 2, none⟩ = some (.int .i64 (pe : Int)) := Kf4.out.cell 2
      have cg40 : w4.cell? ⟨g, 0, none⟩ = some (.int .u64 (rn : Int)) := Kg4.out.cell 0
      have cg41 : w4.cell? ⟨g, 1, none⟩ = some (.string rt) := Kg4.out.cell 1
      have cg42 : w4.cell? ⟨g, 2, none⟩ = some (.int .i64 (re : Int)) := Kg4.out.cell 2
      go_wp2_with fail
      go_end0
      exact ⟨rfl, Kc4.out.far (p := ⟨gs, 0, none⟩) (Ne.symm nbc) _, Kf4.out.far (p := ⟨gs, 0, none⟩) (Ne.symm nbf) _, Kb4.out.set 0 _, T4.out.setCell (p := ⟨gs, 0, none⟩) (fun _ => .inr (.inr rfl)) _⟩
    · rw [show (true && (true && ((re : Int) != 5))) = ((re : Int) != 5) from rfl]
      go_enter Tryz.func96, Tryz.ntmps96
      go_wp2_with fail
      refine (C.out _).mono ?_
      rintro e w1 ⟨rfl, b1⟩
      have T2 := Lib.hid ((Turn.of_below (S := fun k => k = gc ∨ k = gf ∨ k = gs) b1).alloc (.cells #[.int .u64 (rn : Int), .string rt, .int .i64 (re : Int)] 152))
      have Kc2 := Lib.hid ((Ic.kept (Turn.of_below (S := fun _ => False) b1) (fun h => h)).alloc (.cells #[.int .u64 (rn : Int), .string rt, .int .i64 (re : Int)] 152))
      have Kf2 := Lib.hid ((If.kept (Turn.of_below (S := fun _ => False) b1) (fun h => h)).alloc (.cells #[.int .u64 (rn : Int), .string rt, .int .i64 (re : Int)] 152))
      have Kb2 := Lib.hid ((Ib.kept (Turn.of_below (S := fun _ => False) b1) (fun h => h)).alloc (.cells #[.int .u64 (rn : Int), .string rt, .int .i64 (re : Int)] 152))
      have Kg2 := Lib.hid (Is.made w1 152 [.int .u64 (rn : Int), .string rt, .int .i64 (re : Int)])
      have nc : gc ≠ w1.heap.size := fun e => by have := (Ic.kept (Turn.of_below (S := fun _ => False) b1) (fun h => h)).lt; omega
      have nf : gf ≠ w1.heap.size := fun e => by have := (If.kept (Turn.of_below (S := fun _ => False) b1) (fun h => h)).lt; omega
      have nb : gs ≠ w1.heap.size := fun e => by have := (Ib.kept (Turn.of_below (S := fun _ => False) b1) (fun h => h)).lt; omega
      clear b1 Ic If Ib
      go_upto_region 1 with fail
      generalize w1.alloc (.cells #[.int .u64 (rn : Int), .string rt, .int .i64 (re : Int)] 152) = w2 at *
      generalize w1.heap.size = g at *
      have cc20 : w2.cell? ⟨gc, 0, none⟩ = some (.int .i64 (n : Int)) := Kc2.out.cell 0
      have fc20 : w2.frozen? ⟨gc, 0, none⟩ = false := Kc2.out.free 0
      have cf20 : w2.cell? ⟨gf, 0, none⟩ = some (.int .u64 (pn : Int)) := Kf2.out.cell 0
      have cf21 : w2.cell? ⟨gf, 1, none⟩ = some (.string pt) := Kf2.out.cell 1
      have cf22 : w2.cell? ⟨gf, 2, none⟩ = some (.int .i64 (pe : Int)) := Kf2.out.cell 2
      have cg20 : w2.cell? ⟨g, 0, none⟩ = some (.int .u64 (rn : Int)) := Kg2.out.cell 0
      have cg21 : w2.cell? ⟨g, 1, none⟩ = some (.string rt) := Kg2.out.cell 1
      have cg22 : w2.cell? ⟨g, 2, none⟩ = some (.int .i64 (re : Int)) := Kg2.out.cell 2
      go_upto_region 3 with fail
      have Kc3 := Kc2
      have Kf3 := Kf2
      have Kb3 := Kb2
      have Kg3 := Kg2
      have T3 := T2
      clear Kc2 Kb2 Kg2 Kf2 T2 cf20 cf21 cf22 cg20 cg21 cg22
      go_upto_region 4 with fail
      have Kc4 := Lib.hid (Kc3.out.set 0 (.int .i64 ((n : Int) + 1)))
      have Kf4 := Lib.hid (Kf3.out.far (p := ⟨gc, 0, none⟩) (Ne.symm ncf) (.int .i64 ((n : Int) + 1)))
      have Kb4 := Lib.hid (Kb3.out.far (p := ⟨gc, 0, none⟩) nbc (.int .i64 ((n : Int) + 1)))
      have Kg4 := Lib.hid (Kg3.out.far (p := ⟨gc, 0, none⟩) (Ne.symm nc) (.int .i64 ((n : Int) + 1)))
      have T4 := Lib.hid (T3.out.setCell (p := ⟨gc, 0, none⟩) (fun _ => .inl rfl) (.int .i64 ((n : Int) + 1)))
      clear Kc3 Kf3 Kb3 Kg3 T3 cc20 fc20
      generalize w2.setCell ⟨gc, 0, none⟩ (.int .i64 ((n : Int) + 1)) = w4 at *
      have cb40 : w4.cell? ⟨gs, 0, none⟩ = some (.bool true) := Kb4.out.cell 0
      have fb40 : w4.frozen? ⟨gs, 0, none⟩ = false := Kb4.out.free 0
      have cf40 : w4.cell? ⟨gf, 0, none⟩ = some (.int .u64 (pn : Int)) := Kf4.out.cell 0
      have cf41 : w4.cell? ⟨gf, 1, none⟩ = some (.string pt) := Kf4.out.cell 1
      have cf42 : w4.cell? ⟨gf, 2, none⟩ = some (.int .i64 (pe : Int)) := Kf4.out.cell 2
      have cg40 : w4.cell? ⟨g, 0, none⟩ = some (.int .u64 (rn : Int)) := Kg4.out.cell 0
      have cg41 : w4.cell? ⟨g, 1, none⟩ = some (.string rt) := Kg4.out.cell 1
      have cg42 : w4.cell? ⟨g, 2, none⟩ = some (.int .i64 (re : Int)) := Kg4.out.cell 2
      go_wp2_with fail
      go_end0
      exact ⟨rfl, Kc4.out.far (p := ⟨gs, 0, none⟩) (Ne.symm nbc) _, Kf4.out.far (p := ⟨gs, 0, none⟩) (Ne.symm nbf) _, Kb4.out.set 0 _, T4.out.setCell (p := ⟨gs, 0, none⟩) (fun _ => .inr (.inr rfl)) _⟩
/-- What stands in first, behind one more length. -/
def nextF (n : Nat) (p r : Sd) : Sd := if n = 0 then r else p
theorem sd_same (p r : Sd) : (r == p) = ((r.1 : Int) == (p.1 : Int) && ((⟨r.2.1.toArray⟩ : ByteArray).toList == (⟨p.2.1.toArray⟩ : ByteArray).toList && (r.2.2 : Int) == (p.2.2 : Int))) := sd_beq r.1 p.1 r.2.2 p.2.2 r.2.1 p.2.1
/-- One more length. -/
theorem len1_any (x : ByteArray) (gc gf gs n : Nat) (p : Sd) (b : Bool) (X : World) (Ic : Is X gc 3 [.int .i64 (n : Int)]) (If : Is X gf 152 (saidL p)) (Ib : Is X gs 4 [.bool b]) (hn : n ≤ 1000000000000) :
    Calls Tryz.prog 96 #[.string x, .pointer (some ⟨gc, 0, none⟩), .pointer (some ⟨gf, 0, none⟩), .pointer (some ⟨gs, 0, none⟩)] X fun e w' =>
      e = .returned (.tuple #[]) ∧ Is w' gc 3 [.int .i64 ((n + 1 : Nat) : Int)] ∧ Is w' gf 152 (saidL (nextF n p (rdF (bl x)))) ∧ Is w' gs 4 [.bool (b && okL (nextF n p (rdF (bl x))) (bl x))] ∧ Turn (fun k => k = gc ∨ k = gf ∨ k = gs) X w' := by
  have C := fun W : World => read_any x W
  have HO : ∀ p', okL p' (bl x) = (rdF (bl x) == p' && (((rdF (bl x)).2.2 : Int) != 5)) := fun p' => by
    unfold okL
    rw [show (((rdF (bl x)).2.2 : Int) != 5) = ((rdF (bl x)).2.2 != 5) from by rw [Bool.eq_iff_iff]; simp only [bne_iff_ne]; omega]
  generalize rdF (bl x) = r at *
  refine (len1_in x gc gf gs n r.1 r.2.2 p.1 p.2.2 ⟨r.2.1.toArray⟩ ⟨p.2.1.toArray⟩ b (r == p) X Ic If Ib hn C (fun W => by rw [run_eql_said, sd_same]) (fun W => by rw [run_eql_said]; simp)).mono ?_
  rintro e w' ⟨rfl, h1, h2, h3, h4⟩
  refine ⟨rfl, by simpa using h1, ?_, ?_, h4⟩
  · unfold nextF saidL
    split <;> rename_i h0
    · rw [if_pos h0] at h2; exact h2
    · rw [if_neg h0] at h2; exact h2
  · rw [HO]
    unfold nextF
    split <;> rename_i h0
    · rw [if_pos h0] at h3; simpa using h3
    · rw [if_neg h0] at h3; exact h3
end Go.Proofs.YtemgfppclakdmaaGreatDoor

namespace Go.Proofs.YtemgfppclakdmaaGreatDoor
open Go.RowKit

theorem SrcS.kept {w w' : World} {P S : Nat → Prop} {A : Option Addr} {ls : List (List UInt8)} (h : SrcS w P A ls) (ht : Turn S w w') (hS : ∀ k, P k → ¬ S k) : SrcS w' P A ls := by
  intro h0
  obtain ⟨ad, hA, hP, hlt, hc⟩ := h h0
  refine ⟨ad, hA, hP, Nat.lt_of_lt_of_le hlt ht.size, fun i v hv => (ht.cell (p := ad.add i) ?_ ?_).trans (hc i v hv)⟩
  · unfold Addr.add; split <;> exact hlt
  · unfold Addr.add; split <;> exact hS _ hP
theorem elsF_take (vs : List (List UInt8)) (k : Nat) (x : List UInt8) (h : vs[k]? = some x) : elsF (vs.take (k + 1)) = elsF (vs.take k) ++ listF x := by rw [take_snoc vs k x h, elsF_snoc]
theorem elsF_length_take (vs : List (List UInt8)) (k : Nat) : (elsF (vs.take k)).length ≤ (elsF vs).length := by
  have : elsF vs = elsF (vs.take k) ++ elsF (vs.drop k) := by unfold elsF; rw [← List.flatMap_append, List.take_append_drop]
  rw [this, List.length_append]
  omega

set_option maxHeartbeats 4000000 in
set_option maxRecDepth 100000 in
theorem each_cod (a1 a2 : Value) (S : Nat → Prop) (Inv : List (List UInt8) → World → Prop) (w : World) (A : Option Addr) (vs : List (List UInt8)) (n c : Nat) (hn : vs.length = n) (hv : SrcS w (fun b => ¬ S b) A vs) (hS : ∀ k, S k → k < w.heap.size) (hslim : SlimS vs) (hmax : n ≤ 1000000000000) (hlen : (elsF vs).length ≤ 1000000000000)
    (h0 : Inv [] w) (hB : ∀ xs X X', Inv xs X → Below X.heap.size X X' → Inv xs X')
    (hC : ∀ (xs : List (List UInt8)) (x : List UInt8) (X : World), Inv xs X → xs.length ≤ 1000000000000 → Calls Tryz.prog 95 #[.string ⟨x.toArray⟩, a1, a2] X fun e w' => e = .returned (.tuple #[]) ∧ Inv (xs ++ [x]) w' ∧ Turn S X w') :
    Calls Tryz.prog 94 #[.slice A n c, .func (.func 95) #[] #[a1, a2]] w fun e w' => e = .returned (.tuple #[]) ∧ Inv (elsF vs) w' ∧ Turn S w w' := by
  have HN := Lib.hid hn
  have HV := Lib.hid hv
  have HS := Lib.hid hS
  have HL := Lib.hid hslim
  have HM := Lib.hid hlen
  have H0 := Lib.hid h0
  have HB := Lib.hid hB
  have HC := Lib.hid hC
  clear hn hv hS hslim hlen h0 hB hC
  go_enter Tryz.func94, Tryz.ntmps94
  go_wp2_with fail
  go_loopw [10] (fun vi wr => ∃ (k : Nat), vi = .int .i64 (k : Int) ∧ k ≤ n ∧ Hid (Inv (elsF (vs.take k)) wr) ∧ Hid (Turn S w wr)) (fun vi _ => n - (intOf vi).toNat)
  case atStart => exact ⟨0, rfl, Nat.zero_le _, H0, Lib.hid (Turn.refl _ _)⟩
  case round =>
    obtain ⟨k, rfl, hk, HI, HT⟩ := hrel
    by_cases hlt : k < n
    · obtain ⟨p, x, hx, hat, hc, _, _⟩ := (HV.out.kept HT.out (fun _ h => h)).at (c := c) HN.out hlt (Below.refl _ _)
      have hmem := List.mem_of_getElem? hx
      have hle : (listF x).length ≤ (elsF vs).length := by
        have h1 := elsF_length_take vs (k + 1)
        rw [elsF_take vs k x hx, List.length_append] at h1
        omega
      have CL := Lib.hid (ty_list ⟨x.toArray⟩ wr (by rw [← bl_length, bl_mk]; exact HL.out x hmem) (by rw [bl_mk]; have := HM.out; omega))
      rw [bl_mk] at CL
      have HX := Lib.hid (elsF_take vs k x hx)
      have HLE := Lib.hid (show ∀ j, (elsF (vs.take k) ++ (listF x).take j).length ≤ 1000000000000 by
        intro j
        have h1 := elsF_length_take vs (k + 1)
        have h2 := HM.out
        rw [elsF_take vs k x hx, List.length_append] at h1
        rw [List.length_append, List.length_take]
        omega)
      have hll : (listF x).length ≤ 1000000000000 := by have := HM.out; omega
      clear hx hmem hle
      obtain ⟨xl, hxl⟩ : ∃ xl : ByteArray, xl = ⟨x.toArray⟩ := ⟨_, rfl⟩
      rw [← hxl] at hc CL
      clear hxl
      go_wp2_with fail
      refine CL.out.mono ?_
      rintro e w2 ⟨v1, o1, rfl, own1, ho1, b1⟩
      obtain ⟨A1, c1, hv1, src1⟩ := own1.src (fun b => ¬ S b) (fun b hb hs => by
        have h1 := ho1 b hb
        have h2 := HS.out b hs
        have h3 := HT.out.size
        omega)
      subst hv1
      have SR := Lib.hid src1
      have HI2 := Lib.hid (HB.out _ _ _ HI.out b1)
      have HT2 := Lib.hid (HT.out.trans (Turn.of_below (S := fun _ => False) b1) (fun _ _ h => h.elim))
      clear own1 ho1 src1 b1 hat hc
      go_wp2_with fail
      go_loopw [17] (fun vj wx => ∃ (j : Nat), vj = .int .i64 (j : Int) ∧ j ≤ (listF x).length ∧ Hid (Inv (elsF (vs.take k) ++ (listF x).take j) wx) ∧ Hid (Turn S w2 wx)) (fun vj _ => (listF x).length - (intOf vj).toNat)
      case atStart => exact ⟨0, rfl, Nat.zero_le _, Lib.hid (by rw [List.take_zero, List.append_nil]; exact HI2.out), Lib.hid (Turn.refl _ _)⟩
      case round =>
        obtain ⟨j, rfl, hj, HJ, HU⟩ := hrel
        by_cases hlt2 : j < (listF x).length
        · obtain ⟨p2, y, hy, hat2, hc2, _, _⟩ := (SR.out.kept HU.out (fun _ h => h)).at (c := c1) rfl hlt2 (Below.refl _ _)
          have CC := Lib.hid (HC.out _ y wr HJ.out (HLE.out j))
          have HY := Lib.hid (show elsF (vs.take k) ++ (listF x).take j ++ [y] = elsF (vs.take k) ++ (listF x).take (j + 1) by rw [take_snoc _ j y hy, List.append_assoc])
          clear hy
          obtain ⟨yl, hyl⟩ : ∃ yl : ByteArray, yl = ⟨y.toArray⟩ := ⟨_, rfl⟩
          rw [← hyl] at hc2 CC
          clear hyl
          go_wp2_with fail
          refine CC.out.mono ?_
          rintro e w3 ⟨rfl, i3, t3⟩
          rw [HY.out] at i3
          have HI3 := Lib.hid i3
          have HT3 := Lib.hid (HU.out.trans t3 (fun _ _ h => h))
          clear i3 t3
          go_wp2_with fail
          go_roundw
          case rel => exact ⟨j + 1, by go_num, hlt2, HI3, HT3⟩
          case measure => simp [intOf]; omega
        · have HE := Lib.hid (show Inv (elsF (vs.take (k + 1))) wr by
            have := HJ.out
            rw [List.take_of_length_le (l := listF x) (by omega)] at this
            rw [HX.out]
            exact this)
          go_wp2_with fail
          go_roundw
          case rel => exact ⟨k + 1, by go_num, hlt, HE, Lib.hid (HT2.out.trans HU.out (fun _ _ h => h))⟩
          case measure => simp [intOf]; omega
    · have HE := Lib.hid (show Inv (elsF vs) wr by
        have := HI.out
        rwa [List.take_of_length_le (by rw [HN.out]; omega)] at this)
      go_wp2_with fail
      go_end0
      exact ⟨rfl, HE.out, HT.out⟩

set_option maxHeartbeats 4000000 in
set_option maxRecDepth 100000 in
theorem each_len (a1 a2 a3 : Value) (S : Nat → Prop) (Inv : List (List UInt8) → World → Prop) (w : World) (A : Option Addr) (vs : List (List UInt8)) (n c : Nat) (hn : vs.length = n) (hv : SrcS w (fun b => ¬ S b) A vs) (hS : ∀ k, S k → k < w.heap.size) (hslim : SlimS vs) (hmax : n ≤ 1000000000000) (hlen : (elsF vs).length ≤ 1000000000000)
    (h0 : Inv [] w) (hB : ∀ xs X X', Inv xs X → Below X.heap.size X X' → Inv xs X')
    (hC : ∀ (xs : List (List UInt8)) (x : List UInt8) (X : World), Inv xs X → xs.length ≤ 1000000000000 → Calls Tryz.prog 96 #[.string ⟨x.toArray⟩, a1, a2, a3] X fun e w' => e = .returned (.tuple #[]) ∧ Inv (xs ++ [x]) w' ∧ Turn S X w') :
    Calls Tryz.prog 94 #[.slice A n c, .func (.func 96) #[] #[a1, a2, a3]] w fun e w' => e = .returned (.tuple #[]) ∧ Inv (elsF vs) w' ∧ Turn S w w' := by
  have HN := Lib.hid hn
  have HV := Lib.hid hv
  have HS := Lib.hid hS
  have HL := Lib.hid hslim
  have HM := Lib.hid hlen
  have H0 := Lib.hid h0
  have HB := Lib.hid hB
  have HC := Lib.hid hC
  clear hn hv hS hslim hlen h0 hB hC
  go_enter Tryz.func94, Tryz.ntmps94
  go_wp2_with fail
  go_loopw [10] (fun vi wr => ∃ (k : Nat), vi = .int .i64 (k : Int) ∧ k ≤ n ∧ Hid (Inv (elsF (vs.take k)) wr) ∧ Hid (Turn S w wr)) (fun vi _ => n - (intOf vi).toNat)
  case atStart => exact ⟨0, rfl, Nat.zero_le _, H0, Lib.hid (Turn.refl _ _)⟩
  case round =>
    obtain ⟨k, rfl, hk, HI, HT⟩ := hrel
    by_cases hlt : k < n
    · obtain ⟨p, x, hx, hat, hc, _, _⟩ := (HV.out.kept HT.out (fun _ h => h)).at (c := c) HN.out hlt (Below.refl _ _)
      have hmem := List.mem_of_getElem? hx
      have hle : (listF x).length ≤ (elsF vs).length := by
        have h1 := elsF_length_take vs (k + 1)
        rw [elsF_take vs k x hx, List.length_append] at h1
        omega
      have CL := Lib.hid (ty_list ⟨x.toArray⟩ wr (by rw [← bl_length, bl_mk]; exact HL.out x hmem) (by rw [bl_mk]; have := HM.out; omega))
      rw [bl_mk] at CL
      have HX := Lib.hid (elsF_take vs k x hx)
      have HLE := Lib.hid (show ∀ j, (elsF (vs.take k) ++ (listF x).take j).length ≤ 1000000000000 by
        intro j
        have h1 := elsF_length_take vs (k + 1)
        have h2 := HM.out
        rw [elsF_take vs k x hx, List.length_append] at h1
        rw [List.length_append, List.length_take]
        omega)
      have hll : (listF x).length ≤ 1000000000000 := by have := HM.out; omega
      clear hx hmem hle
      obtain ⟨xl, hxl⟩ : ∃ xl : ByteArray, xl = ⟨x.toArray⟩ := ⟨_, rfl⟩
      rw [← hxl] at hc CL
      clear hxl
      go_wp2_with fail
      refine CL.out.mono ?_
      rintro e w2 ⟨v1, o1, rfl, own1, ho1, b1⟩
      obtain ⟨A1, c1, hv1, src1⟩ := own1.src (fun b => ¬ S b) (fun b hb hs => by
        have h1 := ho1 b hb
        have h2 := HS.out b hs
        have h3 := HT.out.size
        omega)
      subst hv1
      have SR := Lib.hid src1
      have HI2 := Lib.hid (HB.out _ _ _ HI.out b1)
      have HT2 := Lib.hid (HT.out.trans (Turn.of_below (S := fun _ => False) b1) (fun _ _ h => h.elim))
      clear own1 ho1 src1 b1 hat hc
      go_wp2_with fail
      go_loopw [17] (fun vj wx => ∃ (j : Nat), vj = .int .i64 (j : Int) ∧ j ≤ (listF x).length ∧ Hid (Inv (elsF (vs.take k) ++ (listF x).take j) wx) ∧ Hid (Turn S w2 wx)) (fun vj _ => (listF x).length - (intOf vj).toNat)
      case atStart => exact ⟨0, rfl, Nat.zero_le _, Lib.hid (by rw [List.take_zero, List.append_nil]; exact HI2.out), Lib.hid (Turn.refl _ _)⟩
      case round =>
        obtain ⟨j, rfl, hj, HJ, HU⟩ := hrel
        by_cases hlt2 : j < (listF x).length
        · obtain ⟨p2, y, hy, hat2, hc2, _, _⟩ := (SR.out.kept HU.out (fun _ h => h)).at (c := c1) rfl hlt2 (Below.refl _ _)
          have CC := Lib.hid (HC.out _ y wr HJ.out (HLE.out j))
          have HY := Lib.hid (show elsF (vs.take k) ++ (listF x).take j ++ [y] = elsF (vs.take k) ++ (listF x).take (j + 1) by rw [take_snoc _ j y hy, List.append_assoc])
          clear hy
          obtain ⟨yl, hyl⟩ : ∃ yl : ByteArray, yl = ⟨y.toArray⟩ := ⟨_, rfl⟩
          rw [← hyl] at hc2 CC
          clear hyl
          go_wp2_with fail
          refine CC.out.mono ?_
          rintro e w3 ⟨rfl, i3, t3⟩
          rw [HY.out] at i3
          have HI3 := Lib.hid i3
          have HT3 := Lib.hid (HU.out.trans t3 (fun _ _ h => h))
          clear i3 t3
          go_wp2_with fail
          go_roundw
          case rel => exact ⟨j + 1, by go_num, hlt2, HI3, HT3⟩
          case measure => simp [intOf]; omega
        · have HE := Lib.hid (show Inv (elsF (vs.take (k + 1))) wr by
            have := HJ.out
            rw [List.take_of_length_le (l := listF x) (by omega)] at this
            rw [HX.out]
            exact this)
          go_wp2_with fail
          go_roundw
          case rel => exact ⟨k + 1, by go_num, hlt, HE, Lib.hid (HT2.out.trans HU.out (fun _ _ h => h))⟩
          case measure => simp [intOf]; omega
    · have HE := Lib.hid (show Inv (elsF vs) wr by
        have := HI.out
        rwa [List.take_of_length_le (by rw [HN.out]; omega)] at this)
      go_wp2_with fail
      go_end0
      exact ⟨rfl, HE.out, HT.out⟩
end Go.Proofs.YtemgfppclakdmaaGreatDoor
