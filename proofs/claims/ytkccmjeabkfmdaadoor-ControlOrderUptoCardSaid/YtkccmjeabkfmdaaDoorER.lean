/-
  The law ControlOrder: walk.
  Conditions: the list holds at most 50000000 bytes.
-/
import Derived.Test.YtkccmjeabkfmdaaDoorEA
import Derived.Test.YtkccmjeabkfmdaaDoorPC
import Derived.Test.YtkccmjeabkfmdaaDoorEN
import Derived.Deep.RegionHeld3
namespace Go.Proofs.YtkccmjeabkfmdaaDoor.Con
open Go.RowKit Hop

/-! Order. -/
theorem pickO_comm (mx : Bool) (k : List UInt8) (a b c : Nat) : pickO mx k b (pickO mx k a c) = pickO mx k a (pickO mx k b c) := by
  unfold pickO
  split <;> omega
theorem pickO_two (mx : Bool) (k : List UInt8) (a b : Nat) : pickO mx k b a = pickO mx k a b := by
  unfold pickO
  split <;> omega
theorem step_comm (mx : Bool) (k : List UInt8) (p q : Dir) (z : Option Nat) : sayStep mx k (sayStep mx k z p) q = sayStep mx k (sayStep mx k z q) p := by
  unfold sayStep
  by_cases hp : (p.1 == k) = true
  · by_cases hq : (q.1 == k) = true
    · rw [if_pos hp, if_pos hq, if_pos hp, if_pos hq]
      cases z with
      | none => simp only [joinO]; rw [pickO_two]
      | some o => simp only [joinO]; rw [pickO_comm]
    · rw [if_pos hp, if_neg hq, if_pos hp, if_neg hq]
  · by_cases hq : (q.1 == k) = true
    · simp [hp, hq]
    · simp [hp, hq]
theorem say_perm (mx : Bool) (k : List UInt8) {a b : List Dir} (h : a.Perm b) : sayF mx a k = sayF mx b k := h.foldl_eq' (fun x _ y _ z => step_comm mx k x y z) none
theorem any_perm {α : Type} (p : α → Bool) {a b : List α} (h : a.Perm b) : a.any p = b.any p := by
  rw [Bool.eq_iff_iff, List.any_eq_true, List.any_eq_true]
  constructor
  · rintro ⟨x, h1, h2⟩; exact ⟨x, h.mem_iff.1 h1, h2⟩
  · rintro ⟨x, h1, h2⟩; exact ⟨x, h.mem_iff.2 h1, h2⟩
theorem req_perm {a b : List Dir} (h : a.Perm b) (old : Bool) : reqD a old = reqD b old := by
  unfold reqD nF saidB
  simp only [say_perm _ _ h, any_perm _ h]
theorem res_perm {a b : List Dir} (h : a.Perm b) : resD a = resD b := by
  unfold resD nF saidB
  simp only [say_perm _ _ h, any_perm _ h]
theorem dirs_perm {a b : List (List UInt8)} (h : a.Perm b) : (dirsF a).Perm (dirsF b) := h.filterMap pairF
theorem elem_flat (ls : List Fld) (nm : List UInt8) : elemF ls nm = ls.flatMap fun f => elemF [f] nm := by
  induction ls with
  | nil => simp [getF, elemF]
  | cons f r ih =>
    rw [show (f :: r : List Fld) = [f] ++ r from rfl, elem_app, ih, List.flatMap_append]
    simp
theorem elem_perm {a b : List Fld} (nm : List UInt8) (h : a.Perm b) : (elemF a nm).Perm (elemF b nm) := by
  rw [elem_flat a, elem_flat b]
  exact h.flatMap_right _
theorem cont_perm {a b : List Fld} (h : a.Perm b) : contB a = contB b := any_perm _ h
theorem prag_perm {a b : List (List UInt8)} (h : a.Perm b) : pragB a = pragB b := any_perm _ h
/-- Lists whose elements are the same but for their order say the same. -/
theorem req_same {a b : List Fld} (h1 : (elemF a ccN).Perm (elemF b ccN)) (h2 : contB a = contB b) (h3 : (elemF a prN).Perm (elemF b prN)) : requestF a = requestF b := by
  unfold requestF oldB
  rw [h2, prag_perm h3, req_perm (dirs_perm h1)]
theorem res_same {a b : List Fld} (h1 : (elemF a ccN).Perm (elemF b ccN)) : responseF a = responseF b := by
  unfold responseF
  rw [res_perm (dirs_perm h1)]
theorem req_back (ls : List Fld) : requestF ls.reverse = requestF ls := req_same (elem_perm _ (List.reverse_perm ls)) (cont_perm (List.reverse_perm ls)) (elem_perm _ (List.reverse_perm ls))
theorem res_back (ls : List Fld) : responseF ls.reverse = responseF ls := res_same (elem_perm _ (List.reverse_perm ls))

/-! Elements, each in a field of its own. -/
def bigC : List UInt8 := [67, 65, 67, 72, 69, 45, 99, 111, 110, 116, 114, 111, 108]
def mixC : List UInt8 := [99, 97, 99, 104, 101, 45, 67, 79, 78, 84, 82, 79, 76]
def midC : List UInt8 := [67, 97, 99, 104, 101, 45, 67, 111, 110, 116, 114, 111, 108]
def ccB (f : Fld) : Bool := lowF f.1 == ccN
def apartF (f : Fld) : List Fld := if ccB f = true then (bigC, [44]) :: ((listF f.2).reverse.map fun x => (mixC, x)) else [f]
def apartAll (ls : List Fld) : List Fld := ls.flatMap apartF
theorem low_cc : lowF ccN = ccN := by decide
theorem low_pr : lowF prN = prN := by decide
theorem list_alone (b x : List UInt8) (h : x ∈ listF b) : listF x = [x] := by
  obtain ⟨ws, ts, e, _, hw, ht⟩ := list_chain b
  have hT : T x := by
    rw [e] at h
    rcases List.mem_append.1 h with h | h
    · exact (hw x h).tail
    · exact ht x h
  obtain ⟨h1, h2⟩ : x ≠ [] ∧ trimF x = x := by
    rw [listF_eq] at h
    exact elems_bare _ x h
  rw [listF_eq, hT.parts, List.nil_append, elemsOf_cons, h2, if_neg h1]
  rfl
theorem flat_alone (b : List UInt8) : ∀ l : List (List UInt8), (∀ x ∈ l, x ∈ listF b) → l.flatMap listF = l
  | [], _ => rfl
  | x :: r, h => by
    rw [List.flatMap_cons, list_alone b x (h x (List.mem_cons_self ..)), flat_alone b r (fun y hy => h y (List.mem_cons_of_mem _ hy))]
    rfl
theorem elem_mix (l : List (List UInt8)) : elemF (l.map fun x => ((mixC, x) : Fld)) ccN = l.flatMap listF := by
  induction l with
  | nil => rfl
  | cons x r ih =>
    rw [List.map_cons, show ((mixC, x) :: (r.map fun x => ((mixC, x) : Fld))) = [((mixC, x) : Fld)] ++ (r.map fun x => ((mixC, x) : Fld)) from rfl, elem_app, ih, elem_one, if_pos (show (lowF mixC == lowF ccN) = true by decide)]
    rfl
theorem elem_mix_pr (l : List (List UInt8)) : elemF (l.map fun x => ((mixC, x) : Fld)) prN = [] := by
  induction l with
  | nil => rfl
  | cons x r ih =>
    rw [List.map_cons, show ((mixC, x) :: (r.map fun x => ((mixC, x) : Fld))) = [((mixC, x) : Fld)] ++ (r.map fun x => ((mixC, x) : Fld)) from rfl, elem_app, ih, elem_one, if_neg (show ¬ (lowF mixC == lowF prN) = true by decide)]
    rfl
theorem apart_one (f : Fld) : (elemF (apartF f) ccN).Perm (elemF [f] ccN) ∧ elemF (apartF f) prN = elemF [f] prN ∧ contB (apartF f) = contB [f] := by
  unfold apartF
  cases h : ccB f with
  | false => exact ⟨List.Perm.refl _, rfl, rfl⟩
  | true =>
    rw [if_pos rfl]
    have hl : lowF f.1 = ccN := by simpa [ccB] using h
    refine ⟨?_, ?_, ?_⟩
    · rw [show ((bigC, [44]) :: ((listF f.2).reverse.map fun x => ((mixC, x) : Fld))) = [((bigC, [44]) : Fld)] ++ ((listF f.2).reverse.map fun x => ((mixC, x) : Fld)) from rfl, elem_app, elem_mix, elem_one, if_pos (by decide), elem_one, hl, low_cc, if_pos (by simp), flat_alone f.2 _ (fun x hx => List.mem_reverse.1 hx)]
      rw [show listF ([44] : List UInt8) = [] by decide]
      exact List.reverse_perm _
    · rw [show ((bigC, [44]) :: ((listF f.2).reverse.map fun x => ((mixC, x) : Fld))) = [((bigC, [44]) : Fld)] ++ ((listF f.2).reverse.map fun x => ((mixC, x) : Fld)) from rfl, elem_app, elem_mix_pr, elem_one, if_neg (by decide), elem_one, hl, low_pr, if_neg (by decide)]
      rfl
    · unfold contB
      rw [List.any_cons, List.any_cons, hl]
      rfl
theorem apart_all (ls : List Fld) : (elemF (apartAll ls) ccN).Perm (elemF ls ccN) ∧ elemF (apartAll ls) prN = elemF ls prN ∧ contB (apartAll ls) = contB ls := by
  induction ls with
  | nil => exact ⟨List.Perm.refl _, rfl, rfl⟩
  | cons f r ih =>
    obtain ⟨h1, h2, h3⟩ := apart_one f
    obtain ⟨i1, i2, i3⟩ := ih
    have e : apartAll (f :: r) = apartF f ++ apartAll r := rfl
    have e2 : (f :: r : List Fld) = [f] ++ r := rfl
    refine ⟨?_, ?_, ?_⟩
    · rw [e, e2, elem_app, elem_app]
      exact h1.append i1
    · rw [e, e2, elem_app, elem_app, h2, i2]
    · rw [e, e2]
      unfold contB at *
      rw [List.any_append, List.any_append, h3, i3]
theorem req_apart (ls : List Fld) : requestF (apartAll ls) = requestF ls := by
  obtain ⟨h1, h2, h3⟩ := apart_all ls
  exact req_same h1 h3 (by rw [h2])
theorem res_apart (ls : List Fld) : responseF (apartAll ls) = responseF ls := res_same (apart_all ls).1
theorem total_le (b : List UInt8) : ((listF b).map List.length).sum ≤ b.length := by
  have := elF_total b (b.length + 2) 0 0 (Nat.le_refl _)
  unfold listF
  omega
theorem bulk_mix : ∀ l : List (List UInt8), bulkF (l.map fun x => ((mixC, x) : Fld)) = 16 * l.length + (l.map List.length).sum
  | [] => rfl
  | x :: r => by
    rw [List.map_cons, bulk_cons, bulk_mix r, List.map_cons, List.sum_cons, List.length_cons]
    show mixC.length + x.length + 3 + _ = _
    rw [show mixC.length = 13 from rfl]
    omega
theorem bulk_perm {a b : List Fld} (h : a.Perm b) : bulkF a = bulkF b := by
  unfold bulkF
  exact (h.map _).sum_nat
theorem low_len (l : List UInt8) : (lowF l).length = l.length := lowF_length l
theorem bulk_apart (ls : List Fld) : bulkF (apartAll ls) ≤ 17 * bulkF ls := by
  induction ls with
  | nil => exact Nat.le_refl _
  | cons f r ih =>
    rw [show apartAll (f :: r) = apartF f ++ apartAll r from rfl, bulk_app, bulk_cons]
    have h1 : bulkF (apartF f) ≤ 17 * (f.1.length + f.2.length + 3) := by
      unfold apartF
      cases h : ccB f with
      | false =>
        rw [if_neg (by simp)]
        simp only [bulkF, List.map_cons, List.map_nil, List.sum_cons, List.sum_nil]
        omega
      | true =>
        rw [if_pos rfl, bulk_cons, bulk_mix]
        have hl : lowF f.1 = ccN := by simpa [ccB] using h
        have h13 : f.1.length = 13 := by rw [← low_len, hl]; rfl
        have ht := total_le f.2
        have hc := list_count f.2
        have hs : ((listF f.2).reverse.map List.length).sum = ((listF f.2).map List.length).sum := ((List.reverse_perm _).map _).sum_nat
        rw [hs, List.length_reverse, show bigC.length = 13 from rfl, h13]
        simp only [List.length_cons, List.length_nil]
        omega
    omega
theorem apart_len (ls : List Fld) : (apartAll ls).length ≤ 17 * bulkF ls := Nat.le_trans (bulk_len _) (bulk_apart ls)

/-! Capital letters. -/
def upB (c : UInt8) : UInt8 := if 97 ≤ c ∧ c ≤ 122 then c - 32 else c
def upF (l : List UInt8) : List UInt8 := l.map upB
theorem up_facts (c : UInt8) : (upB c == 34) = (c == 34) ∧ (upB c == 44) = (c == 44) ∧ (upB c == 92) = (c == 92) ∧ (upB c == 61) = (c == 61) ∧ blankB (upB c) = blankB c ∧ tokB (upB c) = tokB c ∧ shownB (upB c) = shownB c ∧ digB 10 (upB c) = digB 10 c ∧ lowB (upB c) = lowB c ∧ (digB 10 c = true → upB c = c) := by
  have h : (List.range 256).all (fun n => decide ((upB (UInt8.ofNat n) == 34) = (UInt8.ofNat n == 34) ∧ (upB (UInt8.ofNat n) == 44) = (UInt8.ofNat n == 44) ∧ (upB (UInt8.ofNat n) == 92) = (UInt8.ofNat n == 92) ∧ (upB (UInt8.ofNat n) == 61) = (UInt8.ofNat n == 61) ∧ blankB (upB (UInt8.ofNat n)) = blankB (UInt8.ofNat n) ∧ tokB (upB (UInt8.ofNat n)) = tokB (UInt8.ofNat n) ∧ shownB (upB (UInt8.ofNat n)) = shownB (UInt8.ofNat n) ∧ digB 10 (upB (UInt8.ofNat n)) = digB 10 (UInt8.ofNat n) ∧ lowB (upB (UInt8.ofNat n)) = lowB (UInt8.ofNat n) ∧ (digB 10 (UInt8.ofNat n) = true → upB (UInt8.ofNat n) = UInt8.ofNat n))) = true := by decide +kernel
  have := List.all_eq_true.1 h c.toNat (by simpa using UInt8.toNat_lt c)
  have := of_decide_eq_true this
  simpa using this
theorem up34 (c : UInt8) : upB c = 34 ↔ c = 34 := by have := (up_facts c).1; rw [Bool.eq_iff_iff] at this; simpa using this
theorem up44 (c : UInt8) : upB c = 44 ↔ c = 44 := by have := (up_facts c).2.1; rw [Bool.eq_iff_iff] at this; simpa using this
theorem up92 (c : UInt8) : upB c = 92 ↔ c = 92 := by have := (up_facts c).2.2.1; rw [Bool.eq_iff_iff] at this; simpa using this
theorem up_nil (l : List UInt8) : upF l = [] ↔ l = [] := by simp [upF]
theorem up_len (l : List UInt8) : (upF l).length = l.length := by simp [upF]
theorem up_low (l : List UInt8) : lowF (upF l) = lowF l := by
  unfold lowF upF
  rw [List.map_map]
  exact List.map_congr_left fun c _ => (up_facts c).2.2.2.2.2.2.2.2.1
theorem up_all (p : UInt8 → Bool) (h : ∀ c, p (upB c) = p c) (l : List UInt8) : (upF l).all p = l.all p := by
  unfold upF
  rw [List.all_map]
  congr 1
  funext c
  exact h c
theorem up_tok (l : List UInt8) : tokF (upF l) = tokF l := by
  unfold tokF
  rw [up_all tokB (fun c => (up_facts c).2.2.2.2.2.1)]
  cases l <;> rfl
theorem up_qskip : ∀ l : List UInt8, qskip (upF l) = qskip l
  | [] => rfl
  | [c] => by simp [upF, qskip]
  | c :: d :: l => by
    have h1 := up_qskip l
    have h2 := up_qskip (d :: l)
    show qskip (upB c :: upB d :: upF l) = _
    have h2' : qskip (upB d :: upF l) = qskip (d :: l) := h2
    simp only [qskip, h1, h2']
    by_cases h34 : c = 34
    · rw [if_pos h34, if_pos ((up34 c).2 h34)]
    · rw [if_neg h34, if_neg (fun e => h34 ((up34 c).1 e))]
      by_cases h92 : c = 92
      · rw [if_pos h92, if_pos ((up92 c).2 h92)]
      · rw [if_neg h92, if_neg (fun e => h92 ((up92 c).1 e))]
theorem up_app (a b : List UInt8) : upF (a ++ b) = upF a ++ upF b := by simp [upF]
theorem up_take (l : List UInt8) (k : Nat) : upF (l.take k) = (upF l).take k := by simp [upF, List.map_take]
theorem up_drop (l : List UInt8) (k : Nat) : upF (l.drop k) = (upF l).drop k := by simp [upF, List.map_drop]
theorem up_parts : ∀ (n : Nat) (cur l : List UInt8), parts n (upF cur) (upF l) = (parts n cur l).map upF
  | 0, _, _ => rfl
  | n + 1, cur, [] => rfl
  | n + 1, cur, c :: l => by
    show parts (n + 1) (upF cur) (upB c :: upF l) = _
    simp only [parts]
    by_cases h34 : c = 34
    · rw [if_pos h34, if_pos ((up34 c).2 h34), up_qskip, ← up_take, ← up_drop]
      have e : upF cur ++ upB c :: upF (l.take (qskip l)) = upF (cur ++ c :: l.take (qskip l)) := by rw [up_app]; rfl
      rw [e, up_parts n]
    · rw [if_neg h34, if_neg (fun e => h34 ((up34 c).1 e))]
      by_cases h44 : c = 44
      · rw [if_pos h44, if_pos ((up44 c).2 h44)]
        have := up_parts n [] l
        rw [List.map_cons, ← this]
        rfl
      · rw [if_neg h44, if_neg (fun e => h44 ((up44 c).1 e))]
        have e : upF cur ++ [upB c] = upF (cur ++ [c]) := by rw [up_app]; rfl
        rw [e, up_parts n]
theorem up_partsF (l : List UInt8) : partsF [] (upF l) = (partsF [] l).map upF := by
  unfold partsF
  rw [up_len]
  exact up_parts _ [] l
theorem up_drops (l : List UInt8) : (upF l).dropWhile blankB = upF (l.dropWhile blankB) := by
  induction l with
  | nil => rfl
  | cons c r ih =>
    show (upB c :: upF r).dropWhile blankB = _
    rw [List.dropWhile_cons, List.dropWhile_cons, (up_facts c).2.2.2.2.1]
    cases blankB c with
    | true => exact ih
    | false => rfl
theorem up_rev (l : List UInt8) : (upF l).reverse = upF l.reverse := by simp [upF]
theorem up_trim (l : List UInt8) : trimF (upF l) = upF (trimF l) := by
  unfold trimF rtrim ltrim
  rw [up_drops, up_rev, up_drops, up_rev]
theorem up_elems : ∀ ps : List (List UInt8), elemsOf (ps.map upF) = (elemsOf ps).map upF
  | [] => rfl
  | x :: r => by
    rw [List.map_cons, elemsOf_cons, elemsOf_cons, up_elems r, List.map_append, up_trim]
    by_cases h : trimF x = []
    · rw [if_pos h, if_pos ((up_nil _).2 h)]
      rfl
    · rw [if_neg h, if_neg (fun e => h ((up_nil _).1 e))]
      rfl
theorem up_list (b : List UInt8) : listF (upF b) = (listF b).map upF := by rw [listF_eq, listF_eq, up_partsF, up_elems]
theorem up_body : ∀ l : List UInt8, ubody (upF l) = (ubody l).map upF
  | [] => rfl
  | [c] => by
    show ubody [upB c] = _
    simp only [ubody]
    by_cases h34 : c = 34
    · rw [if_pos h34, if_pos ((up34 c).2 h34)]; rfl
    · rw [if_neg h34, if_neg (fun e => h34 ((up34 c).1 e))]; rfl
  | c :: d :: l => by
    have h1 := up_body l
    have h2 := up_body (d :: l)
    show ubody (upB c :: upB d :: upF l) = _
    have h2' : ubody (upB d :: upF l) = (ubody (d :: l)).map upF := h2
    simp only [ubody, h1, h2', (up_facts c).2.2.2.2.2.2.1, (up_facts d).2.2.2.2.2.2.1]
    by_cases h34 : c = 34
    · rw [if_pos h34, if_pos ((up34 c).2 h34)]; rfl
    · rw [if_neg h34, if_neg (fun e => h34 ((up34 c).1 e))]
      by_cases h92 : c = 92
      · rw [if_pos h92, if_pos ((up92 c).2 h92)]
        cases shownB d with
        | false => rfl
        | true =>
          rw [if_pos rfl, if_pos rfl]
          cases ubody l <;> rfl
      · rw [if_neg h92, if_neg (fun e => h92 ((up92 c).1 e))]
        cases shownB c with
        | false => rfl
        | true =>
          rw [if_pos rfl, if_pos rfl]
          cases ubody (d :: l) <;> rfl
theorem up_unq (l : List UInt8) : unqF (upF l) = (unqF l).map upF := by
  cases l with
  | nil => rfl
  | cons c l =>
    show unqF (upB c :: upF l) = _
    simp only [unqF]
    by_cases h34 : c = 34
    · rw [if_pos h34, if_pos ((up34 c).2 h34), up_body]
    · rw [if_neg h34, if_neg (fun e => h34 ((up34 c).1 e))]; rfl
theorem up_eqAt (l : List UInt8) : eqAt (upF l) = eqAt l := by
  unfold eqAt
  induction l with
  | nil => rfl
  | cons c r ih =>
    show (upB c :: upF r).findIdx (· == 61) = _
    rw [List.findIdx_cons, List.findIdx_cons, (up_facts c).2.2.2.1, ih]
def upD (p : Dir) : Dir := (p.1, upF p.2)
theorem up_pair (l : List UInt8) : pairF (upF l) = (pairF l).map upD := by
  unfold pairF
  rw [up_eqAt, ← up_take, ← up_drop, up_tok, up_tok, up_low, up_low, up_len, up_unq]
  by_cases h1 : tokF (l.take (eqAt l)) = false
  · rw [if_pos h1, if_pos h1]; rfl
  · rw [if_neg h1, if_neg h1]
    by_cases h2 : eqAt l = l.length
    · rw [if_pos h2, if_pos h2]; rfl
    · rw [if_neg h2, if_neg h2]
      by_cases h3 : tokF (l.drop (eqAt l + 1)) = true
      · rw [if_pos h3, if_pos h3]; rfl
      · rw [if_neg h3, if_neg h3]
        cases unqF (l.drop (eqAt l + 1)) <;> rfl
theorem up_dirs (es : List (List UInt8)) : dirsF (es.map upF) = (dirsF es).map upD := by
  unfold dirsF
  rw [List.filterMap_map, List.map_filterMap]
  congr 1
  funext x
  exact up_pair x
theorem up_cap (v : List UInt8) : capN (upF v) = capN v := by
  unfold capN
  by_cases h : v = []
  · rw [if_pos h, if_pos ((up_nil v).2 h)]
  · rw [if_neg h, if_neg (fun e => h ((up_nil v).1 e)), up_all (digB 10) (fun c => (up_facts c).2.2.2.2.2.2.2.1)]
    by_cases ha : v.all (digB 10) = true
    · rw [if_pos ha, if_pos ha]
      have e : upF v = v := by
        unfold upF
        conv => rhs; rw [← List.map_id v]
        exact List.map_congr_left fun c hc => (up_facts c).2.2.2.2.2.2.2.2.2 (List.all_eq_true.1 ha c hc)
      rw [e]
    · rw [if_neg ha, if_neg ha]
theorem up_num (p : Dir) : numD (upD p) = numD p := by
  unfold numD upD
  simp only
  rw [up_cap]
  by_cases h : p.1 = staleN ∧ p.2 = []
  · rw [if_pos h, if_pos ⟨h.1, (up_nil _).2 h.2⟩]
  · rw [if_neg h, if_neg (fun e => h ⟨e.1, (up_nil _).1 e.2⟩)]
theorem up_fold (mx : Bool) (k : List UInt8) : ∀ (ds : List Dir) (acc : Option Nat), (ds.map upD).foldl (sayStep mx k) acc = ds.foldl (sayStep mx k) acc
  | [], _ => rfl
  | p :: r, acc => by
    rw [List.map_cons, List.foldl_cons, List.foldl_cons, up_fold mx k r]
    congr 1
    unfold sayStep
    rw [up_num]
    rfl
theorem up_said (ds : List Dir) (k : List UInt8) : saidB (ds.map upD) k = saidB ds k := by
  unfold saidB
  rw [List.any_map]
  rfl
def bigF (f : Fld) : Fld := if ccB f = true then (midC, upF f.2) else f
def bigAll (ls : List Fld) : List Fld := ls.map bigF
theorem big_one (f : Fld) : elemF [bigF f] ccN = (elemF [f] ccN).map upF ∧ elemF [bigF f] prN = elemF [f] prN ∧ contB [bigF f] = contB [f] := by
  unfold bigF
  cases h : ccB f with
  | false =>
    rw [if_neg (by simp)]
    have hl : (lowF f.1 == ccN) = false := h
    refine ⟨?_, rfl, rfl⟩
    rw [elem_one, low_cc, hl]
    rfl
  | true =>
    rw [if_pos rfl]
    have hl : lowF f.1 = ccN := by simpa [ccB] using h
    refine ⟨?_, ?_, ?_⟩
    · rw [elem_one, elem_one, hl, low_cc, if_pos (show (lowF midC == ccN) = true by decide), if_pos (by simp), up_list]
    · rw [elem_one, elem_one, hl, low_pr, if_neg (show ¬ (lowF midC == prN) = true by decide), if_neg (by decide)]
    · unfold contB
      rw [List.any_cons, List.any_cons, hl]
      rfl
theorem big_all (ls : List Fld) : elemF (bigAll ls) ccN = (elemF ls ccN).map upF ∧ elemF (bigAll ls) prN = elemF ls prN ∧ contB (bigAll ls) = contB ls := by
  induction ls with
  | nil => exact ⟨rfl, rfl, rfl⟩
  | cons f r ih =>
    obtain ⟨h1, h2, h3⟩ := big_one f
    obtain ⟨i1, i2, i3⟩ := ih
    have e : bigAll (f :: r) = [bigF f] ++ bigAll r := rfl
    have e2 : (f :: r : List Fld) = [f] ++ r := rfl
    refine ⟨?_, ?_, ?_⟩
    · rw [e, e2, elem_app, elem_app, h1, i1, List.map_append]
    · rw [e, e2, elem_app, elem_app, h2, i2]
    · rw [e, e2]
      unfold contB at *
      rw [List.any_append, List.any_append, h3, i3]
theorem req_up (ds : List Dir) (old : Bool) : reqD (ds.map upD) old = reqD ds old := by
  unfold reqD nF sayF
  simp only [up_fold, up_said]
theorem res_up (ds : List Dir) : resD (ds.map upD) = resD ds := by
  unfold resD nF sayF
  simp only [up_fold, up_said]
theorem req_big (ls : List Fld) : requestF (bigAll ls) = requestF ls := by
  obtain ⟨h1, h2, h3⟩ := big_all ls
  unfold requestF oldB
  rw [h1, h2, h3, up_dirs, req_up]
theorem res_big (ls : List Fld) : responseF (bigAll ls) = responseF ls := by
  obtain ⟨h1, h2, h3⟩ := big_all ls
  unfold responseF
  rw [h1, up_dirs, res_up]
theorem big_len (ls : List Fld) : (bigAll ls).length = ls.length := by simp [bigAll]
theorem bulk_big (ls : List Fld) : bulkF (bigAll ls) = bulkF ls := by
  induction ls with
  | nil => rfl
  | cons f r ih =>
    rw [show bigAll (f :: r) = bigF f :: bigAll r from rfl, bulk_cons, bulk_cons, ih]
    have h1 : (bigF f).1.length + (bigF f).2.length = f.1.length + f.2.length := by
      unfold bigF
      cases h : ccB f with
      | false => rfl
      | true =>
        rw [if_pos rfl]
        have hl : lowF f.1 = ccN := by simpa [ccB] using h
        have h13 : f.1.length = 13 := by rw [← low_len, hl]; rfl
        rw [h13, up_len]
        rfl
    omega
end Go.Proofs.YtkccmjeabkfmdaaDoor.Con

namespace Go.Proofs.YtkccmjeabkfmdaaDoor.Con
open Go.RowKit Hop

def Clear (o o' : Option Nat) : Prop := ∀ b, o = some b → o' ≠ some b
theorem Clear.symm {o o' : Option Nat} (h : Clear o o') : Clear o' o := fun b hb e => h b e hb
theorem Clear.none_left (o : Option Nat) : Clear none o := fun _ h => by cases h
theorem Clear.none_right (o : Option Nat) : Clear o none := fun _ _ h => by cases h
theorem Clear.new {o o' o1 : Option Nat} {g : Nat} (h : Clear o o1) (hn : o' = o ∨ o' = some g) (hl : ∀ b, o1 = some b → b < g) : Clear o' o1 := fun b hb e => by
  rcases hn with rfl | rfl
  · exact h b hb e
  · injection hb with hb
    have := hl b e
    omega
structure Trio (W w : World) (v : Value) (o : Option Nat) (l : List Fld) (v1 : Value) (o1 : Option Nat) (l1 : List Fld) (v2 : Value) (o2 : Option Nat) (l2 : List Fld) : Prop where
  own : OwnF w v o l
  own1 : OwnF w v1 o1 l1
  own2 : OwnF w v2 o2 l2
  low : ∀ b, o = some b → W.heap.size ≤ b
  low1 : ∀ b, o1 = some b → W.heap.size ≤ b
  low2 : ∀ b, o2 = some b → W.heap.size ≤ b
  a1 : Clear o o1
  a2 : Clear o o2
  a12 : Clear o1 o2
  bel : Below W.heap.size W w
theorem Trio.swap {W w : World} {v v1 v2 : Value} {o o1 o2 : Option Nat} {l l1 l2 : List Fld} (h : Trio W w v o l v1 o1 l1 v2 o2 l2) : Trio W w v1 o1 l1 v o l v2 o2 l2 :=
  ⟨h.own1, h.own, h.own2, h.low1, h.low, h.low2, h.a1.symm, h.a12, h.a2, h.bel⟩
theorem Trio.turn {W w : World} {v v1 v2 : Value} {o o1 o2 : Option Nat} {l l1 l2 : List Fld} (h : Trio W w v o l v1 o1 l1 v2 o2 l2) : Trio W w v2 o2 l2 v1 o1 l1 v o l :=
  ⟨h.own2, h.own1, h.own, h.low2, h.low1, h.low, h.a12.symm, h.a2.symm, h.a1.symm, h.bel⟩
theorem Trio.below {W w w' : World} {v v1 v2 : Value} {o o1 o2 : Option Nat} {l l1 l2 : List Fld} (h : Trio W w v o l v1 o1 l1 v2 o2 l2) (hb : Below w.heap.size w w') : Trio W w' v o l v1 o1 l1 v2 o2 l2 :=
  ⟨h.own.kept (Turn.of_below (S := fun _ => False) hb) (fun _ _ h => h), h.own1.kept (Turn.of_below (S := fun _ => False) hb) (fun _ _ h => h), h.own2.kept (Turn.of_below (S := fun _ => False) hb) (fun _ _ h => h), h.low, h.low1, h.low2, h.a1, h.a2, h.a12, h.bel.trans (hb.mono h.bel.size)⟩
theorem Trio.start (W : World) : Trio W W (.slice none 0 0) none [] (.slice none 0 0) none [] (.slice none 0 0) none [] :=
  ⟨OwnF.nil W, OwnF.nil W, OwnF.nil W, fun _ h => (by cases h), fun _ h => (by cases h), fun _ h => (by cases h), Clear.none_left _, Clear.none_left _, Clear.none_left _, Below.refl _ _⟩
theorem srcf_is {w : World} {g : Nat} {x : Fld} (h : Is w g 33 [strV x.1, strV x.2]) : SrcF w (fun _ => True) (some ⟨g, 0, none⟩) [x] := fun _ => by
  refine ⟨_, rfl, trivial, h.lt, fun i f hf => ?_⟩
  have hi : i = 0 := by
    have := (List.getElem?_eq_some_iff.1 hf).1
    simpa using this
  subst hi
  have hx : f = x := by simpa using hf.symm
  subst hx
  refine ⟨?_, ?_⟩
  · rw [add_at, Nat.zero_add, h.cell]
    rfl
  · rw [add_at, Nat.zero_add, h.cell]
    rfl
/-- append(v, x), x in block g. -/
theorem Trio.push {W w : World} {v v1 v2 : Value} {o o1 o2 : Option Nat} {l l1 l2 : List Fld} (h : Trio W w v o l v1 o1 l1 v2 o2 l2) (x : Fld) (g : Nat) (hi : Is w g 33 [strV x.1, strV x.2]) (hlen : l.length ≤ 1000000000) :
    ∃ (v' : Value) (w' : World) (o' : Option Nat), (Builtin.append_ #[22, 22] 22 #[v, .slice (some ⟨g, 0, none⟩) 1 1]).run Tryd.prog w = .ok v' w' ∧ Trio W w' v' o' (l ++ [x]) v1 o1 l1 v2 o2 l2 ∧
      Turn (fun k => o = some k) w w' ∧ (o' = o ∨ o' = some w.heap.size) := by
  obtain ⟨v', w', o', hrun, own', t', ho'⟩ := run_append_srcF w v o l [x] h.own (some ⟨g, 0, none⟩) 1 1 rfl (srcf_is hi) (by simp; omega)
  have l1' : ∀ b, o1 = some b → b < w.heap.size := fun b hb => h.own1.own_lt b hb
  have l2' : ∀ b, o2 = some b → b < w.heap.size := fun b hb => h.own2.own_lt b hb
  obtain ⟨hb, hl⟩ := own_turn h.bel h.low t' (fun b hb => by
    rcases ho' with e | e
    · left; rw [← e]; exact hb
    · rw [e] at hb; injection hb with hb; right; omega)
  exact ⟨v', w', o', hrun, ⟨own', h.own1.kept t' (fun k hk e => h.a1 k e hk), h.own2.kept t' (fun k hk e => h.a2 k e hk), hl, h.low1, h.low2, h.a1.new ho' l1', h.a2.new ho' l2', h.a12, hb⟩, t', ho'⟩

/-! A text's bytes, written over. -/
theorem upB_yes (c : UInt8) (h : 97 ≤ (c.toNat : Int)) (h' : (c.toNat : Int) ≤ 122) : (c.toNat : Int) - 32 = ((upB c).toNat : Int) := by
  unfold upB
  rw [if_pos ⟨by rw [UInt8.le_iff_toNat_le]; show 97 ≤ c.toNat; omega, by rw [UInt8.le_iff_toNat_le]; show c.toNat ≤ 122; omega⟩, UInt8.toNat_sub]
  show _ = (((256 - 32 + c.toNat) % 256 : Nat) : Int)
  omega
theorem upB_no (c : UInt8) (h : ¬ (97 ≤ (c.toNat : Int) ∧ (c.toNat : Int) ≤ 122)) : upB c = c := by
  unfold upB
  rw [if_neg]
  rintro ⟨h1, h2⟩
  rw [UInt8.le_iff_toNat_le] at h1 h2
  have e1 : (97 : UInt8).toNat = 97 := rfl
  have e2 : (122 : UInt8).toNat = 122 := rfl
  omega
def upAt (s : ByteArray) (k : Nat) : List UInt8 := upF ((bl s).take k) ++ (bl s).drop k
theorem upAt_length (s : ByteArray) (k : Nat) : (upAt s k).length = s.size := by
  unfold upAt upF
  rw [List.length_append, List.length_map, ← List.length_append, List.take_append_drop, bl_length]
theorem upAt_get (s : ByteArray) (k : Nat) (h : k < s.size) : (upAt s k)[k]? = some s[k] := by
  unfold upAt upF
  have hl : ((bl s).take k).length = k := by rw [List.length_take, bl_length]; omega
  rw [List.getElem?_append_right (by rw [List.length_map, hl]; exact Nat.le_refl _), List.length_map, hl, Nat.sub_self, bl_drop s k h]
  rfl
theorem upAt_yes (s : ByteArray) (k : Nat) (h : k < s.size) : upAt s (k + 1) = (upAt s k).set k (upB s[k]) := by
  unfold upAt upF
  have hl : ((bl s).take k).length = k := by rw [List.length_take, bl_length]; omega
  rw [bl_take s k h, bl_drop s k h, List.map_append, List.append_assoc, List.set_append_right _ _ (by rw [List.length_map, hl]; exact Nat.le_refl _), List.length_map, hl, Nat.sub_self]
  rfl
theorem upAt_no (s : ByteArray) (k : Nat) (h : k < s.size) (hc : upB s[k] = s[k]) : upAt s (k + 1) = upAt s k := by
  unfold upAt upF
  rw [bl_take s k h, bl_drop s k h, List.map_append, List.append_assoc]
  simp [hc]
theorem upAt_all (s : ByteArray) (k : Nat) (h : ¬ k < s.size) : upAt s k = upF (bl s) := by
  unfold upAt
  rw [List.take_of_length_le (by rw [bl_length]; omega), List.drop_of_length_le (by rw [bl_length]; omega), List.append_nil]

/-! The lists, round by round. -/
theorem back_step (ls : List Fld) (j : Nat) (f : Fld) (h : ls[j]? = some f) : (ls.drop j).reverse = (ls.drop (j + 1)).reverse ++ [f] := by
  have hlt := (List.getElem?_eq_some_iff.1 h).1
  have e : ls[j] = f := (List.getElem?_eq_some_iff.1 h).2
  rw [List.drop_eq_getElem_cons hlt, e, List.reverse_cons]
theorem apart_snoc (ls : List Fld) (k : Nat) (f : Fld) (h : ls[k]? = some f) : apartAll (ls.take (k + 1)) = apartAll (ls.take k) ++ apartF f := by
  unfold apartAll
  rw [take_snoc ls k f h, List.flatMap_append]
  simp
theorem big_snoc (ls : List Fld) (k : Nat) (f : Fld) (h : ls[k]? = some f) : bigAll (ls.take (k + 1)) = bigAll (ls.take k) ++ [bigF f] := by
  unfold bigAll
  rw [take_snoc ls k f h, List.map_append]
  rfl
/-- The elements that have been told apart, from the last one on. -/
def mixTo (xs : List (List UInt8)) (j : Nat) : List Fld := (xs.drop j).reverse.map fun x => (mixC, x)
theorem mix_step (xs : List (List UInt8)) (j : Nat) (x : List UInt8) (h : xs[j]? = some x) : mixTo xs j = mixTo xs (j + 1) ++ [(mixC, x)] := by
  have hlt := (List.getElem?_eq_some_iff.1 h).1
  have e : xs[j] = x := (List.getElem?_eq_some_iff.1 h).2
  unfold mixTo
  rw [List.drop_eq_getElem_cons hlt, e, List.reverse_cons, List.map_append]
  rfl
theorem mix_none (xs : List (List UInt8)) : mixTo xs xs.length = [] := by simp [mixTo]
theorem mix_all (xs : List (List UInt8)) : mixTo xs 0 = xs.reverse.map fun x => (mixC, x) := by simp [mixTo]
theorem mix_len (xs : List (List UInt8)) (j : Nat) : (mixTo xs j).length ≤ xs.length := by simp [mixTo]
theorem apart_take (ls : List Fld) (k : Nat) : bulkF (ls.take k) ≤ bulkF ls := bulk_sub (List.take_sublist k ls)
end Go.Proofs.YtkccmjeabkfmdaaDoor.Con

namespace Go.Proofs.YtkccmjeabkfmdaaDoor.Con
open Go.RowKit Hop

theorem ownS_reads {w : World} {A : Option Addr} {n c : Nat} {o : Option Nat} {ls : List (List UInt8)} (h : OwnS w (.slice A n c) o ls) : SrcS w (fun _ => True) A ls := by
  obtain ⟨A1, c1, hv1, s⟩ := h.src (fun _ => True) (fun _ _ => trivial)
  injection hv1 with h1
  subst h1
  exact s
theorem ownS_lt {w : World} {v : Value} {o : Option Nat} {ls : List (List UInt8)} (h : OwnS w v o ls) (b : Nat) (hb : o = some b) : b < w.heap.size := by
  rcases ownS_row h with ⟨_, _, e⟩ | ⟨g, c, cur, _, e, hi, _⟩
  · rw [e] at hb; cases hb
  · rw [e] at hb
    injection hb with hb
    subst hb
    exact hi.lt
set_option maxHeartbeats 32000000 in
set_option maxRecDepth 100000 in
theorem order_law {P : Nat → Prop} (w : World) (A : Option Addr) (ls : List Fld) (n c : Nat) (hn : ls.length = n) (hb : bulkF ls ≤ 50000000) (h : SrcF w P A ls) :
    Calls Tryd.prog 5 #[.slice A n c] w fun e w' => e = .returned (.bool true) ∧ Below w.heap.size w w' := by
  have hlen := bulk_len ls
  have hnn : n ≤ 50000000 := by omega
  have HN := Lib.hid hn
  have HB := Lib.hid hb
  have HS := Lib.hid h
  have HSZ := Lib.hid (show ∀ f ∈ ls, f.1.length ≤ 50000000 ∧ f.2.length ≤ 50000000 from fun f hf => by have := bulk_mem hf; omega)
  have HDL := Lib.hid (show ∀ j, (ls.drop j).reverse.length ≤ 1000000000 from fun j => by rw [List.length_reverse, List.length_drop]; omega)
  have HT0 : Hid (Trio w w (.slice none 0 0) none (ls.drop n).reverse (.slice none 0 0) none [] (.slice none 0 0) none []) := Lib.hid (by
    rw [List.drop_of_length_le (by omega)]
    exact Trio.start w)
  clear hlen hn hb h
  go_enter Tryd.func5, Tryd.ntmps5
  go_wp2_with fail
  go_loopw [6, 3] (fun vi v wr => ∃ (j : Nat) (o : Option Nat), vi = .int .i64 ((j : Int) - 1) ∧ j ≤ n ∧ Hid (Trio w wr v o (ls.drop j).reverse (.slice none 0 0) none [] (.slice none 0 0) none [])) (fun vi _ _ => (intOf vi + 1).toNat)
  case atStart => exact ⟨n, none, by go_num, Nat.le_refl _, HT0⟩
  case round =>
    obtain ⟨j, o3, hvi, hj, HT⟩ := hrel
    cases j with
    | succ j =>
      have hv2 := hvi.trans (show Value.int .i64 (((j + 1 : Nat) : Int) - 1) = .int .i64 (j : Int) from by congr 1; omega)
      clear hvi
      subst hv2
      obtain ⟨p, f, hf, hat, y0, y1, _, _⟩ := HS.out.at (c := c) HN.out (show j < n by omega) HT.out.bel
      have ba := (Below.refl wr.heap.size wr).alloc (Nat.le_refl _) (.cells #[.string ⟨f.1.toArray⟩, .string ⟨f.2.toArray⟩] 33)
      obtain ⟨v', w', o', hrun, T', _, _⟩ := (HT.out.below ba).push f wr.heap.size (Is.made wr 33 [strV f.1, strV f.2]) (HDL.out _)
      rw [← back_step ls j f hf] at T'
      have HR := Lib.hid hrun
      have TT := Lib.hid T'
      have hge : (0 : Int) ≤ (j : Int) := by omega
      clear ba hrun T' HT hf
      go_wp2_with (at_builtin; refine append_by rfl (.tmp 21) (.tmp 26) 22 rfl _ _ v' w' rfl rfl HR.out ?_)
      go_roundw
      case rel => exact ⟨j, o', rfl, by omega, TT⟩
      case measure => simp only [intOf]; omega
    | zero =>
      have hv2 := hvi.trans (show Value.int .i64 (((0 : Nat) : Int) - 1) = .int .i64 (-1) from rfl)
      clear hvi
      subst hv2
      rw [List.drop_zero] at HT
      obtain ⟨wb, rfl⟩ : ∃ wb, wb = wr := ⟨_, rfl⟩
      have HT2 : Hid (Trio w wb (.slice none 0 0) none (apartAll (ls.take 0)) (.slice none 0 0) none (bigAll (ls.take 0)) _ o3 ls.reverse) := Lib.hid HT.out.turn.swap
      clear HT
      go_wp2_with fail
      go_loopw [7, 4, 5] (fun vi v4 v5 wr => ∃ (k : Nat) (o4 o5 : Option Nat), vi = .int .i64 (k : Int) ∧ k ≤ n ∧ Hid (Trio w wr v4 o4 (apartAll (ls.take k)) v5 o5 (bigAll (ls.take k)) u3 o3 ls.reverse)) (fun vi _ _ _ => n - (intOf vi).toNat)
      case atStart => exact ⟨0, none, none, rfl, Nat.zero_le _, HT2⟩
      case round =>
        obtain ⟨k, o4, o5, rfl, hk, HT⟩ := hrel
        by_cases hlt : k < n
        · obtain ⟨p, f, hf, hat, y0, y1, _, _⟩ := HS.out.at (c := c) HN.out hlt HT.out.bel
          obtain ⟨s1, s2⟩ := HSZ.out f (List.mem_of_getElem? hf)
          have HF := Lib.hid hf
          obtain ⟨Ns, hNs⟩ : ∃ Ns : ByteArray, Ns = ⟨f.1.toArray⟩ := ⟨_, rfl⟩
          obtain ⟨Vs, hVs⟩ : ∃ Vs : ByteArray, Vs = ⟨f.2.toArray⟩ := ⟨_, rfl⟩
          have HNS := Lib.hid (show strV f.1 = .string Ns by rw [hNs]; rfl)
          have HVS := Lib.hid (show strV f.2 = .string Vs by rw [hVs]; rfl)
          have HBV := Lib.hid (show bl Vs = f.2 by rw [hVs, bl_mk])
          have HZV := Lib.hid (show Vs.size ≤ 1000000000 by rw [← bl_length, HBV.out]; omega)
          have CS := Lib.hid (fun W : World => ty_same Ns ⟨#[99, 97, 99, 104, 101, 45, 99, 111, 110, 116, 114, 111, 108]⟩ W)
          rw [show bl Ns = f.1 by rw [hNs, bl_mk], show lowF (bl ⟨#[99, 97, 99, 104, 101, 45, 99, 111, 110, 116, 114, 111, 108]⟩) = ccN by decide] at CS
          rw [← hNs] at y0
          rw [← hVs] at y1
          have HAL := Lib.hid (show (apartAll (ls.take k)).length ≤ 850000000 by
            have h1 := apart_len (ls.take k)
            have h2 := apart_take ls k
            have h3 := HB.out
            omega)
          have HBL := Lib.hid (show (bigAll (ls.take k)).length ≤ 1000000000 by rw [big_len, List.length_take]; omega)
          have HPB := Lib.hid (show p.block < w.heap.size by assumption)
          clear hNs hVs s1 s2 hf
          cases hs : ccB f with
          | false =>
            have e0 : (lowF f.1 == ccN) = false := hs
            rw [e0] at CS
            have HAN := Lib.hid (show apartAll (ls.take (k + 1)) = apartAll (ls.take k) ++ [f] by rw [apart_snoc ls k f HF.out]; unfold apartF; rw [hs]; rfl)
            have HBN := Lib.hid (show bigAll (ls.take (k + 1)) = bigAll (ls.take k) ++ [f] by rw [big_snoc ls k f HF.out]; unfold bigF; rw [hs]; rfl)
            clear hs e0
            go_wp2_with fail
            refine (CS.out _).mono ?_
            rintro e w5 ⟨rfl, b5⟩
            have T5 := HT.out.below b5
            go_upto_region 10 with fail
            have mk : ∀ (W : World) (g : Nat), Is W g 33 [.string Ns, .string Vs] → Is W g 33 [strV f.1, strV f.2] := fun W g h => by rw [HNS.out, HVS.out]; exact h
            have KK : ∀ W : World, Below w.heap.size w W → W.cell? p = some (.string Ns) ∧ W.cell? ⟨p.block, p.off + 1, none⟩ = some (.string Vs) := fun W hW =>
              ⟨(hW.cell HPB.out).trans ((HT.out.bel.cell HPB.out).symm.trans y0), (hW.cell (p := ⟨p.block, p.off + 1, none⟩) HPB.out).trans ((HT.out.bel.cell (p := ⟨p.block, p.off + 1, none⟩) HPB.out).symm.trans y1)⟩
            have B0 := Below.refl w5.heap.size w5
            have D0 : Below w5.heap.size w5 w5.drew := ⟨B0.os, B0.tape, B0.output, B0.size, B0.block⟩
            have S0 : Below w5.heap.size w5 (w5.alloc (.cells #[.string Ns, .string Vs] 33)) := B0.alloc (Nat.le_refl _) _
            have D1 : Below w5.heap.size w5 (w5.alloc (.cells #[.string Ns, .string Vs] 33)).drew := ⟨S0.os, S0.tape, S0.output, S0.size, S0.block⟩
            have S1 : Below w5.heap.size w5 ((w5.alloc (.cells #[.string Ns, .string Vs] 33)).alloc (.cells #[.string Ns, .string Vs] 33)) := S0.alloc S0.size _
            have D2 : Below w5.heap.size w5 ((w5.alloc (.cells #[.string Ns, .string Vs] 33)).alloc (.cells #[.string Ns, .string Vs] 33)).drew := ⟨S1.os, S1.tape, S1.output, S1.size, S1.block⟩
            have hz1 : (w5.alloc (.cells #[.string Ns, .string Vs] 33)).heap.size = w5.heap.size + 1 := by simp
            have iA : Is (w5.alloc (.cells #[.string Ns, .string Vs] 33)).drew w5.heap.size 33 [strV f.1, strV f.2] := mk _ _ (Is.made w5 33 [.string Ns, .string Vs]).drew
            have i1 : Is ((w5.alloc (.cells #[.string Ns, .string Vs] 33)).alloc (.cells #[.string Ns, .string Vs] 33)).drew w5.heap.size 33 [strV f.1, strV f.2] := mk _ _ ((Is.made w5 33 [.string Ns, .string Vs]).alloc (.cells #[.string Ns, .string Vs] 33)).drew
            have i2 : Is ((w5.alloc (.cells #[.string Ns, .string Vs] 33)).alloc (.cells #[.string Ns, .string Vs] 33)).drew (w5.heap.size + 1) 33 [strV f.1, strV f.2] := by
              have := Is.made (w5.alloc (.cells #[.string Ns, .string Vs] 33)) 33 [.string Ns, .string Vs]
              rw [hz1] at this
              exact mk _ _ this.drew
            have lo4 : ∀ b, o4 = some b → b < w5.heap.size := fun b hb => T5.own.own_lt b hb
            obtain ⟨va, UA, oa, ra, ma, ta, na⟩ := (T5.below D1).push f w5.heap.size iA (by have := HAL.out; omega)
            have bUA : Below UA.heap.size UA (UA.alloc (.cells #[.string Ns, .string Vs] 33)) := (Below.refl _ _).alloc (Nat.le_refl _) _
            obtain ⟨vb, UB, ob, rb, mb, tb, nb⟩ := (ma.below bUA).swap.push f UA.heap.size (mk _ _ (Is.made UA 33 [.string Ns, .string Vs])) HBL.out
            obtain ⟨vc, UC, oc, rc, mc, tc, nc⟩ := (T5.below D2).push f w5.heap.size i1 (by have := HAL.out; omega)
            obtain ⟨vd, UD, od, rd, md, td, nd⟩ := mc.swap.push f (w5.heap.size + 1) (i2.kept tc (fun e => by have := lo4 _ e; omega)) HBL.out
            obtain ⟨ve, UE, oe, re, me, te, ne⟩ := (T5.below D2).push f (w5.heap.size + 1) i2 (by have := HAL.out; omega)
            obtain ⟨vf, UF, of, rf, mf, tf, nf⟩ := me.swap.push f w5.heap.size (i1.kept te (fun e => by have := lo4 _ e; omega)) HBL.out
            have k0 := KK _ T5.bel
            have k1 := KK _ (T5.below D0).bel
            have k2 := KK _ (T5.below S0).bel
            have k3 := KK _ (T5.below D1).bel
            have k4 := KK _ (T5.below S1).bel
            have k5 := KK _ (T5.below D2).bel
            have kA := KK _ ma.bel
            have kA2 := KK _ (ma.below bUA).bel
            have kB := KK _ mb.bel
            have kC := KK _ mc.bel
            have kD := KK _ md.bel
            have kE := KK _ me.bel
            have kF := KK _ mf.bel
            have RA := Lib.hid ra
            have RB := Lib.hid rb
            have RC := Lib.hid rc
            have RD := Lib.hid rd
            have RE := Lib.hid re
            have RF := Lib.hid rf
            have mb2 := mb.swap
            have md2 := md.swap
            have mf2 := mf.swap
            rw [← HAN.out, ← HBN.out] at mb2 md2 mf2
            have MB := Lib.hid mb2
            have MD := Lib.hid md2
            have MF := Lib.hid mf2
            clear ra rb rc rd re rf mb2 md2 mf2 ma mb mc md me mf ta tb tc td te tf na nb nc nd ne nf bUA iA i1 i2 lo4 hz1 S0 S1 D0 D1 D2 B0 KK mk T5 HT y0 y1
            go_region_held3 (fun w' => w'.cell? p = some (.string Ns) ∧ w'.cell? ⟨p.block, p.off + 1, none⟩ = some (.string Vs)) (first | (with_reducible exact k0) | (with_reducible exact k1) | (with_reducible exact k2) | (with_reducible exact k3) | (with_reducible exact k4) | (with_reducible exact k5) | (with_reducible exact kA) | (with_reducible exact kA2) | (with_reducible exact kB) | (with_reducible exact kC) | (with_reducible exact kD) | (with_reducible exact kE) | (with_reducible exact kF) | go_keep)
              (first
                | ((with_reducible (show if _ = true then Oper.wp _ _ _ ((w5.alloc (.cells #[.string Ns, .string Vs] 33)).drew) _ _ else _)); refine step_append_by rfl (.tmp 41) (.tmp 46) 22 rfl u4 (.slice (some ⟨w5.heap.size, 0, none⟩) 1 1) va UA rfl rfl RA.out ?_)
                | ((with_reducible (show if _ = true then Oper.wp _ _ _ (UA.alloc (.cells #[.string Ns, .string Vs] 33)) _ _ else _)); refine step_append_by rfl (.tmp 48) (.tmp 53) 22 rfl u5 (.slice (some ⟨UA.heap.size, 0, none⟩) 1 1) vb UB rfl rfl RB.out ?_)
                | ((with_reducible (show if _ = true then Oper.wp _ _ _ (((w5.alloc (.cells #[.string Ns, .string Vs] 33)).alloc (.cells #[.string Ns, .string Vs] 33)).drew) _ _ else _)); refine step_append_by rfl (.tmp 41) (.tmp 46) 22 rfl u4 (.slice (some ⟨w5.heap.size, 0, none⟩) 1 1) vc UC rfl rfl RC.out ?_)
                | ((with_reducible (show if _ = true then Oper.wp _ _ _ UC _ _ else _)); refine step_append_by rfl (.tmp 48) (.tmp 53) 22 rfl u5 (.slice (some ⟨(w5.heap.size + 1), 0, none⟩) 1 1) vd UD rfl rfl RD.out ?_)
                | ((with_reducible (show if _ = true then Oper.wp _ _ _ (((w5.alloc (.cells #[.string Ns, .string Vs] 33)).alloc (.cells #[.string Ns, .string Vs] 33)).drew) _ _ else _)); refine step_append_by rfl (.tmp 41) (.tmp 46) 22 rfl u4 (.slice (some ⟨(w5.heap.size + 1), 0, none⟩) 1 1) ve UE rfl rfl RE.out ?_)
                | ((with_reducible (show if _ = true then Oper.wp _ _ _ UE _ _ else _)); refine step_append_by rfl (.tmp 48) (.tmp 53) 22 rfl u5 (.slice (some ⟨w5.heap.size, 0, none⟩) 1 1) vf UF rfl rfl RF.out ?_))
            all_goals
              go_wp2_with fail
              go_roundw
            all_goals
              first
              | exact ⟨k + 1, oa, ob, by go_num, hlt, MB⟩
              | exact ⟨k + 1, oc, od, by go_num, hlt, MD⟩
              | exact ⟨k + 1, oe, of, by go_num, hlt, MF⟩
              | (simp [intOf]; omega)
          | true =>
            have e0 : (lowF f.1 == ccN) = true := hs
            rw [e0] at CS
            have HAF := Lib.hid (show apartF f = (bigC, [44]) :: ((listF f.2).reverse.map fun x => (mixC, x)) by unfold apartF; rw [hs]; rfl)
            have HBF := Lib.hid (show bigF f = (midC, upF f.2) by unfold bigF; rw [hs]; rfl)
            clear hs e0
            have HXL := Lib.hid (list_count f.2)
            have HXP := Lib.hid (fun x (hx : x ∈ listF f.2) => list_part f.2 x hx)
            have HV2 := Lib.hid (show f.2.length ≤ 1000000000 by rw [← HBV.out, bl_length]; exact HZV.out)
            have HV3 := Lib.hid (show f.2.length ≤ 50000000 from (HSZ.out f (List.mem_of_getElem? HF.out)).2)
            have CL := Lib.hid (fun W : World => tx_list Vs W HZV.out)
            rw [HBV.out] at CL
            go_wp2_with fail
            refine (CS.out _).mono ?_
            rintro e w5 ⟨rfl, b5⟩
            have T5 := Lib.hid (HT.out.below b5)
            have y15 : w5.cell? ⟨p.block, p.off + 1, none⟩ = some (.string Vs) := (b5.cell (Lib.lt_of_cell y1)).trans y1
            clear b5 HT y0 y1
            go_wp2_with fail
            refine (CL.out _).mono ?_
            rintro e w6 ⟨v6, o8, rfl, own6, ob6, b6⟩
            have T6 := T5.out.below b6
            have y16 : w6.cell? ⟨p.block, p.off + 1, none⟩ = some (.string Vs) := (b6.cell (Lib.lt_of_cell y15)).trans y15
            obtain ⟨xs, hxs⟩ : ∃ xs, listF f.2 = xs := ⟨_, rfl⟩
            rw [hxs] at HXL HXP HAF own6
            obtain ⟨q, hq⟩ : ∃ q, xs.length = q := ⟨_, rfl⟩
            have HQ := Lib.hid hq
            obtain ⟨A8, c8, hv8, _⟩ := own6.src (fun _ => True) (fun _ _ => trivial)
            rw [hq] at hv8
            subst hv8
            have hq1 : q ≤ 50000001 := by have := HXL.out; have := HV3.out; omega
            have CL48 : Clear o4 o8 := fun b hb e => by have := T5.out.own.own_lt b hb; have := ob6 b e; omega
            have ba := (Below.refl w6.heap.size w6).alloc (Nat.le_refl _) (.cells #[.string ⟨#[67, 65, 67, 72, 69, 45, 99, 111, 110, 116, 114, 111, 108]⟩, .string ⟨#[44]⟩] 33)
            obtain ⟨v7, w7, o7, hrun7, T7, t7, n7⟩ := (T6.below ba).push (bigC, [44]) w6.heap.size (Is.made w6 33 [strV bigC, strV [44]]) (by have := HAL.out; omega)
            have own6b := own6.kept (Turn.of_below (S := fun _ => False) ba) (fun _ _ h => h)
            have own7 := own6b.kept t7 (fun b hb e => CL48 b e hb)
            have CL78 : Clear o7 o8 := CL48.new n7 (fun b hb => ownS_lt own6b b hb)
            have y17 : w7.cell? ⟨p.block, p.off + 1, none⟩ = some (.string Vs) := by
              have h1 := T7.bel.cell (p := ⟨p.block, p.off + 1, none⟩) HPB.out
              have h2 := T6.bel.cell (p := ⟨p.block, p.off + 1, none⟩) HPB.out
              exact h1.trans (h2.symm.trans y16)
            have HR7 := Lib.hid hrun7
            have L7 : Hid (Trio w w7 v7 o7 (apartAll (ls.take k) ++ [(bigC, [44])] ++ mixTo xs q) u5 o5 (bigAll (ls.take k)) u3 o3 ls.reverse) := Lib.hid (by
              rw [← hq, mix_none, List.append_nil]
              exact T7)
            have OW7 := Lib.hid own7
            have CC7 := Lib.hid CL78
            have HW0 := Lib.hid (show w.cell? ⟨p.block, p.off + 1, none⟩ = some (.string Vs) from (T7.bel.cell (p := ⟨p.block, p.off + 1, none⟩) HPB.out).symm.trans y17)
            have e1 : IntKind.i64.wrap ((q : Int) - 1) = (q : Int) - 1 := IntWalk.i64_in _ (by omega)
            clear ba own6 own6b own7 CL48 CL78 n7 t7 T7 T6 hrun7 b6 ob6 hq hxs y16 y15 y17 T5
            go_wp2_with (at_builtin; refine append_by rfl (.tmp 61) (.tmp 63) 22 rfl _ _ v7 w7 rfl rfl HR7.out ?_)
            go_loopw [9, 4] (fun vi v wr => ∃ (j : Nat) (o : Option Nat), vi = .int .i64 ((j : Int) - 1) ∧ j ≤ q ∧ Hid (Trio w wr v o (apartAll (ls.take k) ++ [(bigC, [44])] ++ mixTo xs j) u5 o5 (bigAll (ls.take k)) u3 o3 ls.reverse) ∧ Hid (OwnS wr (.slice A8 q c8) o8 xs) ∧ Hid (Clear o o8)) (fun vi _ _ => (intOf vi + 1).toNat)
            case atStart => exact ⟨q, o7, rfl, Nat.le_refl _, L7, OW7, CC7⟩
            case round =>
              obtain ⟨j, oj, hvi, hj, HTJ, HOJ, HCJ⟩ := hrel
              cases j with
              | succ j =>
                have hv2 := hvi.trans (show Value.int .i64 (((j + 1 : Nat) : Int) - 1) = .int .i64 (j : Int) from by congr 1; omega)
                clear hvi
                subst hv2
                obtain ⟨pj, x, hx, hatj, yj, _, _⟩ := (ownS_reads HOJ.out).at (c := c8) HQ.out (show j < q by omega) (Below.refl wr.heap.size wr)
                have hge : (0 : Int) ≤ (j : Int) := by omega
                obtain ⟨Xs, hXs⟩ : ∃ Xs : ByteArray, Xs = ⟨x.toArray⟩ := ⟨_, rfl⟩
                have HXS := Lib.hid (show strV x = .string Xs by rw [hXs]; rfl)
                rw [← hXs] at yj
                have ba := (Below.refl wr.heap.size wr).alloc (Nat.le_refl _) (.cells #[.string ⟨#[99, 97, 99, 104, 101, 45, 67, 79, 78, 84, 82, 79, 76]⟩, .string Xs] 33)
                obtain ⟨v', w', o', hrun, T', t', n'⟩ := (HTJ.out.below ba).push (mixC, x) wr.heap.size (by show Is _ _ _ [strV mixC, strV x]; rw [HXS.out]; exact Is.made wr 33 [strV mixC, .string Xs]) (by
                  have h1 := mix_len xs (j + 1)
                  have h2 := HQ.out
                  have h3 := HAL.out
                  rw [List.length_append, List.length_append]
                  simp only [List.length_cons, List.length_nil]
                  omega)
                rw [List.append_assoc, ← mix_step xs j x hx] at T'
                have ownb := HOJ.out.kept (Turn.of_below (S := fun _ => False) ba) (fun _ _ h => h)
                have OW := Lib.hid (ownb.kept t' (fun b hb e => HCJ.out b e hb))
                have CC := Lib.hid (HCJ.out.new n' (fun b hb => ownS_lt ownb b hb))
                have HR := Lib.hid hrun
                have TT := Lib.hid T'
                clear ba hrun T' t' n' ownb HTJ HOJ HCJ hx hXs
                go_wp2_with (at_builtin; refine append_by rfl (.tmp 72) (.tmp 78) 22 rfl _ _ v' w' rfl rfl HR.out ?_)
                go_roundw
                case rel => exact ⟨j, o', rfl, by omega, TT, OW, CC⟩
                case measure => simp only [intOf]; omega
              | zero =>
                have hv2 := hvi.trans (show Value.int .i64 (((0 : Nat) : Int) - 1) = .int .i64 (-1) from rfl)
                clear hvi
                subst hv2
                have TZ : Hid (Trio w wr u4 oj (apartAll (ls.take (k + 1))) u5 o5 (bigAll (ls.take k)) u3 o3 ls.reverse) := Lib.hid (by
                  have := HTJ.out
                  rw [mix_all, List.append_assoc] at this
                  rw [apart_snoc ls k f HF.out, HAF.out]
                  exact this)
                obtain ⟨wz, rfl⟩ : ∃ wz, wz = wr := ⟨_, rfl⟩
                have yz : wz.cell? ⟨p.block, p.off + 1, none⟩ = some (.string Vs) := (TZ.out.bel.cell (p := ⟨p.block, p.off + 1, none⟩) HPB.out).trans HW0.out
                obtain ⟨cap, w0, hcv, row0, b0, z0⟩ := run_to_bytes wz Vs
                have R0 := Lib.hid row0
                have B0 := Lib.hid b0
                clear row0 b0 z0 HTJ HOJ HCJ
                have hvz := HZV.out
                go_wp2_with fail
                go_loopw [11] (fun vi wr => ∃ k2 : Nat, vi = .int .i64 (k2 : Int) ∧ k2 ≤ Vs.size ∧ Hid (Row wr wz.heap.size (upAt Vs k2)) ∧ Hid (Below wz.heap.size wz wr)) (fun vi _ => Vs.size - (intOf vi).toNat)
                case atStart => exact ⟨0, rfl, Nat.zero_le _, R0, B0⟩
                case round =>
                  clear hcv R0 B0
                  obtain ⟨k2, rfl, hk2, HRW, HBW⟩ := hrel
                  by_cases hlt2 : k2 < Vs.size
                  · have hatb := run_at 36 5 Tryd.underlying36 (by kernel_rfl) ⟨wz.heap.size, 0, none⟩ Vs.size cap k2 hlt2
                    rw [add_at, Nat.zero_add] at hatb
                    have z := HRW.out.cell k2 _ (upAt_get Vs k2 hlt2)
                    by_cases hup : 97 ≤ (Vs[k2].toNat : Int) ∧ (Vs[k2].toNat : Int) ≤ 122
                    · have zf := HRW.out.free k2 (by rw [upAt_length]; exact hlt2)
                      have row2 := HRW.out.set k2 (upB Vs[k2])
                      rw [← upAt_yes Vs k2 hlt2, ← upB_yes Vs[k2] hup.1 hup.2] at row2
                      have R2 := Lib.hid row2
                      have c1 : decide ((97 : Int) ≤ (Vs[k2].toNat : Int)) = true := decide_eq_true hup.1
                      have c2 : decide ((Vs[k2].toNat : Int) ≤ 122) = true := decide_eq_true hup.2
                      clear row2
                      go_wp2_with fail
                      go_roundw
                      case rel => exact ⟨k2 + 1, by go_num, hlt2, R2, Lib.hid (HBW.out.setCell (Nat.le_refl _) _)⟩
                      case measure => simp [intOf]; omega
                    · have HNN := Lib.hid (upAt_no Vs k2 hlt2 (upB_no _ hup))
                      have hc : decide ((97 : Int) ≤ (Vs[k2].toNat : Int)) = false ∨ (decide ((97 : Int) ≤ (Vs[k2].toNat : Int)) = true ∧ decide ((Vs[k2].toNat : Int) ≤ 122) = false) := by
                        by_cases h : 97 ≤ (Vs[k2].toNat : Int)
                        · exact .inr ⟨decide_eq_true h, decide_eq_false (fun h' => hup ⟨h, h'⟩)⟩
                        · exact .inl (decide_eq_false h)
                      clear hup
                      rcases hc with c1 | ⟨c1, c2⟩
                      all_goals
                        go_wp2_with fail
                        go_roundw
                        case rel => exact ⟨k2 + 1, by go_num, hlt2, by rw [HNN.out]; exact HRW, HBW⟩
                        case measure => simp [intOf]; omega
                  · obtain ⟨wy, rfl⟩ : ∃ wy, wy = wr := ⟨_, rfl⟩
                    have hr := run_text wy (some ⟨wz.heap.size, 0, none⟩) _ Vs.size cap (upAt_length Vs k2) HRW.out.src
                    rw [upAt_all Vs k2 hlt2, HBV.out] at hr
                    have HBS := Lib.hid (show bigAll (ls.take (k + 1)) = bigAll (ls.take k) ++ [(midC, upF f.2)] by rw [big_snoc ls k f HF.out, HBF.out])
                    have HUS := Lib.hid (show strV (upF f.2) = .string ⟨(upF f.2).toArray⟩ from rfl)
                    obtain ⟨Us, hUs⟩ : ∃ Us : ByteArray, Us = ⟨(upF f.2).toArray⟩ := ⟨_, rfl⟩
                    rw [← hUs] at hr HUS
                    clear hUs
                    have TY := TZ.out.below HBW.out
                    have ba := (Below.refl wy.heap.size wy).alloc (Nat.le_refl _) (.cells #[.string ⟨#[67, 97, 99, 104, 101, 45, 67, 111, 110, 116, 114, 111, 108]⟩, .string Us] 33)
                    obtain ⟨v', w', o', hrun, T', _, _⟩ := (TY.below ba).swap.push (midC, upF f.2) wy.heap.size (by show Is _ _ _ [strV midC, strV (upF f.2)]; rw [HUS.out]; exact Is.made wy 33 [strV midC, .string Us]) HBL.out
                    have T2 := T'.swap
                    rw [← HBS.out] at T2
                    have TT := Lib.hid T2
                    have HR := Lib.hid hrun
                    clear ba hrun T' T2 TY HRW HBW TZ
                    go_wp2_with (at_builtin; refine append_by rfl (.tmp 110) (.tmp 114) 22 rfl _ _ v' w' rfl rfl HR.out ?_)
                    go_roundw
                    case rel => exact ⟨k + 1, oj, o', by go_num, hlt, TT⟩
                    case measure => simp [intOf]; omega
        · clear HT2
          obtain ⟨wo, rfl⟩ : ∃ wo, wo = wr := ⟨_, rfl⟩
          have TT := HT.out
          rw [List.take_of_length_le (by rw [HN.out]; omega)] at TT
          obtain ⟨A3, c3, hv3, s3⟩ := TT.own2.src (fun _ => True) (fun _ _ => trivial)
          obtain ⟨A4, c4, hv4, s4⟩ := TT.own.src (fun _ => True) (fun _ _ => trivial)
          obtain ⟨A5, c5, hv5, s5⟩ := TT.own1.src (fun _ => True) (fun _ _ => trivial)
          obtain ⟨l3, hl3⟩ : ∃ l, ls.reverse = l := ⟨_, rfl⟩
          obtain ⟨l4, hl4⟩ : ∃ l, apartAll ls = l := ⟨_, rfl⟩
          obtain ⟨l5, hl5⟩ : ∃ l, bigAll ls = l := ⟨_, rfl⟩
          have b3 : bulkF l3 ≤ 1000000000 := by have := bulk_perm (List.reverse_perm ls); rw [hl3] at this; have := HB.out; omega
          have b4 : bulkF l4 ≤ 1000000000 := by have := bulk_apart ls; rw [hl4] at this; have := HB.out; omega
          have b5 : bulkF l5 ≤ 1000000000 := by have := bulk_big ls; rw [hl5] at this; have := HB.out; omega
          obtain ⟨rq, hrq⟩ : ∃ rq, requestF ls = rq := ⟨_, rfl⟩
          obtain ⟨rs, hrs⟩ : ∃ rs, responseF ls = rs := ⟨_, rfl⟩
          have q3 : requestF l3 = rq := by rw [← hl3, req_back, hrq]
          have q4 : requestF l4 = rq := by rw [← hl4, req_apart, hrq]
          have q5 : requestF l5 = rq := by rw [← hl5, req_big, hrq]
          have p3 : responseF l3 = rs := by rw [← hl3, res_back, hrs]
          have p4 : responseF l4 = rs := by rw [← hl4, res_apart, hrs]
          have p5 : responseF l5 = rs := by rw [← hl5, res_big, hrs]
          rw [hl3] at s3 hv3
          rw [hl4] at s4 hv4
          rw [hl5] at s5 hv5
          obtain ⟨n3, hn3⟩ : ∃ n, l3.length = n := ⟨_, rfl⟩
          obtain ⟨n4, hn4⟩ : ∃ n, l4.length = n := ⟨_, rfl⟩
          obtain ⟨n5, hn5⟩ : ∃ n, l5.length = n := ⟨_, rfl⟩
          rw [hn3] at hv3
          rw [hn4] at hv4
          rw [hn5] at hv5
          subst hv3
          subst hv4
          subst hv5
          have BW := Lib.hid TT.bel
          have CQ := fun (W : World) (hW : Below w.heap.size w W) => request_any W A ls n c HN.out (by have := HB.out; omega) (HS.out.below hW)
          have CR := fun (W : World) (hW : Below w.heap.size w W) => response_any W A ls n c HN.out (by have := HB.out; omega) (HS.out.below hW)
          have C3 := fun (W : World) (hW : Below wo.heap.size wo W) => request_any W A3 l3 n3 c3 hn3 b3 (s3.below hW)
          have D3 := fun (W : World) (hW : Below wo.heap.size wo W) => response_any W A3 l3 n3 c3 hn3 b3 (s3.below hW)
          have C4 := fun (W : World) (hW : Below wo.heap.size wo W) => request_any W A4 l4 n4 c4 hn4 b4 (s4.below hW)
          have D4 := fun (W : World) (hW : Below wo.heap.size wo W) => response_any W A4 l4 n4 c4 hn4 b4 (s4.below hW)
          have C5 := fun (W : World) (hW : Below wo.heap.size wo W) => request_any W A5 l5 n5 c5 hn5 b5 (s5.below hW)
          have D5 := fun (W : World) (hW : Below wo.heap.size wo W) => response_any W A5 l5 n5 c5 hn5 b5 (s5.below hW)
          rw [hrq] at CQ
          rw [hrs] at CR
          rw [q3] at C3
          rw [q4] at C4
          rw [q5] at C5
          rw [p3] at D3
          rw [p4] at D4
          rw [p5] at D5
          simp only [Ctl.v, Ctl.cells] at CQ CR C3 C4 C5 D3 D4 D5
          have HCQ := Lib.hid CQ
          have HCR := Lib.hid CR
          have HC3 := Lib.hid C3
          have HC4 := Lib.hid C4
          have HC5 := Lib.hid C5
          have HD3 := Lib.hid D3
          have HD4 := Lib.hid D4
          have HD5 := Lib.hid D5
          clear CQ CR C3 C4 C5 D3 D4 D5 TT HT s3 s4 s5 hn3 hn4 hn5 b3 b4 b5 q3 q4 q5 p3 p4 p5 hrq hrs hl3 hl4 hl5
          go_wp2_with fail
          refine (HCQ.out wo BW.out).mono ?_
          rintro e w1 ⟨rfl, b1⟩
          have BW1 := Lib.hid (BW.out.trans (b1.mono BW.out.size))
          have BO1 := Lib.hid b1
          clear b1
          go_wp2_with fail
          refine (HCR.out w1 BW1.out).mono ?_
          rintro e w2 ⟨rfl, b2⟩
          have BW2 := Lib.hid (BW1.out.trans (b2.mono BW1.out.size))
          have BO2 := Lib.hid (BO1.out.trans (b2.mono BO1.out.size))
          clear b2
          have ba := ((Below.refl w2.heap.size w2).alloc (Nat.le_refl _) (.cells #[.bool rq.ns, .bool rq.nc, .bool rq.pv, .bool rq.pb, .bool rq.mu, .bool rq.on, .int .i64 rq.ma, .int .i64 rq.sh, .int .i64 rq.mf, .int .i64 rq.ms] 24)).alloc (by simp) (.cells #[.bool rs.ns, .bool rs.nc, .bool rs.pv, .bool rs.pb, .bool rs.mu, .bool rs.on, .int .i64 rs.ma, .int .i64 rs.sh, .int .i64 rs.mf, .int .i64 rs.ms] 24)
          have iq := (Is.made w2 24 [.bool rq.ns, .bool rq.nc, .bool rq.pv, .bool rq.pb, .bool rq.mu, .bool rq.on, .int .i64 rq.ma, .int .i64 rq.sh, .int .i64 rq.mf, .int .i64 rq.ms]).alloc (.cells #[.bool rs.ns, .bool rs.nc, .bool rs.pv, .bool rs.pb, .bool rs.mu, .bool rs.on, .int .i64 rs.ma, .int .i64 rs.sh, .int .i64 rs.mf, .int .i64 rs.ms] 24)
          have is0 := Is.made (w2.alloc (.cells #[.bool rq.ns, .bool rq.nc, .bool rq.pv, .bool rq.pb, .bool rq.mu, .bool rq.on, .int .i64 rq.ma, .int .i64 rq.sh, .int .i64 rq.mf, .int .i64 rq.ms] 24)) 24 [.bool rs.ns, .bool rs.nc, .bool rs.pv, .bool rs.pb, .bool rs.mu, .bool rs.on, .int .i64 rs.ma, .int .i64 rs.sh, .int .i64 rs.mf, .int .i64 rs.ms]
          rw [show (w2.alloc (.cells #[.bool rq.ns, .bool rq.nc, .bool rq.pv, .bool rq.pb, .bool rq.mu, .bool rq.on, .int .i64 rq.ma, .int .i64 rq.sh, .int .i64 rq.mf, .int .i64 rq.ms] 24)).heap.size = w2.heap.size + 1 by simp] at is0
          go_upto_region 25 with fail
          obtain ⟨X, hX⟩ : ∃ x, ((w2.alloc (.cells #[.bool rq.ns, .bool rq.nc, .bool rq.pv, .bool rq.pb, .bool rq.mu, .bool rq.on, .int .i64 rq.ma, .int .i64 rq.sh, .int .i64 rq.mf, .int .i64 rq.ms] 24)).alloc (.cells #[.bool rs.ns, .bool rs.nc, .bool rs.pv, .bool rs.pb, .bool rs.mu, .bool rs.on, .int .i64 rs.ma, .int .i64 rs.sh, .int .i64 rs.mf, .int .i64 rs.ms] 24)) = x := ⟨_, rfl⟩
          rw [hX] at ba iq is0 ⊢
          clear hX
          obtain ⟨gq, hgq⟩ : ∃ g, w2.heap.size = g := ⟨_, rfl⟩
          have BWX := Lib.hid (BW2.out.trans (ba.mono BW2.out.size))
          have BOX := Lib.hid (BO2.out.trans (ba.mono BO2.out.size))
          rw [hgq] at iq is0 ⊢
          have KK : ∀ W : World, Below X.heap.size X W → W.cell? ⟨gq, 0, none⟩ = some (.bool rq.ns) ∧ W.cell? ⟨gq, 1, none⟩ = some (.bool rq.nc) ∧ W.cell? ⟨gq, 2, none⟩ = some (.bool rq.pv) ∧ W.cell? ⟨gq, 3, none⟩ = some (.bool rq.pb) ∧ W.cell? ⟨gq, 4, none⟩ = some (.bool rq.mu) ∧ W.cell? ⟨gq, 5, none⟩ = some (.bool rq.on) ∧ W.cell? ⟨gq, 6, none⟩ = some (.int .i64 rq.ma) ∧ W.cell? ⟨gq, 7, none⟩ = some (.int .i64 rq.sh) ∧ W.cell? ⟨gq, 8, none⟩ = some (.int .i64 rq.mf) ∧ W.cell? ⟨gq, 9, none⟩ = some (.int .i64 rq.ms) ∧ W.cell? ⟨gq + 1, 0, none⟩ = some (.bool rs.ns) ∧ W.cell? ⟨gq + 1, 1, none⟩ = some (.bool rs.nc) ∧ W.cell? ⟨gq + 1, 2, none⟩ = some (.bool rs.pv) ∧ W.cell? ⟨gq + 1, 3, none⟩ = some (.bool rs.pb) ∧ W.cell? ⟨gq + 1, 4, none⟩ = some (.bool rs.mu) ∧ W.cell? ⟨gq + 1, 5, none⟩ = some (.bool rs.on) ∧ W.cell? ⟨gq + 1, 6, none⟩ = some (.int .i64 rs.ma) ∧ W.cell? ⟨gq + 1, 7, none⟩ = some (.int .i64 rs.sh) ∧ W.cell? ⟨gq + 1, 8, none⟩ = some (.int .i64 rs.mf) ∧ W.cell? ⟨gq + 1, 9, none⟩ = some (.int .i64 rs.ms) := fun W hW => by
            have h1 := iq.kept (Turn.of_below (S := fun _ => False) hW) (fun h => h)
            have h2 := is0.kept (Turn.of_below (S := fun _ => False) hW) (fun h => h)
            exact ⟨h1.cell 0, h1.cell 1, h1.cell 2, h1.cell 3, h1.cell 4, h1.cell 5, h1.cell 6, h1.cell 7, h1.cell 8, h1.cell 9, h2.cell 0, h2.cell 1, h2.cell 2, h2.cell 3, h2.cell 4, h2.cell 5, h2.cell 6, h2.cell 7, h2.cell 8, h2.cell 9⟩
          have B0 := Below.refl X.heap.size X
          have D0 : Below X.heap.size X X.drew := ⟨B0.os, B0.tape, B0.output, B0.size, B0.block⟩
          have k0 := KK _ B0
          have k1 := KK _ D0
          have hgd := ctlGuard
          have e1 := self_ctl rq
          have e2 := self_ctl rs
          clear ba hgq iq is0 B0
          go_region_held3 (fun w' => w'.cell? ⟨gq, 0, none⟩ = some (.bool rq.ns) ∧ w'.cell? ⟨gq, 1, none⟩ = some (.bool rq.nc) ∧ w'.cell? ⟨gq, 2, none⟩ = some (.bool rq.pv) ∧ w'.cell? ⟨gq, 3, none⟩ = some (.bool rq.pb) ∧ w'.cell? ⟨gq, 4, none⟩ = some (.bool rq.mu) ∧ w'.cell? ⟨gq, 5, none⟩ = some (.bool rq.on) ∧ w'.cell? ⟨gq, 6, none⟩ = some (.int .i64 rq.ma) ∧ w'.cell? ⟨gq, 7, none⟩ = some (.int .i64 rq.sh) ∧ w'.cell? ⟨gq, 8, none⟩ = some (.int .i64 rq.mf) ∧ w'.cell? ⟨gq, 9, none⟩ = some (.int .i64 rq.ms) ∧ w'.cell? ⟨gq + 1, 0, none⟩ = some (.bool rs.ns) ∧ w'.cell? ⟨gq + 1, 1, none⟩ = some (.bool rs.nc) ∧ w'.cell? ⟨gq + 1, 2, none⟩ = some (.bool rs.pv) ∧ w'.cell? ⟨gq + 1, 3, none⟩ = some (.bool rs.pb) ∧ w'.cell? ⟨gq + 1, 4, none⟩ = some (.bool rs.mu) ∧ w'.cell? ⟨gq + 1, 5, none⟩ = some (.bool rs.on) ∧ w'.cell? ⟨gq + 1, 6, none⟩ = some (.int .i64 rs.ma) ∧ w'.cell? ⟨gq + 1, 7, none⟩ = some (.int .i64 rs.sh) ∧ w'.cell? ⟨gq + 1, 8, none⟩ = some (.int .i64 rs.mf) ∧ w'.cell? ⟨gq + 1, 9, none⟩ = some (.int .i64 rs.ms)) (first | (with_reducible exact k0) | (with_reducible exact k1) | (with_reducible exact kA) | (with_reducible exact kB) | (with_reducible exact kC) | (with_reducible exact kD) | (with_reducible exact kE) | (with_reducible exact kF) | (with_reducible exact kG) | go_keep)
            (first
              | (go_at_call 7; (with_reducible refine (HC3.out X.drew (BOX.out.trans (D0.mono BOX.out.size))).mono ?_); rintro e wA ⟨rfl, b⟩; have dA := D0.trans (b.mono D0.size); have kA := KK _ dA)
              | (go_at_call 9; (with_reducible refine (HD3.out wA (BOX.out.trans (dA.mono BOX.out.size))).mono ?_); rintro e wB ⟨rfl, b⟩; have dB := dA.trans (b.mono dA.size); have kB := KK _ dB)
              | (go_at_call 7; (with_reducible refine (HC4.out wB (BOX.out.trans (dB.mono BOX.out.size))).mono ?_); rintro e wC ⟨rfl, b⟩; have dC := dB.trans (b.mono dB.size); have kC := KK _ dC)
              | (go_at_call 9; (with_reducible refine (HD4.out wC (BOX.out.trans (dC.mono BOX.out.size))).mono ?_); rintro e wD ⟨rfl, b⟩; have dD := dC.trans (b.mono dC.size); have kD := KK _ dD)
              | (go_at_call 7; (with_reducible refine (HC5.out wD (BOX.out.trans (dD.mono BOX.out.size))).mono ?_); rintro e wE ⟨rfl, b⟩; have dE := dD.trans (b.mono dD.size); have kE := KK _ dE)
              | (go_at_call 9; (with_reducible refine (HD5.out wE (BOX.out.trans (dE.mono BOX.out.size))).mono ?_); rintro e wF ⟨rfl, b⟩; have dF := dE.trans (b.mono dE.size); have kF := KK _ dF)
              | (go_at_call 12; (with_reducible refine (wakes_any wF).mono ?_); rintro e wG ⟨rfl, b⟩; have dG := dF.trans (b.mono dF.size); have kG := KK _ dG))
          all_goals
            go_wp2_with fail
            go_ret
            exact ⟨rfl, BWX.out.trans (dG.mono BWX.out.size)⟩
end Go.Proofs.YtkccmjeabkfmdaaDoor.Con
