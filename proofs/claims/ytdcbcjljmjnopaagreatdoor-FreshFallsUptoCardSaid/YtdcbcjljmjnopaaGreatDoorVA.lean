/-
  Plain mathematics of layer 11: elements of a name, names of one hop and names for all, what is stripped; how much a list holds.
  Conditions: those that each theorem names.
-/
import Derived.Test.YtdcbcjljmjnopaaGreatDoorHE
import Derived.Test.YtdcbcjljmjnopaaGreatDoorPB
import Derived.Test.YtdcbcjljmjnopaaGreatDoorRE
namespace Go.Proofs.YtdcbcjljmjnopaaGreatDoor.Hop
open Go.RowKit

def conN : List UInt8 := [99, 111, 110, 110, 101, 99, 116, 105, 111, 110]
def viaN : List UInt8 := [118, 105, 97]
def viaK : List UInt8 := [86, 105, 97]
def wordN : List UInt8 := [116, 111, 108, 108, 104, 111, 117, 115, 101]
def ownN : List UInt8 := [49, 46, 49, 32, 116, 111, 108, 108, 104, 111, 117, 115, 101]
def closeN : List UInt8 := [99, 108, 111, 115, 101]
def keepN : List UInt8 := [107, 101, 101, 112, 45, 97, 108, 105, 118, 101]
def allN : List (List UInt8) := [[97, 103, 101],
  [97, 117, 116, 104, 111, 114, 105, 122, 97, 116, 105, 111, 110],
  [99, 97, 99, 104, 101, 45, 99, 111, 110, 116, 114, 111, 108],
  [99, 111, 110, 116, 101, 110, 116, 45, 101, 110, 99, 111, 100, 105, 110, 103],
  [99, 111, 110, 116, 101, 110, 116, 45, 108, 111, 99, 97, 116, 105, 111, 110],
  [99, 111, 110, 116, 101, 110, 116, 45, 114, 97, 110, 103, 101],
  [99, 111, 110, 116, 101, 110, 116, 45, 116, 121, 112, 101],
  [100, 97, 116, 101],
  [101, 116, 97, 103],
  [101, 120, 112, 105, 114, 101, 115],
  [104, 111, 115, 116],
  [105, 102, 45, 109, 97, 116, 99, 104],
  [105, 102, 45, 109, 111, 100, 105, 102, 105, 101, 100, 45, 115, 105, 110, 99, 101],
  [105, 102, 45, 110, 111, 110, 101, 45, 109, 97, 116, 99, 104],
  [105, 102, 45, 114, 97, 110, 103, 101],
  [105, 102, 45, 117, 110, 109, 111, 100, 105, 102, 105, 101, 100, 45, 115, 105, 110, 99, 101],
  [108, 97, 115, 116, 45, 109, 111, 100, 105, 102, 105, 101, 100],
  [108, 111, 99, 97, 116, 105, 111, 110],
  [112, 114, 97, 103, 109, 97],
  [114, 97, 110, 103, 101],
  [118, 97, 114, 121],
  [118, 105, 97]]
def hopN : List (List UInt8) := [[99, 111, 110, 110, 101, 99, 116, 105, 111, 110], [107, 101, 101, 112, 45, 97, 108, 105, 118, 101], [112, 114, 111, 120, 121, 45, 99, 111, 110, 110, 101, 99, 116, 105, 111, 110], [112, 114, 111, 120, 121, 45, 97, 117, 116, 104, 101, 110, 116, 105, 99, 97, 116, 101], [112, 114, 111, 120, 121, 45, 97, 117, 116, 104, 111, 114, 105, 122, 97, 116, 105, 111, 110], [116, 101], [116, 114, 97, 105, 108, 101, 114], [116, 114, 97, 110, 115, 102, 101, 114, 45, 101, 110, 99, 111, 100, 105, 110, 103], [117, 112, 103, 114, 97, 100, 101]]
/-- The elements of a name. -/
def elemF (ls : List Fld) (nm : List UInt8) : List (List UInt8) := (getF ls nm).flatMap listF
/-- A name for all. -/
def forF (nm : List UInt8) : Bool := allN.any fun x => x == lowF nm
/-- The names of one hop. -/
def saidF (ls : List Fld) : List (List UInt8) := (elemF ls conN).filter fun x => !forF x
def namesF (ls : List Fld) : List (List UInt8) := hopN ++ saidF ls
def stripF (ls : List Fld) : List Fld := dropF ls (namesF ls)
def viaF (ls : List Fld) : List Fld := ls ++ [(viaK, ownN)]
/-- The second part of a text, parted at blanks. -/
def partF (l : List UInt8) : List UInt8 := (l.dropWhile blankB).takeWhile fun c => !blankB c
def restF (l : List UInt8) : List UInt8 := (l.dropWhile blankB).dropWhile fun c => !blankB c
def secondF (l : List UInt8) : List UInt8 := partF (restF l)
def mineB (x : List UInt8) : Bool := lowF (secondF x) == wordN
def loopsF (ls : List Fld) : Bool := (elemF ls viaN).any mineB
def hasB (ls : List Fld) (what : List UInt8) : Bool := (elemF ls conN).any fun x => lowF x == lowF what
def closesF (minor : Int) (ls : List Fld) : Bool := if hasB ls closeN = true then true else if hasB ls keepN = true then false else minor == 0

theorem get_app (a b : List Fld) (nm : List UInt8) : getF (a ++ b) nm = getF a nm ++ getF b nm := by simp [getF]
theorem elem_app (a b : List Fld) (nm : List UInt8) : elemF (a ++ b) nm = elemF a nm ++ elemF b nm := by simp [elemF, get_app]
theorem get_one (f : Fld) (nm : List UInt8) : getF [f] nm = if (lowF f.1 == lowF nm) = true then [f.2] else [] := by
  unfold getF
  rw [List.filter_cons, show sameN nm f = (lowF f.1 == lowF nm) from rfl]
  cases lowF f.1 == lowF nm <;> rfl
theorem elem_one (f : Fld) (nm : List UInt8) : elemF [f] nm = if (lowF f.1 == lowF nm) = true then listF f.2 else [] := by
  unfold elemF
  rw [get_one]
  split <;> simp
theorem get_low (ls : List Fld) (a b : List UInt8) (h : lowF a = lowF b) : getF ls a = getF ls b := by
  unfold getF
  congr 2
  funext f
  unfold sameN
  rw [h]
theorem elem_low (ls : List Fld) (a b : List UInt8) (h : lowF a = lowF b) : elemF ls a = elemF ls b := by
  unfold elemF
  rw [get_low ls a b h]
theorem for_low (a b : List UInt8) (h : lowF a = lowF b) : forF a = forF b := by
  unfold forF
  rw [h]
theorem gone_low (names : List (List UInt8)) (f g : Fld) (h : lowF f.1 = lowF g.1) : goneF names f = goneF names g := by
  unfold goneF
  rw [h]
theorem gone_mem {names : List (List UInt8)} {f : Fld} (x : List UInt8) (h : x ∈ names) (e : lowF f.1 = lowF x) : goneF names f = true :=
  List.any_eq_true.2 ⟨x, h, by rw [e]; simp⟩
theorem gone_app (a b : List (List UInt8)) (f : Fld) : goneF (a ++ b) f = (goneF a f || goneF b f) := by simp [goneF]
/-- Of what is dropped nothing is left. -/
theorem get_drop (ls : List Fld) (names : List (List UInt8)) (nm : List UInt8) (h : nm ∈ names) : getF (dropF ls names) nm = [] := by
  unfold getF dropF
  rw [List.filter_filter]
  have e : (fun f => sameN nm f && !goneF names f) = fun _ => false := by
    funext f
    cases hs : sameN nm f with
    | false => simp
    | true =>
      have hl : lowF f.1 = lowF nm := by simpa [sameN] using hs
      rw [gone_mem nm h hl]
      rfl
  rw [e]
  simp
theorem con_mem : conN ∈ hopN := by decide
theorem con_low : lowF conN = conN := by decide
theorem elem_strip (ls : List Fld) : elemF (stripF ls) conN = [] := by
  unfold elemF stripF
  rw [get_drop ls (namesF ls) conN (List.mem_append_left _ con_mem)]
  rfl
theorem names_strip (ls : List Fld) : namesF (stripF ls) = hopN := by
  unfold namesF saidF
  rw [elem_strip]
  simp
theorem drop_drop (ls : List Fld) (a b : List (List UInt8)) : dropF (dropF ls a) b = dropF ls (a ++ b) := by
  unfold dropF
  rw [List.filter_filter]
  congr 1
  funext f
  rw [gone_app]
  cases goneF a f <;> cases goneF b f <;> rfl
theorem drop_none (ls : List Fld) : dropF ls [] = ls := by
  unfold dropF goneF
  simp
theorem strip_twice (ls : List Fld) : stripF (stripF ls) = stripF ls := by
  show dropF (stripF ls) (namesF (stripF ls)) = stripF ls
  rw [names_strip]
  unfold stripF dropF
  rw [List.filter_filter]
  congr 1
  funext f
  unfold namesF
  rw [gone_app]
  cases goneF hopN f <;> simp
theorem strip_closes (ls : List Fld) (m : Int) : closesF m (stripF ls) = (m == 0) := by
  unfold closesF hasB
  rw [elem_strip]
  simp
/-- A name for all is not of one hop. -/
theorem for_stays (ls : List Fld) (f : Fld) (h : forF f.1 = true) : goneF (namesF ls) f = false := by
  cases hg : goneF (namesF ls) f with
  | false => rfl
  | true =>
    obtain ⟨x, hx, e⟩ := List.any_eq_true.1 hg
    have e : lowF f.1 = lowF x := by simpa using e
    rw [for_low _ _ e] at h
    rcases List.mem_append.1 hx with hx | hx
    · have : ∀ y ∈ hopN, forF y = false := by decide +kernel
      rw [this x hx] at h
      cases h
    · have := (List.mem_filter.1 hx).2
      rw [h] at this
      cases this
theorem con_goes (names : List (List UInt8)) (nm v : List UInt8) (h : lowF nm = conN) : goneF (hopN ++ names) (nm, v) = true :=
  gone_mem conN (List.mem_append_left _ con_mem) (by rw [con_low]; exact h)
theorem drop_app (a b : List Fld) (names : List (List UInt8)) : dropF (a ++ b) names = dropF a names ++ dropF b names := by simp [dropF]
theorem drop_one (f : Fld) (names : List (List UInt8)) : dropF [f] names = if goneF names f = true then [] else [f] := by
  unfold dropF
  rw [List.filter_cons]
  cases goneF names f <;> simp
/-- A field more, and one that names it: the elements. -/
theorem elem_more (ls : List Fld) (f : Fld) (cn : List UInt8) (hcn : lowF cn = conN) (ht : tokF f.1 = true) (hc : (lowF f.1 == lowF conN) = false) : elemF (ls ++ [f, (cn, f.1)]) conN = elemF ls conN ++ [f.1] := by
  rw [show ls ++ [f, (cn, f.1)] = ls ++ ([f] ++ [(cn, f.1)]) from rfl, elem_app, elem_app, elem_one, hc, elem_one]
  simp only
  rw [hcn, con_low, tok_list _ ht]
  simp
theorem strip_more_for (ls : List Fld) (f : Fld) (cn : List UInt8) (hcn : lowF cn = conN) (ht : tokF f.1 = true) (hc : (lowF f.1 == lowF conN) = false) (hf : forF f.1 = true) : stripF (ls ++ [f, (cn, f.1)]) = stripF ls ++ [f] := by
  have hn : namesF (ls ++ [f, (cn, f.1)]) = namesF ls := by
    unfold namesF saidF
    rw [elem_more ls f cn hcn ht hc, List.filter_append]
    simp [hf]
  unfold stripF
  rw [hn, show ls ++ [f, (cn, f.1)] = ls ++ ([f] ++ [(cn, f.1)]) from rfl, drop_app, drop_app, drop_one, for_stays ls f hf, drop_one, show goneF (namesF ls) (cn, f.1) = true from con_goes _ cn f.1 hcn]
  simp
theorem strip_more_not (ls : List Fld) (f : Fld) (cn : List UInt8) (hcn : lowF cn = conN) (ht : tokF f.1 = true) (hc : (lowF f.1 == lowF conN) = false) (hf : forF f.1 = false) : stripF (ls ++ [f, (cn, f.1)]) = dropF (stripF ls) [f.1] := by
  have hn : namesF (ls ++ [f, (cn, f.1)]) = namesF ls ++ [f.1] := by
    unfold namesF saidF
    rw [elem_more ls f cn hcn ht hc, List.filter_append]
    simp [hf]
  have e1 : goneF (namesF ls ++ [f.1]) f = true := gone_mem f.1 (by simp) rfl
  have e2 : goneF (namesF ls ++ [f.1]) (cn, f.1) = true := by
    unfold namesF
    rw [List.append_assoc]
    exact con_goes _ cn f.1 hcn
  unfold stripF
  rw [hn, drop_drop, show ls ++ [f, (cn, f.1)] = ls ++ ([f] ++ [(cn, f.1)]) from rfl, drop_app, drop_app, drop_one, e1, drop_one, e2]
  simp
/-- The values of a name for all stay, whatever connection names. -/
theorem get_judged (ls : List Fld) (cn v : List UInt8) (hcn : lowF cn = conN) (nm : List UInt8) (h : forF nm = true) : getF (stripF ((cn, v) :: ls)) nm = getF ls nm := by
  have hne : (lowF cn == lowF nm) = false := by
    cases hb : lowF cn == lowF nm with
    | false => rfl
    | true =>
      have e : lowF cn = lowF nm := by simpa using hb
      rw [← for_low _ _ e] at h
      have h2 : forF cn = forF conN := for_low _ _ (by rw [hcn, con_low])
      rw [h2] at h
      exact absurd h (by decide +kernel)
  unfold stripF dropF getF
  rw [List.filter_filter, List.filter_cons]
  have e0 : (sameN nm (cn, v) && !goneF (namesF ((cn, v) :: ls)) (cn, v)) = false := by
    unfold sameN
    rw [hne]
    rfl
  rw [e0]
  simp only [Bool.false_eq_true, if_false]
  congr 1
  apply List.filter_congr
  intro f _
  cases hs : sameN nm f with
  | false => rfl
  | true =>
    have hl : lowF f.1 = lowF nm := by simpa [sameN] using hs
    rw [for_stays _ f (by rw [for_low _ _ hl]; exact h)]
    rfl
theorem via_elems (ls : List Fld) (nm : List UInt8) (h : lowF nm = viaN) : elemF (viaF ls) nm = elemF ls nm ++ [ownN] := by
  unfold viaF
  rw [elem_app, elem_one, h]
  congr 1
theorem via_loops (ls : List Fld) : loopsF (viaF ls) = true := by
  unfold loopsF
  rw [via_elems ls viaN (by decide), List.any_append]
  simp [show mineB ownN = true by decide]
theorem other_elems (ls : List Fld) (f : Fld) (nm : List UInt8) (h : (lowF f.1 == lowF nm) = false) : elemF (ls ++ [f]) nm = elemF ls nm := by
  rw [elem_app, elem_one, h]
  simp
theorem other_loops (ls : List Fld) (f : Fld) (h : (lowF f.1 == viaN) = false) : loopsF (ls ++ [f]) = loopsF ls := by
  unfold loopsF
  rw [other_elems ls f viaN h]
theorem other_closes (ls : List Fld) (f : Fld) (m : Int) (h : (lowF f.1 == conN) = false) : closesF m (ls ++ [f]) = closesF m ls := by
  unfold closesF hasB
  rw [other_elems ls f conN h]
theorem said_closes (ls : List Fld) (m : Int) : closesF m ((conN, [97, 44, 32, 67, 76, 79, 83, 69]) :: ls) = true := by
  have e : elemF ((conN, [97, 44, 32, 67, 76, 79, 83, 69]) :: ls) conN = [[97], [67, 76, 79, 83, 69]] ++ elemF ls conN := by
    rw [show ((conN, [97, 44, 32, 67, 76, 79, 83, 69]) :: ls : List Fld) = [(conN, [97, 44, 32, 67, 76, 79, 83, 69])] ++ ls from rfl, elem_app, elem_one]
    congr 1
  unfold closesF hasB
  rw [e, List.any_append]
  rw [show ([[97], [67, 76, 79, 83, 69]] : List (List UInt8)).any (fun x => lowF x == lowF closeN) = true by decide]
  rfl

/-! How much -/
theorem trim_le (l : List UInt8) : (trimF l).length ≤ l.length := by
  have h1 : ∀ x : List UInt8, (x.dropWhile blankB).length ≤ x.length := fun x => (List.dropWhile_sublist _).length_le
  unfold trimF rtrim ltrim
  rw [List.length_reverse]
  refine Nat.le_trans (h1 _) ?_
  rw [List.length_reverse]
  exact h1 _
theorem elF_total (b : List UInt8) : ∀ n f k, f ≤ k → ((listFrom b n f k).map List.length).sum ≤ b.length - f
  | 0, f, k, _ => by simp [listFrom]
  | n + 1, f, k, hf => by
    have hx : (trimF ((b.drop f).take (k - f))).length ≤ k - f := Nat.le_trans (trim_le _) (by rw [List.length_take]; omega)
    have hx2 : (trimF ((b.drop f).take (k - f))).length ≤ b.length - f := Nat.le_trans (trim_le _) (by rw [List.length_take, List.length_drop]; omega)
    rw [listFrom]
    by_cases h : k < b.length
    · rw [if_pos h]
      split
      · exact elF_total b n f _ (by omega)
      · split
        · have := elF_total b n (k + 1) (k + 1) (by omega)
          rw [List.map_append, List.sum_append]
          split
          · simp; omega
          · simp; omega
        · exact elF_total b n f _ (by omega)
    · rw [if_neg h]
      split
      · split
        · simp
        · simp; omega
      · simp
theorem elF_count (b : List UInt8) : ∀ n f k, (listFrom b n f k).length + k ≤ b.length + 1 + (if b.length + 1 < k then k else 0)
  | 0, f, k => by simp [listFrom]; split <;> omega
  | n + 1, f, k => by
    rw [listFrom]
    by_cases h : k < b.length
    · rw [if_pos h]
      have hq := qskip_le (b.drop (k + 1))
      rw [List.length_drop] at hq
      split
      · have := elF_count b n f (k + 1 + qskip (b.drop (k + 1)))
        rw [if_neg (by omega)] at this ⊢
        omega
      · split
        · have := elF_count b n (k + 1) (k + 1)
          rw [List.length_append]
          rw [if_neg (by omega)] at this
          have e : (if b.length + 1 < k then k else 0) = 0 := if_neg (by omega)
          rw [e]
          split <;> simp <;> omega
        · have := elF_count b n f (k + 1)
          rw [if_neg (by omega)] at this ⊢
          omega
    · rw [if_neg h]
      split
      · split <;> simp <;> split <;> omega
      · simp
        split <;> omega
theorem list_count (b : List UInt8) : (listF b).length ≤ b.length + 1 := by
  have := elF_count b (b.length + 2) 0 0
  rw [if_neg (by omega)] at this
  simpa [listF] using this
theorem mem_sum : ∀ (l : List Nat) (x : Nat), x ∈ l → x ≤ l.sum
  | y :: r, x, h => by
    rw [List.sum_cons]
    rcases List.mem_cons.1 h with rfl | h
    · omega
    · have := mem_sum r x h; omega
theorem list_part (b x : List UInt8) (h : x ∈ listF b) : x.length ≤ b.length := by
  have h1 := elF_total b (b.length + 2) 0 0 (Nat.le_refl _)
  have h2 := mem_sum ((listF b).map List.length) x.length (List.mem_map.2 ⟨x, h, rfl⟩)
  unfold listF at h2
  exact Nat.le_trans h2 (Nat.le_trans h1 (by omega))
/-- How much a list of fields holds. -/
def bulkF (ls : List Fld) : Nat := (ls.map fun f => f.1.length + f.2.length + 3).sum
theorem bulk_mem {ls : List Fld} {f : Fld} (h : f ∈ ls) : f.1.length + f.2.length + 3 ≤ bulkF ls := mem_sum _ _ (List.mem_map.2 ⟨f, h, rfl⟩)
theorem bulk_cons (f : Fld) (r : List Fld) : bulkF (f :: r) = f.1.length + f.2.length + 3 + bulkF r := rfl
theorem bulk_app (a b : List Fld) : bulkF (a ++ b) = bulkF a + bulkF b := by simp [bulkF]
theorem bulk_len : ∀ ls : List Fld, ls.length ≤ bulkF ls
  | [] => Nat.le_refl _
  | f :: r => by
    have := bulk_len r
    rw [bulk_cons, List.length_cons]
    omega
theorem bulk_sub : ∀ {a b : List Fld}, a.Sublist b → bulkF a ≤ bulkF b
  | _, _, .slnil => Nat.le_refl _
  | _, _, .cons f h => by have := bulk_sub h; rw [bulk_cons]; omega
  | _, _, .cons_cons f h => by have := bulk_sub h; rw [bulk_cons, bulk_cons]; omega
theorem bulk_drop (ls : List Fld) (names : List (List UInt8)) : bulkF (dropF ls names) ≤ bulkF ls := bulk_sub List.filter_sublist
theorem bulk_strip (ls : List Fld) : bulkF (stripF ls) ≤ bulkF ls := bulk_drop _ _
theorem elem_bulk (nm : List UInt8) : ∀ ls : List Fld, (elemF ls nm).length ≤ bulkF ls
  | [] => by simp [getF, elemF]
  | f :: r => by
    have h := elem_bulk nm r
    have hc := list_count f.2
    rw [show (f :: r : List Fld) = [f] ++ r from rfl, elem_app, elem_one, List.length_append, bulk_app]
    rw [show bulkF [f] = f.1.length + f.2.length + 3 from by simp [bulkF]]
    split
    · omega
    · simp; omega
theorem get_mem {ls : List Fld} {nm x : List UInt8} (h : x ∈ getF ls nm) : ∃ f ∈ ls, f.2 = x := by
  unfold getF at h
  obtain ⟨f, hf, rfl⟩ := List.mem_map.1 h
  exact ⟨f, (List.mem_filter.1 hf).1, rfl⟩
theorem elem_part {ls : List Fld} {nm x : List UInt8} (h : x ∈ elemF ls nm) : x.length ≤ bulkF ls := by
  unfold elemF at h
  obtain ⟨v, hv, hx⟩ := List.mem_flatMap.1 h
  obtain ⟨f, hf, rfl⟩ := get_mem hv
  have := bulk_mem hf
  have := list_part _ _ hx
  omega
theorem slim_bulk {ls : List Fld} (h : bulkF ls ≤ 1000000000) : Slim ls := fun f hf => by
  have := bulk_mem hf
  omega
theorem get_len (ls : List Fld) (nm : List UInt8) : (getF ls nm).length ≤ ls.length := by
  unfold getF
  rw [List.length_map]
  exact List.length_filter_le _ _
theorem get_part {ls : List Fld} {nm x : List UInt8} (h : x ∈ getF ls nm) : x.length ≤ bulkF ls := by
  obtain ⟨f, hf, rfl⟩ := get_mem h
  have := bulk_mem hf
  omega
theorem said_sub (ls : List Fld) : ∀ x ∈ saidF ls, x.length ≤ bulkF ls := fun _ hx => elem_part (List.mem_filter.1 hx).1
theorem said_len (ls : List Fld) : (saidF ls).length ≤ bulkF ls := Nat.le_trans (List.length_filter_le _ _) (elem_bulk _ _)
theorem hop_part : ∀ x ∈ hopN, x.length ≤ 20 := by decide
theorem names_part (ls : List Fld) : ∀ x ∈ namesF ls, x.length ≤ bulkF ls + 20 := fun x hx => by
  rcases List.mem_append.1 hx with h | h
  · have := hop_part x h; omega
  · have := said_sub ls x h; omega
theorem names_len (ls : List Fld) : (namesF ls).length ≤ bulkF ls + 9 := by
  unfold namesF
  have := said_len ls
  rw [List.length_append, show hopN.length = 9 from rfl]
  omega
end Go.Proofs.YtdcbcjljmjnopaaGreatDoor.Hop
