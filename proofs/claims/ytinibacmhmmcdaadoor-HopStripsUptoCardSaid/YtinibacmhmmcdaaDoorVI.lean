/-
  strings.FieldsFunc parted at blanks: its second field is the second part (plain mathematics).
  Conditions: none.
-/
import Derived.Test.YtinibacmhmmcdaaDoorVH
import Derived.Test.YtinibacmhmmcdaaDoorUA
import Derived.Lib.FieldsP
namespace Go.Proofs.YtinibacmhmmcdaaDoor.Hop
open Go.RowKit

def blankR (r : Nat) : Bool := r == 32 || r == 9
/-- The fields of a text; st: what the present one has so far. -/
def flF : Option (List UInt8) → List UInt8 → List (List UInt8)
  | none, [] => []
  | some x, [] => [x]
  | none, c :: l => if blankB c = true then flF none l else flF (some [c]) l
  | some x, c :: l => if blankB c = true then x :: flF none l else flF (some (x ++ [c])) l
theorem fl_none (c : UInt8) (l : List UInt8) : flF none (c :: l) = if blankB c = true then flF none l else flF (some [c]) l := rfl
theorem fl_some (x : List UInt8) (c : UInt8) (l : List UInt8) : flF (some x) (c :: l) = if blankB c = true then x :: flF none l else flF (some (x ++ [c])) l := rfl
theorem fl_word : ∀ (y x l : List UInt8), (∀ c ∈ y, blankB c = false) → flF (some x) (y ++ l) = flF (some (x ++ y)) l
  | [], x, l, _ => by simp
  | c :: y, x, l, h => by
    rw [List.cons_append, fl_some, if_neg (by rw [h c (by simp)]; simp), fl_word y _ l (fun d hd => h d (by simp [hd]))]
    simp
theorem fl_begin (y l : List UInt8) (hne : y ≠ []) (h : ∀ c ∈ y, blankB c = false) : flF none (y ++ l) = flF (some y) l := by
  cases y with
  | nil => exact absurd rfl hne
  | cons c y =>
    rw [List.cons_append, fl_none, if_neg (by rw [h c (by simp)]; simp), fl_word y _ l (fun d hd => h d (by simp [hd]))]
    simp
theorem high_word (c : UInt8) (h : 128 ≤ c.toNat) : blankB c = false := by
  rw [blankB_nat]
  simp
  omega
theorem piece_extend (s : ByteArray) (f k n : Nat) (h : f ≤ k) : piece s f (k + n) = piece s f k ++ ((bl s).drop k).take n := by
  unfold piece
  rw [show k + n - f = (k - f) + n by omega, List.take_add, List.drop_drop, show f + (k - f) = k by omega]
theorem drop_extend (s : ByteArray) (k n : Nat) : (bl s).drop k = ((bl s).drop k).take n ++ (bl s).drop (k + n) := by
  rw [← List.drop_drop, List.take_append_drop]
theorem spans_fl (s : ByteArray) : ∀ (f pos : Nat) (st : Option Nat) (acc : List (Nat × Nat)), s.size ≤ f + pos → pos ≤ s.size → (∀ a, st = some a → a ≤ pos) →
    (Lib.closeSpans s (Lib.spansFromP blankR s f pos st acc)).map (fun x => piece s x.1 x.2) = acc.map (fun x => piece s x.1 x.2) ++ flF (st.map fun a => piece s a pos) ((bl s).drop pos) := by
  intro f
  induction f with
  | zero =>
    intro pos st acc h1 h2 h3
    obtain rfl : pos = s.size := by omega
    rw [List.drop_of_length_le (by rw [bl_length]; exact Nat.le_refl _)]
    cases st with
    | none => simp [Lib.spansFromP, Lib.closeSpans, flF]
    | some a => simp [Lib.spansFromP, Lib.closeSpans, flF]
  | succ f ih =>
    intro pos st acc h1 h2 h3
    by_cases hlt : pos < s.size
    · simp only [Lib.spansFromP, hlt, if_true]
      rcases decode_step s pos hlt with ⟨hc, hd⟩ | ⟨hc, r, n, hd, hr1, hr2, hn, hw⟩
      · rw [hd]
        simp only
        have hbb : blankR (s[pos]'hlt).toNat = blankB (s[pos]'hlt) := by
          rw [blankB_nat]
          unfold blankR
          rw [Bool.eq_iff_iff]
          simp
          omega
        rw [hbb, bl_drop s pos hlt]
        cases hb : blankB (s[pos]'hlt) with
        | true =>
          cases st with
          | none =>
            simp only [if_true, Option.map_none]
            rw [ih (pos + 1) none acc (by omega) (by omega) (fun _ h => by cases h), fl_none, if_pos hb]
            rfl
          | some a =>
            simp only [if_true, Option.map_some]
            rw [ih (pos + 1) none (acc ++ [(a, pos)]) (by omega) (by omega) (fun _ h => by cases h), fl_some, if_pos hb]
            simp
        | false =>
          cases st with
          | none =>
            simp only [Bool.false_eq_true, if_false, Option.map_none]
            rw [ih (pos + 1) (some pos) acc (by omega) (by omega) (fun a h => by cases h; omega), fl_none, if_neg (by rw [hb]; simp)]
            simp only [Option.map_some]
            rw [piece_step s pos pos (Nat.le_refl _) hlt, piece_self]
            rfl
          | some a =>
            simp only [Bool.false_eq_true, if_false, Option.map_some]
            have := h3 a rfl
            rw [ih (pos + 1) (some a) acc (by omega) (by omega) (fun b h => by cases h; omega), fl_some, if_neg (by rw [hb]; simp)]
            simp only [Option.map_some]
            rw [piece_step s a pos this hlt]
      · rw [hd]
        simp only
        have hbb : blankR r = false := by
          unfold blankR
          simp
          omega
        have hw2 : ∀ c ∈ ((bl s).drop pos).take (n + 1), blankB c = false := fun c hc => high_word c (hw c hc)
        have hne : ((bl s).drop pos).take (n + 1) ≠ [] := by
          intro h0
          have := congrArg List.length h0
          rw [List.length_take, List.length_drop, bl_length] at this
          simp at this
          omega
        rw [hbb, drop_extend s pos (n + 1)]
        cases st with
        | none =>
          simp only [Bool.false_eq_true, if_false, Option.map_none]
          rw [ih (pos + (n + 1)) (some pos) acc (by omega) (by omega) (fun a h => by cases h; omega), fl_begin _ _ hne hw2]
          simp only [Option.map_some]
          rw [piece_extend s pos pos (n + 1) (Nat.le_refl _), piece_self]
          rfl
        | some a =>
          simp only [Bool.false_eq_true, if_false, Option.map_some]
          have := h3 a rfl
          rw [ih (pos + (n + 1)) (some a) acc (by omega) (by omega) (fun b h => by cases h; omega), fl_word _ _ _ hw2]
          simp only [Option.map_some]
          rw [piece_extend s a pos (n + 1) this]
    · obtain rfl : pos = s.size := by omega
      rw [Lib.spansFromP_end _ _ _ _ _ _ hlt, List.drop_of_length_le (by rw [bl_length]; exact Nat.le_refl _)]
      cases st with
      | none => simp [Lib.closeSpans, flF]
      | some a => simp [Lib.closeSpans, flF]
theorem fields_fl (s : ByteArray) : (Lib.goFieldsP blankR s).map bl = flF none (bl s) := by
  unfold Lib.goFieldsP Lib.spansOfP
  have := spans_fl s s.size 0 none [] (by omega) (Nat.zero_le _) (fun _ h => by cases h)
  rw [List.map_map]
  rw [show (bl ∘ fun x : Nat × Nat => s.extract x.1 x.2) = fun x => piece s x.1 x.2 from funext fun x => extract_bl s x.1 x.2]
  rw [this]
  simp
/-- The first field, and the others. -/
theorem fl_some_split : ∀ (l x : List UInt8), flF (some x) l = (x ++ l.takeWhile wordB) :: flF none (l.dropWhile wordB)
  | [], x => by simp [flF]
  | c :: l, x => by
    rw [fl_some]
    cases hb : blankB c with
    | true =>
      rw [if_pos rfl, List.takeWhile_cons, List.dropWhile_cons, show wordB c = false by unfold wordB; rw [hb]; rfl]
      simp only [Bool.false_eq_true, if_false, List.append_nil]
      rw [fl_none, if_pos hb]
    | false =>
      rw [if_neg (by simp), fl_some_split l, List.takeWhile_cons, List.dropWhile_cons, show wordB c = true by unfold wordB; rw [hb]; rfl]
      simp
theorem fl_none_split : ∀ l : List UInt8, flF none l = if partF l = [] then [] else partF l :: flF none (restF l)
  | [] => by simp [flF, partF]
  | c :: l => by
    rw [fl_none]
    cases hb : blankB c with
    | true =>
      rw [if_pos rfl, fl_none_split l]
      have e1 : partF (c :: l) = partF l := by unfold partF; rw [List.dropWhile_cons, if_pos hb]
      have e2 : restF (c :: l) = restF l := by unfold restF; rw [List.dropWhile_cons, if_pos hb]
      rw [e1, e2]
    | false =>
      have hn : ¬ (blankB c = true) := by rw [hb]; simp
      have hw : wordB c = true := by unfold wordB; rw [hb]; rfl
      have e1 : partF (c :: l) = c :: l.takeWhile wordB := by rw [partF_is, List.dropWhile_cons, if_neg hn, List.takeWhile_cons, if_pos hw]
      have e2 : restF (c :: l) = l.dropWhile wordB := by rw [restF_is, List.dropWhile_cons, if_neg hn, List.dropWhile_cons, if_pos hw]
      rw [if_neg (by simp), fl_some_split, e1, e2, if_neg (by simp)]
      rfl
theorem part_none (l : List UInt8) (h : partF l = []) : restF l = [] := by
  rw [partF_is] at h
  rw [restF_is]
  cases hd : l.dropWhile blankB with
  | nil => rfl
  | cons c r =>
    have hc := trim_left l c r hd
    rw [hd, List.takeWhile_cons, if_pos (show wordB c = true by unfold wordB; rw [hc]; rfl)] at h
    cases h
/-- What the program asks of an element. -/
def askB (l : List (List UInt8)) : Bool := match l[1]? with
  | some x => lowF x == wordN
  | none => false
theorem ask_fl (l : List UInt8) : askB (flF none l) = mineB l := by
  unfold mineB secondF
  rw [fl_none_split l]
  by_cases h : partF l = []
  · rw [if_pos h, part_none l h]
    rfl
  · rw [if_neg h, fl_none_split (restF l)]
    by_cases h2 : partF (restF l) = []
    · rw [if_pos h2, h2]
      rfl
    · rw [if_neg h2]
      rfl
end Go.Proofs.YtinibacmhmmcdaaDoor.Hop
