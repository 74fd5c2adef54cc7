/-
  What the reference's Request answers.
  Conditions: those that each theorem names.
-/
import Derived.Test.YtemgfppclakdmaaGreatDoorPA
import Derived.Deep.RegionHeld3
namespace Go.Proofs.YtemgfppclakdmaaGreatDoor.Sta
open Go.RowKit

/-- The version with this minor; the minor of a version; what may be a target. -/
def versL (n : Nat) : List UInt8 := [72, 84, 84, 80, 47, 49, 46, if n = 0 then 48 else 49]
def minorF (l : List UInt8) : Option Nat := if l = versL 0 then some 0 else if l = versL 1 then some 1 else none
def targB (c : UInt8) : Bool := decide (33 ≤ c.toNat) && decide (c.toNat ≤ 126)
def targF (l : List UInt8) : Bool := !l.isEmpty && l.all targB
def minI (r : Option Nat) : Int := match r with | none => -1 | some n => (n : Int)
theorem minor_vers (n : Nat) (h : n ≤ 1) : minorF (versL n) = some n := by
  rcases (show n = 0 ∨ n = 1 by omega) with rfl | rfl <;> decide
theorem minor_some {l : List UInt8} {n : Nat} (h : minorF l = some n) : l = versL n ∧ n ≤ 1 := by
  unfold minorF at h
  split at h
  · rename_i h1
    injection h with h
    subst h
    exact ⟨h1, by omega⟩
  · split at h
    · rename_i h1
      injection h with h
      subst h
      exact ⟨h1, by omega⟩
    · cases h
theorem targ_mem {l : List UInt8} (h : targF l = true) : l ≠ [] ∧ ∀ c ∈ l, targB c = true := by
  unfold targF at h
  simp only [Bool.and_eq_true, Bool.not_eq_true', List.all_eq_true] at h
  exact ⟨by intro e; rw [e] at h; simp at h, h.2⟩
theorem eq_str {s : ByteArray} {l : List UInt8} : (s.toList == l) = decide (bl s = l) := by
  rw [Lib.toList_data]
  show (bl s == l) = _
  by_cases h : bl s = l
  · rw [h]; simp
  · rw [decide_eq_false h]; exact beq_false_of_ne h

theorem targ_no (l : List UInt8) (k : Nat) (c : UInt8) (h : l[k]? = some c) (hc : targB c = false) : targF l = false := by
  have : l.all targB = false := by
    rw [Bool.eq_false_iff]
    intro hall
    rw [List.all_eq_true.1 hall c (List.mem_of_getElem? h)] at hc
    cases hc
  unfold targF
  rw [this]
  simp
end Go.Proofs.YtemgfppclakdmaaGreatDoor.Sta

namespace Go.Proofs.YtemgfppclakdmaaGreatDoor.Sta
open Go.RowKit

/-- Where the blanks stand. -/
def cutsAt : Nat → List UInt8 → List Nat
  | _, [] => []
  | i, c :: r => if c = 32 then i :: cutsAt (i + 1) r else cutsAt (i + 1) r
theorem cuts_app : ∀ (m r : List UInt8) (i : Nat), 32 ∉ m → cutsAt i (m ++ r) = cutsAt (i + m.length) r
  | [], r, i, _ => by simp
  | c :: m, r, i, h => by
    have hc : ¬ c = 32 := fun e => h (by simp [e])
    have hm : 32 ∉ m := fun e => h (by simp [e])
    show (if c = 32 then _ else cutsAt (i + 1) (m ++ r)) = _
    rw [if_neg hc, cuts_app m r (i + 1) hm]
    congr 1
    simp
    omega
theorem cuts_blank (i : Nat) (r : List UInt8) : cutsAt i (32 :: r) = i :: cutsAt (i + 1) r := by simp [cutsAt]
theorem cuts_nil (l : List UInt8) (i : Nat) (h : 32 ∉ l) : cutsAt i l = [] := by
  have := cuts_app l [] i h
  rw [List.append_nil] at this
  rw [this]
  rfl
theorem cuts_none : ∀ (l : List UInt8) (i : Nat), cutsAt i l = [] → 32 ∉ l
  | [], _, _ => by simp
  | c :: l, i, h => by
    unfold cutsAt at h
    split at h
    · cases h
    · rename_i hc
      have := cuts_none l (i + 1) h
      simp only [List.mem_cons, not_or]
      exact ⟨fun e => hc e.symm, this⟩
theorem cuts_cons : ∀ (l : List UInt8) (i a : Nat) (rest : List Nat), cutsAt i l = a :: rest → ∃ m r, l = m ++ 32 :: r ∧ 32 ∉ m ∧ a = i + m.length ∧ cutsAt (a + 1) r = rest
  | [], i, a, rest, h => by cases h
  | c :: l, i, a, rest, h => by
    unfold cutsAt at h
    split at h
    · rename_i hc
      injection h with h1 h2
      subst h1 hc
      exact ⟨[], l, rfl, by simp, by simp, h2⟩
    · rename_i hc
      obtain ⟨m, r, h1, h2, h3, h4⟩ := cuts_cons l (i + 1) a rest h
      refine ⟨c :: m, r, by rw [h1]; rfl, ?_, by simp; omega, h4⟩
      simp only [List.mem_cons, not_or]
      exact ⟨fun e => hc e.symm, h2⟩
theorem cuts_snoc : ∀ (l : List UInt8) (c : UInt8) (i : Nat), cutsAt i (l ++ [c]) = cutsAt i l ++ (if c = 32 then [i + l.length] else [])
  | [], c, i => by
    show (if c = 32 then _ else _) = _
    split <;> simp [cutsAt]
  | d :: l, c, i => by
    show (if d = 32 then i :: cutsAt (i + 1) (l ++ [c]) else cutsAt (i + 1) (l ++ [c])) = (if d = 32 then i :: cutsAt (i + 1) l else cutsAt (i + 1) l) ++ _
    rw [cuts_snoc l c (i + 1)]
    have e : i + 1 + l.length = i + (d :: l).length := by simp; omega
    rw [e]
    split <;> simp
theorem cuts_le (l : List UInt8) (i : Nat) : (cutsAt i l).length ≤ l.length := by
  induction l generalizing i with
  | nil => simp [cutsAt]
  | cons c l ih =>
    unfold cutsAt
    have := ih (i + 1)
    split <;> simp <;> omega

/-- A request's line: its method, target, minor. -/
def reqF (l : List UInt8) : Option (List UInt8 × List UInt8 × Nat) := match cutsAt 0 l with
  | [a, b] => match minorF (l.drop (b + 1)) with
    | some n => if l.length ≤ 512 ∧ tokF (l.take a) = true ∧ a ≤ 32 ∧ targF ((l.drop (a + 1)).take (b - (a + 1))) = true then some (l.take a, (l.drop (a + 1)).take (b - (a + 1)), n) else none
    | none => none
  | _ => none
def reqL (m t : List UInt8) (n : Nat) : List UInt8 := m ++ 32 :: (t ++ 32 :: versL n)
theorem tok_blank {l : List UInt8} (h : tokF l = true) : (32 : UInt8) ∉ l := fun hm => by
  have := (tok_mem l h).2 32 hm
  revert this
  decide
theorem targ_blank {l : List UInt8} (h : targF l = true) : (32 : UInt8) ∉ l := fun hm => by
  have := (targ_mem h).2 32 hm
  revert this
  decide
theorem vers_blank (n : Nat) : (32 : UInt8) ∉ versL n := by
  unfold versL
  split <;> decide
theorem cuts_two {l : List UInt8} {a b : Nat} (h : cutsAt 0 l = [a, b]) : ∃ m t r, l = m ++ 32 :: (t ++ 32 :: r) ∧ 32 ∉ m ∧ 32 ∉ t ∧ 32 ∉ r ∧ a = m.length ∧ b = m.length + 1 + t.length := by
  obtain ⟨m, r1, h1, h2, h3, h4⟩ := cuts_cons l 0 a [b] h
  obtain ⟨t, r, h5, h6, h7, h8⟩ := cuts_cons r1 (a + 1) b [] h4
  exact ⟨m, t, r, by rw [h1, h5], h2, h6, cuts_none r _ h8, by omega, by omega⟩
theorem parts_two (m t r : List UInt8) : (m ++ 32 :: (t ++ 32 :: r)).take m.length = m ∧ ((m ++ 32 :: (t ++ 32 :: r)).drop (m.length + 1)).take (m.length + 1 + t.length - (m.length + 1)) = t ∧ (m ++ 32 :: (t ++ 32 :: r)).drop (m.length + 1 + t.length + 1) = r := by
  have h1 : (m ++ 32 :: (t ++ 32 :: r)).drop (m.length + 1) = t ++ 32 :: r := by
    rw [show m ++ 32 :: (t ++ 32 :: r) = (m ++ [32]) ++ (t ++ 32 :: r) by simp, List.drop_left' (by simp)]
  refine ⟨List.take_left' rfl, ?_, ?_⟩
  · rw [h1, show m.length + 1 + t.length - (m.length + 1) = t.length by omega]
    exact List.take_left' rfl
  · rw [show m.length + 1 + t.length + 1 = (m.length + 1) + (t.length + 1) by omega, ← List.drop_drop, h1, show t ++ 32 :: r = (t ++ [32]) ++ r by simp, List.drop_left' (by simp)]
theorem req_iff (l m t : List UInt8) (n : Nat) : reqF l = some (m, t, n) ↔ l = reqL m t n ∧ tokF m = true ∧ m.length ≤ 32 ∧ targF t = true ∧ n ≤ 1 ∧ l.length ≤ 512 := by
  constructor
  · intro h
    unfold reqF at h
    split at h
    · rename_i a b hc
      obtain ⟨m', t', r, hl, _, _, _, ha, hb⟩ := cuts_two hc
      obtain ⟨p1, p2, p3⟩ := parts_two m' t' r
      subst ha hb
      rw [hl, p1, p2, p3] at h
      split at h
      · rename_i n' hn
        split at h
        · rename_i hh
          simp only [Option.some.injEq, Prod.mk.injEq] at h
          obtain ⟨rfl, rfl, rfl⟩ := h
          obtain ⟨hv, hn1⟩ := minor_some hn
          obtain ⟨q1, q2, q3, q4⟩ := hh
          refine ⟨by rw [hl, hv]; rfl, q2, q3, q4, hn1, by rw [hl]; exact q1⟩
        · cases h
      · cases h
    · cases h
  · rintro ⟨hl, h1, h2, h3, h4, h5⟩
    have hc : cutsAt 0 l = [m.length, m.length + 1 + t.length] := by
      rw [hl]
      unfold reqL
      rw [cuts_app m _ 0 (tok_blank h1), cuts_blank, cuts_app t _ _ (targ_blank h3), cuts_blank, cuts_nil _ _ (vers_blank n)]
      simp
    obtain ⟨p1, p2, p3⟩ := parts_two m t (versL n)
    unfold reqF
    rw [hc]
    simp only
    have hl' : l = m ++ 32 :: (t ++ 32 :: versL n) := hl
    rw [hl', p1, p2, p3, minor_vers n h4]
    simp only
    rw [if_pos ⟨by rw [← hl']; exact h5, h1, h2, h3⟩]

/-- A response's line: its minor, status, reason. -/
def digB (c : UInt8) : Bool := decide (48 ≤ c.toNat) && decide (c.toNat ≤ 57)
def digL (n : Nat) : List UInt8 := [UInt8.ofNat (48 + n / 100), UInt8.ofNat (48 + n / 10 % 10), UInt8.ofNat (48 + n % 10)]
def statOf (a b c : UInt8) : Nat := 100 * (a.toNat - 48) + 10 * (b.toNat - 48) + (c.toNat - 48)
def statF (l : List UInt8) : Option (Nat × Nat × List UInt8) := match l with
  | v0 :: v1 :: v2 :: v3 :: v4 :: v5 :: v6 :: v7 :: s0 :: a :: b :: c :: s1 :: r => match minorF [v0, v1, v2, v3, v4, v5, v6, v7] with
    | some n => if s0 = 32 ∧ s1 = 32 ∧ digB a = true ∧ digB b = true ∧ digB c = true ∧ 100 ≤ statOf a b c ∧ statOf a b c ≤ 599 ∧ visF r = true ∧ l.length ≤ 512 then some (n, statOf a b c, r) else none
    | none => none
  | _ => none
def statL (n st : Nat) (r : List UInt8) : List UInt8 := versL n ++ 32 :: (digL st ++ 32 :: r)
theorem dig_of (k : Nat) (h : k ≤ 9) : (UInt8.ofNat (48 + k)).toNat = 48 + k := UInt8.toNat_ofNat_of_lt' (by show 48 + k < 256; omega)
theorem dig_back (c : UInt8) (h : digB c = true) : UInt8.ofNat (48 + (c.toNat - 48)) = c := by
  unfold digB at h
  simp only [Bool.and_eq_true, decide_eq_true_eq] at h
  rw [show 48 + (c.toNat - 48) = c.toNat by omega]
  simp
theorem stat_iff (l r : List UInt8) (n st : Nat) : statF l = some (n, st, r) ↔ l = statL n st r ∧ n ≤ 1 ∧ 100 ≤ st ∧ st ≤ 599 ∧ visF r = true ∧ l.length ≤ 512 := by
  constructor
  · intro h
    unfold statF at h
    split at h
    · rename_i v0 v1 v2 v3 v4 v5 v6 v7 s0 a b c s1 r'
      split at h
      · rename_i n' hn
        split at h
        · rename_i hh
          simp only [Option.some.injEq, Prod.mk.injEq] at h
          obtain ⟨rfl, rfl, rfl⟩ := h
          obtain ⟨rfl, rfl, d1, d2, d3, h1, h2, h3, h4⟩ := hh
          obtain ⟨hv, hn1⟩ := minor_some hn
          refine ⟨?_, hn1, h1, h2, h3, h4⟩
          unfold statL
          rw [← hv]
          have e1 := dig_back a d1
          have e2 := dig_back b d2
          have e3 := dig_back c d3
          have b1 : a.toNat - 48 ≤ 9 := by unfold digB at d1; simp only [Bool.and_eq_true, decide_eq_true_eq] at d1; omega
          have b2 : b.toNat - 48 ≤ 9 := by unfold digB at d2; simp only [Bool.and_eq_true, decide_eq_true_eq] at d2; omega
          have b3 : c.toNat - 48 ≤ 9 := by unfold digB at d3; simp only [Bool.and_eq_true, decide_eq_true_eq] at d3; omega
          have q1 : statOf a b c / 100 = a.toNat - 48 := by unfold statOf; omega
          have q2 : statOf a b c / 10 % 10 = b.toNat - 48 := by unfold statOf; omega
          have q3 : statOf a b c % 10 = c.toNat - 48 := by unfold statOf; omega
          unfold digL
          rw [q1, q2, q3, e1, e2, e3]
          rfl
        · cases h
      · cases h
    · cases h
  · rintro ⟨hl, h1, h2, h3, h4, h5⟩
    have d1 : st / 100 ≤ 9 := by omega
    have d2 : st / 10 % 10 ≤ 9 := by omega
    have d3 : st % 10 ≤ 9 := by omega
    have e1 := dig_of _ d1
    have e2 := dig_of _ d2
    have e3 := dig_of _ d3
    have hv : minorF (versL n) = some n := minor_vers n h1
    have hs : statOf (UInt8.ofNat (48 + st / 100)) (UInt8.ofNat (48 + st / 10 % 10)) (UInt8.ofNat (48 + st % 10)) = st := by
      unfold statOf
      rw [e1, e2, e3]
      omega
    have hl' : l = 72 :: 84 :: 84 :: 80 :: 47 :: 49 :: 46 :: (if n = 0 then 48 else 49) :: 32 :: UInt8.ofNat (48 + st / 100) :: UInt8.ofNat (48 + st / 10 % 10) :: UInt8.ofNat (48 + st % 10) :: 32 :: r := hl
    have hd : ∀ k, k ≤ 9 → digB (UInt8.ofNat (48 + k)) = true := fun k hk => by
      unfold digB
      rw [dig_of k hk]
      simp
      omega
    rw [hl']
    unfold statF
    simp only
    rw [show ([72, 84, 84, 80, 47, 49, 46, if n = 0 then 48 else 49] : List UInt8) = versL n from rfl, hv]
    simp only
    rw [hs, if_pos ⟨trivial, trivial, hd _ d1, hd _ d2, hd _ d3, h2, h3, h4, by rw [← hl']; exact h5⟩]
/-- No line is both. -/
theorem never_both (l : List UInt8) (a : List UInt8 × List UInt8 × Nat) (b : Nat × Nat × List UInt8) (h1 : reqF l = some a) (h2 : statF l = some b) : False := by
  obtain ⟨m, t, n⟩ := a
  obtain ⟨k, s, r⟩ := b
  obtain ⟨e1, t1, _⟩ := (req_iff l m t n).1 h1
  obtain ⟨e2, _⟩ := (stat_iff l r k s).1 h2
  rw [e1] at e2
  unfold reqL statL at e2
  have hs : (47 : UInt8) ∉ m := fun hm => by
    have := (tok_mem m t1).2 47 hm
    revert this
    decide
  have hm32 := tok_blank t1
  match m, hs, hm32, e2 with
  | [], _, _, e => exact absurd e (by simp [versL])
  | [_], _, _, e => simp [versL] at e
  | [_, _], _, _, e => simp [versL] at e
  | [_, _, _], _, _, e => simp [versL] at e
  | [_, _, _, _], _, _, e => simp [versL] at e
  | _ :: _ :: _ :: _ :: c :: _, hs, _, e =>
    simp [versL] at e
    exact hs (by simp [e.2.2.2.2.1])
end Go.Proofs.YtemgfppclakdmaaGreatDoor.Sta

namespace Go.Proofs.YtemgfppclakdmaaGreatDoor.Sta
open Go.RowKit

set_option maxHeartbeats 1000000 in
theorem rminor_any (s : ByteArray) (w : World) : Calls Tryz.prog 59 #[.string s] w fun e w' => e = .returned (.int .i64 (minI (minorF (bl s)))) ∧ w = w' := by
  by_cases h0 : bl s = versL 0
  · have e0 : (s.toList == [72, 84, 84, 80, 47, 49, 46, 48]) = true := by rw [eq_str]; exact decide_eq_true h0
    have HM := Lib.hid (show minI (minorF (bl s)) = 0 by unfold minorF; rw [if_pos h0]; rfl)
    clear h0
    go_enter Tryz.func59, Tryz.ntmps59
    go_wp2_with fail
    go_ret
    exact ⟨by rw [HM.out]; rfl, rfl⟩
  · have e0 : (s.toList == [72, 84, 84, 80, 47, 49, 46, 48]) = false := by rw [eq_str]; exact decide_eq_false h0
    by_cases h1 : bl s = versL 1
    · have e1 : (s.toList == [72, 84, 84, 80, 47, 49, 46, 49]) = true := by rw [eq_str]; exact decide_eq_true h1
      have HM := Lib.hid (show minI (minorF (bl s)) = 1 by unfold minorF; rw [if_neg h0, if_pos h1]; rfl)
      clear h0 h1
      go_enter Tryz.func59, Tryz.ntmps59
      go_wp2_with fail
      go_ret
      exact ⟨by rw [HM.out]; rfl, rfl⟩
    · have e1 : (s.toList == [72, 84, 84, 80, 47, 49, 46, 49]) = false := by rw [eq_str]; exact decide_eq_false h1
      have HM := Lib.hid (show minI (minorF (bl s)) = -1 by unfold minorF; rw [if_neg h0, if_neg h1]; rfl)
      clear h0 h1
      go_enter Tryz.func59, Tryz.ntmps59
      go_wp2_with fail
      go_ret
      exact ⟨by rw [HM.out]; rfl, rfl⟩

set_option maxHeartbeats 2000000 in
theorem rtarget_any (s : ByteArray) (w : World) (hs : s.size ≤ 140737488355328) : Calls Tryz.prog 61 #[.string s] w fun e w' => e = .returned (.bool (targF (bl s))) ∧ w = w' := by
  go_enter Tryz.func61, Tryz.ntmps61
  go_wp2_with fail
  go_loopw [3] (fun vi wr => ∃ k : Nat, vi = .int .i64 (k : Int) ∧ k ≤ s.size ∧ Hid (((bl s).take k).all targB = true) ∧ w = wr) (fun vi _ => s.size - (intOf vi).toNat)
  case atStart => exact ⟨0, rfl, Nat.zero_le _, Lib.hid rfl, rfl⟩
  case round =>
    obtain ⟨k, rfl, hk, HA, rfl⟩ := hrel
    by_cases hlt : k < s.size
    · have HTK := Lib.hid (bl_take s k hlt)
      have HG := Lib.hid (bl_get s k hlt)
      by_cases h1 : (s[k].toNat : Int) < 33
      · have HN := Lib.hid (targ_no (bl s) k _ HG.out (by unfold targB; rw [decide_eq_false (by omega)]; rfl))
        clear HTK HG
        go_wp2_with fail
        go_ret
        exact ⟨ret_bool HN.out.symm, rfl⟩
      · by_cases h2 : (126 : Int) < (s[k].toNat : Int)
        · have HN := Lib.hid (targ_no (bl s) k _ HG.out (by unfold targB; rw [decide_eq_false (show ¬ s[k].toNat ≤ 126 by omega)]; simp))
          clear HTK HG
          go_wp2_with fail
          go_ret
          exact ⟨ret_bool HN.out.symm, rfl⟩
        · have HN := Lib.hid (show ((bl s).take (k + 1)).all targB = true by rw [HTK.out, List.all_append, HA.out]; simp [targB]; omega)
          clear HTK HG
          go_wp2_with fail
          go_roundw
          case rel => exact ⟨k + 1, by go_num, hlt, HN, trivial⟩
          case measure => simp [intOf]; omega
    · have HF := Lib.hid (show targF (bl s) = decide (0 < s.size) by
        have h1 := HA.out
        rw [List.take_of_length_le (by rw [bl_length]; omega)] at h1
        unfold targF
        rw [h1, ← bl_length]
        cases bl s <;> simp)
      go_wp2_with fail
      go_ret
      exact ⟨ret_bool (by rw [HF.out]), rfl⟩
end Go.Proofs.YtemgfppclakdmaaGreatDoor.Sta

namespace Go.Proofs.YtemgfppclakdmaaGreatDoor.Sta
open Go.RowKit

theorem results_tmp4 {fn : Func} {t u v x : Tmp} (h : fn.results = #[.tmp t, .tmp u, .tmp v, .tmp x]) (tmps : Array Value) (P : Program) (w : World) :
    (results fn tmps).run P w = .ok (.tuple #[tmps.getD t undef, tmps.getD u undef, tmps.getD v undef, tmps.getD x undef]) w := by
  simp [results, h]
theorem own_turnS {W wr w' : World} {o o' : Option Nat} (hB : Below W.heap.size W wr) (ho : ∀ b, o = some b → W.heap.size ≤ b) (ht : Turn (fun b => o = some b) wr w') (ho' : ∀ b, o' = some b → o = some b ∨ wr.heap.size ≤ b) :
    Below W.heap.size W w' ∧ ∀ b, o' = some b → W.heap.size ≤ b := by
  have := hB.size
  refine ⟨hB.trans ⟨ht.os, ht.tape, ht.output, ht.size, fun b hb => ht.block b (by omega) (fun h => by have := ho b h; omega)⟩, fun b hb => ?_⟩
  rcases ho' b hb with h | h
  · exact ho b h
  · omega
def intV (n : Nat) : Value := .int .i64 (n : Int)
/-- The slice value v is the call's own, at block o (none: nil), and has the numbers ls. -/
def OwnI (w : World) (v : Value) (o : Option Nat) (ls : List Nat) : Prop := w.ownsRow 0 3 1 v ls.length (ls.map intV) ∧ v.ownBlock = o
theorem OwnI.nil (w : World) : OwnI w (.slice none 0 0) none [] := ⟨⟨by simp, .inl ⟨rfl, rfl⟩⟩, rfl⟩
theorem OwnI.kept {w w' : World} {v : Value} {o : Option Nat} {ls : List Nat} {S : Nat → Prop} (h : OwnI w v o ls) (ht : Turn S w w') (hS : ∀ k, o = some k → ¬ S k) : OwnI w' v o ls := by
  obtain ⟨⟨h1, h2⟩, h3⟩ := h
  refine ⟨⟨h1, ?_⟩, h3⟩
  rcases h2 with h2 | ⟨g, cap, cur, hv, hg, hh, r⟩
  · exact .inl h2
  · refine .inr ⟨g, cap, cur, hv, hg, ?_, r⟩
    have hlt : g < w.heap.size := (Array.getElem?_eq_some_iff.1 hh).1
    rw [ht.block g hlt (hS g (by rw [← h3, hv]; rfl))]
    exact hh
/-- Its form, and what it reads. -/
theorem OwnI.cells {w : World} {v : Value} {o : Option Nat} {ls : List Nat} (h : OwnI w v o ls) : ∃ A c, v = .slice A ls.length c ∧ (0 < ls.length → ∃ g, A = some ⟨g, 0, none⟩ ∧ ∀ (i n : Nat), ls[i]? = some n → w.cell? ⟨g, i, none⟩ = some (.int .i64 (n : Int))) := by
  obtain ⟨⟨h1, h2⟩, h3⟩ := h
  rcases h2 with ⟨hv, hn⟩ | ⟨g, cap, cur, hv, _, hh, _, _, hsz, htk⟩
  · exact ⟨none, 0, by rw [hv, hn], fun h => by omega⟩
  · refine ⟨some ⟨g, 0, none⟩, cap, hv, fun _ => ⟨g, rfl, fun i n hn => ?_⟩⟩
    rw [cell_of_row w g i cur 3 (0, 0) hh, ← Array.getElem?_toList]
    have hu : (ls.map intV)[i]? = some (intV n) := by simp [hn]
    rw [← htk, List.getElem?_take] at hu
    split at hu
    · exact hu
    · cases hu
theorem intInfo : (Tryz.prog.info? 3).map (fun i => (i.zero, i.size, i.bytes)) = some (some (.int .i64 0), 1, 8) := by kernel_rfl
theorem intParts : ∃ i, Tryz.prog.info? 3 = some i ∧ i.zero = some (.int .i64 0) ∧ i.size = 1 ∧ i.bytes = 8 := by
  obtain ⟨i, hi, h⟩ := Option.map_eq_some_iff.1 intInfo
  simp only [Prod.mk.injEq] at h
  exact ⟨i, hi, h.1, h.2.1, h.2.2⟩
/-- append(v, x), x laid down in a block of one cell. -/
theorem run_push_int (w : World) (v : Value) (o : Option Nat) (ls : List Nat) (x : Nat) (h : OwnI w v o ls) (hlen : (ls.length + 1) * 8 ≤ 140737488355328) :
    ∃ (v' : Value) (w' : World) (o' : Option Nat), (Builtin.append_ #[118, 118] 118 #[v, .slice (some ⟨w.heap.size, 0, none⟩) 1 1]).run Tryz.prog (w.alloc (.cells #[.int .i64 (x : Int)] 3)) = .ok v' w' ∧ OwnI w' v' o' (ls ++ [x]) ∧
      Turn (fun k => o = some k) w w' ∧ (∀ k, o' = some k → o = some k ∨ w.heap.size ≤ k) := by
  have t0 : Turn (fun _ => False) w (w.alloc (.cells #[.int .i64 (x : Int)] 3)) := (Turn.refl _ _).alloc _
  have hi : Is (w.alloc (.cells #[.int .i64 (x : Int)] 3)) w.heap.size 3 [intV x] := Is.made w 3 [intV x]
  obtain ⟨i, hin, hz, hsz, hby⟩ := intParts
  obtain ⟨hown, ho⟩ := h.kept t0 (fun _ _ h => h)
  obtain ⟨v', w', hrun, h2, h3, _, h5⟩ := run_append_own_at (P := Tryz.prog) (w.alloc (.cells #[.int .i64 (x : Int)] 3)) 0 118 118 3 i (.int .i64 0) 1 8 Tryz.underlying118 hin hz hsz hby rfl (by omega) v ls.length (ls.map intV) hown ⟨w.heap.size, 0, none⟩ 1 1 [intV x]
    rfl (fun j u hu => by rw [add_at, Nat.zero_add, hi.cell]; exact hu) (fun u hu => by simp at hu; subst hu; rfl) (by simp only [maxLen]; omega) (by omega) (Nat.zero_le _)
  refine ⟨v', w', v'.ownBlock, hrun, ⟨?_, rfl⟩, (t0.mono (fun _ _ h => h.elim)).trans (Turn.of_grown (S := fun k => o = some k) h3 (fun k hk => by rw [← ho]; exact hk)) (fun _ _ h => h), fun k hk => ?_⟩
  · rw [List.length_append, List.map_append]
    exact h2
  · rcases h5 with h | h
    · left; rw [← ho, ← h, hk]
    · right
      rw [h] at hk
      injection hk with hk
      simp at hk
      omega

/-- What Request tells. -/
def ReqGot (r : Option (List UInt8 × List UInt8 × Nat)) (w : World) (e : Ending) (w' : World) : Prop :=
  Below w.heap.size w w' ∧ match r with
    | none => e = .returned (.tuple #[.string ⟨#[]⟩, .string ⟨#[]⟩, .int .i64 0, .int .i64 5])
    | some (m, t, n) => e = .returned (.tuple #[.string ⟨m.toArray⟩, .string ⟨t.toArray⟩, .int .i64 (n : Int), .int .i64 0])
theorem byte_32 (c : UInt8) : (c = 32) = ((c.toNat : Int) = 32) := by
  rw [eq_iff_iff]
  constructor
  · rintro rfl
    rfl
  · intro h
    apply UInt8.toNat_inj.1
    show c.toNat = 32
    omega

theorem req_cuts {l : List UInt8} {x : List UInt8 × List UInt8 × Nat} (h : reqF l = some x) : (cutsAt 0 l).length = 2 := by
  unfold reqF at h
  split at h
  · rename_i a b hc
    rw [hc]
    rfl
  · cases h
set_option maxHeartbeats 8000000 in
set_option maxRecDepth 100000 in
theorem rreq_any (s : ByteArray) (w : World) (hs : s.size ≤ 4000000) : Calls Tryz.prog 30 #[.string s] w (ReqGot (reqF (bl s)) w) := by
  go_enter Tryz.func30, Tryz.ntmps30
  go_wp2_with fail
  go_loopw [6, 7] (fun v vi wr => ∃ (k : Nat) (o : Option Nat) (r : List Nat), vi = .int .i64 (k : Int) ∧ k ≤ s.size ∧ Hid (cutsAt 0 ((bl s).take k) = r) ∧ Hid (OwnI wr v o r) ∧ Hid (∀ b, o = some b → w.heap.size ≤ b) ∧ Hid (Below w.heap.size w wr)) (fun _ vi _ => s.size - (intOf vi).toNat)
  case atStart => exact ⟨0, none, [], rfl, Nat.zero_le _, Lib.hid rfl, Lib.hid (OwnI.nil _), Lib.hid (fun _ h => by cases h), Lib.hid (Below.refl _ _)⟩
  case round =>
    obtain ⟨k, o, r, rfl, hk, HR, HO, HOB, HB⟩ := hrel
    by_cases hlt : k < s.size
    · have HTK := Lib.hid (show cutsAt 0 ((bl s).take (k + 1)) = r ++ (if s[k] = 32 then [k] else []) by
        rw [bl_take s k hlt, cuts_snoc, HR.out, List.length_take, bl_length, Nat.min_eq_left hk, Nat.zero_add])
      have HRL := Lib.hid (show r.length ≤ k by
        have h1 := cuts_le ((bl s).take k) 0
        rw [HR.out, List.length_take] at h1
        omega)
      have e32 := byte_32 s[k]
      by_cases h32 : (s[k].toNat : Int) = 32
      · have HT := Lib.hid (show cutsAt 0 ((bl s).take (k + 1)) = r ++ [k] by rw [HTK.out, if_pos (by rw [e32]; exact h32)])
        obtain ⟨v', w', o', hrun, own', t', ho'⟩ := run_push_int wr _ o r k HO.out (by have := HRL.out; omega)
        have HR5 := Lib.hid hrun
        have OO := Lib.hid own'
        have TT := Lib.hid (own_turnS HB.out HOB.out t' ho')
        clear hrun own' t' ho' HTK e32
        go_wp2_with (at_builtin; refine append_by rfl (.tmp 21) (.tmp 23) 118 rfl _ _ v' w' rfl rfl HR5.out ?_)
        go_roundw
        case rel => exact ⟨k + 1, o', r ++ [k], by go_num, hlt, HT, OO, Lib.hid TT.out.2, Lib.hid TT.out.1⟩
        case measure => simp [intOf]; omega
      · have HT := Lib.hid (show cutsAt 0 ((bl s).take (k + 1)) = r by rw [HTK.out, if_neg (by rw [e32]; exact h32), List.append_nil])
        clear HTK e32
        go_wp2_with fail
        go_roundw
        case rel => exact ⟨k + 1, o, r, by go_num, hlt, HT, HO, HOB, HB⟩
        case measure => simp [intOf]; omega
    · have HC := Lib.hid (show cutsAt 0 (bl s) = r by rw [← HR.out, List.take_of_length_le (by rw [bl_length]; omega)])
      clear HR
      by_cases hbig : 512 < s.size
      · have i1 : (512 : Int) < (s.size : Int) := by omega
        have HN := Lib.hid (show reqF (bl s) = none by
          cases hq : reqF (bl s) with
          | none => rfl
          | some x =>
            obtain ⟨m, t, n⟩ := x
            obtain ⟨_, _, _, _, _, h⟩ := (req_iff _ _ _ _).1 hq
            rw [bl_length] at h
            omega)
        go_wp2_with fail
        (try simp only [Exit.inBlock, Exit.then]); refine bodyPost_ret (results_tmp4 rfl _ _ _) rfl ?_
        exact ⟨HB.out, by rw [HN.out]; rfl⟩
      · have i1 : ¬ (512 : Int) < (s.size : Int) := by omega
        obtain ⟨A, c, hv, hcell⟩ := HO.out.cells
        subst hv
        by_cases h2 : r.length = 2
        · obtain ⟨a, b, rfl⟩ : ∃ a b, r = [a, b] := by
            match r, h2 with
            | [a, b], _ => exact ⟨a, b, rfl⟩
          obtain ⟨m, t, r0, hl, _, _, _, ha, hb⟩ := cuts_two HC.out
          obtain ⟨g, rfl, hg⟩ := hcell (by simp)
          have y0 : wr.cell? ⟨g, 0, none⟩ = some (.int .i64 (a : Int)) := hg 0 a rfl
          have y1 : wr.cell? ⟨g, 1, none⟩ = some (.int .i64 (b : Int)) := hg 1 b rfl
          have hsz : s.size = m.length + 1 + t.length + 1 + r0.length := by rw [← bl_length, hl]; simp; omega
          obtain ⟨p1, p2, p3⟩ := parts_two m t r0
          have hM : bl (s.extract 0 a) = m := by rw [extract_bl, piece_front, hl, ha]; exact p1
          have hT : bl (s.extract (a + 1) b) = t := by rw [extract_bl]; unfold piece; rw [hl, ha, hb]; exact p2
          have hV : bl (s.extract (b + 1) s.size) = r0 := by rw [extract_bl, piece_back, hl, hb]; exact p3
          have hat0 : ∀ Wx, (Instr.indexAt 118 (.slice (some ⟨g, 0, none⟩) 2 c) (.int .i64 0)).run Tryz.prog Wx = .ok (.pointer (some ⟨g, 0, none⟩)) Wx := fun Wx => run_at 118 3 Tryz.underlying118 (by kernel_rfl) ⟨g, 0, none⟩ 2 c 0 (by omega) Wx
          have hat1 : ∀ Wx, (Instr.indexAt 118 (.slice (some ⟨g, 0, none⟩) 2 c) (.int .i64 1)).run Tryz.prog Wx = .ok (.pointer (some ⟨g, 1, none⟩)) Wx := fun Wx => run_at 118 3 Tryz.underlying118 (by kernel_rfl) ⟨g, 0, none⟩ 2 c 1 (by omega) Wx
          have CM := Lib.hid (fun X : World => (rminor_any (s.extract (b + 1) s.size) X).mono (fun _ _ h => (⟨h.1, h.2.symm⟩ : _ ∧ _)))
          have HRQ := Lib.hid (show reqF (bl s) = (match minorF r0 with | some n => if (bl s).length ≤ 512 ∧ tokF m = true ∧ a ≤ 32 ∧ targF t = true then some (m, t, n) else none | none => none) by
            unfold reqF
            rw [HC.out]
            simp only
            rw [show (bl s).take a = m by rw [hl, ha]; exact p1, show ((bl s).drop (a + 1)).take (b - (a + 1)) = t by rw [hl, ha, hb]; exact p2, show (bl s).drop (b + 1) = r0 by rw [hl, hb]; exact p3]
            all_goals (cases minorF r0 <;> rfl))
          have hLs : (bl s).length ≤ 512 := by rw [bl_length]; omega
          have HLS := Lib.hid hLs
          have hMs : (s.extract 0 a).size = a := by rw [← bl_length, hM, ha]
          clear hLs
          have hab : a + 1 ≤ b ∧ b + 1 ≤ s.size := by omega
          obtain ⟨hab1, hab2⟩ := hab
          clear hl ha hb hsz p1 p2 p3 hg hcell
          have HT := Lib.hid hT
          have HMm := Lib.hid hM
          have HVv := Lib.hid hV
          clear hT hM hV
          have wr1 : IntKind.i64.wrap ((a : Int) + 1) = (a : Int) + 1 := by rw [IntKind.wrap_i64]; omega
          have wr2 : IntKind.i64.wrap ((b : Int) + 1) = (b : Int) + 1 := by rw [IntKind.wrap_i64]; omega
          have q1 : 0 ≤ (a : Int) + 1 := by omega
          have q2 : ((a : Int) + 1).toNat = a + 1 := by omega
          have q3 : (a : Int) + 1 ≤ (b : Int) := by omega
          have q4 : 0 ≤ (b : Int) + 1 := by omega
          have q5 : ((b : Int) + 1).toNat = b + 1 := by omega
          have q6 : (b : Int) + 1 ≤ (s.size : Int) := by omega
          have q7 : (a : Int) ≤ (s.size : Int) := by omega
          have q8 : (b : Int) ≤ (s.size : Int) := by omega
          have q9 : a ≤ s.size := by omega
          have q10 : b ≤ s.size := by omega
          go_wp2_with fail
          go_quiet ((go_at_call 59; exact Calls.quiet_of_same (CM.out _)))
          have HBQ : Hid (Below w.heap.size w (wr.drewN nq)) := Lib.hid (below_drewN HB.out nq)
          clear y0 y1 hat0 hat1 wr1 wr2 q1 q2 q3 q4 q5 q6 q7 q8 CM
          generalize wr.drewN nq = wq at *
          obtain ⟨M, hMd⟩ : ∃ M, s.extract 0 a = M := ⟨_, rfl⟩
          obtain ⟨T, hTd⟩ : ∃ T, s.extract (a + 1) b = T := ⟨_, rfl⟩
          rw [hMd] at hMs HMm ⊢
          rw [hTd] at HT ⊢
          rw [HVv.out]
          have CT := Lib.hid (fun X : World => token_any M X (by unfold maxLen; omega))
          have hTs : T.size ≤ 4000000 := by rw [← hTd]; have := extract_size s (a + 1) b; omega
          have CG := Lib.hid (fun X : World => rtarget_any T X (by omega))
          rw [HMm.out] at CT
          rw [HT.out] at CG
          clear hMd hTd hTs HVv
          by_cases t1 : tokF m = true
          · rw [t1] at CT
            by_cases t2 : 32 < a
            · have HN := Lib.hid (show reqF (bl s) = none by
                rw [HRQ.out]
                split
                · rw [if_neg (by rintro ⟨_, _, h, _⟩; omega)]
                · rfl)
              have i2 : (32 : Int) < (M.size : Int) := by omega
              clear t1 t2
              go_wp2_with fail
              refine (CT.out _).mono ?_
              rintro e w5 ⟨rfl, rfl⟩
              go_wp2_with fail
              (try simp only [Exit.inBlock, Exit.then]); refine bodyPost_ret (results_tmp4 rfl _ _ _) rfl ?_
              exact ⟨HBQ.out, by rw [HN.out]; rfl⟩
            · have i2 : ¬ (32 : Int) < (M.size : Int) := by omega
              by_cases t3 : targF t = true
              · rw [t3] at CG
                cases hmi : minorF r0 with
                | none =>
                  have HN := Lib.hid (show reqF (bl s) = none by rw [HRQ.out, hmi])
                  have hmn : minI (none : Option Nat) = -1 := rfl
                  rw [hmn]
                  clear t1 t2 t3 hmi
                  go_wp2_with fail
                  refine (CT.out _).mono ?_
                  rintro e w5 ⟨rfl, rfl⟩
                  go_wp2_with fail
                  refine (CG.out _).mono ?_
                  rintro e w6 ⟨rfl, rfl⟩
                  go_wp2_with fail
                  (try simp only [Exit.inBlock, Exit.then]); refine bodyPost_ret (results_tmp4 rfl _ _ _) rfl ?_
                  exact ⟨HBQ.out, by rw [HN.out]; rfl⟩
                | some n =>
                  have HN := Lib.hid (show reqF (bl s) = some (m, t, n) by
                    rw [HRQ.out, hmi]
                    simp only
                    rw [if_pos ⟨HLS.out, t1, by omega, t3⟩])
                  have hmn : minI (some n) = (n : Int) := rfl
                  rw [hmn]
                  have i3 : ¬ (n : Int) < 0 := by omega
                  have em := HMm.out
                  have et := HT.out
                  clear t1 t2 t3 hmi
                  go_wp2_with fail
                  refine (CT.out _).mono ?_
                  rintro e w5 ⟨rfl, rfl⟩
                  go_wp2_with fail
                  refine (CG.out _).mono ?_
                  rintro e w6 ⟨rfl, rfl⟩
                  go_wp2_with fail
                  (try simp only [Exit.inBlock, Exit.then]); refine bodyPost_ret (results_tmp4 rfl _ _ _) rfl ?_
                  refine ⟨HBQ.out, ?_⟩
                  rw [HN.out, ← HMm.out, ← HT.out]
                  simp only
                  rw [mk_bl, mk_bl]
                  rfl
              · rw [Bool.not_eq_true] at t3
                have HN := Lib.hid (show reqF (bl s) = none by
                  rw [HRQ.out]
                  split
                  · rw [if_neg (by rintro ⟨_, _, _, h⟩; rw [t3] at h; cases h)]
                  · rfl)
                rw [t3] at CG
                clear t1 t2 t3
                go_wp2_with fail
                refine (CT.out _).mono ?_
                rintro e w5 ⟨rfl, rfl⟩
                go_wp2_with fail
                refine (CG.out _).mono ?_
                rintro e w6 ⟨rfl, rfl⟩
                go_wp2_with fail
                (try simp only [Exit.inBlock, Exit.then]); refine bodyPost_ret (results_tmp4 rfl _ _ _) rfl ?_
                exact ⟨HBQ.out, by rw [HN.out]; rfl⟩
          · rw [Bool.not_eq_true] at t1
            have HN := Lib.hid (show reqF (bl s) = none by
              rw [HRQ.out]
              split
              · rw [if_neg (by rintro ⟨_, h, _⟩; rw [t1] at h; cases h)]
              · rfl)
            rw [t1] at CT
            clear t1
            go_wp2_with fail
            refine (CT.out _).mono ?_
            rintro e w5 ⟨rfl, rfl⟩
            go_wp2_with fail
            (try simp only [Exit.inBlock, Exit.then]); refine bodyPost_ret (results_tmp4 rfl _ _ _) rfl ?_
            exact ⟨HBQ.out, by rw [HN.out]; rfl⟩
        · have i2 : ((r.length : Int) != 2) = true := by simp; omega
          have HN := Lib.hid (show reqF (bl s) = none by
            cases hq : reqF (bl s) with
            | none => rfl
            | some x =>
              have h3 := req_cuts hq
              rw [HC.out] at h3
              exact absurd h3 h2)
          clear hcell h2
          go_wp2_with fail
          (try simp only [Exit.inBlock, Exit.then]); refine bodyPost_ret (results_tmp4 rfl _ _ _) rfl ?_
          exact ⟨HB.out, by rw [HN.out]; rfl⟩
end Go.Proofs.YtemgfppclakdmaaGreatDoor.Sta
