/-
  What a line's parts say: plain mathematics.
  Conditions: those that each theorem names.
-/
import Derived.Test.YteggdakbebnjfaaDoorSF
import Derived.Lib.Bytealg
import Derived.Lib.Atoi
import Derived.Lib.ItoaNum
namespace Go.Proofs.YteggdakbebnjfaaDoor
open Go.RowKit

/-- Cut at the first blank: what stands ahead, what behind, whether there is one. -/
def cutP : List UInt8 → List UInt8 × List UInt8 × Bool
  | [] => ([], [], false)
  | c :: l => if c = 32 then ([], l, true) else (c :: (cutP l).1, (cutP l).2.1, (cutP l).2.2)
theorem cut_hit : ∀ (m r : List UInt8), 32 ∉ m → cutP (m ++ 32 :: r) = (m, r, true)
  | [], r, _ => by simp [cutP]
  | c :: m, r, h => by
    have hc : ¬ c = 32 := fun e => h (by simp [e])
    have hm : 32 ∉ m := fun e => h (by simp [e])
    show (if c = 32 then _ else (c :: (cutP (m ++ 32 :: r)).1, (cutP (m ++ 32 :: r)).2.1, (cutP (m ++ 32 :: r)).2.2)) = _
    rw [if_neg hc, cut_hit m r hm]
theorem cut_miss : ∀ (l : List UInt8), 32 ∉ l → cutP l = (l, [], false)
  | [], _ => rfl
  | c :: l, h => by
    have hc : ¬ c = 32 := fun e => h (by simp [e])
    have hm : 32 ∉ l := fun e => h (by simp [e])
    show (if c = 32 then _ else _) = _
    rw [if_neg hc, cut_miss l hm]
theorem cut_or : ∀ (l : List UInt8), (32 ∉ l ∧ cutP l = (l, [], false)) ∨ ∃ m r, l = m ++ 32 :: r ∧ 32 ∉ m ∧ cutP l = (m, r, true)
  | [] => .inl ⟨by simp, rfl⟩
  | c :: l => by
    by_cases hc : c = 32
    · exact .inr ⟨[], l, by rw [hc]; rfl, by simp, by unfold cutP; rw [if_pos hc]⟩
    · rcases cut_or l with ⟨h1, _⟩ | ⟨m, r, h1, h2, _⟩
      · have : 32 ∉ c :: l := by
          simp only [List.mem_cons, not_or]
          exact ⟨fun e => hc e.symm, h1⟩
        exact .inl ⟨this, cut_miss _ this⟩
      · have : 32 ∉ c :: m := by
          simp only [List.mem_cons, not_or]
          exact ⟨fun e => hc e.symm, h2⟩
        exact .inr ⟨c :: m, r, by rw [h1]; rfl, this, by rw [h1]; exact cut_hit (c :: m) r this⟩
theorem idx_hit : ∀ (m r : List UInt8), 32 ∉ m → Lib.indexByte (m ++ 32 :: r) 32 = m.length
  | [], r, _ => by simp [Lib.indexByte]
  | c :: m, r, h => by
    have hc : (c == 32) = false := by simp; exact fun e => h (by simp [e])
    have hm : 32 ∉ m := fun e => h (by simp [e])
    have := idx_hit m r hm
    simp only [List.cons_append, Lib.indexByte, hc, this]
    have h1 : ((m.length : Int) == -1) = false := by simp
    rw [h1]
    simp
theorem idx_miss : ∀ (l : List UInt8), 32 ∉ l → Lib.indexByte l 32 = -1
  | [], _ => rfl
  | c :: l, h => by
    have hc : (c == 32) = false := by simp; exact fun e => h (by simp [e])
    have hm : 32 ∉ l := fun e => h (by simp [e])
    simp [Lib.indexByte, hc, idx_miss l hm]

theorem putreq_some (n : Nat) (m t : List UInt8) : (putReqF n m t).isSome = true ↔ n ≤ 1 ∧ tokF m = true ∧ m.length ≤ 32 ∧ targF t = true ∧ m.length + t.length + 10 ≤ 512 := by
  unfold putReqF
  split
  · rename_i h
    simp only [Option.isSome_some, true_iff]
    exact ⟨by omega, h.2⟩
  · rename_i h
    simp only [Option.isSome_none, Bool.false_eq_true, false_iff]
    exact fun h' => h ⟨by omega, h'.2⟩
theorem putstat_some (n st : Nat) (r : List UInt8) : (putStatF n st r).isSome = true ↔ n ≤ 1 ∧ 100 ≤ st ∧ st ≤ 599 ∧ visF r = true ∧ r.length + 13 ≤ 512 := by
  unfold putStatF
  split
  · rename_i h
    simp only [Option.isSome_some, true_iff]
    exact ⟨by omega, by omega, by omega, h.2.2.2⟩
  · rename_i h
    simp only [Option.isSome_none, Bool.false_eq_true, false_iff]
    exact fun h' => h ⟨by omega, by omega, by omega, h'.2.2.2⟩
theorem vers_nil (n : Nat) : versL n ≠ [] := by unfold versL; simp
theorem vers_len (n : Nat) : (versL n).length = 8 := rfl
theorem req_len (m t : List UInt8) (n : Nat) : (reqL m t n).length = m.length + t.length + 10 := by
  unfold reqL
  simp [vers_len]
  omega

/-- A request's line by its parts. -/
def lineF (l : List UInt8) : Option (List UInt8 × List UInt8 × Nat) := match minorF (cutP (cutP l).2.1).2.1 with
  | some n => if (putReqF n (cutP l).1 (cutP (cutP l).2.1).1).isSome = true then some ((cutP l).1, (cutP (cutP l).2.1).1, n) else none
  | none => none
theorem req_line (l : List UInt8) : reqF l = lineF l := by
  cases h : lineF l with
  | some x =>
    obtain ⟨m, t, n⟩ := x
    unfold lineF at h
    split at h
    · rename_i k hk
      split at h
      · rename_i hs
        simp only [Option.some.injEq, Prod.mk.injEq] at h
        obtain ⟨e1, e2, e3⟩ := h
        obtain ⟨hv, hk1⟩ := minor_some hk
        rw [e1, e2, e3] at hs
        obtain ⟨_, q1, q2, q3, q4⟩ := (putreq_some n m t).1 hs
        rcases cut_or (cutP l).2.1 with ⟨_, hc⟩ | ⟨t', v, hl2, _, hc⟩
        · rw [hc] at hv
          exact absurd hv.symm (vers_nil k)
        · rcases cut_or l with ⟨_, hd⟩ | ⟨m', r, hl1, _, hd⟩
          · rw [hd] at hl2
            exact absurd hl2 (by simp)
          · rw [hc] at hv e2
            rw [hd] at hl2 e1
            simp only at hv e2 hl2 e1
            subst e1 e2 e3
            have hl : l = reqL m' t' k := by rw [hl1, hl2, hv]; rfl
            exact (req_iff _ _ _ _).2 ⟨hl, q1, q2, q3, hk1, by rw [hl, req_len]; exact q4⟩
      · cases h
    · cases h
  | none =>
    cases hr : reqF l with
    | none => rfl
    | some x =>
      obtain ⟨m, t, n⟩ := x
      obtain ⟨hl, q1, q2, q3, q4, q5⟩ := (req_iff _ _ _ _).1 hr
      have c1 : cutP l = (m, t ++ 32 :: versL n, true) := by rw [hl]; exact cut_hit m _ (tok_blank q1)
      have c2 : cutP (t ++ 32 :: versL n) = (t, versL n, true) := cut_hit t _ (targ_blank q3)
      unfold lineF at h
      rw [c1] at h
      simp only at h
      rw [c2] at h
      simp only at h
      rw [minor_vers n q4] at h
      simp only at h
      rw [if_pos ((putreq_some n m t).2 ⟨q4, q1, q2, q3, by rw [hl, req_len] at q5; exact q5⟩)] at h
      cases h

/-- A status of three digits. -/
def readStF : List UInt8 → Option Nat
  | [a, b, c] => if digB a = true ∧ digB b = true ∧ digB c = true then some (statOf a b c) else none
  | _ => none
theorem readst_some {d : List UInt8} {st : Nat} (h : readStF d = some st) : d = digL st ∧ st ≤ 999 := by
  unfold readStF at h
  split at h
  · rename_i a b c
    split at h
    · rename_i hh
      injection h with h
      subst h
      obtain ⟨d1, d2, d3⟩ := hh
      have e1 := dig_back a d1
      have e2 := dig_back b d2
      have e3 := dig_back c d3
      have b1 : a.toNat - 48 ≤ 9 := by unfold digB at d1; simp only [Bool.and_eq_true, decide_eq_true_eq] at d1; omega
      have b2 : b.toNat - 48 ≤ 9 := by unfold digB at d2; simp only [Bool.and_eq_true, decide_eq_true_eq] at d2; omega
      have b3 : c.toNat - 48 ≤ 9 := by unfold digB at d3; simp only [Bool.and_eq_true, decide_eq_true_eq] at d3; omega
      have q1 : statOf a b c / 100 = a.toNat - 48 := by unfold statOf; omega
      have q2 : statOf a b c / 10 % 10 = b.toNat - 48 := by unfold statOf; omega
      have q3 : statOf a b c % 10 = c.toNat - 48 := by unfold statOf; omega
      refine ⟨?_, by unfold statOf; omega⟩
      unfold digL
      rw [q1, q2, q3, e1, e2, e3]
    · cases h
  · cases h
theorem readst_dig (st : Nat) (h : st ≤ 999) : readStF (digL st) = some st := by
  have e1 := dig_of (st / 100) (by omega)
  have e2 := dig_of (st / 10 % 10) (by omega)
  have e3 := dig_of (st % 10) (by omega)
  have hd : ∀ k, k ≤ 9 → digB (UInt8.ofNat (48 + k)) = true := fun k hk => by
    unfold digB
    rw [dig_of k hk]
    simp
    omega
  unfold digL readStF
  simp only
  rw [if_pos ⟨hd _ (by omega), hd _ (by omega), hd _ (by omega)⟩]
  unfold statOf
  rw [e1, e2, e3]
  congr 1
  omega
theorem dig_blank (st : Nat) (h : st ≤ 999) : (32 : UInt8) ∉ digL st := fun hm => by
  have e1 := dig_of (st / 100) (by omega)
  have e2 := dig_of (st / 10 % 10) (by omega)
  have e3 := dig_of (st % 10) (by omega)
  unfold digL at hm
  simp only [List.mem_cons, List.not_mem_nil, or_false] at hm
  rcases hm with h | h | h
  all_goals
    have := congrArg UInt8.toNat h
    rw [show (32 : UInt8).toNat = 32 from rfl] at this
    omega
/-- A response's line by its parts. -/
def tellF (l : List UInt8) : Option (Nat × Nat × List UInt8) := match minorF (cutP l).1 with
  | some n => if (cutP (cutP l).2.1).2.2 = true then match readStF (cutP (cutP l).2.1).1 with
    | some st => if (putStatF n st (cutP (cutP l).2.1).2.1).isSome = true then some (n, st, (cutP (cutP l).2.1).2.1) else none
    | none => none
    else none
  | none => none
theorem stat_len (n st : Nat) (r : List UInt8) : (statL n st r).length = r.length + 13 := by
  unfold statL digL
  simp [vers_len]
  omega
theorem stat_line (l : List UInt8) : statF l = tellF l := by
  cases h : tellF l with
  | some x =>
    obtain ⟨n, st, r⟩ := x
    unfold tellF at h
    split at h
    · rename_i k hk
      split at h
      · rename_i hp
        split at h
        · rename_i s hs
          split at h
          · rename_i hq
            simp only [Option.some.injEq, Prod.mk.injEq] at h
            obtain ⟨e1, e2, e3⟩ := h
            obtain ⟨hv, hk1⟩ := minor_some hk
            obtain ⟨hd, _⟩ := readst_some hs
            rw [e1, e2, e3] at hq
            obtain ⟨_, q1, q2, q3, q4⟩ := (putstat_some n st r).1 hq
            rcases cut_or (cutP l).2.1 with ⟨_, hc⟩ | ⟨d, w, hl2, _, hc⟩
            · rw [hc] at hp
              cases hp
            · rcases cut_or l with ⟨_, hd1⟩ | ⟨m', r', hl1, _, hd1⟩
              · rw [hd1] at hl2
                exact absurd hl2 (by simp)
              · rw [hc] at hd e3
                rw [hd1] at hl2 hv
                simp only at hd e3 hl2 hv
                subst e1 e2 e3
                have hl : l = statL k s w := by rw [hl1, hl2, hv, hd]; rfl
                exact (stat_iff _ _ _ _).2 ⟨hl, hk1, q1, q2, q3, by rw [hl, stat_len]; exact q4⟩
          · cases h
        · cases h
      · cases h
    · cases h
  | none =>
    cases hr : statF l with
    | none => rfl
    | some x =>
      obtain ⟨n, st, r⟩ := x
      obtain ⟨hl, q1, q2, q3, q4, q5⟩ := (stat_iff _ _ _ _).1 hr
      have c1 : cutP l = (versL n, digL st ++ 32 :: r, true) := by rw [hl]; exact cut_hit _ _ (vers_blank n)
      have c2 : cutP (digL st ++ 32 :: r) = (digL st, r, true) := cut_hit _ _ (dig_blank st (by omega))
      unfold tellF at h
      rw [c1] at h
      simp only at h
      rw [c2] at h
      simp only at h
      rw [minor_vers n q1] at h
      simp only [if_pos] at h
      rw [readst_dig st (by omega)] at h
      simp only at h
      rw [if_pos ((putstat_some n st r).2 ⟨q1, q2, q3, q4, by rw [hl, stat_len] at q5; exact q5⟩)] at h
      cases h

/-- Atoi's answer at three digits; Itoa's at a status, at a minor. -/
theorem atoi_st {d : List UInt8} {st : Nat} (h : readStF d = some st) : Lib.atoi d = some (st : Int) := by
  unfold readStF at h
  split at h
  · rename_i a b c
    split at h
    · rename_i hh
      injection h with h
      subst h
      obtain ⟨d1, d2, d3⟩ := hh
      unfold digB at d1 d2 d3
      simp only [Bool.and_eq_true, decide_eq_true_eq] at d1 d2 d3
      have h45 : (a == 45) = false := by
        simp only [beq_eq_false_iff_ne, ne_eq]
        rintro rfl
        exact absurd d1.1 (by decide)
      have h43 : (a == 43) = false := by
        simp only [beq_eq_false_iff_ne, ne_eq]
        rintro rfl
        exact absurd d1.1 (by decide)
      unfold Lib.atoi
      simp only [h45, h43, Bool.false_eq_true, if_false]
      simp only [Lib.decNat, List.isEmpty_cons, Bool.false_eq_true, if_false, Lib.decFrom, Lib.digitVal, if_pos d1, if_pos d2, if_pos d3, Option.map_some]
      unfold statOf
      congr 2
      omega
    · cases h
  · cases h
theorem dec_one (k : Nat) (h : k < 10) : Lib.decDigits k = [UInt8.ofNat (48 + k)] := by rw [Lib.decDigits, dif_pos h]
theorem itoa_st (st : Nat) (h1 : 100 ≤ st) (h2 : st ≤ 599) : Lib.itoa (st : Int) = digL st := by
  unfold Lib.itoa
  rw [if_neg (by omega), Int.toNat_natCast, Lib.decDigits, dif_neg (by omega), Lib.decDigits, dif_neg (by omega), dec_one _ (by omega)]
  unfold digL
  rw [show st / 10 / 10 = st / 100 by omega]
  rfl
theorem itoa_01 (n : Nat) (h : n ≤ 1) : ([72, 84, 84, 80, 47, 49, 46] : List UInt8) ++ Lib.itoa (n : Int) = versL n := by
  unfold Lib.itoa
  rw [if_neg (by omega), Int.toNat_natCast, dec_one _ (by omega)]
  rcases (show n = 0 ∨ n = 1 by omega) with rfl | rfl <;> rfl
end Go.Proofs.YteggdakbebnjfaaDoor
