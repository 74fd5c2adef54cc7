/-
  What the laws' of, tenant, wakes do.
  Conditions: Go's table of powers of ten is as its text lays it.
-/
import Derived.Test.YtopanahgeeolbaaGreatDoorHE
import Derived.Test.YtopanahgeeolbaaGreatDoorRB
import Derived.Lib.TrimByte
import Derived.Lib.Bytealg
import Derived.Test.YtopanahgeeolbaaGreatDoorUC
import Derived.Test.YtopanahgeeolbaaGreatDoorAB
import Derived.Test.YtopanahgeeolbaaGreatDoorUD
import Derived.Lib.AtoiErrMem
import Derived.Test.YtopanahgeeolbaaGreatDoorAA
import Derived.Test.YtopanahgeeolbaaGreatDoorAE
import Derived.Maps.Own
import Derived.Maps.Views
import Derived.Carry
import Derived.StringKeys
import Derived.Test.YtopanahgeeolbaaGreatDoorKF
import Derived.Laws.Concat
namespace Go.Proofs.YtopanahgeeolbaaGreatDoor
open Go.RowKit

theorem flds_cells (ls : List Fld) : ∀ v ∈ flds ls, v.oneCell' = true := by
  intro v hv
  obtain ⟨f, _, h⟩ := List.mem_flatMap.1 hv
  simp at h
  rcases h with rfl | rfl <;> rfl
set_option maxRecDepth 100000 in
/-- append(v, l...). -/
theorem run_append_srcF {P : Nat → Prop} (w : World) (v : Value) (o : Option Nat) (ls news : List Fld) (h : OwnF w v o ls) (A : Option Addr) (n c : Nat) (hn : news.length = n) (hs : SrcF w P A news) (hlen : (ls.length + news.length) * 32 ≤ 140737488355328) :
    ∃ (v' : Value) (w' : World) (o' : Option Nat), (Builtin.append_ #[33, 33] 33 #[v, .slice A n c]).run Tryz.prog w = .ok v' w' ∧ OwnF w' v' o' (ls ++ news) ∧ Turn (fun k => o = some k) w w' ∧ (o' = o ∨ o' = some w.heap.size) := by
  subst hn
  obtain ⟨i, hi, hz, hsz, hby⟩ := fldParts
  obtain ⟨hown, ho⟩ := h
  cases A with
  | none =>
    have hb : news = [] := by
      cases news with
      | nil => rfl
      | cons b l => obtain ⟨ad, hA, _⟩ := hs (by simp); cases hA
    subst hb
    refine ⟨v, w, o, ?_, by rw [List.append_nil]; exact ⟨hown, ho⟩, Turn.refl _ _, .inl rfl⟩
    rcases hown.2 with ⟨rfl, _⟩ | ⟨g, cap, cur, rfl, _, _, hnc, _⟩
    · simp [Builtin.append_, run_underlying Tryz.underlying33, sizeOf, typeInfo, hi, Builtin.lenOf, Builtin.firstCells]
    · simp [Builtin.append_, run_underlying Tryz.underlying33, sizeOf, typeInfo, hi, Builtin.lenOf, Builtin.firstCells, hnc, storeCells]
  | some a =>
    have hcells : ∀ j u, (flds news)[j]? = some u → w.cell? (a.add j) = some u := by
      intro j u hu
      have hj : j < news.length * 2 := by
        have := (List.getElem?_eq_some_iff.1 hu).1
        rwa [flds_length] at this
      obtain ⟨ad, hA, _, _, hc⟩ := hs (by omega)
      injection hA with hA
      subst hA
      obtain ⟨f, hf⟩ : ∃ f, news[j / 2]? = some f := ⟨news[j / 2]'(by omega), List.getElem?_eq_getElem _⟩
      obtain ⟨c0, c1⟩ := hc (j / 2) f hf
      obtain ⟨g0, g1⟩ := flds_get news (j / 2) f hf
      rcases Nat.mod_two_eq_zero_or_one j with h0 | h0
      · have e : j / 2 * 2 = j := by omega
        rw [e] at c0 g0
        rw [g0] at hu
        rw [c0, ← hu]
      · have e : j / 2 * 2 + 1 = j := by omega
        rw [e] at c1 g1
        rw [g1] at hu
        rw [c1, ← hu]
    by_cases h0 : news.length = 0
    · obtain rfl : news = [] := List.eq_nil_of_length_eq_zero h0
      obtain ⟨v', w', hrun, h2, h3, _, h5⟩ := run_append_own_at (P := Tryz.prog) w 0 33 33 39 i (.agg #[.string ⟨#[]⟩, .string ⟨#[]⟩]) 2 32 Tryz.underlying33 hi hz hsz hby rfl (by omega) v ls.length (flds ls) hown a 0 c []
        rfl (fun j u hu => by simp at hu) (fun u hu => by cases hu) (by simp only [maxLen]; simp at hlen; omega) (by simpa using hlen) (Nat.zero_le _)
      refine ⟨v', w', v'.ownBlock, hrun, ⟨?_, rfl⟩, Turn.of_grown h3 (fun k hk => by rw [← ho]; exact hk), by rw [← ho]; exact h5⟩
      simpa using h2
    · obtain ⟨v', w', hrun, h2, h3, _, h5⟩ := run_append_own_at (P := Tryz.prog) w 0 33 33 39 i (.agg #[.string ⟨#[]⟩, .string ⟨#[]⟩]) 2 32 Tryz.underlying33 hi hz hsz hby rfl (by omega) v ls.length (flds ls) hown a news.length c (flds news)
        (flds_length news) hcells (flds_cells _) (by simp only [maxLen]; omega) hlen (Nat.zero_le _)
      refine ⟨v', w', v'.ownBlock, hrun, ⟨?_, rfl⟩, Turn.of_grown h3 (fun k hk => by rw [← ho]; exact hk), by rw [← ho]; exact h5⟩
      rw [List.length_append, flds_append]
      exact h2
/-- What a list of the call's own lies in. -/
theorem OwnF.row {w : World} {v : Value} {o : Option Nat} {ls : List Fld} (h : OwnF w v o ls) : ∃ A c, v = .slice A ls.length c ∧ SrcF w (fun _ => True) A ls ∧ (0 < ls.length → ∃ g cur, A = some ⟨g, 0, none⟩ ∧ o = some g ∧ w.heap[g]? = some (.cells cur 39 (0, 0)) ∧ ls.length * 2 ≤ cur.size) := by
  obtain ⟨A, c, hv, hs⟩ := h.src (fun _ => True) (fun _ _ => trivial)
  refine ⟨A, c, hv, hs, fun h0 => ?_⟩
  obtain ⟨⟨h1, h2⟩, h3⟩ := h
  rcases h2 with ⟨_, hn⟩ | ⟨g, cap, cur, hv2, _, hh, hnc, _, hsz, htk⟩
  · omega
  · rw [hv2] at hv h3
    injection hv with hA
    exact ⟨g, cur, hA.symm, h3.symm, hh, by rw [hsz]; omega⟩
end Go.Proofs.YtopanahgeeolbaaGreatDoor

namespace Go.Proofs.YtopanahgeeolbaaGreatDoor.Aut
open Go.RowKit

/-- May the byte stand in a token, ahead of what fills it up? -/
def stB (c : UInt8) : Bool := (decide (97 ≤ c.toNat) && decide (c.toNat ≤ 122)) || (decide (65 ≤ c.toNat) && decide (c.toNat ≤ 90)) || (decide (48 ≤ c.toNat) && decide (c.toNat ≤ 57)) || c == 45 || c == 46 || c == 95 || c == 126 || c == 43 || c == 47
def noEq (c : UInt8) : Bool := c != 61
/-- Is the text a token? -/
def mayT (s : List UInt8) : Bool := ((s.takeWhile noEq).all stB && (s.dropWhile noEq).all (fun c => c == 61)) && (!(s.takeWhile noEq).isEmpty && decide (s.length ≤ 64))
theorem st_eq (c : UInt8) (h : stB c = true) : noEq c = true := by
  unfold noEq
  rw [bne_iff_ne]
  rintro rfl
  revert h
  decide
theorem drop_all {α : Type} (p : α → Bool) : ∀ (a b : List α), a.all p = true → (a ++ b).dropWhile p = b.dropWhile p
  | [], _, _ => rfl
  | x :: a, b, h => by
    simp only [List.all_cons, Bool.and_eq_true] at h
    rw [List.cons_append, List.dropWhile_cons_of_pos h.1]
    exact drop_all p a b h.2
theorem take_all {α : Type} (p : α → Bool) : ∀ (a b : List α), a.all p = true → (a ++ b).takeWhile p = a ++ b.takeWhile p
  | [], _, _ => rfl
  | x :: a, b, h => by
    simp only [List.all_cons, Bool.and_eq_true] at h
    rw [List.cons_append, List.takeWhile_cons_of_pos h.1, take_all p a b h.2]
    rfl
theorem fill_no : ∀ (b : List UInt8), b.all (fun c => c == 61) = true → b.takeWhile noEq = [] ∧ b.dropWhile noEq = b
  | [], _ => ⟨rfl, rfl⟩
  | x :: b, h => by
    simp only [List.all_cons, Bool.and_eq_true, beq_iff_eq] at h
    obtain ⟨rfl, _⟩ := h
    exact ⟨List.takeWhile_cons_of_neg (by decide), List.dropWhile_cons_of_neg (by decide)⟩
theorem parts_of (a b : List UInt8) (ha : a.all noEq = true) (hb : b.all (fun c => c == 61) = true) :
    (a ++ b).takeWhile noEq = a ∧ (a ++ b).dropWhile noEq = b ∧ Lib.trimRightB (a ++ b) 61 = a := by
  obtain ⟨h1, h2⟩ := fill_no b hb
  refine ⟨by rw [take_all _ _ _ ha, h1, List.append_nil], by rw [drop_all _ _ _ ha, h2], ?_⟩
  unfold Lib.trimRightB
  rw [List.reverse_append, drop_all _ _ _ (by rw [List.all_reverse]; exact hb)]
  have : a.reverse.dropWhile (fun c => c == 61) = a.reverse := by
    cases hr : a.reverse with
    | nil => rfl
    | cons x r =>
      have hx : x ∈ a := List.mem_reverse.1 (by rw [hr]; exact List.mem_cons_self)
      have := List.all_eq_true.1 ha x hx
      unfold noEq at this
      rw [bne_iff_ne] at this
      exact List.dropWhile_cons_of_neg (by simpa using this)
  rw [this, List.reverse_reverse]
theorem right_parts (s : List UInt8) : ∃ b : List UInt8, s = Lib.trimRightB s 61 ++ b ∧ b.all (fun c => c == 61) = true := by
  refine ⟨(s.reverse.takeWhile (fun c => c == 61)).reverse, ?_, ?_⟩
  · unfold Lib.trimRightB
    rw [← List.reverse_append, List.takeWhile_append_dropWhile, List.reverse_reverse]
  · rw [List.all_reverse]
    exact List.all_takeWhile
/-- By what stands ahead of the '='s at the end. -/
theorem may_own (s : List UInt8) : mayT s = (!(Lib.trimRightB s 61).isEmpty && (decide (s.length ≤ 64) && (Lib.trimRightB s 61).all stB)) := by
  rw [Bool.eq_iff_iff]
  constructor
  · intro h
    unfold mayT at h
    simp only [Bool.and_eq_true] at h
    obtain ⟨⟨h1, h2⟩, h3, h4⟩ := h
    have hp := (parts_of (s.takeWhile noEq) (s.dropWhile noEq) List.all_takeWhile h2).2.2
    rw [List.takeWhile_append_dropWhile] at hp
    simp only [Bool.and_eq_true]
    rw [hp]
    exact ⟨h3, h4, h1⟩
  · intro h
    simp only [Bool.and_eq_true] at h
    obtain ⟨h1, h2, h3⟩ := h
    obtain ⟨b, hs, hb⟩ := right_parts s
    obtain ⟨p1, p2, _⟩ := parts_of (Lib.trimRightB s 61) b (List.all_eq_true.2 fun x hx => st_eq x (List.all_eq_true.1 h3 x hx)) hb
    rw [← hs] at p1 p2
    unfold mayT
    rw [p1, p2]
    simp only [Bool.and_eq_true]
    exact ⟨⟨h3, hb⟩, h1, h2⟩
theorem may_nil : mayT [] = false := rfl
theorem may_len {s : List UInt8} (h : mayT s = true) : 1 ≤ s.length ∧ s.length ≤ 64 := by
  cases s with
  | nil => cases h
  | cons a l =>
    unfold mayT at h
    simp only [Bool.and_eq_true, decide_eq_true_eq] at h
    exact ⟨by simp, h.2.2⟩
/-- A token's bytes: those that may stand, and '='. -/
theorem may_byte {s : List UInt8} (h : mayT s = true) : ∀ c ∈ s, stB c = true ∨ c = 61 := by
  intro c hc
  unfold mayT at h
  simp only [Bool.and_eq_true] at h
  rw [← List.takeWhile_append_dropWhile (p := noEq) (l := s)] at hc
  rcases List.mem_append.1 hc with hc | hc
  · exact .inl (List.all_eq_true.1 h.1.1 c hc)
  · exact .inr (by simpa using List.all_eq_true.1 h.1.2 c hc)
theorem may_blank {s : List UInt8} (h : mayT s = true) : 32 ∉ s := fun hc => by
  rcases may_byte h 32 hc with h | h
  · revert h; decide
  · revert h; decide

/-- Cut at the first blank: what stands ahead, what behind, whether there is one. -/
def cutP : List UInt8 → List UInt8 × List UInt8 × Bool
  | [] => ([], [], false)
  | c :: l => if c = 32 then ([], l, true) else (c :: (cutP l).1, (cutP l).2.1, (cutP l).2.2)
theorem cut_hit : ∀ (m r : List UInt8), 32 ∉ m → cutP (m ++ 32 :: r) = (m, r, true)
  | [], r, _ => by simp [cutP]
  | c :: m, r, h => by
    have hc : ¬ c = 32 := fun e => h (by simp [e])
    have hm : 32 ∉ m := fun e => h (by simp [e])
    show (if c = 32 then _ else (c :: (cutP (m ++ 32 :: r)).1, (cutP (m ++ 32 :: r)).2.1, (cutP (m ++ 32 :: r)).2.2)) = _
    rw [if_neg hc, cut_hit m r hm]
theorem cut_miss : ∀ (l : List UInt8), 32 ∉ l → cutP l = (l, [], false)
  | [], _ => rfl
  | c :: l, h => by
    have hc : ¬ c = 32 := fun e => h (by simp [e])
    have hm : 32 ∉ l := fun e => h (by simp [e])
    show (if c = 32 then _ else _) = _
    rw [if_neg hc, cut_miss l hm]
theorem cut_or : ∀ (l : List UInt8), (32 ∉ l ∧ cutP l = (l, [], false)) ∨ ∃ m r, l = m ++ 32 :: r ∧ 32 ∉ m ∧ cutP l = (m, r, true)
  | [] => .inl ⟨by simp, rfl⟩
  | c :: l => by
    by_cases hc : c = 32
    · exact .inr ⟨[], l, by rw [hc]; rfl, by simp, by unfold cutP; rw [if_pos hc]⟩
    · rcases cut_or l with ⟨h1, _⟩ | ⟨m, r, h1, h2, _⟩
      · have : 32 ∉ c :: l := by
          simp only [List.mem_cons, not_or]
          exact ⟨fun e => hc e.symm, h1⟩
        exact .inl ⟨this, cut_miss _ this⟩
      · have : 32 ∉ c :: m := by
          simp only [List.mem_cons, not_or]
          exact ⟨fun e => hc e.symm, h2⟩
        exact .inr ⟨c :: m, r, by rw [h1]; rfl, this, by rw [h1]; exact cut_hit (c :: m) r this⟩
theorem idx_hit : ∀ (m r : List UInt8), 32 ∉ m → Lib.indexByte (m ++ 32 :: r) 32 = m.length
  | [], r, _ => by simp [Lib.indexByte]
  | c :: m, r, h => by
    have hc : (c == 32) = false := by simp; exact fun e => h (by simp [e])
    have hm : 32 ∉ m := fun e => h (by simp [e])
    have := idx_hit m r hm
    simp only [List.cons_append, Lib.indexByte, hc, this]
    have h1 : ((m.length : Int) == -1) = false := by simp
    rw [h1]
    simp
theorem idx_miss : ∀ (l : List UInt8), 32 ∉ l → Lib.indexByte l 32 = -1
  | [], _ => rfl
  | c :: l, h => by
    have hc : (c == 32) = false := by simp; exact fun e => h (by simp [e])
    have hm : 32 ∉ l := fun e => h (by simp [e])
    simp [Lib.indexByte, hc, idx_miss l hm]

def bearL : List UInt8 := [98, 101, 97, 114, 101, 114]
def blankT (l : List UInt8) : List UInt8 := Lib.trimLeftB l 32
/-- A credential's token. -/
def credF (s : List UInt8) : Option (List UInt8) := if (lowF (cutP s).1 == bearL && mayT (blankT (cutP s).2.1)) = true then some (blankT (cutP s).2.1) else none
theorem blank_cons (r : List UInt8) : blankT (32 :: r) = blankT r := by
  unfold blankT Lib.trimLeftB
  exact List.dropWhile_cons_of_pos (by decide)
theorem blank_id {r : List UInt8} (h : r.head? ≠ some 32) : blankT r = r := by
  unfold blankT Lib.trimLeftB
  cases r with
  | nil => rfl
  | cons a l => exact List.dropWhile_cons_of_neg (by simpa using h)
theorem low_blank {m : List UInt8} (h : lowF m = bearL) : 32 ∉ m ∧ m.length = 6 := by
  refine ⟨fun hm => ?_, ?_⟩
  · have h1 : lowB 32 ∈ lowF m := List.mem_map.2 ⟨32, hm, rfl⟩
    rw [h] at h1
    revert h1
    decide
  · have := congrArg List.length h
    simpa [lowF, bearL] using this
theorem cred_miss {s : List UInt8} (h : 32 ∉ s) : credF s = none := by
  unfold credF
  rw [cut_miss s h]
  simp [blankT, Lib.trimLeftB, may_nil]
theorem cred_hit {m r : List UInt8} (h : 32 ∉ m) : credF (m ++ 32 :: r) = if (lowF m == bearL && mayT (blankT r)) = true then some (blankT r) else none := by
  unfold credF
  rw [cut_hit m r h]
/-- By its first six bytes. -/
theorem cred_six {s : List UInt8} (h : lowF (s.take 6) = bearL) (h6 : s[6]? = some 32) : credF s = if mayT (blankT (s.drop 6)) = true then some (blankT (s.drop 6)) else none := by
  obtain ⟨h1, _⟩ := low_blank h
  obtain ⟨hlt, h7⟩ := List.getElem?_eq_some_iff.1 h6
  have hd : s.drop 6 = 32 :: s.drop 7 := by rw [List.drop_eq_getElem_cons hlt, h7]
  have hs : s = s.take 6 ++ 32 :: s.drop 7 := by rw [← hd, List.take_append_drop]
  rw [hd, blank_cons]
  conv => lhs; rw [hs]
  rw [cred_hit h1, h]
  simp
theorem cred_other {s : List UInt8} (h : ¬ (lowF (s.take 6) = bearL ∧ s[6]? = some 32)) : credF s = none := by
  rcases cut_or s with ⟨h1, _⟩ | ⟨m, r, hs, h2, _⟩
  · exact cred_miss h1
  · rw [hs, cred_hit h2]
    by_cases hm : lowF m = bearL
    · exfalso
      obtain ⟨_, hl⟩ := low_blank hm
      apply h
      rw [hs, List.take_left' hl]
      exact ⟨hm, by rw [List.getElem?_append_right (by omega), hl]; rfl⟩
    · rw [if_neg (by simp [hm])]
theorem cred_short {s : List UInt8} (h : s.length < 8) : credF s = none := by
  by_cases h6 : lowF (s.take 6) = bearL ∧ s[6]? = some 32
  · obtain ⟨hlt, h7⟩ := List.getElem?_eq_some_iff.1 h6.2
    rw [cred_six h6.1 h6.2, List.drop_eq_getElem_cons hlt, h7, blank_cons, show s.drop 7 = [] from List.drop_eq_nil_of_le (by omega)]
    rfl
  · exact cred_other h6
theorem cred_may {s t : List UInt8} (h : credF s = some t) : mayT t = true := by
  unfold credF at h
  split at h
  · rename_i h1
    injection h with h
    rw [← h]
    simp only [Bool.and_eq_true] at h1
    exact h1.2
  · cases h
/-- "Bearer " and a text. -/
def bearS : List UInt8 := [66, 101, 97, 114, 101, 114, 32]
theorem cred_of (t : List UInt8) (h : t.head? ≠ some 32) : credF (bearS ++ t) = if mayT t = true then some t else none := by
  show credF ([66, 101, 97, 114, 101, 114] ++ 32 :: t) = _
  rw [cred_hit (by decide), blank_id h]
  simp [show lowF [66, 101, 97, 114, 101, 114] = bearL from by decide]
theorem may_head {t : List UInt8} (h : mayT t = true) : t.head? ≠ some 32 := fun e => by
  cases t with
  | nil => cases e
  | cons a l =>
    injection e with e
    exact may_blank h (by rw [e]; exact List.mem_cons_self)
/-! ## walked from the left -/
theorem here_parts {l : List UInt8} {k : Nat} (h : (l.take k).all stB = true) (hk : ∀ c, l[k]? = some c → c = 61) : l.takeWhile noEq = l.take k ∧ l.dropWhile noEq = l.drop k := by
  have ha : (l.take k).all noEq = true := List.all_eq_true.2 fun x hx => st_eq x (List.all_eq_true.1 h x hx)
  have hb : (l.drop k).takeWhile noEq = [] ∧ (l.drop k).dropWhile noEq = l.drop k := by
    cases hd : l.drop k with
    | nil => exact ⟨rfl, rfl⟩
    | cons c r =>
      have h1 : l[k]? = some c := by rw [← List.head?_drop, hd]; rfl
      have h2 := hk c h1
      subst h2
      exact ⟨List.takeWhile_cons_of_neg (by decide), List.dropWhile_cons_of_neg (by decide)⟩
  constructor
  · conv => lhs; rw [← List.take_append_drop k l]
    rw [take_all _ _ _ ha, hb.1, List.append_nil]
  · conv => lhs; rw [← List.take_append_drop k l]
    rw [drop_all _ _ _ ha, hb.2]
theorem may_at {l : List UInt8} {k : Nat} (h : (l.take k).all stB = true) (hk : ∀ c, l[k]? = some c → c = 61) (hl : k ≤ l.length) : mayT l = ((l.drop k).all (fun c => c == 61) && (decide (0 < k) && decide (l.length ≤ 64))) := by
  obtain ⟨h1, h2⟩ := here_parts h hk
  unfold mayT
  rw [h1, h2, h, Bool.true_and]
  congr 2
  cases k with
  | zero => rfl
  | succ k =>
    cases l with
    | nil => simp at hl
    | cons a r => simp
theorem may_bad {l : List UInt8} {k : Nat} {c : UInt8} (h : l[k]? = some c) (h1 : stB c = false) (h2 : c ≠ 61) : mayT l = false := by
  rw [Bool.eq_false_iff]
  intro hm
  rcases may_byte hm c (List.mem_of_getElem? h) with h | h
  · rw [h1] at h; cases h
  · exact h2 h
theorem may_mid {l : List UInt8} {k j : Nat} {c : UInt8} (h : (l.take k).all stB = true) (hk : ∀ c, l[k]? = some c → c = 61) (hj : k ≤ j) (hc : l[j]? = some c) (h2 : c ≠ 61) : mayT l = false := by
  have hl : j < l.length := (List.getElem?_eq_some_iff.1 hc).1
  rw [may_at h hk (by omega)]
  have : (l.drop k).all (fun c => c == 61) = false := by
    rw [Bool.eq_false_iff]
    intro ha
    have := List.all_eq_true.1 ha c (List.mem_of_getElem? (i := j - k) (by rw [List.getElem?_drop, show k + (j - k) = j by omega]; exact hc))
    exact h2 (by simpa using this)
  rw [this, Bool.false_and]
theorem may_end {l : List UInt8} {k : Nat} (h : (l.take k).all stB = true) (hk : ∀ c, l[k]? = some c → c = 61) (hl : k ≤ l.length) (ha : ∀ j, k ≤ j → j < l.length → l[j]? = some 61) : mayT l = (decide (0 < k) && decide (l.length ≤ 64)) := by
  rw [may_at h hk hl]
  have : (l.drop k).all (fun c => c == 61) = true := by
    rw [List.all_eq_true]
    intro x hx
    obtain ⟨i, hi, e⟩ := List.mem_iff_getElem.1 hx
    rw [List.length_drop] at hi
    have h1 := ha (k + i) (by omega) (by omega)
    rw [← List.getElem?_drop] at h1
    have h2 : (l.drop k)[i]? = some x := by rw [← e]; exact List.getElem?_eq_getElem _
    rw [h1] at h2
    injection h2 with h2
    simp [← h2]
  rw [this, Bool.true_and]
end Go.Proofs.YtopanahgeeolbaaGreatDoor.Aut

namespace Go.Proofs.YtopanahgeeolbaaGreatDoor.Aut
open Go.RowKit

def sgS : ByteArray := ⟨#[45, 46, 95, 126, 43, 47]⟩
set_option maxHeartbeats 1000000 in
set_option maxRecDepth 100000 in
theorem sg_high (r : Int) (w : World) (h1 : 128 ≤ r) (h2 : r ≤ 2147483647) : Calls Tryz.prog 77 #[.string sgS, .int .i32 r] w fun e w' => e = .returned (.int .i64 (-1)) ∧ Below w.heap.size w w' := by
  have hz : sgS.size ≤ 6 := by decide
  have hlow : ∀ k, ∀ h : k < sgS.size, (sgS[k]'h).toNat < 128 := by
    have : ∀ c ∈ bl sgS, c.toNat < 128 := by decide
    intro k h
    exact this _ (List.mem_of_getElem? (bl_get sgS k h))
  have HL := Lib.hid hlow
  clear hlow
  have e0 : decide (r < 128) = false := by simp; omega
  by_cases he : r = 65533
  · have e1 : (r == 65533) = true := by simpa using he
    clear he
    go_enter Tryz.func77, Tryz.ntmps77
    go_wp2
    go_loopw [5, 6] (fun _ _ wx => ∃ k : Nat, k ≤ sgS.size ∧ AtIter wx w.heap.size sgS k ∧ Below w.heap.size w wx) (fun _ _ wx => sgS.size - wx.iterPos w.heap.size)
    case atStart => exact ⟨0, Nat.zero_le _, AtIter.start _ _, (Below.refl _ _).alloc (Nat.le_refl _) _⟩
    case round =>
      obtain ⟨k, hk, hit, hB⟩ := hrel
      by_cases hlt : k < sgS.size
      · have hd := decode_ascii sgS k hlt (HL.out k hlt)
        obtain ⟨w1, hnx, hit1, t1, z1⟩ := next_some (P := Tryz.prog) hit hlt hd
        have hc := HL.out k hlt
        have e2 : (((sgS[k]'hlt).toNat : Int) == 65533) = false := by simp; omega
        have hm := hit.pos
        have HM := Lib.hid hm
        clear hd hm z1
        go_wp2
        go_roundw
        case rel => exact ⟨k + 1, hlt, hit1, hB.trans ⟨t1.os, t1.tape, t1.output, t1.size, fun b hb => t1.block b (by have := hB.size; omega) (by omega)⟩⟩
        case measure => rw [hit1.pos, HM.out]; omega
      · have hnx := next_none (P := Tryz.prog) hit hlt
        go_wp2
        go_ret
        exact ⟨rfl, hB⟩
  · have e1 : (r == 65533) = false := by simpa using he
    clear he
    cases hv : Lib.validRune r with
    | false =>
      have C := Lib.hid (Tryz.utf8_ValidRune r w)
      rw [hv] at C
      clear hv
      go_enter Tryz.func77, Tryz.ntmps77
      go_wp2_with fail
      refine C.out.mono ?_
      rintro e w9 ⟨rfl, h9⟩
      subst h9
      go_wp2
      go_ret
      exact ⟨rfl, Below.refl _ _⟩
    | true =>
      have C := Lib.hid (Tryz.utf8_ValidRune r w)
      rw [hv] at C
      have hval : Utf8.valid r = true := by
        simp only [Lib.validRune, decide_eq_true_eq] at hv
        simp only [Utf8.valid, Bool.or_eq_true, Bool.and_eq_true, decide_eq_true_eq]
        omega
      have hf := encode_facts r hval (by omega)
      obtain ⟨f1, f2, f3⟩ := hf
      obtain ⟨k, hk⟩ : ∃ k, (Utf8.encode r).size = k + 1 := ⟨(Utf8.encode r).size - 1, by omega⟩
      have hks : k < (Utf8.encode r).size := by omega
      have f4 : 128 ≤ ((Utf8.encode r)[k]'hks).toNat := by
        have := f3 (by omega)
        simpa only [hk, Nat.add_sub_cancel] using this
      have hk6 : k < sgS.size := by have : sgS.size = 6 := rfl; omega
      have f5 := HL.out k hk6
      have e2 : (((sgS[k]'hk6).toNat : Int) != (((Utf8.encode r)[k]'hks).toNat : Int)) = true := by simp; omega
      have hx : Lib.indexByte (sgS.extract (k + 1) sgS.size).data.toList ((((Utf8.encode r)[k]'hks).toNat : Int)).toNat.toUInt8 = -1 := by
        refine indexByte_far _ _ fun c hc e => ?_
        have hc' : c ∈ bl sgS := by
          have : c ∈ bl (sgS.extract (k + 1) sgS.size) := hc
          rw [extract_bl, piece] at this
          exact List.mem_of_mem_drop (List.mem_of_mem_take this)
        obtain ⟨j, hj, e'⟩ := List.mem_iff_getElem.1 hc'
        have h7 := HL.out j (by rw [← bl_length]; exact hj)
        have e8 : (sgS[j]'(by rw [← bl_length]; exact hj)) = c := e'
        rw [e8, e] at h7
        simp at h7
        omega
      have HX := Lib.hid hx
      clear hv hval f3 hx
      have HK := Lib.hid hk
      clear hk
      go_enter Tryz.func77, Tryz.ntmps77
      go_wp2_with fail
      refine C.out.mono ?_
      rintro e w9 ⟨rfl, h9⟩
      subst h9
      go_wp2_with fail
      go_step3
      go_wp2_with fail
      rw [show ((Utf8.encode r).size : Int) - 1 = (k : Int) from by rw [HK.out]; simp]
      go_loopw [9] (fun b wx => b = .int .i64 (k : Int) ∧ w9 = wx) (fun _ _ => 0)
      case atStart => exact ⟨rfl, rfl⟩
      case round =>
        obtain ⟨rfl, rfl⟩ := hrel
        go_wp2_with fail
        go_step3
        go_wp2_with fail
        go_quiet (fail)
        go_wp2_with fail
        generalize hw8 : World.drewN w9 nq = w8
        have HW8 := Lib.hid hw8
        clear hw8
        have C8 := Lib.hid (fun W : World => Tryz.strings_IndexByte (sgS.extract (k + 1) sgS.size) (((Utf8.encode r)[k]'hks).toNat : Int) W)
        rw [HX.out] at C8
        have q1 : IntKind.i64.wrap ((k : Int) + 1) = (k : Int) + 1 := IntWalk.i64_in _ (by omega)
        have q2 : 0 ≤ (k : Int) + 1 := by omega
        have q3 : ((k : Int) + 1).toNat = k + 1 := by omega
        have q4 : (k : Int) + 1 ≤ (sgS.size : Int) := by omega
        have q5 : k + 1 ≤ sgS.size := by omega
        go_quiet ((go_at_call 90; exact Calls.quiet_of_same (C8.out _)))
        clear q1 q2 q3 q4 q5
        go_wp2_with fail
        rw [Exit.noGoto_ret]
        go_wp2
        rw [Exit.noGoto_ret]
        go_wp2
        go_ret
        refine ⟨rfl, ?_⟩
        rw [← HW8.out]
        exact (((Turn.refl (fun _ => False) w9).drewN _).drewN _).below (fun _ _ h => h)

theorem sgc_high (r : Int) (w : World) (h1 : 128 ≤ r) (h2 : r ≤ 2147483647) : Calls Tryz.prog 56 #[.string sgS, .int .i32 r] w fun e w' => e = .returned (.bool false) ∧ Below w.heap.size w w' := by
  go_enter Tryz.func56, Tryz.ntmps56
  go_wp2_with fail
  refine (sg_high r w h1 h2).mono ?_
  rintro e w9 ⟨rfl, b9⟩
  go_wp2_with fail
  go_ret
  exact ⟨rfl, b9⟩
theorem sgc_low (c : UInt8) (w : World) (h : c.toNat < 128) : Calls Tryz.prog 56 #[.string sgS, .int .i32 (c.toNat : Int)] w fun e w' => e = .returned (.bool ((bl sgS).any (· == c))) ∧ Below w.heap.size w w' := by
  refine (Tryz.strings_ContainsRune_ascii sgS (c.toNat : Int) w (by omega) (by omega)).mono ?_
  rintro e w' ⟨rfl, rfl⟩
  refine ⟨ret_bool ?_, Below.refl _ _⟩
  have : ((c.toNat : Int)).toNat.toUInt8 = c := by simp
  rw [this]
  show decide (0 ≤ Lib.indexByte (bl sgS) c) = _
  generalize bl sgS = l
  by_cases hc : c ∈ l
  · rw [decide_eq_true (by
      have h1 := Lib.indexByte_ge l c
      by_cases he : Lib.indexByte l c = -1
      · obtain ⟨k, hk, e⟩ := List.mem_iff_getElem.1 hc
        exact absurd (by rw [List.getElem?_eq_getElem hk, e]) (Lib.indexByte_none he k)
      · omega)]
    symm
    rw [List.any_eq_true]
    exact ⟨c, hc, by simp⟩
  · rw [indexByte_far l c (fun d hd e => hc (e ▸ hd))]
    show false = _
    symm
    rw [Bool.eq_false_iff]
    intro h
    obtain ⟨d, hd, e⟩ := List.any_eq_true.1 h
    rw [beq_iff_eq] at e
    exact hc (e ▸ hd)


theorem stB_split (c : UInt8) : stB c = ((decide (97 ≤ (c.toNat : Int)) && decide ((c.toNat : Int) ≤ 122)) || ((decide (65 ≤ (c.toNat : Int)) && decide ((c.toNat : Int) ≤ 90)) || ((decide (48 ≤ (c.toNat : Int)) && decide ((c.toNat : Int) ≤ 57)) || (bl sgS).any (· == c)))) := by
  have e : (bl sgS).any (· == c) = (c == 45 || c == 46 || c == 95 || c == 126 || c == 43 || c == 47) := by
    show (45 == c || (46 == c || (95 == c || (126 == c || (43 == c || (47 == c || false)))))) = _
    rw [Bool.eq_iff_iff]
    simp only [Bool.or_eq_true, beq_iff_eq, Bool.or_false, eq_comm (a := c), or_assoc]
  have q : ∀ a b : Nat, decide ((a : Int) ≤ (b : Int)) = decide (a ≤ b) := fun a b => by rw [Bool.eq_iff_iff]; simp
  rw [e, show (97 : Int) = ((97 : Nat) : Int) from rfl, show (122 : Int) = ((122 : Nat) : Int) from rfl, show (65 : Int) = ((65 : Nat) : Int) from rfl, show (90 : Int) = ((90 : Nat) : Int) from rfl, show (48 : Int) = ((48 : Nat) : Int) from rfl, show (57 : Int) = ((57 : Nat) : Int) from rfl, q, q, q, q, q, q]
  unfold stB
  simp only [Bool.or_assoc]
theorem st_high (c : UInt8) (h : 128 ≤ c.toNat) : stB c = false := by
  have e : ∀ d ∈ bl sgS, d.toNat < 128 := by decide
  rw [stB_split, Bool.eq_false_iff]
  intro h2
  simp only [Bool.or_eq_true, Bool.and_eq_true, decide_eq_true_eq] at h2
  rcases h2 with h2 | h2 | h2 | h2
  · omega
  · omega
  · omega
  · obtain ⟨d, hd, e'⟩ := List.any_eq_true.1 h2
    rw [beq_iff_eq] at e'
    have := e d hd
    rw [e'] at this
    omega
set_option maxHeartbeats 1000000 in
set_option maxRecDepth 100000 in
theorem stands_low (c : UInt8) (w : World) (h : c.toNat < 128) : Calls Tryz.prog 33 #[.int .i32 (c.toNat : Int)] w fun e w' => e = .returned (.bool (stB c)) ∧ Below w.heap.size w w' := by
  have HT := Lib.hid (stB_split c)
  have CO := Lib.hid (fun W : World => sgc_low c W h)
  generalize (bl sgS).any (· == c) = m at *
  go_enter Tryz.func33, Tryz.ntmps33
  go_wp2_with (go_at_call 56; refine (CO.out _).mono ?_; rintro e w9 ⟨rfl, b9⟩)
  all_goals
    go_ret
    first
      | refine ⟨ret_bool ?_, b9⟩
      | refine ⟨ret_bool ?_, Below.refl _ _⟩
    rw [HT.out]
    clear HT CO
    rw [Bool.eq_iff_iff]
    cases m <;> simp
  all_goals omega
set_option maxHeartbeats 1000000 in
set_option maxRecDepth 100000 in
theorem stands_high (r : Int) (w : World) (h1 : 128 ≤ r) (h2 : r ≤ 2147483647) : Calls Tryz.prog 33 #[.int .i32 r] w fun e w' => e = .returned (.bool false) ∧ Below w.heap.size w w' := by
  have e1 : decide (r ≤ 122) = false := by simp; omega
  have e2 : decide (r ≤ 90) = false := by simp; omega
  have e3 : decide (r ≤ 57) = false := by simp; omega
  go_enter Tryz.func33, Tryz.ntmps33
  go_wp2_with (go_at_call 56; refine (sgc_high r _ h1 h2).mono ?_; rintro e w8 ⟨rfl, b9⟩)
  all_goals
    go_ret
    exact ⟨rfl, b9⟩
theorem may1_low (c : UInt8) (w : World) (h : c.toNat < 128) : Calls Tryz.prog 32 #[.int .i32 (c.toNat : Int)] w fun e w' => e = .returned (.bool (!stB c)) ∧ Below w.heap.size w w' := by
  have C := Lib.hid (stands_low c w h)
  generalize stB c = b at *
  go_enter Tryz.func32, Tryz.ntmps32
  go_wp2_with fail
  refine C.out.mono ?_
  rintro e w' ⟨rfl, b'⟩
  go_wp2_with fail
  go_ret
  exact ⟨rfl, b'⟩
theorem may1_high (r : Int) (w : World) (h1 : 128 ≤ r) (h2 : r ≤ 2147483647) : Calls Tryz.prog 32 #[.int .i32 r] w fun e w' => e = .returned (.bool true) ∧ Below w.heap.size w w' := by
  have C := Lib.hid (stands_high r w h1 h2)
  go_enter Tryz.func32, Tryz.ntmps32
  go_wp2_with fail
  refine C.out.mono ?_
  rintro e w' ⟨rfl, b'⟩
  go_wp2_with fail
  go_ret
  exact ⟨rfl, b'⟩

set_option maxHeartbeats 1000000 in
set_option maxRecDepth 100000 in
theorem idxr_any (s : ByteArray) (w : World) : Calls Tryz.prog 76 #[.string s, .func (.func 32) #[] #[], .bool true] w fun e w' => ∃ i : Int, e = .returned (.int .i64 i) ∧ decide (0 ≤ i) = !(bl s).all stB ∧ Below w.heap.size w w' := by
  go_enter Tryz.func76, Tryz.ntmps76
  go_wp2_with fail
  go_loopw [7, 8] (fun _ _ wx => ∃ k : Nat, k ≤ s.size ∧ AtIter wx w.heap.size s k ∧ Below w.heap.size w wx ∧ ((bl s).take k).all stB = true) (fun _ _ wx => s.size - wx.iterPos w.heap.size)
  case atStart => exact ⟨0, Nat.zero_le _, AtIter.start _ _, (Below.refl _ _).alloc (Nat.le_refl _) _, rfl⟩
  case round =>
    obtain ⟨k, hk, hit, hB, hall⟩ := hrel
    have HALL := Lib.hid hall
    have HM := Lib.hid hit.pos
    clear hall
    by_cases hlt : k < s.size
    · rcases decode_step s k hlt with ⟨hc, hd⟩ | ⟨hc, r, n, hd, hr1, hr2, hn, hw⟩
      · obtain ⟨w1, hnx, hit1, t1, z1⟩ := next_some (P := Tryz.prog) hit hlt hd
        have hB1 : Below w.heap.size w w1 := hB.trans ⟨t1.os, t1.tape, t1.output, t1.size, fun b hb => t1.block b (by have := hB.size; omega) (by omega)⟩
        have hlt1 := hit1.lt
        clear hd z1 t1
        have C := Lib.hid (may1_low s[k] w1 hc)
        have HG := Lib.hid (bl_get s k hlt)
        have HTK := Lib.hid (bl_take s k hlt)
        generalize s[k] = c at *
        cases hpc : stB c with
        | true =>
          rw [hpc] at C
          have HP := Lib.hid hpc
          clear hpc
          go_wp2_with fail
          refine C.out.mono ?_
          rintro e w2 ⟨rfl, b2⟩
          have hit2 : AtIter w2 w.heap.size s (k + 1) := hit1.kept (Turn.of_below (S := fun _ => False) b2) (fun h => h)
          go_wp2_with fail
          go_roundw
          case rel => exact ⟨k + 1, hlt, hit2, hB1.trans (b2.mono hB1.size), by rw [HTK.out, List.all_append, HALL.out]; simp [HP.out]⟩
          case measure => rw [hit2.pos, HM.out]; omega
        | false =>
          rw [hpc] at C
          have HP := Lib.hid hpc
          clear hpc
          go_wp2_with fail
          refine C.out.mono ?_
          rintro e w2 ⟨rfl, b2⟩
          go_wp2_with fail
          go_ret
          exact ⟨(k : Int), rfl, by rw [all_no _ _ c k HG.out HP.out]; simp, hB1.trans (b2.mono hB1.size)⟩
      · obtain ⟨w1, hnx, hit1, t1, z1⟩ := next_some (P := Tryz.prog) hit hlt hd
        have hB1 : Below w.heap.size w w1 := hB.trans ⟨t1.os, t1.tape, t1.output, t1.size, fun b hb => t1.block b (by have := hB.size; omega) (by omega)⟩
        have hlt1 := hit1.lt
        have HG := Lib.hid (bl_get s k hlt)
        clear hd z1 t1 hw
        have C := Lib.hid (may1_high (r : Int) w1 (by omega) (by omega))
        have HC := Lib.hid (st_high s[k] hc)
        generalize s[k] = c at *
        go_wp2_with fail
        refine C.out.mono ?_
        rintro e w2 ⟨rfl, b2⟩
        go_wp2_with fail
        go_ret
        exact ⟨(k : Int), rfl, by rw [all_no _ _ c k HG.out HC.out]; simp, hB1.trans (b2.mono hB1.size)⟩
    · have hnx := next_none (P := Tryz.prog) hit hlt
      have HF := Lib.hid (show (bl s).all stB = true by
        have := HALL.out
        rw [List.take_of_length_le (by rw [bl_length]; omega)] at this
        exact this)
      go_wp2_with fail
      go_ret
      exact ⟨-1, rfl, by rw [HF.out]; rfl, hB⟩
theorem idx_any (s : ByteArray) (w : World) : Calls Tryz.prog 55 #[.string s, .func (.func 32) #[] #[]] w fun e w' => ∃ i : Int, e = .returned (.int .i64 i) ∧ decide (0 ≤ i) = !(bl s).all stB ∧ Below w.heap.size w w' := by
  have C := Lib.hid (idxr_any s w)
  go_enter Tryz.func55, Tryz.ntmps55
  go_wp2_with fail
  refine C.out.mono ?_
  rintro e w' ⟨i, rfl, hi, b'⟩
  have HI := Lib.hid hi
  clear hi
  go_wp2_with fail
  go_ret
  exact ⟨i, rfl, HI.out, b'⟩
theorem has_any (s : ByteArray) (w : World) : Calls Tryz.prog 31 #[.string s, .func (.func 32) #[] #[]] w fun e w' => e = .returned (.bool (!(bl s).all stB)) ∧ Below w.heap.size w w' := by
  have C := Lib.hid (idx_any s w)
  generalize (!(bl s).all stB) = b at *
  go_enter Tryz.func31, Tryz.ntmps31
  go_wp2_with fail
  refine C.out.mono ?_
  rintro e w' ⟨i, rfl, rfl, b'⟩
  go_wp2_with fail
  go_ret
  exact ⟨rfl, b'⟩
end Go.Proofs.YtopanahgeeolbaaGreatDoor.Aut

namespace Go.Proofs.YtopanahgeeolbaaGreatDoor.Aut
open Go.RowKit Acl

/-- A number, and from where to where it may be. -/
structure LiE where
  n : Int
  lo : Int
  hi : Int
def LiE.cells (x : LiE) : List Value := [.int .i64 x.n, .int .i64 x.lo, .int .i64 x.hi]
def LiE.val (x : LiE) : Value := .agg #[.int .i64 x.n, .int .i64 x.lo, .int .i64 x.hi]
def outF (x : LiE) : Bool := decide (x.n < x.lo) || decide (x.hi < x.n)
def inF (x : LiE) : Bool := decide (x.lo ≤ x.n) && decide (x.n ≤ x.hi)
theorem out_in (x : LiE) : outF x = !inF x := by
  unfold outF inF
  rw [Bool.eq_iff_iff]
  simp
  all_goals omega
def lis (L : List LiE) : List Value := L.flatMap LiE.cells
theorem lis_get : ∀ (L : List LiE) (i : Nat) (x : LiE), L[i]? = some x → ∀ j v, x.cells[j]? = some v → (lis L)[i * 3 + j]? = some v
  | [], i, x, h => by simp at h
  | g :: l, 0, x, h => by
    simp only [List.getElem?_cons_zero, Option.some.injEq] at h
    subst h
    intro j v hv
    show (g.cells ++ lis l)[0 * 3 + j]? = _
    rw [Nat.zero_mul, Nat.zero_add, List.getElem?_append_left (List.getElem?_eq_some_iff.1 hv).1]
    exact hv
  | g :: l, i + 1, x, h => by
    intro j v hv
    have := lis_get l i x (by simpa using h) j v hv
    show (g.cells ++ lis l)[(i + 1) * 3 + j]? = _
    have e : (i + 1) * 3 + j = (i * 3 + j) + 3 := by omega
    rw [e, List.getElem?_append_right (by simp [LiE.cells]), show g.cells.length = 3 from rfl, Nat.add_sub_cancel]
    exact this
/-- A slice's address reads the limits. -/
def SrcI (w : World) (A : Option Addr) (L : List LiE) : Prop := 0 < L.length → ∃ ad : Addr, A = some ad ∧ ad.block < w.heap.size ∧ ∀ i x, L[i]? = some x → ∀ j v, x.cells[j]? = some v → w.cell? (ad.add (i * 3 + j)) = some v
theorem srci_is {w : World} {g : Nat} {t : TypeId} {L : List LiE} (h : Is w g t (lis L)) : SrcI w (some ⟨g, 0, none⟩) L := fun _ => ⟨_, rfl, h.lt, fun i x hx j v hv => by
  rw [add_at, h.cell, Nat.zero_add]
  exact lis_get L i x hx j v hv⟩
theorem liSize : (Tryz.prog.info? 54).map (·.size) = some 3 := by kernel_rfl
theorem run_at_size3 (a : Addr) (n c k : Nat) (hk : k < n) (W : World) :
    (Instr.indexAt 68 (.slice (some a) n c) (.int .i64 (k : Int))).run Tryz.prog W = .ok (.pointer (some (a.add (k * 3)))) W := by
  obtain ⟨i, hi, hs⟩ := Option.map_eq_some_iff.1 liSize
  have h2 : ¬ n ≤ k := by omega
  simp [Instr.indexAt, run_underlying Tryz.underlying68, asIntOf, h2, sizeOf, typeInfo, hi, hs]
/-- &l[k] and the limit's three cells. -/
theorem SrcI.at {w wr : World} {A : Option Addr} {L : List LiE} {n c k : Nat} (h : SrcI w A L) (hn : L.length = n) (hlt : k < n) (hB : Below w.heap.size w wr) :
    ∃ (p : Addr) (x : LiE), L[k]? = some x ∧ (∀ Wx, (Instr.indexAt 68 (.slice A n c) (.int .i64 (k : Int))).run Tryz.prog Wx = .ok (.pointer (some p)) Wx) ∧
      wr.cell? p = some (.int .i64 x.n) ∧ wr.cell? ⟨p.block, p.off + 1, none⟩ = some (.int .i64 x.lo) ∧ wr.cell? ⟨p.block, p.off + 2, none⟩ = some (.int .i64 x.hi) := by
  obtain ⟨ad, hA, hadb, hc⟩ := h (by omega)
  obtain ⟨x, hr⟩ : ∃ x, L[k]? = some x := ⟨L[k]'(by omega), List.getElem?_eq_getElem _⟩
  have hcell : ∀ j v, x.cells[j]? = some v → wr.cell? ((ad.add (k * 3)).add j) = some v := fun j v hv => by
    have c1 := hc k x hr j v hv
    rw [add_add_at]
    exact (hB.cell (Lib.lt_of_cell c1)).trans c1
  have h0 : (ad.add (k * 3)).add 0 = ad.add (k * 3) := by rw [add_add_at, Nat.add_zero]
  refine ⟨ad.add (k * 3), x, hr, fun Wx => ?_, ?_, hcell 1 _ rfl, hcell 2 _ rfl⟩
  · rw [hA]
    exact run_at_size3 ad n c k hlt Wx
  · have := hcell 0 _ (show x.cells[0]? = some (.int .i64 x.n) from rfl)
    rwa [h0] at this

set_option maxHeartbeats 1000000 in
set_option maxRecDepth 100000 in
theorem within1_any (x : LiE) (w : World) : Calls Tryz.prog 46 #[.agg #[.int .i64 x.n, .int .i64 x.lo, .int .i64 x.hi]] w fun e w' => e = .returned (.bool (outF x)) ∧ Below w.heap.size w w' := by
  have I0 := Lib.hid (Is.made w 54 [.int .i64 x.n, .int .i64 x.lo, .int .i64 x.hi])
  have B0 : Hid (Below w.heap.size w (w.alloc (.cells #[.int .i64 x.n, .int .i64 x.lo, .int .i64 x.hi] 54))) := Lib.hid ((Below.refl _ _).alloc (Nat.le_refl _) _)
  have HO := Lib.hid (show outF x = (decide (x.n < x.lo) || decide (x.hi < x.n)) from rfl)
  obtain ⟨n, lo, hi⟩ := x
  simp only at *
  go_enter Tryz.func46, Tryz.ntmps46
  go_wp2_with fail
  all_goals
    go_ret
    refine ⟨ret_bool (Eq.trans ?_ HO.out.symm), B0.out⟩
    clear HO
    first
      | rfl
      | (rw [Bool.eq_iff_iff]; simp; done)
      | (rw [Bool.eq_iff_iff]; simp; omega)
theorem eg_within : ∀ args w, (callFunc 46 args).run Tryz.prog w = .ok (.enter 46 args) w := enters_of Tryz.func46 (by kernel_rfl) rfl

set_option maxHeartbeats 4000000 in
set_option maxRecDepth 100000 in
theorem idxI_any (w : World) (A : Option Addr) (ls : List LiE) (n c : Nat) (hn : ls.length = n) (hmax : n ≤ 140737488351232) (h : SrcI w A ls) :
    Calls Tryz.prog 66 #[.slice A n c, .func (.func 46) #[] #[]] w fun e w' => ∃ i : Int, e = .returned (.int .i64 i) ∧ Hit outF ls i ∧ Below w.heap.size w w' := by
  have HN := Lib.hid hn
  have H := Lib.hid h
  clear hn h
  go_enter Tryz.func66, Tryz.ntmps66
  go_wp2_with fail
  go_loopw [8] (fun vi wr => ∃ k : Nat, vi = .int .i64 (k : Int) ∧ k ≤ n ∧ Hid ((ls.take k).any outF = false) ∧ Hid (Below w.heap.size w wr)) (fun vi _ => n - (intOf vi).toNat)
  case atStart => exact ⟨0, rfl, Nat.zero_le _, Lib.hid rfl, Lib.hid (Below.refl _ _)⟩
  case round =>
    obtain ⟨k, rfl, hk, HE, HB⟩ := hrel
    by_cases hlt : k < n
    · obtain ⟨pa, x, hx, hat, y0, y1, y2⟩ := SrcI.at (c := c) H.out HN.out hlt HB.out
      have HTK := Lib.hid (show (ls.take (k + 1)).any outF = outF x by rw [take_snoc ls k x hx, List.any_append, HE.out]; simp)
      have HX := Lib.hid hx
      have CD := within1_any x wr
      clear hx
      cases hb : outF x with
      | false =>
        rw [hb] at CD HTK
        clear hb
        have CD := Lib.hid CD
        go_wp2_with fail
        refine CD.out.mono ?_
        rintro e w5 ⟨rfl, b5⟩
        go_wp2_with fail
        have B5 := Lib.hid (HB.out.trans (b5.mono HB.out.size))
        clear b5
        go_roundw
        case rel => exact ⟨k + 1, by go_num, hlt, HTK, B5⟩
        case measure => simp [intOf]; omega
      | true =>
        rw [hb] at CD
        have HP := Lib.hid hb
        clear hb
        have CD := Lib.hid CD
        go_wp2_with fail
        refine CD.out.mono ?_
        rintro e w5 ⟨rfl, b5⟩
        go_wp2_with fail
        go_ret
        exact ⟨(k : Int), rfl, .inr ⟨k, x, rfl, HX.out, HP.out, HE.out⟩, HB.out.trans (b5.mono HB.out.size)⟩
    · have HN := Lib.hid (show ls.any outF = false by rw [← HE.out, List.take_of_length_le (by rw [HN.out]; omega)])
      go_wp2_with fail
      go_ret
      exact ⟨-1, rfl, .inl ⟨rfl, HN.out⟩, HB.out⟩
theorem hasI_any (w : World) (A : Option Addr) (ls : List LiE) (n c : Nat) (hn : ls.length = n) (hmax : n ≤ 140737488351232) (h : SrcI w A ls) :
    Calls Tryz.prog 45 #[.slice A n c, .func (.func 46) #[] #[]] w fun e w' => e = .returned (.bool (ls.any outF)) ∧ Below w.heap.size w w' := by
  have CI := Lib.hid (idxI_any w A ls n c hn hmax h)
  clear hn hmax h
  go_enter Tryz.func45, Tryz.ntmps45
  go_wp2_with fail
  refine CI.out.mono ?_
  rintro e w' ⟨i, rfl, hi, b'⟩
  have hh := hi.any
  clear hi
  go_wp2_with fail
  go_ret
  exact ⟨by rw [← hh]; rfl, b'⟩
theorem any_out (L : List LiE) : (!L.any outF) = L.all inF := by
  induction L with
  | nil => rfl
  | cons a l ih => rw [List.any_cons, List.all_cons, out_in, ← ih]; simp
theorem within_any (w : World) (A : Option Addr) (ls : List LiE) (n c : Nat) (hn : ls.length = n) (hmax : n ≤ 140737488351232) (h : SrcI w A ls) :
    Calls Tryz.prog 24 #[.slice A n c] w fun e w' => e = .returned (.bool (ls.all inF)) ∧ Below w.heap.size w w' := by
  have CI := Lib.hid (hasI_any w A ls n c hn hmax h)
  rw [← any_out]
  clear hn hmax h
  generalize ls.any outF = b at *
  go_enter Tryz.func24, Tryz.ntmps24
  go_wp2_with fail
  refine CI.out.mono ?_
  rintro e w' ⟨rfl, b'⟩
  go_wp2_with fail
  go_ret
  exact ⟨rfl, b'⟩
end Go.Proofs.YtopanahgeeolbaaGreatDoor.Aut

namespace Go.Proofs.YtopanahgeeolbaaGreatDoor.Aut
open Go.RowKit

theorem eq_text (x m : ByteArray) : (x.toList == m.toList) = (bl x == bl m) := by rw [Lib.toList_data, Lib.toList_data]; rfl

/-! ## May -/
theorem one_limit (X : World) (n : Nat) (h : 1 ≤ n) : Calls Tryz.prog 24 #[.slice (some ⟨X.heap.size, 0, none⟩) 1 1] (X.alloc (.cells #[.int .i64 (n : Int), .int .i64 1, .int .i64 64] 54)) fun e w' => e = .returned (.bool (decide (n ≤ 64))) ∧ Below X.heap.size X w' := by
  have hb : Below X.heap.size X (X.alloc (.cells #[.int .i64 (n : Int), .int .i64 1, .int .i64 64] 54)) := (Below.refl _ _).alloc (Nat.le_refl _) _
  refine (within_any _ (some ⟨X.heap.size, 0, none⟩) [⟨(n : Int), 1, 64⟩] 1 1 rfl (by decide) (srci_is (Is.made X 54 [.int .i64 (n : Int), .int .i64 1, .int .i64 64]))).mono ?_
  rintro e w' ⟨rfl, b⟩
  refine ⟨ret_bool ?_, hb.trans (b.mono hb.size)⟩
  simp only [List.all_cons, List.all_nil, Bool.and_true, inF]
  rw [Bool.eq_iff_iff]
  simp
  omega
set_option maxHeartbeats 2000000 in
set_option maxRecDepth 100000 in
theorem may_any (s : ByteArray) (w : World) (hs : s.size ≤ 281474976710656) : Calls Tryz.prog 13 #[.string s] w fun e w' => e = .returned (.bool (mayT (bl s))) ∧ Below w.heap.size w w' := by
  have HM := may_own (bl s)
  have C1 := Tryz.strings_TrimRight_one s 61 (by decide) w (by omega)
  obtain ⟨T, hT⟩ : ∃ T : ByteArray, T = ⟨(Lib.trimRightB (bl s) 61).toArray⟩ := ⟨_, rfl⟩
  have hb : bl T = Lib.trimRightB (bl s) 61 := by rw [hT, bl_mk]
  rw [show s.data.toList = bl s from rfl, ← hT] at C1
  rw [← hb, bl_length] at HM
  have C1 := Lib.hid C1
  have HM := Lib.hid HM
  have CF := Lib.hid (fun W : World => has_any T W)
  have CL := Lib.hid (fun (X : World) (h : 1 ≤ s.size) => one_limit X s.size h)
  have h1 : bl T ≠ [] → 1 ≤ s.size := fun h => by
    rw [← bl_length]
    cases hl : bl s with
    | nil => exact absurd (by rw [hb, hl]; rfl) h
    | cons a r => simp
  have H1 := Lib.hid h1
  clear hT hb hs h1
  cases hl : bl T with
  | nil =>
    have e1 : T.toList = [] := by rw [Lib.toList_data]; exact hl
    have HF := Lib.hid (show mayT (bl s) = false by rw [HM.out, hl]; rfl)
    clear hl CF CL HM H1
    go_enter Tryz.func13, Tryz.ntmps13
    go_wp2_with fail
    refine C1.out.mono ?_
    rintro e w1 ⟨rfl, rfl⟩
    go_wp2_with fail
    go_ret
    exact ⟨ret_bool HF.out.symm, Below.refl _ _⟩
  | cons c l =>
    have e1 : T.toList = c :: l := by rw [Lib.toList_data]; exact hl
    have e2 : (!T.toList.isEmpty) = true := by rw [e1]; rfl
    have HL := Lib.hid (CL.out w (H1.out (by rw [hl]; simp)))
    rw [hl] at HM CF
    clear hl CL H1
    by_cases h64 : s.size ≤ 64
    · rw [decide_eq_true h64] at HM HL
      clear h64
      generalize (c :: l).all stB = b at *
      have HF := Lib.hid (show mayT (bl s) = b by rw [HM.out]; simp)
      clear HM
      go_enter Tryz.func13, Tryz.ntmps13
      go_wp2_with fail
      refine C1.out.mono ?_
      rintro e w1 ⟨rfl, rfl⟩
      go_wp2_with fail
      refine HL.out.mono ?_
      rintro e w2 ⟨rfl, b2⟩
      go_wp2_with fail
      refine (CF.out _).mono ?_
      rintro e w3 ⟨rfl, b3⟩
      go_wp2_with fail
      go_ret
      exact ⟨ret_bool HF.out.symm, b2.trans (b3.mono b2.size)⟩
    · rw [decide_eq_false h64] at HM HL
      clear h64
      have HF := Lib.hid (show mayT (bl s) = false by rw [HM.out]; simp)
      clear HM CF
      go_enter Tryz.func13, Tryz.ntmps13
      go_wp2_with fail
      refine C1.out.mono ?_
      rintro e w1 ⟨rfl, rfl⟩
      go_wp2_with fail
      refine HL.out.mono ?_
      rintro e w2 ⟨rfl, b2⟩
      go_wp2_with fail
      go_ret
      exact ⟨ret_bool HF.out.symm, b2⟩

/-! ## Cut, Clone -/
theorem below_drewX {B : Nat} {a w : World} (h : Below B a w) (n : Nat) : Below B a (w.drewN n) := ⟨h.os, h.tape, h.output, h.size, h.block⟩
/-- strings.Clone. -/
theorem sclone_any (s : ByteArray) (w : World) (hs : s.size ≤ 281474976710656) : Calls Tryz.prog 36 #[.string s] w fun e w' => e = .returned (.string s) ∧ Below w.heap.size w w' := by
  go_enter Tryz.func36, Tryz.ntmps36
  go_wp2_with fail
  refine (Tryz.stringslite_Clone s w hs).mono ?_
  rintro e w9 ⟨rfl, b9⟩
  go_wp2_with fail
  go_ret
  exact ⟨rfl, b9⟩
/-- strings.Cut at a blank. -/
def CutGot (l : List UInt8) (w : World) (e : Ending) (w' : World) : Prop :=
  e = .returned (.tuple #[.string ⟨(cutP l).1.toArray⟩, .string ⟨(cutP l).2.1.toArray⟩, .bool (cutP l).2.2]) ∧ Below w.heap.size w w'
set_option maxHeartbeats 2000000 in
theorem cut_in (s : ByteArray) (w : World) (hs : s.size ≤ 281474976710656) : Calls Tryz.prog 57 #[.string s, .string ⟨#[32]⟩] w (CutGot (bl s) w) := by
  have C0 := Tryz.stringslite_Index_one s 32 w
  rcases cut_or (bl s) with ⟨hm, hc⟩ | ⟨m, r, hl, hm, hc⟩
  · rw [show Lib.indexByte s.data.toList 32 = -1 from idx_miss _ hm] at C0
    have C := Lib.hid C0
    have HC := Lib.hid hc
    clear C0 hm hc
    go_enter Tryz.func57, Tryz.ntmps57
    go_wp2_with fail
    refine C.out.mono ?_
    rintro e w' ⟨rfl, rfl⟩
    go_wp2_with fail
    go_ret3
    refine ⟨?_, Below.refl _ _⟩
    rw [HC.out]
    simp only
    rw [mk_bl]
    rfl
  · rw [show Lib.indexByte s.data.toList 32 = (m.length : Int) by rw [show s.data.toList = m ++ 32 :: r from hl]; exact idx_hit _ _ hm] at C0
    have C := Lib.hid C0
    have HC := Lib.hid hc
    have hsz : s.size = m.length + 1 + r.length := by rw [← bl_length, hl]; simp; omega
    have x1 : s.extract 0 m.length = ⟨m.toArray⟩ := by
      rw [← mk_bl (s.extract 0 m.length), extract_bl, piece_front, hl, List.take_left' rfl]
    have x2 : s.extract (m.length + 1) s.size = ⟨r.toArray⟩ := by
      rw [← mk_bl (s.extract (m.length + 1) s.size), extract_bl, piece_back, hl, show m ++ 32 :: r = (m ++ [32]) ++ r by simp, List.drop_left' (by simp)]
    have X1 := Lib.hid x1
    have X2 := Lib.hid x2
    clear C0 hm hc hl x1 x2
    have c1 : (0 : Int) ≤ (m.length : Int) := by omega
    have c2 : (m.length : Int) ≤ (s.size : Int) := by omega
    have c3 : (0 : Int) ≤ (m.length : Int) + 1 := by omega
    have c4 : (m.length : Int) + 1 ≤ (s.size : Int) := by omega
    have c5 : IntKind.i64.wrap ((m.length : Int) + 1) = (m.length : Int) + 1 := by rw [IntKind.wrap_i64]; omega
    have c6 : ((m.length : Int) + 1).toNat = m.length + 1 := by omega
    clear hsz
    go_enter Tryz.func57, Tryz.ntmps57
    go_wp2_with fail
    refine C.out.mono ?_
    rintro e v ⟨rfl, rfl⟩
    go_wp2_with fail
    go_quiet (fail)
    have HB : Hid (Below v.heap.size v (v.drewN nq)) := Lib.hid (below_drewX (Below.refl _ _) nq)
    go_wp2_with fail
    go_ret3
    refine ⟨?_, HB.out⟩
    rw [HC.out]
    simp only
    rw [← X1.out, ← X2.out]
    rfl
set_option maxHeartbeats 1000000 in
theorem cut_any (s : ByteArray) (w : World) (hs : s.size ≤ 281474976710656) : Calls Tryz.prog 34 #[.string s, .string ⟨#[32]⟩] w (CutGot (bl s) w) := by
  go_enter Tryz.func34, Tryz.ntmps34
  go_wp2_with fail
  refine (cut_in s w hs).mono ?_
  rintro e w9 ⟨rfl, b9⟩
  go_wp2_with fail
  go_ret3
  exact ⟨rfl, b9⟩

/-! ## Credential -/
/-- What Credential answers. -/
def credV (r : Option (List UInt8)) : Value := match r with
  | none => .tuple #[.string ⟨#[]⟩, .bool false]
  | some t => .tuple #[.string ⟨t.toArray⟩, .bool true]
set_option maxHeartbeats 2000000 in
set_option maxRecDepth 100000 in
theorem cred_any (s : ByteArray) (w : World) (hs : s.size ≤ 281474976710656) : Calls Tryz.prog 16 #[.string s] w fun e w' => e = .returned (credV (credF (bl s))) ∧ Below w.heap.size w w' := by
  have C1 := cut_any s w hs
  unfold CutGot at C1
  have hl1 : (cutP (bl s)).2.1.length ≤ s.size := by
    rcases cut_or (bl s) with ⟨_, h⟩ | ⟨m, r, h1, _, h⟩
    · rw [h]; exact Nat.zero_le _
    · rw [h]
      have := congrArg List.length h1
      rw [bl_length] at this
      simp at this
      show r.length ≤ _
      omega
  have HF := show credF (bl s) = if (lowF (cutP (bl s)).1 == bearL && mayT (blankT (cutP (bl s)).2.1)) = true then some (blankT (cutP (bl s)).2.1) else none from rfl
  generalize (cutP (bl s)).1 = m at *
  generalize (cutP (bl s)).2.1 = r at *
  generalize (cutP (bl s)).2.2 = q at *
  obtain ⟨M, hM⟩ : ∃ M : ByteArray, M = ⟨m.toArray⟩ := ⟨_, rfl⟩
  obtain ⟨R, hR⟩ : ∃ R : ByteArray, R = ⟨r.toArray⟩ := ⟨_, rfl⟩
  obtain ⟨T, hT⟩ : ∃ T : ByteArray, T = ⟨(blankT r).toArray⟩ := ⟨_, rfl⟩
  have hbT : bl T = blankT r := by rw [hT, bl_mk]
  have C2 := fun W : World => Tryz.strings_TrimLeft_one R 32 (by decide) W
  rw [show R.data.toList = r by rw [hR], show Lib.trimLeftB r 32 = blankT r from rfl, ← hT] at C2
  have C3 := fun W : World => ty_same M ⟨#[66, 101, 97, 114, 101, 114]⟩ W
  rw [show bl M = m by rw [hM, bl_mk], show lowF (bl ⟨#[66, 101, 97, 114, 101, 114]⟩) = bearL from by decide] at C3
  rw [← hM, ← hR] at C1
  have hTs : T.size ≤ 281474976710656 := by
    rw [← bl_length, hbT]
    have : (blankT r).length ≤ r.length := by unfold blankT Lib.trimLeftB; exact (List.dropWhile_sublist _).length_le
    omega
  have C4 := Lib.hid (fun W : World => may_any T W hTs)
  have C5 := Lib.hid (fun W : World => sclone_any T W hTs)
  rw [hbT] at C4
  have HT := Lib.hid hT
  have C1 := Lib.hid C1
  have C2 := Lib.hid C2
  have C3 := Lib.hid C3
  have HF := Lib.hid HF
  clear hM hR hT hbT hTs hl1
  generalize blankT r = t at *
  generalize mayT t = b2 at *
  cases hb1 : lowF m == bearL with
  | false =>
    rw [hb1] at HF C3
    have HN := Lib.hid (show credF (bl s) = none by rw [HF.out]; simp)
    clear hb1 HF C4 C5
    go_enter Tryz.func16, Tryz.ntmps16
    go_wp2_with fail
    refine C1.out.mono ?_
    rintro e w1 ⟨rfl, b1⟩
    go_wp2_with fail
    refine (C2.out _).mono ?_
    rintro e w2 ⟨rfl, rfl⟩
    go_wp2_with fail
    refine (C3.out _).mono ?_
    rintro e w3 ⟨rfl, b3⟩
    go_wp2_with fail
    go_ret2
    exact ⟨by rw [HN.out]; rfl, b1.trans (b3.mono b1.size)⟩
  | true =>
    rw [hb1] at HF C3
    clear hb1
    cases b2 with
    | false =>
      have HN := Lib.hid (show credF (bl s) = none by rw [HF.out]; simp)
      clear HF C5
      go_enter Tryz.func16, Tryz.ntmps16
      go_wp2_with fail
      refine C1.out.mono ?_
      rintro e w1 ⟨rfl, b1⟩
      go_wp2_with fail
      refine (C2.out _).mono ?_
      rintro e w2 ⟨rfl, rfl⟩
      go_wp2_with fail
      refine (C3.out _).mono ?_
      rintro e w3 ⟨rfl, b3⟩
      go_wp2_with fail
      refine (C4.out _).mono ?_
      rintro e w4 ⟨rfl, b4⟩
      have B4 := Lib.hid ((b1.trans (b3.mono b1.size)).trans (b4.mono (Nat.le_trans b1.size b3.size)))
      clear b1 b3 b4
      go_wp2_with fail
      go_ret2
      exact ⟨by rw [HN.out]; rfl, B4.out⟩
    | true =>
      have HN := Lib.hid (show credF (bl s) = some t by rw [HF.out]; simp)
      clear HF
      go_enter Tryz.func16, Tryz.ntmps16
      go_wp2_with fail
      refine C1.out.mono ?_
      rintro e w1 ⟨rfl, b1⟩
      go_wp2_with fail
      refine (C2.out _).mono ?_
      rintro e w2 ⟨rfl, rfl⟩
      go_wp2_with fail
      refine (C3.out _).mono ?_
      rintro e w3 ⟨rfl, b3⟩
      go_wp2_with fail
      refine (C4.out _).mono ?_
      rintro e w4 ⟨rfl, b4⟩
      have B4 := Lib.hid ((b1.trans (b3.mono b1.size)).trans (b4.mono (Nat.le_trans b1.size b3.size)))
      clear b1 b3 b4
      go_wp2_with fail
      refine (C5.out _).mono ?_
      rintro e w5 ⟨rfl, b5⟩
      have B5 := Lib.hid (B4.out.trans (b5.mono B4.out.size))
      clear b5
      go_wp2_with fail
      go_ret2
      exact ⟨by rw [HN.out, HT.out]; rfl, B5.out⟩
end Go.Proofs.YtopanahgeeolbaaGreatDoor.Aut

namespace Go.Proofs.YtopanahgeeolbaaGreatDoor.Aut
open Go.RowKit Acl

/-- A tenant's parts, and what its Rules read. -/
structure TeE where
  tok : ByteArray
  A : Option Addr
  n : Nat
  c : Nat
  L : List RuE
  nb : Int
  ne : Int
  ns : Int
  nc : Int
  nw : Int
  nr : Int
  nu : Int
instance : Inhabited TeE := ⟨⟨ByteArray.empty, none, 0, 0, [], 0, 0, 0, 0, 0, 0, 0⟩⟩
/-- Its nine cells. -/
def TeE.cells (t : TeE) : List Value := [.string t.tok, .slice t.A t.n t.c, .int .i64 t.nb, .int .i64 t.ne, .int .i64 t.ns, .int .i64 t.nc, .int .i64 t.nw, .int .i64 t.nr, .int .i64 t.nu]
def TeE.val (t : TeE) : Value := .agg #[.string t.tok, .slice t.A t.n t.c, .int .i64 t.nb, .int .i64 t.ne, .int .i64 t.ns, .int .i64 t.nc, .int .i64 t.nw, .int .i64 t.nr, .int .i64 t.nu]
/-- What its Rules read lies in memory. -/
structure TeE.Ok (w : World) (t : TeE) : Prop where
  hn : t.L.length = t.n
  hm : t.n ≤ 140737488351232
  s : SrcU w (fun _ => True) t.A t.L
  r : ∀ r ∈ t.L, r.Ok w
  ht : t.tok.size ≤ 140737488351232
theorem TeE.Ok.below {w w' : World} {t : TeE} (h : t.Ok w) (hb : Below w.heap.size w w') : t.Ok w' := ⟨h.hn, h.hm, h.s.below hb, fun r hr => (h.r r hr).below hb, h.ht⟩
def numT (t : TeE) : Bool := (decide (0 ≤ t.nb) && decide (t.nb ≤ 262144)) && ((decide (0 ≤ t.ne) && decide (t.ne ≤ 64)) && ((decide (1 ≤ t.ns) && decide (t.ns ≤ 16)) && ((decide (1 ≤ t.nc) && decide (t.nc ≤ 8)) && ((decide (0 ≤ t.nw) && decide (t.nw ≤ 16)) && ((decide (1 ≤ t.nr) && decide (t.nr ≤ 1000)) && (decide (1 ≤ t.nu) && decide (t.nu ≤ 1000)))))))
/-- May the tenant be? -/
def tenF (t : TeE) : Bool := mayT (bl t.tok) && (allF t.L && numT t)
/-- Are their tokens all unlike? -/
def unlF (T : List TeE) : Bool := decide ((T.map fun t => bl t.tok).Nodup)
def limC (st ti : Int) : Bool := (decide (0 ≤ st) && decide (st ≤ 16)) && (decide (1 ≤ ti) && decide (ti ≤ 1099511627776))
/-- May the configuration be? -/
def confF (T : List TeE) (st ti : Int) : Bool := ((decide (1 ≤ T.length) && decide (T.length ≤ 8)) && limC st ti) && (T.all tenF && unlF T)

def tes (L : List TeE) : List Value := L.flatMap TeE.cells
theorem tes_length (L : List TeE) : (tes L).length = L.length * 9 := by
  induction L with
  | nil => rfl
  | cons r l ih =>
    show (r.cells ++ tes l).length = _
    rw [List.length_append, ih, List.length_cons]
    simp [TeE.cells]
    omega
theorem tes_append (a b : List TeE) : tes (a ++ b) = tes a ++ tes b := by simp [tes]
theorem tes_get : ∀ (L : List TeE) (i : Nat) (r : TeE), L[i]? = some r → ∀ j v, r.cells[j]? = some v → (tes L)[i * 9 + j]? = some v
  | [], i, r, h => by simp at h
  | g :: l, 0, r, h => by
    simp only [List.getElem?_cons_zero, Option.some.injEq] at h
    subst h
    intro j v hv
    show (g.cells ++ tes l)[0 * 9 + j]? = _
    rw [Nat.zero_mul, Nat.zero_add, List.getElem?_append_left (List.getElem?_eq_some_iff.1 hv).1]
    exact hv
  | g :: l, i + 1, r, h => by
    intro j v hv
    have := tes_get l i r (by simpa using h) j v hv
    show (g.cells ++ tes l)[(i + 1) * 9 + j]? = _
    have e : (i + 1) * 9 + j = (i * 9 + j) + 9 := by omega
    rw [e, List.getElem?_append_right (by simp [TeE.cells]), show g.cells.length = 9 from rfl, Nat.add_sub_cancel]
    exact this
theorem tes_at (L : List TeE) (j : Nat) (hj : j < L.length * 9) : ∃ r v, L[j / 9]? = some r ∧ r.cells[j % 9]? = some v ∧ (tes L)[j]? = some v := by
  obtain ⟨r, hr⟩ : ∃ r, L[j / 9]? = some r := ⟨L[j / 9]'(by omega), List.getElem?_eq_getElem _⟩
  have h9 : j % 9 < r.cells.length := Nat.mod_lt _ (by decide)
  have := tes_get L (j / 9) r hr (j % 9) _ (List.getElem?_eq_getElem h9)
  rw [show j / 9 * 9 + j % 9 = j by omega] at this
  exact ⟨r, _, hr, List.getElem?_eq_getElem h9, this⟩
theorem tes_one (L : List TeE) : ∀ v ∈ tes L, v.oneCell' = true := by
  intro v hv
  obtain ⟨f, _, h⟩ := List.mem_flatMap.1 hv
  simp [TeE.cells] at h
  rcases h with rfl | rfl | rfl | rfl | rfl | rfl | rfl | rfl | rfl <;> rfl
/-- A slice value's address reads the tenants L. -/
def SrcT (w : World) (P : Nat → Prop) (A : Option Addr) (L : List TeE) : Prop :=
  0 < L.length → ∃ ad : Addr, A = some ad ∧ P ad.block ∧ ad.block < w.heap.size ∧ ∀ i r, L[i]? = some r → ∀ j v, r.cells[j]? = some v → w.cell? (ad.add (i * 9 + j)) = some v
theorem SrcT.turned {w w' : World} {P S : Nat → Prop} {A : Option Addr} {L : List TeE} (h : SrcT w P A L) (ht : Turn S w w') (hS : ∀ k, P k → ¬ S k) : SrcT w' P A L := fun h0 => by
  obtain ⟨ad, h1, h2, h3, h4⟩ := h h0
  refine ⟨ad, h1, h2, Nat.lt_of_lt_of_le h3 ht.size, fun i r hr j v hv => ?_⟩
  have hb : ∀ k, (ad.add k).block = ad.block := fun k => by unfold Addr.add; split <;> rfl
  exact (ht.cell (by rw [hb]; exact h3) (by rw [hb]; exact hS _ h2)).trans (h4 i r hr j v hv)
theorem SrcT.below {w w' : World} {P : Nat → Prop} {A : Option Addr} {L : List TeE} (h : SrcT w P A L) (hb : Below w.heap.size w w') : SrcT w' P A L := h.turned (Turn.of_below (S := fun _ => False) hb) (fun _ _ h => h)
theorem SrcT.mono {w : World} {P P' : Nat → Prop} {A : Option Addr} {L : List TeE} (h : SrcT w P A L) (hp : ∀ k, k < w.heap.size → P k → P' k) : SrcT w P' A L := fun h0 => by
  obtain ⟨ad, h1, h2, h3, h4⟩ := h h0
  exact ⟨ad, h1, hp _ h3 h2, h3, h4⟩
theorem SrcT.take {w : World} {P : Nat → Prop} {A : Option Addr} {L : List TeE} (h : SrcT w P A L) (k : Nat) : SrcT w P A (L.take k) := fun h0 => by
  obtain ⟨ad, h1, h2, h3, h4⟩ := h (by rw [List.length_take] at h0; omega)
  refine ⟨ad, h1, h2, h3, fun i r hr => h4 i r ?_⟩
  rw [List.getElem?_take] at hr
  split at hr
  · exact hr
  · cases hr
/-- The slice value v is the call's own, at block o (none: nil), and has the tenants L. -/
def OwnT (w : World) (v : Value) (o : Option Nat) (L : List TeE) : Prop := w.ownsRow 0 27 9 v L.length (tes L) ∧ v.ownBlock = o
theorem OwnT.nil (w : World) : OwnT w (.slice none 0 0) none [] := ⟨⟨by simp [tes], .inl ⟨rfl, rfl⟩⟩, rfl⟩
theorem OwnT.kept {w w' : World} {v : Value} {o : Option Nat} {L : List TeE} {S : Nat → Prop} (h : OwnT w v o L) (ht : Turn S w w') (hS : ∀ k, o = some k → ¬ S k) : OwnT w' v o L := by
  obtain ⟨⟨h1, h2⟩, h3⟩ := h
  refine ⟨⟨h1, ?_⟩, h3⟩
  rcases h2 with h2 | ⟨g, cap, cur, hv, hg, hh, r⟩
  · exact .inl h2
  · refine .inr ⟨g, cap, cur, hv, hg, ?_, r⟩
    have hlt : g < w.heap.size := (Array.getElem?_eq_some_iff.1 hh).1
    rw [ht.block g hlt (hS g (by rw [← h3, hv]; rfl))]
    exact hh
theorem OwnT.below {w w' : World} {v : Value} {o : Option Nat} {L : List TeE} (h : OwnT w v o L) (hb : Below w.heap.size w w') : OwnT w' v o L := h.kept (Turn.of_below (S := fun _ => False) hb) (fun _ _ h => h)
theorem OwnT.lt {w : World} {v : Value} {o : Option Nat} {L : List TeE} (h : OwnT w v o L) (k : Nat) (hk : o = some k) : k < w.heap.size := by
  obtain ⟨⟨_, h2⟩, h3⟩ := h
  rcases h2 with ⟨hv, _⟩ | ⟨g, cap, cur, hv, _, hh, _⟩
  · rw [hv] at h3; rw [← h3] at hk; cases hk
  · rw [hv] at h3
    rw [← h3] at hk
    injection hk with hk
    rw [← hk]
    exact (Array.getElem?_eq_some_iff.1 hh).1
theorem OwnT.src {w : World} {v : Value} {o : Option Nat} {L : List TeE} (h : OwnT w v o L) (P : Nat → Prop) (hP : ∀ k, o = some k → P k) : ∃ A c, v = .slice A L.length c ∧ L.length ≤ c ∧ SrcT w P A L := by
  obtain ⟨⟨h1, h2⟩, h3⟩ := h
  rcases h2 with ⟨hv, hn⟩ | ⟨g, cap, cur, hv, hg, hh, hnc, _, hsz, htk⟩
  · refine ⟨none, 0, by rw [hv, hn], by omega, fun h => ?_⟩
    omega
  · refine ⟨some ⟨g, 0, none⟩, cap, hv, hnc, fun _ => ⟨_, rfl, hP g (by rw [← h3, hv]; rfl), (Array.getElem?_eq_some_iff.1 hh).1, fun i r hr j u hu => ?_⟩⟩
    have hq := tes_get L i r hr j u hu
    rw [add_at, Nat.zero_add, cell_of_row w g _ cur 27 (0, 0) hh, ← Array.getElem?_toList]
    rw [← htk, List.getElem?_take] at hq
    split at hq
    · exact hq
    · cases hq
def teZ : Value := .agg #[.string ⟨#[]⟩, .slice none 0 0, .int .i64 0, .int .i64 0, .int .i64 0, .int .i64 0, .int .i64 0, .int .i64 0, .int .i64 0]
theorem teInfo : (Tryz.prog.info? 27).map (fun i => (i.zero, i.size, i.bytes)) = some (some teZ, 9, 96) := by kernel_rfl
theorem teSize : (Tryz.prog.info? 27).map (·.size) = some 9 := by kernel_rfl
theorem teParts : ∃ i, Tryz.prog.info? 27 = some i ∧ i.zero = some teZ ∧ i.size = 9 ∧ i.bytes = 96 := by
  obtain ⟨i, hi, h⟩ := Option.map_eq_some_iff.1 teInfo
  simp only [Prod.mk.injEq] at h
  exact ⟨i, hi, h.1, h.2.1, h.2.2⟩
set_option maxRecDepth 100000 in
/-- append(v, l...), l a slice of tenants. -/
theorem run_append_tes {P : Nat → Prop} (w : World) (v : Value) (o : Option Nat) (L news : List TeE) (h : OwnT w v o L) (A : Option Addr) (n c : Nat) (hn : news.length = n) (hs : SrcT w P A news) (hlen : (L.length + news.length) * 96 ≤ 140737488355328) :
    ∃ (v' : Value) (w' : World) (o' : Option Nat), (Builtin.append_ #[22, 22] 22 #[v, .slice A n c]).run Tryz.prog w = .ok v' w' ∧ OwnT w' v' o' (L ++ news) ∧ Turn (fun k => o = some k) w w' ∧ (∀ k, o' = some k → o = some k ∨ w.heap.size ≤ k) := by
  subst hn
  obtain ⟨i, hi, hz, hsz, hby⟩ := teParts
  obtain ⟨hown, ho⟩ := h
  cases A with
  | none =>
    have hb : news = [] := by
      cases news with
      | nil => rfl
      | cons b l => obtain ⟨ad, hA, _⟩ := hs (by simp); cases hA
    subst hb
    refine ⟨v, w, o, ?_, by rw [List.append_nil]; exact ⟨hown, ho⟩, Turn.refl _ _, fun k hk => .inl hk⟩
    rcases hown.2 with ⟨rfl, _⟩ | ⟨g, cap, cur, rfl, _, _, hnc, _⟩
    · simp [Builtin.append_, run_underlying Tryz.underlying22, sizeOf, typeInfo, hi, Builtin.lenOf, Builtin.firstCells]
    · simp [Builtin.append_, run_underlying Tryz.underlying22, sizeOf, typeInfo, hi, Builtin.lenOf, Builtin.firstCells, hnc, storeCells]
  | some a =>
    have hcells : ∀ j u, (tes news)[j]? = some u → w.cell? (a.add j) = some u := by
      intro j u hu
      have hj : j < news.length * 9 := by
        have := (List.getElem?_eq_some_iff.1 hu).1
        rwa [tes_length] at this
      obtain ⟨ad, hA, _, _, hc⟩ := hs (by omega)
      injection hA with hA
      subst hA
      obtain ⟨r, v2, hr, hv2, hu2⟩ := tes_at news j hj
      have := hc (j / 9) r hr (j % 9) v2 hv2
      rw [show j / 9 * 9 + j % 9 = j by omega] at this
      rw [this, ← hu2, hu]
    obtain ⟨v', w', hrun, h2, h3, _, h9⟩ := run_append_own_at (P := Tryz.prog) w 0 22 22 27 i teZ 9 96 Tryz.underlying22 hi hz hsz hby rfl (by omega) v L.length (tes L) hown a news.length c (tes news)
      (tes_length news) hcells (tes_one _) (by simp only [maxLen]; omega) hlen (Nat.zero_le _)
    refine ⟨v', w', v'.ownBlock, hrun, ⟨?_, rfl⟩, Turn.of_grown h3 (fun k hk => by rw [← ho]; exact hk), fun k hk => ?_⟩
    · rw [List.length_append, tes_append]
      exact h2
    · rcases h9 with h | h
      · left; rw [← ho, ← h, hk]
      · right
        rw [h] at hk
        injection hk with hk
        omega
theorem run_at_size9 (a : Addr) (n c k : Nat) (hk : k < n) (W : World) :
    (Instr.indexAt 22 (.slice (some a) n c) (.int .i64 (k : Int))).run Tryz.prog W = .ok (.pointer (some (a.add (k * 9)))) W := by
  obtain ⟨i, hi, hs⟩ := Option.map_eq_some_iff.1 teSize
  have h2 : ¬ n ≤ k := by omega
  simp [Instr.indexAt, run_underlying Tryz.underlying22, asIntOf, h2, sizeOf, typeInfo, hi, hs]
/-- &l[k] and the tenant's nine cells. -/
theorem SrcT.at {w wr : World} {P : Nat → Prop} {A : Option Addr} {L : List TeE} {n c k : Nat} (h : SrcT w P A L) (hn : L.length = n) (hlt : k < n) (hB : Below w.heap.size w wr) :
    ∃ (p : Addr) (t : TeE), L[k]? = some t ∧ (∀ Wx, (Instr.indexAt 22 (.slice A n c) (.int .i64 (k : Int))).run Tryz.prog Wx = .ok (.pointer (some p)) Wx) ∧ p.block < w.heap.size ∧
      wr.cell? p = some (.string t.tok) ∧ wr.cell? ⟨p.block, p.off + 1, none⟩ = some (.slice t.A t.n t.c) ∧ wr.cell? ⟨p.block, p.off + 2, none⟩ = some (.int .i64 t.nb) ∧ wr.cell? ⟨p.block, p.off + 3, none⟩ = some (.int .i64 t.ne) ∧ wr.cell? ⟨p.block, p.off + 4, none⟩ = some (.int .i64 t.ns) ∧ wr.cell? ⟨p.block, p.off + 5, none⟩ = some (.int .i64 t.nc) ∧ wr.cell? ⟨p.block, p.off + 6, none⟩ = some (.int .i64 t.nw) ∧ wr.cell? ⟨p.block, p.off + 7, none⟩ = some (.int .i64 t.nr) ∧ wr.cell? ⟨p.block, p.off + 8, none⟩ = some (.int .i64 t.nu) := by
  obtain ⟨ad, hA, hP, hadb, hc⟩ := h (by omega)
  obtain ⟨t, hr⟩ : ∃ t, L[k]? = some t := ⟨L[k]'(by omega), List.getElem?_eq_getElem _⟩
  have hcell : ∀ j v, t.cells[j]? = some v → wr.cell? ((ad.add (k * 9)).add j) = some v := fun j v hv => by
    have c1 := hc k t hr j v hv
    rw [add_add_at]
    exact (hB.cell (Lib.lt_of_cell c1)).trans c1
  have h0 : (ad.add (k * 9)).add 0 = ad.add (k * 9) := by rw [add_add_at, Nat.add_zero]
  refine ⟨ad.add (k * 9), t, hr, fun Wx => ?_, ?_, ?_, hcell 1 _ rfl, hcell 2 _ rfl, hcell 3 _ rfl, hcell 4 _ rfl, hcell 5 _ rfl, hcell 6 _ rfl, hcell 7 _ rfl, hcell 8 _ rfl⟩
  · rw [hA]
    exact run_at_size9 ad n c k hlt Wx
  · unfold Addr.add; split <;> exact hadb
  · have := hcell 0 _ (show t.cells[0]? = some (.string t.tok) from rfl)
    rwa [h0] at this
end Go.Proofs.YtopanahgeeolbaaGreatDoor.Aut

namespace Go.Proofs.YtopanahgeeolbaaGreatDoor.Aut
open Go.RowKit Acl Go.Maps

/-! ## Tenant -/
theorem TeE.box {w : World} {t : TeE} : Is (w.alloc (.cells #[.string t.tok, .slice t.A t.n t.c, .int .i64 t.nb, .int .i64 t.ne, .int .i64 t.ns, .int .i64 t.nc, .int .i64 t.nw, .int .i64 t.nr, .int .i64 t.nu] 27)) w.heap.size 27 t.cells := Is.made w 27 t.cells
theorem seven_limits (X : World) (t : TeE) : Calls Tryz.prog 24 #[.slice (some ⟨X.heap.size, 0, none⟩) 7 7]
    (X.alloc (.cells #[.int .i64 t.nb, .int .i64 0, .int .i64 262144, .int .i64 t.ne, .int .i64 0, .int .i64 64, .int .i64 t.ns, .int .i64 1, .int .i64 16, .int .i64 t.nc, .int .i64 1, .int .i64 8, .int .i64 t.nw, .int .i64 0, .int .i64 16, .int .i64 t.nr, .int .i64 1, .int .i64 1000, .int .i64 t.nu, .int .i64 1, .int .i64 1000] 54))
    fun e w' => e = .returned (.bool (numT t)) ∧ Below X.heap.size X w' := by
  have hb : Below X.heap.size X (X.alloc (.cells #[.int .i64 t.nb, .int .i64 0, .int .i64 262144, .int .i64 t.ne, .int .i64 0, .int .i64 64, .int .i64 t.ns, .int .i64 1, .int .i64 16, .int .i64 t.nc, .int .i64 1, .int .i64 8, .int .i64 t.nw, .int .i64 0, .int .i64 16, .int .i64 t.nr, .int .i64 1, .int .i64 1000, .int .i64 t.nu, .int .i64 1, .int .i64 1000] 54)) := (Below.refl _ _).alloc (Nat.le_refl _) _
  refine (within_any _ (some ⟨X.heap.size, 0, none⟩) [⟨t.nb, 0, 262144⟩, ⟨t.ne, 0, 64⟩, ⟨t.ns, 1, 16⟩, ⟨t.nc, 1, 8⟩, ⟨t.nw, 0, 16⟩, ⟨t.nr, 1, 1000⟩, ⟨t.nu, 1, 1000⟩] 7 7 rfl (by decide) (srci_is (Is.made X 54 [.int .i64 t.nb, .int .i64 0, .int .i64 262144, .int .i64 t.ne, .int .i64 0, .int .i64 64, .int .i64 t.ns, .int .i64 1, .int .i64 16, .int .i64 t.nc, .int .i64 1, .int .i64 8, .int .i64 t.nw, .int .i64 0, .int .i64 16, .int .i64 t.nr, .int .i64 1, .int .i64 1000, .int .i64 t.nu, .int .i64 1, .int .i64 1000]))).mono ?_
  rintro e w' ⟨rfl, b⟩
  refine ⟨ret_bool ?_, hb.trans (b.mono hb.size)⟩
  simp only [List.all_cons, List.all_nil, Bool.and_true, inF, numT]
set_option maxHeartbeats 4000000 in
set_option maxRecDepth 100000 in
theorem tenant_any (t : TeE) (w : World) (ht : t.Ok w) (hp : PowTab w) :
    Calls Tryz.prog 11 #[.agg #[.string t.tok, .slice t.A t.n t.c, .int .i64 t.nb, .int .i64 t.ne, .int .i64 t.ns, .int .i64 t.nc, .int .i64 t.nw, .int .i64 t.nr, .int .i64 t.nu]] w fun e w' => e = .returned (.bool (tenF t)) ∧ Below w.heap.size w w' := by
  have I0 := Lib.hid (TeE.box (w := w) (t := t))
  have B0 : Hid (Below w.heap.size w (w.alloc (.cells #[.string t.tok, .slice t.A t.n t.c, .int .i64 t.nb, .int .i64 t.ne, .int .i64 t.ns, .int .i64 t.nc, .int .i64 t.nw, .int .i64 t.nr, .int .i64 t.nu] 27))) := Lib.hid ((Below.refl _ _).alloc (Nat.le_refl _) _)
  have CM := Lib.hid (fun W : World => may_any t.tok W (by have := ht.ht; omega))
  have CA := Lib.hid (fun (W : World) (hb : Below w.heap.size w W) => Acl.all_any W t.A t.L t.n t.c ht.hn ht.hm (ht.below hb).s (ht.below hb).r (hp.below hb))
  have CN := Lib.hid (fun X : World => seven_limits X t)
  have HT := Lib.hid (show tenF t = (mayT (bl t.tok) && (allF t.L && numT t)) from rfl)
  clear ht hp
  cases h1 : mayT (bl t.tok) with
  | false =>
    rw [h1] at CM HT
    have HN := Lib.hid (show tenF t = false by rw [HT.out]; rfl)
    clear h1 CA CN HT
    go_enter Tryz.func11, Tryz.ntmps11
    go_wp2_with fail
    refine (CM.out _).mono ?_
    rintro e w1 ⟨rfl, b1⟩
    go_wp2_with fail
    go_ret
    exact ⟨ret_bool HN.out.symm, B0.out.trans (b1.mono B0.out.size)⟩
  | true =>
    rw [h1] at CM HT
    clear h1
    cases h2 : allF t.L with
    | false =>
      rw [h2] at CA HT
      have HN := Lib.hid (show tenF t = false by rw [HT.out]; rfl)
      clear h2 CN HT
      go_enter Tryz.func11, Tryz.ntmps11
      go_wp2_with fail
      refine (CM.out _).mono ?_
      rintro e w1 ⟨rfl, b1⟩
      have I1 := Lib.hid (is_below I0.out b1)
      have y1 := I1.out.cell 1
      simp only [TeE.cells, List.getElem?_cons_zero, List.getElem?_cons_succ] at y1
      have B1 := Lib.hid (B0.out.trans (b1.mono B0.out.size))
      clear b1
      go_wp2_with fail
      refine (CA.out _ B1.out).mono ?_
      rintro e w2 ⟨rfl, b2⟩
      have B2 := Lib.hid (B1.out.trans (b2.mono B1.out.size))
      clear b2
      go_wp2_with fail
      go_ret
      exact ⟨ret_bool HN.out.symm, B2.out⟩
    | true =>
      rw [h2] at CA HT
      have HN := Lib.hid (show tenF t = numT t by rw [HT.out]; simp)
      clear h2 HT
      generalize numT t = b at *
      go_enter Tryz.func11, Tryz.ntmps11
      go_wp2_with fail
      refine (CM.out _).mono ?_
      rintro e w1 ⟨rfl, b1⟩
      have I1 := Lib.hid (is_below I0.out b1)
      have y1 := I1.out.cell 1
      simp only [TeE.cells, List.getElem?_cons_zero, List.getElem?_cons_succ] at y1
      have B1 := Lib.hid (B0.out.trans (b1.mono B0.out.size))
      clear b1
      go_wp2_with fail
      refine (CA.out _ B1.out).mono ?_
      rintro e w2 ⟨rfl, b2⟩
      have I2 := Lib.hid (is_below I1.out b2)
      have B2 := Lib.hid (B1.out.trans (b2.mono B1.out.size))
      have z2 := I2.out.cell 2
      have z3 := I2.out.cell 3
      have z4 := I2.out.cell 4
      have z5 := I2.out.cell 5
      have z6 := I2.out.cell 6
      have z7 := I2.out.cell 7
      have z8 := I2.out.cell 8
      simp only [TeE.cells, List.getElem?_cons_zero, List.getElem?_cons_succ] at z2 z3 z4 z5 z6 z7 z8
      clear b2 y1
      go_wp2_with fail
      refine (CN.out _).mono ?_
      rintro e w3 ⟨rfl, b3⟩
      have B3 := Lib.hid (B2.out.trans (b3.mono B2.out.size))
      clear b3
      go_wp2_with fail
      go_ret
      exact ⟨ret_bool HN.out.symm, B3.out⟩

/-! ## the map of the tokens that were met -/
theorem keyLaw : Keyed Tryz.prog 9 := string_keyed Tryz.underlying9
/-- Block b is a map that reads as f. -/
def MapV (w : World) (b n : Nat) (f : List UInt8 → Nat) : Prop := ∃ D : DataW Unit, w.ownsMap Tryz.prog 9 (plainElem Tryz.prog 3) b n D ∧ ∀ key, D.atKey (.string key) (.lit (.int .i64 0)) = .lit (.int .i64 (f key : Int))
theorem MapV.kept {S : Nat → Prop} {w w' : World} {b n : Nat} {f : List UInt8 → Nat} (h : MapV w b n f) (ht : Turn S w w') (hS : ¬ S b) : MapV w' b n f := by
  obtain ⟨D, ⟨es, clock, h1, h2⟩, h3⟩ := h
  have hlt : b < w.heap.size := (Array.getElem?_eq_some_iff.1 h1).1
  exact ⟨D, ⟨es, clock, (ht.block b hlt hS).trans h1, h2⟩, h3⟩
theorem MapV.lt {w : World} {b n : Nat} {f : List UInt8 → Nat} (h : MapV w b n f) : b < w.heap.size := by
  obtain ⟨D, h, _⟩ := h
  exact h.lt
theorem MapV.made (w : World) : MapV (w.alloc (.map #[] 0)) w.heap.size 0 (fun _ => 0) := ⟨.map [], World.ownsMap_made w Tryz.prog 9 _, fun _ => rfl⟩
theorem int_zero (w : World) : (zeroValue 3).run Tryz.prog w = .ok (.int .i64 0) w := by kernel_rfl
/-- The look-up. -/
theorem MapV.look {w : World} {b n : Nat} {f : List UInt8 → Nat} (h : MapV w b n f) (X : ByteArray) (hs : X.size ≤ maxLen) :
    (Instr.lookup 72 (.map (some b)) (.string X) false).run Tryz.prog w = .ok (.int .i64 (f (bl X) : Int)) w := by
  obtain ⟨D, h1, h2⟩ := h
  obtain ⟨c, hrun, hat, _⟩ := h1.lookup_int keyLaw Tryz.underlying72 Tryz.underlying3 (int_zero w) (WideMaps.keyOf_string_mk Tryz.underlying9 (s := X) hs)
  have h3 := h2 X.data.toList
  rw [hat] at h3
  simp only [DataW.lit.injEq, Lit.int.injEq, true_and] at h3
  rw [hrun, h3]
  rfl
set_option maxRecDepth 100000 in
/-- The store. -/
theorem MapV.put {w : World} {b n : Nat} {f : List UInt8 → Nat} (h : MapV w b n f) (hn : n < maxLen) (X : ByteArray) (hs : X.size ≤ maxLen) (N : Nat) (hN : N ≤ 2) :
    ∃ w', (Instr.mapUpdate 72 (.map (some b)) (.string X) (.int .i64 (N : Int))).run Tryz.prog w = .ok () w' ∧ MapV w' b (n + 1) (fun key => if key = bl X then N else f key) ∧ Turn (fun k => k = b) w w' := by
  obtain ⟨D, h1, h2⟩ := h
  have hwf : (Lit.int .i64 (N : Int)).wf = true := by
    have e : IntKind.i64.min = -9223372036854775808 := by decide
    have e2 : IntKind.i64.max = 9223372036854775807 := by decide
    simp [Lit.wf]
    omega
  obtain ⟨w', hrun, o3, g3⟩ := h1.update keyLaw Tryz.underlying72 hn (WideMaps.keyOf_string_mk Tryz.underlying9 (s := X) hs) (plainElem_int Tryz.underlying3 hwf)
  refine ⟨w', hrun, ⟨_, o3, fun key => ?_⟩, Turn.of_grown g3 (fun k hk => by injection hk with hk; exact hk.symm)⟩
  show _ = DataW.lit (Lit.int .i64 ((if key = bl X then N else f key : Nat) : Int))
  by_cases hk : key = bl X
  · rw [if_pos hk, hk]
    exact Maps.atKey_put_same h1.isMap (by simp [WideAt.IsKeyLit]) ..
  · rw [if_neg hk, Maps.atKey_put_other (by simpa [bl] using hk)]
    exact h2 key

theorem MapV.ext {w : World} {b n : Nat} {f g : List UInt8 → Nat} (h : MapV w b n f) (e : ∀ key, f key = g key) : MapV w b n g := by
  obtain ⟨D, h1, h2⟩ := h
  exact ⟨D, h1, fun key => by rw [← e key]; exact h2 key⟩
theorem SrcT.mono' {w0 : World} {P : Nat → Prop} {A : Option Addr} {L : List TeE} {m : Nat} (h : SrcT w0 P A L) (hb : ∀ ad : Addr, 0 < L.length → A = some ad → ad.block < m) : SrcT w0 (fun k => ¬ k = m) A L := fun h0 => by
  obtain ⟨ad, h1, h2, h3, h4⟩ := h h0
  exact ⟨ad, h1, fun e => by have := hb ad h0 h1; omega, h3, h4⟩
/-- Nothing of what was there when the map was made has turned. -/
theorem turn_below {w0 w' : World} {bm m : Nat} (h : Turn (fun b => b = bm) w0 w') (hm : m = bm) (hw : m ≤ w0.heap.size) : Below m w0 w' := by
  subst hm
  exact ⟨h.os, h.tape, h.output, h.size, fun b hb => h.block b (by omega) (by omega)⟩
theorem unl_snoc (L : List TeE) (k : Nat) (t : TeE) (h : L[k]? = some t) (hu : unlF (L.take k) = true) : unlF (L.take (k + 1)) = !((L.take k).any fun x => bl x.tok == bl t.tok) := by
  unfold unlF at hu ⊢
  rw [take_snoc L k t h, List.map_append, Bool.eq_iff_iff, decide_eq_true_eq, List.nodup_append]
  have hu := of_decide_eq_true hu
  simp only [List.map_cons, List.map_nil, Bool.not_eq_true', List.any_eq_false, beq_iff_eq]
  constructor
  · rintro ⟨_, _, h3⟩ x hx e
    exact h3 _ (List.mem_map.2 ⟨x, hx, rfl⟩) _ (by simp) e
  · intro h3
    refine ⟨hu, by simp, fun a ha b hb e => ?_⟩
    obtain ⟨x, hx, rfl⟩ := List.mem_map.1 ha
    simp only [List.mem_cons, List.not_mem_nil, or_false] at hb
    exact h3 x hx (e.trans hb)
theorem unl_take (L : List TeE) (k : Nat) (h : unlF (L.take k) = false) : unlF L = false := by
  unfold unlF at h ⊢
  rw [decide_eq_false_iff_not] at h ⊢
  intro hn
  apply h
  exact hn.sublist ((List.take_sublist _ _).map _)
/-- How often a token was met: once, or never. -/
def metF (L : List TeE) (key : List UInt8) : Nat := if (L.any fun x => bl x.tok == key) = true then 1 else 0

set_option maxHeartbeats 4000000 in
set_option maxRecDepth 100000 in
theorem unlike_any {P : Nat → Prop} (w : World) (A : Option Addr) (L : List TeE) (n c : Nat) (hn : L.length = n) (hmax : n ≤ 1048576) (h : SrcT w P A L) (hz : ∀ t ∈ L, t.tok.size ≤ 140737488351232) :
    Calls Tryz.prog 27 #[.slice A n c] w fun e w' => e = .returned (.bool (unlF L)) ∧ Below w.heap.size w w' := by
  have m0 := MapV.made w
  have b0 : Below w.heap.size w (w.alloc (.map #[] 0)) := (Below.refl _ _).alloc (Nat.le_refl _) _
  have h0 := h.below b0
  obtain ⟨w0, hw0⟩ : ∃ w0, w.alloc (.map #[] 0) = w0 := ⟨_, rfl⟩
  have hmm : (Instr.makeMap 72 none).run Tryz.prog w = .ok (.map (some w.heap.size)) w0 := by rw [← hw0]; rfl
  rw [hw0] at m0 b0 h0
  have HW := Lib.hid (show w.heap.size ≤ w0.heap.size from b0.size)
  have HPL : Hid (∀ ad : Addr, 0 < L.length → A = some ad → ad.block < w.heap.size) := Lib.hid (fun ad h1 h2 => by
    obtain ⟨ad', hA, _, hb, _⟩ := h h1
    rw [h2] at hA
    injection hA with hA
    rw [hA]
    exact hb)
  have h1 : SrcT w0 (fun k => ¬ k = w.heap.size) A L := h0.mono' HPL.out
  clear hw0 h h0
  obtain ⟨bm, hbm⟩ : ∃ b, w.heap.size = b := ⟨_, rfl⟩
  have HN := Lib.hid hn
  have HZ := Lib.hid hz
  have H := Lib.hid h1
  have M0 := Lib.hid m0
  have B0 := Lib.hid b0
  clear hn hz h1 m0 b0 HPL
  rw [hbm] at M0 hmm H
  have HBM := Lib.hid hbm
  clear hbm
  go_enter Tryz.func27, Tryz.ntmps27
  go_wp2_with fail
  clear hmm
  go_loopw [5, 9] (fun _ vi wr => ∃ k : Nat, vi = .int .i64 (k : Int) ∧ k ≤ n ∧ Hid (MapV wr bm k (metF (L.take k))) ∧ Hid (unlF (L.take k) = true) ∧ Hid (Turn (fun b => b = bm) w0 wr)) (fun _ vi _ => n - (intOf vi).toNat)
  case atStart => exact ⟨0, rfl, Nat.zero_le _, M0, Lib.hid rfl, Lib.hid (Turn.refl _ _)⟩
  case round =>
    obtain ⟨k, rfl, hk, HM, HU, HT⟩ := hrel
    by_cases hlt : k < n
    · obtain ⟨p, t, ht, hat, _, y0, y1, y2, y3, y4, y5, y6, y7, y8⟩ := (H.out.turned HT.out (fun _ h => h)).at (c := c) HN.out hlt (Below.refl wr.heap.size wr)
      have hx : t.tok.size ≤ maxLen := by have := HZ.out t (List.mem_of_getElem? ht); unfold maxLen; omega
      have i0 := TeE.box (w := wr) (t := t)
      have t0 : Turn (fun b => b = bm) w0 (wr.alloc (.cells #[.string t.tok, .slice t.A t.n t.c, .int .i64 t.nb, .int .i64 t.ne, .int .i64 t.ns, .int .i64 t.nc, .int .i64 t.nw, .int .i64 t.nr, .int .i64 t.nu] 27)) := HT.out.alloc _
      have m1 : MapV (wr.alloc (.cells #[.string t.tok, .slice t.A t.n t.c, .int .i64 t.nb, .int .i64 t.ne, .int .i64 t.ns, .int .i64 t.nc, .int .i64 t.nw, .int .i64 t.nr, .int .i64 t.nu] 27)) bm k (metF (L.take k)) := HM.out.kept ((Turn.refl (fun _ => False) wr).alloc _) (fun h => h)
      have hne : ¬ wr.heap.size = bm := fun e => by have := HM.out.lt; omega
      have HS := Lib.hid (unl_snoc L k t ht HU.out)
      have HTK := Lib.hid (take_snoc L k t ht)
      have l1 := m1.look t.tok hx
      have hv2 : metF (L.take k) (bl t.tok) + 1 ≤ 2 := by unfold metF; split <;> omega
      obtain ⟨w2, hput, m2, t2⟩ := m1.put (by unfold maxLen; omega) t.tok hx (metF (L.take k) (bl t.tok) + 1) hv2
      have l2 := m2.look t.tok hx
      rw [if_pos rfl] at l2
      have i2 := i0.kept t2 hne
      have z0 : w2.cell? ⟨wr.heap.size, 0, none⟩ = some (.string t.tok) := i2.cell 0
      have T2 := Lib.hid (t0.trans t2 (fun _ _ h => h))
      have M2 := Lib.hid m2
      have HME := Lib.hid (show metF (L.take k) (bl t.tok) = if ((L.take k).any fun x => bl x.tok == bl t.tok) = true then 1 else 0 from rfl)
      clear ht t0 m1 i0 t2 m2 i2 hv2 HZ hx HM HT
      cases hb : (L.take k).any fun x => bl x.tok == bl t.tok with
      | true =>
        rw [hb] at HME HS
        rw [show metF (L.take k) (bl t.tok) = 1 from HME.out] at l1 l2 hput
        rw [show ((1 + 1 : Nat) : Int) = 2 from rfl] at l2 hput
        rw [show ((1 : Nat) : Int) = 1 from rfl] at l1
        have HF := Lib.hid (unl_take L (k + 1) HS.out)
        clear hb HME HS HU HTK
        go_wp2_with fail
        go_ret
        exact ⟨ret_bool HF.out.symm, B0.out.trans (turn_below T2.out HBM.out HW.out)⟩
      | false =>
        rw [hb] at HME HS
        rw [show metF (L.take k) (bl t.tok) = 0 from HME.out] at l1 l2 hput M2
        rw [show ((0 + 1 : Nat) : Int) = 1 from rfl] at l2 hput
        rw [show ((0 : Nat) : Int) = 0 from rfl] at l1
        have HF : Hid (MapV w2 bm (k + 1) (metF (L.take (k + 1)))) := Lib.hid (by
          have := M2.out
          refine this.ext fun key => ?_
          rw [HTK.out]
          unfold metF
          rw [List.any_append]
          by_cases hk : key = bl t.tok
          · rw [if_pos hk, hk]
            simp
          · rw [if_neg hk]
            have : (bl t.tok == key) = false := by simpa using fun e => hk e.symm
            simp [this])
        clear hb HME HU HTK M2
        go_wp2_with fail
        go_roundw
        case rel => exact ⟨k + 1, by go_num, hlt, HF, HS, T2⟩
        case measure => simp [intOf]; omega
    · have HQ := Lib.hid (show unlF L = true by have := HU.out; rwa [List.take_of_length_le (by rw [HN.out]; omega)] at this)
      go_wp2_with fail
      go_ret
      exact ⟨ret_bool HQ.out.symm, B0.out.trans (turn_below HT.out HBM.out HW.out)⟩
end Go.Proofs.YtopanahgeeolbaaGreatDoor.Aut

namespace Go.Proofs.YtopanahgeeolbaaGreatDoor.Aut
open Go.RowKit

theorem st_int (c : UInt8) : stB c = ((decide (97 ≤ (c.toNat : Int)) && decide ((c.toNat : Int) ≤ 122)) || ((decide (65 ≤ (c.toNat : Int)) && decide ((c.toNat : Int) ≤ 90)) || ((decide (48 ≤ (c.toNat : Int)) && decide ((c.toNat : Int) ≤ 57)) || (((c.toNat : Int) == 45) || (((c.toNat : Int) == 46) || (((c.toNat : Int) == 95) || (((c.toNat : Int) == 126) || (((c.toNat : Int) == 43) || ((c.toNat : Int) == 47))))))))) := by
  have q : ∀ d : UInt8, ((c.toNat : Int) == (d.toNat : Int)) = (c == d) := fun d => by
    rw [Bool.eq_iff_iff, beq_iff_eq, beq_iff_eq, Int.ofNat_inj, UInt8.toNat_inj]
  have q1 := q 45
  have q2 := q 46
  have q3 := q 95
  have q4 := q 126
  have q5 := q 43
  have q6 := q 47
  simp only [show (45 : UInt8).toNat = 45 from rfl, show (46 : UInt8).toNat = 46 from rfl, show (95 : UInt8).toNat = 95 from rfl, show (126 : UInt8).toNat = 126 from rfl, show (43 : UInt8).toNat = 43 from rfl, show (47 : UInt8).toNat = 47 from rfl, Int.cast_ofNat_Int] at q1 q2 q3 q4 q5 q6
  rw [stB_split, q1, q2, q3, q4, q5, q6]
  congr 3
  show (45 == c || (46 == c || (95 == c || (126 == c || (43 == c || (47 == c || false)))))) = _
  rw [Bool.eq_iff_iff]
  simp only [Bool.or_eq_true, beq_iff_eq, Bool.or_false, eq_comm (a := c)]
theorem ne_61 (c : UInt8) : decide (c = 61) = ((c.toNat : Int) == 61) := by
  rw [Bool.eq_iff_iff, decide_eq_true_eq, beq_iff_eq]
  constructor
  · rintro rfl; rfl
  · intro h
    apply UInt8.toNat_inj.1
    show c.toNat = 61
    omega
theorem st_61 : stB 61 = false := by decide

set_option maxHeartbeats 4000000 in
set_option maxRecDepth 100000 in
theorem rmay_any (s : ByteArray) (w : World) (hs : s.size ≤ 281474976710656) : Calls Tryz.prog 14 #[.string s] w fun e w' => e = .returned (.bool (mayT (bl s))) ∧ w = w' := by
  go_enter Tryz.func14, Tryz.ntmps14
  go_wp2_with fail
  go_loopw [3, 4, 5] (fun i _ _ wx => ∃ k : Nat, k ≤ s.size ∧ i = .int .i64 (k : Int) ∧ Hid (((bl s).take k).all stB = true) ∧ w = wx) (fun i _ _ _ => s.size - (intOf i).toNat)
  case atStart => exact ⟨0, Nat.zero_le _, rfl, Lib.hid rfl, rfl⟩
  case round =>
    obtain ⟨k, hk, rfl, HALL, rfl⟩ := hrel
    by_cases hgo : k < s.size ∧ ((bl s)[k]?.getD 0) ≠ 61
    · obtain ⟨hlt, hne⟩ := hgo
      rw [bl_get s k hlt] at hne
      have hne61 : s[k] ≠ 61 := hne
      have e61 : ((s[k].toNat : Int) == 61) = false := by rw [← ne_61]; exact decide_eq_false hne61
      have HG := Lib.hid (bl_get s k hlt)
      have HTK := Lib.hid (bl_take s k hlt)
      have HI := Lib.hid (st_int s[k])
      have HNE := Lib.hid hne61
      clear hne hne61
      go_upto_region 4 with fail
      go_cut [4, 5] (fun u v wx => u = .int .u8 (s[k].toNat : Int) ∧ v = .bool (stB s[k]) ∧ w = wx)
      case first =>
        go_wp2
        all_goals
          go_meet
          refine ⟨by first | rfl | (simp only [Value.int.injEq, true_and]; omega), ?_, rfl⟩
          rw [HI.out]
          clear HI HG HTK HNE HALL
          congr 1
          rw [Bool.eq_iff_iff]
          simp
        all_goals omega
      case rest =>
        obtain ⟨rfl, rfl, rfl⟩ := hcut
        clear HI
        cases hb : stB s[k] with
        | true =>
          have HB := Lib.hid hb
          clear hb
          go_wp2_with fail
          go_roundw
          case rel => exact ⟨k + 1, hlt, by go_num, Lib.hid (by rw [HTK.out, List.all_append, HALL.out]; simp [HB.out]), trivial⟩
          case measure => simp [intOf]; omega
        | false =>
          have HB := Lib.hid hb
          clear hb
          go_wp2_with fail
          go_ret
          exact ⟨ret_bool (may_bad HG.out HB.out HNE.out).symm, rfl⟩
    · have hend : ∀ c, (bl s)[k]? = some c → c = 61 := fun c hc => by
        have hlt : k < s.size := by rw [← bl_length]; exact (List.getElem?_eq_some_iff.1 hc).1
        apply Classical.byContradiction
        intro hn
        exact hgo ⟨hlt, by rw [hc]; exact hn⟩
      have HE := Lib.hid hend
      have hstop : k < s.size → ((s[k]!.toNat : Int) == 61) = true := fun hlt => by
        have h1 := hend _ (bl_get s k hlt)
        rw [getElem!_pos s k hlt, h1]
        rfl
      clear hgo hend
      have KEY : ∀ W : World, w = W → True := fun _ _ => trivial
      clear KEY
      by_cases hlt : k < s.size
      · have e61 : ((s[k].toNat : Int) == 61) = true := by
          have := hstop hlt
          rwa [getElem!_pos s k hlt] at this
        clear hstop
        go_wp2_with fail
        go_loopw [6] (fun i wx => ∃ j : Nat, k ≤ j ∧ j ≤ s.size ∧ i = .int .i64 (j : Int) ∧ Hid (∀ i, k ≤ i → i < j → (bl s)[i]? = some 61) ∧ w = wx) (fun i _ => s.size - (intOf i).toNat)
        case atStart => exact ⟨k, Nat.le_refl _, hk, rfl, Lib.hid (fun i h1 h2 => by omega), rfl⟩
        case round =>
          obtain ⟨j, hkj, hj, rfl, HF, rfl⟩ := hrel
          by_cases hjl : j < s.size
          · have HG := Lib.hid (bl_get s j hjl)
            cases hb : ((s[j].toNat : Int) == 61) with
            | true =>
              have h61 : s[j] = 61 := by rw [← ne_61] at hb; exact of_decide_eq_true hb
              have HS := Lib.hid (show ∀ i, k ≤ i → i < j + 1 → (bl s)[i]? = some 61 from fun i h1 h2 => by
                by_cases hij : i < j
                · exact HF.out i h1 hij
                · rw [show i = j by omega, HG.out, h61])
              clear h61
              go_wp2_with fail
              go_roundw
              case rel => exact ⟨j + 1, by omega, hjl, by go_num, HS, trivial⟩
              case measure => simp [intOf]; omega
            | false =>
              have HN := Lib.hid (show s[j] ≠ 61 by rw [← ne_61] at hb; exact of_decide_eq_false hb)
              go_wp2_with fail
              go_ret
              exact ⟨ret_bool (may_mid HALL.out HE.out hkj HG.out HN.out).symm, rfl⟩
          · have HM := Lib.hid (may_end HALL.out HE.out (by rw [bl_length]; exact hk) (fun i h1 h2 => HF.out i h1 (by rw [bl_length] at h2; omega)))
            rw [bl_length] at HM
            clear e61
            go_wp2_with fail
            all_goals
              go_ret
              refine ⟨ret_bool (Eq.trans ?_ HM.out.symm), rfl⟩
              clear HM HE HALL HF
              rw [Bool.eq_iff_iff]
              simp
            all_goals omega
      · have HM := Lib.hid (may_end HALL.out HE.out (by rw [bl_length]; exact hk) (fun i h1 h2 => by rw [bl_length] at h2; omega))
        rw [bl_length] at HM
        clear hstop
        go_wp2_with fail
        go_loopw [6] (fun i wx => i = .int .i64 (k : Int) ∧ w = wx) (fun _ _ => 0)
        case atStart => exact ⟨rfl, rfl⟩
        case round =>
          obtain ⟨rfl, rfl⟩ := hrel
          go_wp2_with fail
          all_goals
            go_ret
            refine ⟨ret_bool (Eq.trans ?_ HM.out.symm), rfl⟩
            clear HM HE HALL
            rw [Bool.eq_iff_iff]
            simp
          all_goals omega

theorem rmay_below (s : ByteArray) (w : World) (hs : s.size ≤ 281474976710656) : Calls Tryz.prog 14 #[.string s] w fun e w' => e = .returned (.bool (mayT (bl s))) ∧ Below w.heap.size w w' := by
  refine (rmay_any s w hs).mono ?_
  rintro e w' ⟨rfl, rfl⟩
  exact ⟨rfl, Below.refl _ _⟩

/-! ## Credential -/
theorem six_parts (s : ByteArray) (h : 8 ≤ s.size) : bl (s.extract 0 6) = (bl s).take 6 ∧ (bl s)[6]? = some (s[6]'(by omega)) := ⟨by rw [extract_bl, piece_front], bl_get s 6 (by omega)⟩
theorem blank_at {l : List UInt8} {j k : Nat} (hk : k ≤ l.length) (hj : j ≤ k) (h1 : ∀ i, j ≤ i → i < k → l[i]? = some 32) (h2 : ∀ c, l[k]? = some c → c ≠ 32) : blankT (l.drop j) = l.drop k := by
  have := Lib.trimLeftB_drop (l.drop j) 32 (k - j) (by rw [List.length_drop]; omega) (fun i b hi hb => by
    rw [List.getElem?_drop, h1 (j + i) (by omega) (by omega)] at hb
    injection hb with hb
    exact hb.symm) (fun b hb => h2 b (by rw [List.getElem?_drop, show j + (k - j) = k by omega] at hb; exact hb))
  unfold blankT
  rw [this, List.drop_drop, show j + (k - j) = k by omega]
theorem eq_32 (c : UInt8) : decide (c = 32) = ((c.toNat : Int) == 32) := by
  rw [Bool.eq_iff_iff, decide_eq_true_eq, beq_iff_eq]
  constructor
  · rintro rfl; rfl
  · intro h
    apply UInt8.toNat_inj.1
    show c.toNat = 32
    omega
set_option maxHeartbeats 4000000 in
set_option maxRecDepth 100000 in
theorem rcred_any (s : ByteArray) (w : World) (hs : s.size ≤ 281474976710656) : Calls Tryz.prog 17 #[.string s] w fun e w' => e = .returned (credV (credF (bl s))) ∧ Below w.heap.size w w' := by
  by_cases h8 : s.size < 8
  · have HN := Lib.hid (show credF (bl s) = none from cred_short (by rw [bl_length]; exact h8))
    have e8 : (s.size : Int) < 8 := by omega
    clear h8 hs
    go_enter Tryz.func17, Tryz.ntmps17
    go_wp2_with fail
    go_ret2
    exact ⟨by rw [HN.out]; rfl, Below.refl _ _⟩
  have e8 : ¬ (s.size : Int) < 8 := by omega
  have e6 : (6 : Int) ≤ (s.size : Int) := by omega
  have e6' : (6 : Int) < (s.size : Int) := by omega
  have n6 : 6 < s.size := by omega
  obtain ⟨p1, p2⟩ := six_parts s (by omega)
  have C1 := fun W : World => lower_any (s.extract 0 6) W (by have := extract_size s 0 6; rw [← bl_length, p1, List.length_take]; omega)
  unfold Text at C1
  rw [p1] at C1
  obtain ⟨T, hT⟩ : ∃ T : ByteArray, T = ⟨(lowF ((bl s).take 6)).toArray⟩ := ⟨_, rfl⟩
  rw [← hT] at C1
  have hb : T.toList = lowF ((bl s).take 6) := by rw [Lib.toList_data, hT]
  have C1 := Lib.hid C1
  have P2 := Lib.hid p2
  clear p1 p2 hT
  by_cases hl : lowF ((bl s).take 6) = bearL
  rotate_left
  · have HN := Lib.hid (show credF (bl s) = none from cred_other (fun h => hl h.1))
    have q1 : ¬ T.toList = [98, 101, 97, 114, 101, 114] := by rw [hb]; exact hl
    clear hl hb
    go_enter Tryz.func17, Tryz.ntmps17
    go_wp2_with fail
    refine (C1.out _).mono ?_
    rintro e w1 ⟨rfl, b1⟩
    go_wp2_with fail
    go_ret2
    exact ⟨by rw [HN.out]; rfl, b1⟩
  have q1 : T.toList = [98, 101, 97, 114, 101, 114] := by rw [hb]; exact hl
  by_cases h32 : s[6] = 32
  rotate_left
  · have HN := Lib.hid (show credF (bl s) = none from cred_other (fun h => h32 (by have := h.2; rw [P2.out] at this; exact Option.some.inj this)))
    have q2 : ((s[6].toNat : Int) == 32) = false := by rw [← eq_32]; exact decide_eq_false h32
    clear hl hb h32 P2
    go_enter Tryz.func17, Tryz.ntmps17
    go_wp2_with fail
    refine (C1.out _).mono ?_
    rintro e w1 ⟨rfl, b1⟩
    go_wp2_with fail
    go_ret2
    exact ⟨by rw [HN.out]; rfl, b1⟩
  have q2 : ((s[6].toNat : Int) == 32) = true := by rw [← eq_32]; exact decide_eq_true h32
  have HC := Lib.hid (cred_six hl (by rw [P2.out, h32]))
  clear hl hb h32 P2
  go_enter Tryz.func17, Tryz.ntmps17
  go_wp2_with fail
  refine (C1.out _).mono ?_
  rintro e w1 ⟨rfl, b1⟩
  go_wp2_with fail
  clear q1 q2 C1
  go_loopw [4] (fun i wx => ∃ k : Nat, 6 ≤ k ∧ k ≤ s.size ∧ i = .int .i64 (k : Int) ∧ Hid (∀ i, 6 ≤ i → i < k → (bl s)[i]? = some 32) ∧ w1 = wx) (fun i _ => s.size - (intOf i).toNat)
  case atStart => exact ⟨6, Nat.le_refl _, by omega, rfl, Lib.hid (fun i h1 h2 => by omega), rfl⟩
  case round =>
    obtain ⟨k, hk6, hk, rfl, HF, rfl⟩ := hrel
    by_cases hgo : ∃ h : k < s.size, s[k] = 32
    · obtain ⟨hlt, h32⟩ := hgo
      have q2 : ((s[k].toNat : Int) == 32) = true := by rw [← eq_32]; exact decide_eq_true h32
      have HS := Lib.hid (show ∀ i, 6 ≤ i → i < k + 1 → (bl s)[i]? = some 32 from fun i h1 h2 => by
        by_cases hij : i < k
        · exact HF.out i h1 hij
        · rw [show i = k by omega, bl_get s k hlt, h32])
      clear h32
      go_wp2_with fail
      go_roundw
      case rel => exact ⟨k + 1, by omega, hlt, by go_num, HS, trivial⟩
      case measure => simp [intOf]; omega
    · have hne : ∀ c, (bl s)[k]? = some c → c ≠ 32 := fun c hc e => by
        have hlt : k < s.size := by rw [← bl_length]; exact (List.getElem?_eq_some_iff.1 hc).1
        rw [bl_get s k hlt] at hc
        injection hc with hc
        exact hgo ⟨hlt, hc.trans e⟩
      have HB := blank_at (l := bl s) (by rw [bl_length]; exact hk) hk6 HF.out hne
      have HC2 := HC.out
      rw [HB] at HC2
      obtain ⟨R, hR⟩ : ∃ R : ByteArray, R = s.extract k s.size := ⟨_, rfl⟩
      have hRb : bl R = (bl s).drop k := by rw [hR, extract_bl, piece_back]
      have C2 := fun W : World => rmay_any R W (by have := extract_size s k s.size; rw [hR]; omega)
      have HR := Lib.hid (show R = ⟨((bl s).drop k).toArray⟩ by rw [← hRb, mk_bl])
      rw [← hRb] at HC2
      have c1 : (0 : Int) ≤ (k : Int) := by omega
      have c2 : (k : Int) ≤ (s.size : Int) := by omega
      have HC3 := Lib.hid HC2
      have HRb := Lib.hid hRb
      have q3 : ∀ hlt : k < s.size, ((s[k].toNat : Int) == 32) = false := fun hlt => by rw [← eq_32]; exact decide_eq_false (fun e => hgo ⟨hlt, e⟩)
      have C2 := Lib.hid C2
      have HRx := Lib.hid hR
      clear HC2 HB hne HC hgo hRb hR HF
      generalize mayT (bl R) = b at *
      have KK : ∀ (hh : k < s.size ∨ ¬ k < s.size), True := fun _ => trivial
      clear KK
      by_cases hlt : k < s.size
      · have q4 := q3 hlt
        clear q3
        cases b with
        | true =>
          have HN := Lib.hid (show credF (bl s) = some (bl R) by rw [HC3.out]; rfl)
          clear HC3
          go_wp2_with fail
          rw [← HRx.out]
          refine (C2.out _).mono ?_
          rintro e w2 ⟨rfl, rfl⟩
          go_wp2_with fail
          go_ret2
          refine ⟨?_, b1⟩
          rw [HN.out]
          simp only [credV]
          rw [mk_bl, HRx.out]
          rfl
        | false =>
          have HN := Lib.hid (show credF (bl s) = none by rw [HC3.out]; rfl)
          clear HC3
          go_wp2_with fail
          rw [← HRx.out]
          refine (C2.out _).mono ?_
          rintro e w2 ⟨rfl, rfl⟩
          go_wp2_with fail
          go_ret2
          exact ⟨by rw [HN.out]; rfl, b1⟩
      · clear q3
        cases b with
        | true =>
          have HN := Lib.hid (show credF (bl s) = some (bl R) by rw [HC3.out]; rfl)
          clear HC3
          go_wp2_with fail
          rw [← HRx.out]
          refine (C2.out _).mono ?_
          rintro e w2 ⟨rfl, rfl⟩
          go_wp2_with fail
          go_ret2
          refine ⟨?_, b1⟩
          rw [HN.out]
          simp only [credV]
          rw [mk_bl, HRx.out]
          rfl
        | false =>
          have HN := Lib.hid (show credF (bl s) = none by rw [HC3.out]; rfl)
          clear HC3
          go_wp2_with fail
          rw [← HRx.out]
          refine (C2.out _).mono ?_
          rintro e w2 ⟨rfl, rfl⟩
          go_wp2_with fail
          go_ret2
          exact ⟨by rw [HN.out]; rfl, b1⟩
end Go.Proofs.YtopanahgeeolbaaGreatDoor.Aut

namespace Go.Proofs.YtopanahgeeolbaaGreatDoor.Aut
open Go.RowKit Acl

set_option maxRecDepth 100000 in
theorem config1_any (t : TeE) (w : World) (ht : t.Ok w) (hp : PowTab w) :
    Calls Tryz.prog 26 #[.agg #[.string t.tok, .slice t.A t.n t.c, .int .i64 t.nb, .int .i64 t.ne, .int .i64 t.ns, .int .i64 t.nc, .int .i64 t.nw, .int .i64 t.nr, .int .i64 t.nu]] w fun e w' => e = .returned (.bool (!tenF t)) ∧ Below w.heap.size w w' := by
  have hb : Below w.heap.size w (w.alloc (.cells #[.string t.tok, .slice t.A t.n t.c, .int .i64 t.nb, .int .i64 t.ne, .int .i64 t.ns, .int .i64 t.nc, .int .i64 t.nw, .int .i64 t.nr, .int .i64 t.nu] 27)) := (Below.refl _ _).alloc (Nat.le_refl _) _
  have CT := Lib.hid (tenant_any t (w.alloc (.cells #[.string t.tok, .slice t.A t.n t.c, .int .i64 t.nb, .int .i64 t.ne, .int .i64 t.ns, .int .i64 t.nc, .int .i64 t.nw, .int .i64 t.nr, .int .i64 t.nu] 27)) (ht.below hb) (hp.below hb))
  have HB := Lib.hid hb
  clear ht hp hb
  generalize tenF t = b at *
  go_enter Tryz.func26, Tryz.ntmps26
  go_wp2_with fail
  refine CT.out.mono ?_
  rintro e w1 ⟨rfl, b1⟩
  go_wp2_with fail
  go_ret
  exact ⟨rfl, HB.out.trans (b1.mono HB.out.size)⟩

set_option maxHeartbeats 4000000 in
set_option maxRecDepth 100000 in
theorem idxT_any {P : Nat → Prop} (w : World) (A : Option Addr) (ls : List TeE) (n c : Nat) (hn : ls.length = n) (hmax : n ≤ 140737488351232) (h : SrcT w P A ls) (hok : ∀ t ∈ ls, t.Ok w) (hp : PowTab w) :
    Calls Tryz.prog 47 #[.slice A n c, .func (.func 26) #[] #[]] w fun e w' => ∃ i : Int, e = .returned (.int .i64 i) ∧ Hit (fun t => !tenF t) ls i ∧ Below w.heap.size w w' := by
  have HN := Lib.hid hn
  have H := Lib.hid h
  have HOK := Lib.hid hok
  have HP := Lib.hid hp
  clear hn h hok hp
  go_enter Tryz.func47, Tryz.ntmps47
  go_wp2_with fail
  go_loopw [8] (fun vi wr => ∃ k : Nat, vi = .int .i64 (k : Int) ∧ k ≤ n ∧ Hid ((ls.take k).any (fun t => !tenF t) = false) ∧ Hid (Below w.heap.size w wr)) (fun vi _ => n - (intOf vi).toNat)
  case atStart => exact ⟨0, rfl, Nat.zero_le _, Lib.hid rfl, Lib.hid (Below.refl _ _)⟩
  case round =>
    obtain ⟨k, rfl, hk, HE, HB⟩ := hrel
    by_cases hlt : k < n
    · obtain ⟨pa, t, hx, hat, hpb, y0, y1, y2, y3, y4, y5, y6, y7, y8⟩ := SrcT.at (c := c) H.out HN.out hlt HB.out
      have HTK := Lib.hid (show (ls.take (k + 1)).any (fun t => !tenF t) = !tenF t by rw [take_snoc ls k t hx, List.any_append, HE.out]; simp)
      have HX := Lib.hid hx
      have CD := config1_any t wr ((HOK.out t (List.mem_of_getElem? hx)).below HB.out) (HP.out.below HB.out)
      clear hx hpb
      cases hb : tenF t with
      | true =>
        rw [hb] at CD HTK
        have CD := Lib.hid CD
        clear hb
        go_wp2_with fail
        refine CD.out.mono ?_
        rintro e w5 ⟨rfl, b5⟩
        have B5 := Lib.hid (HB.out.trans (b5.mono HB.out.size))
        clear b5
        go_wp2_with fail
        go_roundw
        case rel => exact ⟨k + 1, by go_num, hlt, HTK, B5⟩
        case measure => simp [intOf]; omega
      | false =>
        rw [hb] at CD
        have CD := Lib.hid CD
        have HP := Lib.hid hb
        clear hb
        go_wp2_with fail
        refine CD.out.mono ?_
        rintro e w5 ⟨rfl, b5⟩
        go_wp2_with fail
        go_ret
        exact ⟨(k : Int), rfl, .inr ⟨k, t, rfl, HX.out, by show (!tenF t) = true; rw [HP.out]; rfl, HE.out⟩, HB.out.trans (b5.mono HB.out.size)⟩
    · have HN := Lib.hid (show ls.any (fun t => !tenF t) = false by rw [← HE.out, List.take_of_length_le (by rw [HN.out]; omega)])
      go_wp2_with fail
      go_ret
      exact ⟨-1, rfl, .inl ⟨rfl, HN.out⟩, HB.out⟩
theorem any_ten (L : List TeE) : L.any (fun t => !tenF t) = !L.all tenF := by
  induction L with
  | nil => rfl
  | cons a l ih => rw [List.any_cons, List.all_cons, ih, Bool.not_and]
theorem hasT_any {P : Nat → Prop} (w : World) (A : Option Addr) (ls : List TeE) (n c : Nat) (hn : ls.length = n) (hmax : n ≤ 140737488351232) (h : SrcT w P A ls) (hok : ∀ t ∈ ls, t.Ok w) (hp : PowTab w) :
    Calls Tryz.prog 25 #[.slice A n c, .func (.func 26) #[] #[]] w fun e w' => e = .returned (.bool (!ls.all tenF)) ∧ Below w.heap.size w w' := by
  have CI := Lib.hid (idxT_any w A ls n c hn hmax h hok hp)
  rw [← any_ten]
  clear hn hmax h hok hp
  go_enter Tryz.func25, Tryz.ntmps25
  go_wp2_with fail
  refine CI.out.mono ?_
  rintro e w' ⟨i, rfl, hi, b'⟩
  have hh := hi.any
  clear hi
  go_wp2_with fail
  go_ret
  exact ⟨by rw [← hh]; rfl, b'⟩
theorem three_limits (X : World) (n : Nat) (st ti : Int) : Calls Tryz.prog 24 #[.slice (some ⟨X.heap.size, 0, none⟩) 3 3] (X.alloc (.cells #[.int .i64 (n : Int), .int .i64 1, .int .i64 8, .int .i64 st, .int .i64 0, .int .i64 16, .int .i64 ti, .int .i64 1, .int .i64 1099511627776] 54))
    fun e w' => e = .returned (.bool ((decide (1 ≤ n) && decide (n ≤ 8)) && limC st ti)) ∧ Below X.heap.size X w' := by
  have hb : Below X.heap.size X (X.alloc (.cells #[.int .i64 (n : Int), .int .i64 1, .int .i64 8, .int .i64 st, .int .i64 0, .int .i64 16, .int .i64 ti, .int .i64 1, .int .i64 1099511627776] 54)) := (Below.refl _ _).alloc (Nat.le_refl _) _
  refine (within_any _ (some ⟨X.heap.size, 0, none⟩) [⟨(n : Int), 1, 8⟩, ⟨st, 0, 16⟩, ⟨ti, 1, 1099511627776⟩] 3 3 rfl (by decide) (srci_is (Is.made X 54 [.int .i64 (n : Int), .int .i64 1, .int .i64 8, .int .i64 st, .int .i64 0, .int .i64 16, .int .i64 ti, .int .i64 1, .int .i64 1099511627776]))).mono ?_
  rintro e w' ⟨rfl, b⟩
  refine ⟨ret_bool ?_, hb.trans (b.mono hb.size)⟩
  simp only [List.all_cons, List.all_nil, Bool.and_true, inF, limC]
  congr 1
  rw [Bool.eq_iff_iff]
  simp
  omega
theorem Conf.box {w : World} (A : Option Addr) (n c : Nat) (st ti : Int) : Is (w.alloc (.cells #[.slice A n c, .int .i64 st, .int .i64 ti] 24)) w.heap.size 24 [.slice A n c, .int .i64 st, .int .i64 ti] := Is.made w 24 [.slice A n c, .int .i64 st, .int .i64 ti]
set_option maxHeartbeats 4000000 in
set_option maxRecDepth 100000 in
theorem config_any {P : Nat → Prop} (w : World) (A : Option Addr) (L : List TeE) (n c : Nat) (st ti : Int) (hn : L.length = n) (hmax : n ≤ 140737488351232) (h : SrcT w P A L) (hok : ∀ t ∈ L, t.Ok w) (hp : PowTab w) :
    Calls Tryz.prog 9 #[.agg #[.slice A n c, .int .i64 st, .int .i64 ti]] w fun e w' => e = .returned (.bool (confF L st ti)) ∧ Below w.heap.size w w' := by
  have I0 := Lib.hid (Conf.box (w := w) A n c st ti)
  have B0 : Hid (Below w.heap.size w (w.alloc (.cells #[.slice A n c, .int .i64 st, .int .i64 ti] 24))) := Lib.hid ((Below.refl _ _).alloc (Nat.le_refl _) _)
  have e0 : (w.alloc (.cells #[.slice A n c, .int .i64 st, .int .i64 ti] 24)).heap.size = w.heap.size + 1 := by simp
  have c0 := three_limits (w.alloc (.cells #[.slice A n c, .int .i64 st, .int .i64 ti] 24)) n st ti
  rw [e0] at c0
  have CL := Lib.hid c0
  have E0 := Lib.hid e0
  clear c0 e0
  have CH := Lib.hid (fun (W : World) (hb : Below w.heap.size w W) => hasT_any W A L n c hn hmax (h.below hb) (fun t ht => (hok t ht).below hb) (hp.below hb))
  have CU := Lib.hid (fun (W : World) (hb : Below w.heap.size w W) (h8 : n ≤ 8) => unlike_any W A L n c hn (by omega) (h.below hb) (fun t ht => (hok t ht).ht))
  have hc0 := show confF L st ti = (((decide (1 ≤ L.length) && decide (L.length ≤ 8)) && limC st ti) && (L.all tenF && unlF L)) from rfl
  rw [hn] at hc0
  have HC := Lib.hid hc0
  clear hc0
  have h8 : ((decide (1 ≤ n) && decide (n ≤ 8)) && limC st ti) = true → n ≤ 8 := fun h => of_decide_eq_true (Bool.and_eq_true_iff.1 (Bool.and_eq_true_iff.1 h).1).2
  have H8 := Lib.hid h8
  clear hn hmax h hok hp h8
  generalize ((decide (1 ≤ n) && decide (n ≤ 8)) && limC st ti) = q at *
  cases q with
  | false =>
    have HN := Lib.hid (show confF L st ti = false by rw [HC.out]; rfl)
    clear HC CH CU H8
    go_enter Tryz.func9, Tryz.ntmps9
    go_wp2_with fail
    refine CL.out.mono ?_
    rintro e w1 ⟨rfl, b1⟩
    go_wp2_with fail
    go_ret
    exact ⟨ret_bool HN.out.symm, B0.out.trans (b1.mono (Nat.le_succ _))⟩
  | true =>
    cases hb : L.all tenF with
    | false =>
      rw [hb] at HC CH
      have HN := Lib.hid (show confF L st ti = false by rw [HC.out]; rfl)
      clear HC CU H8 hb
      go_enter Tryz.func9, Tryz.ntmps9
      go_wp2_with fail
      refine CL.out.mono ?_
      rintro e w1 ⟨rfl, b1⟩
      rw [← E0.out] at b1
      have I1 := Lib.hid (is_below I0.out b1)
      have y0 := I1.out.cell 0
      simp only [List.getElem?_cons_zero] at y0
      have B1 := Lib.hid (B0.out.trans (b1.mono B0.out.size))
      clear b1
      go_wp2_with fail
      refine (CH.out _ B1.out).mono ?_
      rintro e w2 ⟨rfl, b2⟩
      have B2 := Lib.hid (B1.out.trans (b2.mono B1.out.size))
      clear b2
      go_wp2_with fail
      go_ret
      exact ⟨ret_bool HN.out.symm, B2.out⟩
    | true =>
      rw [hb] at HC CH
      have HN := Lib.hid (show confF L st ti = unlF L by rw [HC.out]; simp)
      have CU2 := Lib.hid (fun (W : World) (hb : Below w.heap.size w W) => CU.out W hb (H8.out rfl))
      clear HC CU H8 hb
      generalize unlF L = b at *
      go_enter Tryz.func9, Tryz.ntmps9
      go_wp2_with fail
      refine CL.out.mono ?_
      rintro e w1 ⟨rfl, b1⟩
      rw [← E0.out] at b1
      have I1 := Lib.hid (is_below I0.out b1)
      have y0 := I1.out.cell 0
      simp only [List.getElem?_cons_zero] at y0
      have B1 := Lib.hid (B0.out.trans (b1.mono B0.out.size))
      clear b1
      go_wp2_with fail
      refine (CH.out _ B1.out).mono ?_
      rintro e w2 ⟨rfl, b2⟩
      have I2 := Lib.hid (is_below I1.out b2)
      have z0 := I2.out.cell 0
      simp only [List.getElem?_cons_zero] at z0
      have B2 := Lib.hid (B1.out.trans (b2.mono B1.out.size))
      clear b2 y0
      go_wp2_with fail
      refine (CU2.out _ B2.out).mono ?_
      rintro e w3 ⟨rfl, b3⟩
      have B3 := Lib.hid (B2.out.trans (b3.mono B2.out.size))
      clear b3
      go_wp2_with fail
      go_ret
      exact ⟨ret_bool HN.out.symm, B3.out⟩
end Go.Proofs.YtopanahgeeolbaaGreatDoor.Aut

namespace Go.Proofs.YtopanahgeeolbaaGreatDoor.Aut
open Go.RowKit

/-- "proxy-authorization" -/
def authS : ByteArray := ⟨#[112, 114, 111, 120, 121, 45, 97, 117, 116, 104, 111, 114, 105, 122, 97, 116, 105, 111, 110]⟩
def authN : List UInt8 := bl authS
/-- Is it a credential of that token? -/
def credIs (tok v : List UInt8) : Bool := match credF v with
  | some t => t == tok
  | none => false
/-- Do the fields hold the token? -/
def holdsF (tok : List UInt8) (ls : List Fld) : Bool := match getF ls authN with
  | [v] => credIs tok v
  | _ => false
theorem get_long {ls : List Fld} (h : SlimB ls) : ∀ v ∈ getF ls authN, v.length ≤ 281474976710656 := fun v hv => by
  obtain ⟨f, hf, rfl⟩ := List.mem_map.1 hv
  exact (h f (List.mem_filter.1 hf).1).2

set_option maxHeartbeats 4000000 in
set_option maxRecDepth 100000 in
theorem holds_any {P : Nat → Prop} (tok : ByteArray) (w : World) (A : Option Addr) (ls : List Fld) (n c : Nat) (hn : ls.length = n) (hmax : n * 32 ≤ 140737488355328) (h : SrcF w P A ls) (hs : SlimB ls) :
    Calls Tryz.prog 18 #[.string tok, .slice A n c] w fun e w' => e = .returned (.bool (holdsF (bl tok) ls)) ∧ Below w.heap.size w w' := by
  have G := Lib.hid (get_anyB w A ls n c hn hmax h hs authS)
  have HL := get_long hs
  have HF := show holdsF (bl tok) ls = (match getF ls authN with | [v] => credIs (bl tok) v | _ => false) from rfl
  rw [show bl authS = authN from rfl] at G
  clear hn hmax h hs
  generalize getF ls authN = L at *
  have HF := Lib.hid HF
  have HL := Lib.hid HL
  match L, HL, HF, G with
  | [], HL, HF, G =>
    have HN := Lib.hid (show holdsF (bl tok) ls = false by rw [HF.out])
    clear HL HF
    go_enter Tryz.func18, Tryz.ntmps18
    go_wp2_with fail
    refine G.out.mono ?_
    rintro e w1 ⟨v1, o1, rfl, own1, _, b1⟩
    obtain ⟨A1, c1, hv1, src1⟩ := own1.src (fun _ => True) (fun _ _ => trivial)
    subst hv1
    clear own1 src1 G
    simp only [List.length_nil]
    go_wp2_with fail
    go_ret
    exact ⟨ret_bool HN.out.symm, b1⟩
  | x :: y :: r, HL, HF, G =>
    have HN := Lib.hid (show holdsF (bl tok) ls = false by rw [HF.out])
    obtain ⟨m, hm⟩ : ∃ m, (x :: y :: r).length = m := ⟨_, rfl⟩
    have hm1 : ¬ (m : Int) = 1 := by simp at hm; omega
    clear HL HF
    go_enter Tryz.func18, Tryz.ntmps18
    go_wp2_with fail
    refine G.out.mono ?_
    rintro e w1 ⟨v1, o1, rfl, own1, _, b1⟩
    obtain ⟨A1, c1, hv1, src1⟩ := own1.src (fun _ => True) (fun _ _ => trivial)
    subst hv1
    clear own1 src1 G
    rw [hm]
    clear hm
    go_wp2_with fail
    go_ret
    exact ⟨ret_bool HN.out.symm, b1⟩
  | [x], HL, HF, G =>
    have HN := Lib.hid (show holdsF (bl tok) ls = credIs (bl tok) x by rw [HF.out])
    obtain ⟨X, hX⟩ : ∃ X : ByteArray, X = ⟨x.toArray⟩ := ⟨_, rfl⟩
    have hbX : bl X = x := by rw [hX, bl_mk]
    have C := Lib.hid (fun W : World => cred_any X W (by rw [← bl_length, hbX]; exact HL.out x (by simp)))
    rw [hbX] at C
    have HC := Lib.hid (show credIs (bl tok) x = (match credF x with | some t => t == bl tok | none => false) from rfl)
    clear HL HF
    go_enter Tryz.func18, Tryz.ntmps18
    go_wp2_with fail
    refine G.out.mono ?_
    rintro e w1 ⟨v1, o1, rfl, own1, _, b1⟩
    obtain ⟨A1, c1, hv1, src1⟩ := own1.src (fun _ => True) (fun _ _ => trivial)
    subst hv1
    obtain ⟨p, x', hx', hat, y⟩ := Acl.srcs_at (c := c1) (k := 0) src1 rfl (by simp) (Below.refl w1.heap.size w1)
    simp only [List.getElem?_cons_zero, Option.some.injEq] at hx'
    subst hx'
    rw [← hX] at y
    simp only [List.length_cons, List.length_nil, Int.ofNat_zero, Nat.zero_add] at hat
    clear own1 src1 G hbX hX
    simp only [List.length_cons, List.length_nil, Nat.zero_add]
    cases hcr : credF x with
    | none =>
      rw [hcr] at C HC
      have HM := Lib.hid (show holdsF (bl tok) ls = false by rw [HN.out, HC.out])
      unfold credV at C
      clear HN HC hcr
      go_wp2_with fail
      refine (C.out _).mono ?_
      rintro e w2 ⟨rfl, b2⟩
      go_wp2_with fail
      go_ret
      exact ⟨ret_bool HM.out.symm, b1.trans (b2.mono b1.size)⟩
    | some t =>
      rw [hcr] at C HC
      have HE := Lib.hid (show ((⟨t.toArray⟩ : ByteArray).toList == tok.toList) = holdsF (bl tok) ls by rw [HN.out, HC.out, eq_text, bl_mk])
      unfold credV at C
      simp only at C
      obtain ⟨T, hT⟩ : ∃ T : ByteArray, T = ⟨t.toArray⟩ := ⟨_, rfl⟩
      rw [← hT] at C HE
      clear HN HC hcr hT
      go_wp2_with fail
      refine (C.out _).mono ?_
      rintro e w2 ⟨rfl, b2⟩
      go_wp2_with fail
      go_ret
      exact ⟨ret_bool HE.out, b1.trans (b2.mono b1.size)⟩

set_option maxHeartbeats 4000000 in
set_option maxRecDepth 100000 in
theorem rholds_any {P : Nat → Prop} (tok : ByteArray) (w : World) (A : Option Addr) (ls : List Fld) (n c : Nat) (hn : ls.length = n) (hmax : n * 32 ≤ 140737488351232) (h : SrcF w P A ls) (hs : Slim ls) :
    Calls Tryz.prog 19 #[.string tok, .slice A n c] w fun e w' => e = .returned (.bool (holdsF (bl tok) ls)) ∧ Below w.heap.size w w' := by
  have G := Lib.hid (rget_any w A ls n c hn hmax h hs authS (by decide))
  have HL := get_long hs.b
  have HF := show holdsF (bl tok) ls = (match getF ls authN with | [v] => credIs (bl tok) v | _ => false) from rfl
  rw [show bl authS = authN from rfl] at G
  clear hn hmax h hs
  generalize getF ls authN = L at *
  have HF := Lib.hid HF
  have HL := Lib.hid HL
  match L, HL, HF, G with
  | [], HL, HF, G =>
    have HN := Lib.hid (show holdsF (bl tok) ls = false by rw [HF.out])
    clear HL HF
    go_enter Tryz.func19, Tryz.ntmps19
    go_wp2_with fail
    refine G.out.mono ?_
    rintro e w1 ⟨v1, o1, rfl, own1, _, b1⟩
    obtain ⟨A1, c1, hv1, src1⟩ := own1.src (fun _ => True) (fun _ _ => trivial)
    subst hv1
    clear own1 src1 G
    simp only [List.length_nil]
    go_wp2_with fail
    go_ret
    exact ⟨ret_bool HN.out.symm, b1⟩
  | x :: y :: r, HL, HF, G =>
    have HN := Lib.hid (show holdsF (bl tok) ls = false by rw [HF.out])
    obtain ⟨m, hm⟩ : ∃ m, (x :: y :: r).length = m := ⟨_, rfl⟩
    have hm1 : ¬ (m : Int) = 1 := by simp at hm; omega
    clear HL HF
    go_enter Tryz.func19, Tryz.ntmps19
    go_wp2_with fail
    refine G.out.mono ?_
    rintro e w1 ⟨v1, o1, rfl, own1, _, b1⟩
    obtain ⟨A1, c1, hv1, src1⟩ := own1.src (fun _ => True) (fun _ _ => trivial)
    subst hv1
    clear own1 src1 G
    rw [hm]
    clear hm
    go_wp2_with fail
    go_ret
    exact ⟨ret_bool HN.out.symm, b1⟩
  | [x], HL, HF, G =>
    have HN := Lib.hid (show holdsF (bl tok) ls = credIs (bl tok) x by rw [HF.out])
    obtain ⟨X, hX⟩ : ∃ X : ByteArray, X = ⟨x.toArray⟩ := ⟨_, rfl⟩
    have hbX : bl X = x := by rw [hX, bl_mk]
    have C := Lib.hid (fun W : World => rcred_any X W (by rw [← bl_length, hbX]; exact HL.out x (by simp)))
    rw [hbX] at C
    have HC := Lib.hid (show credIs (bl tok) x = (match credF x with | some t => t == bl tok | none => false) from rfl)
    clear HL HF
    go_enter Tryz.func19, Tryz.ntmps19
    go_wp2_with fail
    refine G.out.mono ?_
    rintro e w1 ⟨v1, o1, rfl, own1, _, b1⟩
    obtain ⟨A1, c1, hv1, src1⟩ := own1.src (fun _ => True) (fun _ _ => trivial)
    subst hv1
    obtain ⟨p, x', hx', hat, y⟩ := Acl.srcs_at (c := c1) (k := 0) src1 rfl (by simp) (Below.refl w1.heap.size w1)
    simp only [List.getElem?_cons_zero, Option.some.injEq] at hx'
    subst hx'
    rw [← hX] at y
    simp only [List.length_cons, List.length_nil, Int.ofNat_zero, Nat.zero_add] at hat
    clear own1 src1 G hbX hX
    simp only [List.length_cons, List.length_nil, Nat.zero_add]
    cases hcr : credF x with
    | none =>
      rw [hcr] at C HC
      have HM := Lib.hid (show holdsF (bl tok) ls = false by rw [HN.out, HC.out])
      unfold credV at C
      clear HN HC hcr
      go_wp2_with fail
      refine (C.out _).mono ?_
      rintro e w2 ⟨rfl, b2⟩
      go_wp2_with fail
      go_ret
      exact ⟨ret_bool HM.out.symm, b1.trans (b2.mono b1.size)⟩
    | some t =>
      rw [hcr] at C HC
      have HE := Lib.hid (show ((⟨t.toArray⟩ : ByteArray).toList == tok.toList) = holdsF (bl tok) ls by rw [HN.out, HC.out, eq_text, bl_mk])
      unfold credV at C
      simp only at C
      obtain ⟨T, hT⟩ : ∃ T : ByteArray, T = ⟨t.toArray⟩ := ⟨_, rfl⟩
      rw [← hT] at C HE
      clear HN HC hcr hT
      go_wp2_with fail
      refine (C.out _).mono ?_
      rintro e w2 ⟨rfl, b2⟩
      go_wp2_with fail
      go_ret
      exact ⟨ret_bool HE.out, b1.trans (b2.mono b1.size)⟩
end Go.Proofs.YtopanahgeeolbaaGreatDoor.Aut

namespace Go.Proofs.YtopanahgeeolbaaGreatDoor.Aut
open Go.RowKit Acl

/-- "Proxy-Authorization" -/
def nameL : List UInt8 := [80, 114, 111, 120, 121, 45, 65, 117, 116, 104, 111, 114, 105, 122, 97, 116, 105, 111, 110]
/-- A field with a credential. -/
def ofF (t : List UInt8) : Fld := (nameL, bearS ++ t)
theorem row_fld {w : World} {g : Nat} {L : List Fld} (h : Is w g 39 (flds L)) (hl : L.length ≤ maxLen) : OwnF w (.slice (some ⟨g, 0, none⟩) L.length L.length) (some g) L :=
  ⟨⟨flds_length L, .inr ⟨g, L.length, (flds L).toArray, rfl, Nat.zero_le _, h, Nat.le_refl _, hl, by simpa using flds_length L, by rw [← flds_length L]; simp⟩⟩, rfl⟩
theorem of_any (t : ByteArray) (w : World) (hz : t.size ≤ 140737488351232) : Calls Tryz.prog 21 #[.string t] w (GotF [ofF (bl t)] w) := by
  obtain ⟨T, hT⟩ : ∃ T : ByteArray, T = (⟨#[66, 101, 97, 114, 101, 114, 32]⟩ : ByteArray) ++ t := ⟨_, rfl⟩
  have hadd : ∀ W : World, (Op.stringOp .add ⟨#[66, 101, 97, 114, 101, 114, 32]⟩ t).run Tryz.prog W = .ok (.string T) W := fun W => by
    rw [hT]
    exact run_string_add_sum W _ _ (by rw [show (⟨#[66, 101, 97, 114, 101, 114, 32]⟩ : ByteArray).size = 7 from rfl]; omega)
  have i0 : Is (w.alloc (.cells #[.string ⟨#[80, 114, 111, 120, 121, 45, 65, 117, 116, 104, 111, 114, 105, 122, 97, 116, 105, 111, 110]⟩, .string T] 39)) w.heap.size 39 (flds [ofF (bl t)]) := by
    have e : flds [ofF (bl t)] = [.string ⟨#[80, 114, 111, 120, 121, 45, 65, 117, 116, 104, 111, 114, 105, 122, 97, 116, 105, 111, 110]⟩, .string T] := by
      show [strV nameL, strV (bearS ++ bl t)] = _
      unfold strV
      rw [show (⟨(bearS ++ bl t).toArray⟩ : ByteArray) = T by rw [hT, ← mk_bl ((⟨#[66, 101, 97, 114, 101, 114, 32]⟩ : ByteArray) ++ t)]; simp [bl, ByteArray.data_append, bearS]]
      rfl
    rw [e]
    exact Is.made w _ _
  have O0 := Lib.hid (row_fld i0 (show 1 ≤ maxLen by decide))
  have B0 : Hid (Below w.heap.size w (w.alloc (.cells #[.string ⟨#[80, 114, 111, 120, 121, 45, 65, 117, 116, 104, 111, 114, 105, 122, 97, 116, 105, 111, 110]⟩, .string T] 39))) := Lib.hid ((Below.refl _ _).alloc (Nat.le_refl _) _)
  clear hT hz i0
  go_enter Tryz.func21, Tryz.ntmps21
  go_wp2_with fail
  go_ret
  exact ⟨_, _, rfl, O0.out, fun b hb => by injection hb with hb; omega, B0.out⟩

/-- A tenant that may be, of a token. -/
def miniT (t : ByteArray) : TeE := ⟨t, none, 0, 0, [], 0, 0, 1, 1, 0, 1, 1⟩
theorem mini_ok (t : ByteArray) (w : World) (hz : t.size ≤ 140737488351232) : (miniT t).Ok w := ⟨rfl, Nat.zero_le _, fun h => absurd h (by simp [miniT]), fun _ h => (by cases h), hz⟩
theorem mini_may (t : ByteArray) : tenF (miniT t) = mayT (bl t) := by simp [tenF, miniT, allF, numT]
theorem mini_any (t : ByteArray) (w : World) : Calls Tryz.prog 23 #[.string t] w fun e w' => e = .returned (.agg #[.string t, .slice none 0 0, .int .i64 0, .int .i64 0, .int .i64 1, .int .i64 1, .int .i64 0, .int .i64 1, .int .i64 1]) ∧ Below w.heap.size w w' := by
  have B0 : Hid (Below w.heap.size w (w.alloc (.cells #[.string t, .slice none 0 0, .int .i64 0, .int .i64 0, .int .i64 1, .int .i64 1, .int .i64 0, .int .i64 1, .int .i64 1] 27))) := Lib.hid ((Below.refl _ _).alloc (Nat.le_refl _) _)
  have I0 := Lib.hid (Is.made w 27 [.string t, .slice none 0 0, .int .i64 0, .int .i64 0, .int .i64 1, .int .i64 1, .int .i64 0, .int .i64 1, .int .i64 1])
  go_enter Tryz.func23, Tryz.ntmps23
  go_wp2_with fail
  refine bodyPost_ret (results_cell_row rfl _ _ w.heap.size _ _ _ _ rfl I0.out Tryz.underlying27 rfl (by kernel_rfl)) rfl ?_
  exact ⟨rfl, B0.out⟩
theorem append_by_x {P : Program} {w : World} {ops : Array Oper} {rest : List Oper} {o : Oper} {a : Act} {Q : Exit → Act → World → Prop} (hw : Region.wanted o (yielded ops a.tmps) = true) (s x : Operand) (t : TypeId)
    (ho : o.op = .call { callee := .builtin .append, args := #[s, x], argTypes := #[t, t] }) (v xv v' : Value) (w' : World) (hs : a.eval s = v) (hx : a.eval x = xv)
    (hrun : (Builtin.append_ #[t, t] o.type #[v, xv]).run P w = .ok v' w') (h : wpList P ops Q rest (a.put o.dst v') w') : wpList P ops Q (o :: rest) a w := by
  refine wpList_step fun K hK => ?_
  rw [if_pos hw]
  unfold Oper.wp execOp
  simp only [ho, resolve, invoke, builtin, Sem.run_bind, Sem.run_pure, Result.andThen_ok, List.map_toArray, List.map_cons, List.map_nil, hs, hx, hrun]
  exact hK _ _ h
theorem ownf_below {w w' : World} {v : Value} {o : Option Nat} {ls : List Fld} (h : OwnF w v o ls) (hb : Below w.heap.size w w') : OwnF w' v o ls := h.kept (Turn.of_below (S := fun _ => False) hb) (fun _ _ h => h)
theorem srct_is {w : World} {g : Nat} {t : TypeId} {L : List TeE} (h : Is w g t (tes L)) : SrcT w (fun _ => True) (some ⟨g, 0, none⟩) L := fun _ => ⟨_, rfl, trivial, h.lt, fun i x hx j v hv => by
  rw [add_at, h.cell, Nat.zero_add]
  exact tes_get L i x hx j v hv⟩

set_option maxHeartbeats 8000000 in
set_option maxRecDepth 100000 in
theorem wakes_any (w : World) (hp : PowTab w) : Calls Tryz.prog 15 #[] w fun e w' => e = .returned (.bool true) ∧ Below w.heap.size w w' := by
  have C1 := Lib.hid (cred_any ⟨#[98, 101, 97, 114, 101, 114, 32, 32, 120]⟩ w (by decide))
  rw [show credF (bl ⟨#[98, 101, 97, 114, 101, 114, 32, 32, 120]⟩) = some [120] by decide +kernel] at C1
  have C2 := Lib.hid (fun W : World => cred_any ⟨#[66, 97, 115, 105, 99, 32, 120]⟩ W (by decide))
  rw [show credF (bl ⟨#[66, 97, 115, 105, 99, 32, 120]⟩) = none by decide +kernel] at C2
  unfold credV at C1 C2
  simp only at C1 C2
  have C3 := Lib.hid (fun W : World => may_any ⟨#[97, 66, 49, 45, 46, 95, 126, 43, 47, 61]⟩ W (by decide))
  rw [show mayT (bl ⟨#[97, 66, 49, 45, 46, 95, 126, 43, 47, 61]⟩) = true by decide +kernel] at C3
  have C4 := Lib.hid (fun W : World => may_any ⟨#[61]⟩ W (by decide))
  rw [show mayT (bl ⟨#[61]⟩) = false by decide +kernel] at C4
  have C5 := Lib.hid (fun W : World => may_any ⟨#[97, 61, 98]⟩ W (by decide))
  rw [show mayT (bl ⟨#[97, 61, 98]⟩) = false by decide +kernel] at C5
  have CY := Lib.hid (fun W : World => of_any ⟨#[121]⟩ W (by decide))
  have CZ := Lib.hid (fun W : World => of_any ⟨#[89]⟩ W (by decide))
  rw [show bl ⟨#[121]⟩ = [121] from rfl] at CY
  rw [show bl ⟨#[89]⟩ = [89] from rfl] at CZ
  have MX := Lib.hid (fun W : World => mini_any ⟨#[120]⟩ W)
  have MY := Lib.hid (fun W : World => mini_any ⟨#[121]⟩ W)
  have HP := Lib.hid hp
  have HT := Lib.hid (fun (W : World) (hb : Below w.heap.size w W) => tenant_any (miniT ⟨#[120]⟩) W (mini_ok _ _ (by decide)) (hp.below hb))
  rw [mini_may, show mayT (bl ⟨#[120]⟩) = true by decide +kernel] at HT
  unfold miniT at HT
  simp only at HT
  have HH := Lib.hid (fun (W : World) (A : Option Addr) (ls : List Fld) (n c : Nat) (hn : ls.length = n) (hm : n ≤ 4) (h : SrcF W (fun _ => True) A ls) (hs : SlimB ls) => holds_any ⟨#[121]⟩ W A ls n c hn (by omega) h hs)
  rw [show bl ⟨#[121]⟩ = [121] from rfl] at HH
  have S1 : SlimB [ofF [121]] := fun f hf => by
    simp only [List.mem_cons, List.not_mem_nil, or_false] at hf
    subst hf
    exact ⟨by decide, by decide⟩
  have S2 : SlimB [ofF [89]] := fun f hf => by
    simp only [List.mem_cons, List.not_mem_nil, or_false] at hf
    subst hf
    exact ⟨by decide, by decide⟩
  have S3 : SlimB [ofF [121], ofF [121]] := fun f hf => by
    simp only [List.mem_cons, List.not_mem_nil, or_false, or_self] at hf
    subst hf
    exact ⟨by decide, by decide⟩
  have T1 := Lib.hid S1
  have T2 := Lib.hid S2
  have T3 := Lib.hid S3
  have F1 := Lib.hid (show holdsF [121] [ofF [121]] = true by decide +kernel)
  have F2 := Lib.hid (show holdsF [121] [ofF [89]] = false by decide +kernel)
  have F3 := Lib.hid (show holdsF [121] [] = false by decide +kernel)
  have F4 := Lib.hid (show holdsF [121] [ofF [121], ofF [121]] = false by decide +kernel)
  have HC := Lib.hid (fun (W : World) (hb : Below w.heap.size w W) => config_any (W.alloc (.cells #[.string ⟨#[120]⟩, .slice none 0 0, .int .i64 0, .int .i64 0, .int .i64 1, .int .i64 1, .int .i64 0, .int .i64 1, .int .i64 1, .string ⟨#[121]⟩, .slice none 0 0, .int .i64 0, .int .i64 0, .int .i64 1, .int .i64 1, .int .i64 0, .int .i64 1, .int .i64 1] 27)) (some ⟨W.heap.size, 0, none⟩) [miniT ⟨#[120]⟩, miniT ⟨#[121]⟩] 2 2 0 1 rfl (by decide) (srct_is (Is.made W 27 [.string ⟨#[120]⟩, .slice none 0 0, .int .i64 0, .int .i64 0, .int .i64 1, .int .i64 1, .int .i64 0, .int .i64 1, .int .i64 1, .string ⟨#[121]⟩, .slice none 0 0, .int .i64 0, .int .i64 0, .int .i64 1, .int .i64 1, .int .i64 0, .int .i64 1, .int .i64 1])) (fun t ht => by
    simp only [List.mem_cons, List.not_mem_nil, or_false] at ht
    rcases ht with rfl | rfl
    · exact mini_ok _ _ (by decide)
    · exact mini_ok _ _ (by decide)) (hp.below (hb.alloc hb.size _)))
  rw [show confF [miniT ⟨#[120]⟩, miniT ⟨#[121]⟩] 0 1 = true by decide +kernel] at HC
  clear hp S1 S2 S3
  go_enter Tryz.func15, Tryz.ntmps15
  go_wp2_with fail
  refine C1.out.mono ?_
  rintro e w1 ⟨rfl, b1⟩
  have B1 := Lib.hid b1
  clear b1
  go_wp2_with fail
  refine (C2.out _).mono ?_
  rintro e w2 ⟨rfl, b2⟩
  have B2 := Lib.hid (B1.out.trans (b2.mono B1.out.size))
  clear b2
  go_wp2_with fail
  refine (C3.out _).mono ?_
  rintro e w3 ⟨rfl, b3⟩
  have B3 := Lib.hid (B2.out.trans (b3.mono B2.out.size))
  clear b3
  go_wp2_with fail
  refine (C4.out _).mono ?_
  rintro e w4 ⟨rfl, b4⟩
  have B4 := Lib.hid (B3.out.trans (b4.mono B3.out.size))
  clear b4
  go_wp2_with fail
  refine (C5.out _).mono ?_
  rintro e w5 ⟨rfl, b5⟩
  have B5 := Lib.hid (B4.out.trans (b5.mono B4.out.size))
  clear b5
  go_wp2_with fail
  refine (CY.out _).mono ?_
  rintro e w6 ⟨v6, o6, rfl, own6, _, b6⟩
  obtain ⟨A6, c6, hv6, src6⟩ := own6.src (fun _ => True) (fun _ _ => trivial)
  subst hv6
  have B6 := Lib.hid (B5.out.trans (b6.mono B5.out.size))
  have H6 := HH.out w6 A6 [ofF [121]] 1 c6 rfl (by decide) src6 T1.out
  rw [F1.out] at H6
  have H6 := Lib.hid H6
  clear b6 own6 src6
  go_wp2_with fail
  refine H6.out.mono ?_
  rintro e w7 ⟨rfl, b7⟩
  have B7 := Lib.hid (B6.out.trans (b7.mono B6.out.size))
  clear b7 H6
  go_wp2_with fail
  refine (CZ.out _).mono ?_
  rintro e w8 ⟨v8, o8, rfl, own8, _, b8⟩
  obtain ⟨A8, c8, hv8, src8⟩ := own8.src (fun _ => True) (fun _ _ => trivial)
  subst hv8
  have B8 := Lib.hid (B7.out.trans (b8.mono B7.out.size))
  have H8 := HH.out w8 A8 [ofF [89]] 1 c8 rfl (by decide) src8 T2.out
  rw [F2.out] at H8
  have H8 := Lib.hid H8
  clear b8 own8 src8
  go_wp2_with fail
  refine H8.out.mono ?_
  rintro e w9 ⟨rfl, b9⟩
  have B9 := Lib.hid (B8.out.trans (b9.mono B8.out.size))
  have H9 := HH.out w9 none [] 0 0 rfl (by decide) (fun h => absurd h (by simp)) (fun f hf => by cases hf)
  rw [F3.out] at H9
  have H9 := Lib.hid H9
  clear b9 H8
  go_wp2_with fail
  refine H9.out.mono ?_
  rintro e w10 ⟨rfl, b10⟩
  have B10 := Lib.hid (B9.out.trans (b10.mono B9.out.size))
  clear b10 H9
  go_wp2_with fail
  refine (CY.out _).mono ?_
  rintro e w11 ⟨v11, o11, rfl, own11, ob11, b11⟩
  have B11 := Lib.hid (B10.out.trans (b11.mono B10.out.size))
  have O11 := Lib.hid own11
  clear b11 own11
  go_wp2_with fail
  refine (CY.out _).mono ?_
  rintro e w12 ⟨v12, o12, rfl, own12, ob12, b12⟩
  obtain ⟨A12, c12, hv12, src12⟩ := own12.src (fun _ => True) (fun _ _ => trivial)
  subst hv12
  have B12 := Lib.hid (B11.out.trans (b12.mono B11.out.size))
  have ow12 := ownf_below O11.out b12
  obtain ⟨v13, w13, o13, hrun13, own13, t13, _⟩ := run_append_srcF w12 v11 o11 [ofF [121]] [ofF [121]] ow12 A12 1 c12 rfl src12 (by decide)
  have TB := Lib.hid (own_turn B12.out (fun b hb => Nat.le_trans B10.out.size (ob11 b hb)) t13 (o' := none) (fun _ h => by cases h)).1
  have HR13 := Lib.hid hrun13
  obtain ⟨A13, c13, hv13, src13⟩ := own13.src (fun _ => True) (fun _ _ => trivial)
  subst hv13
  have H13 := HH.out w13 A13 [ofF [121], ofF [121]] 2 c13 rfl (by decide) src13 T3.out
  rw [F4.out] at H13
  have H13 := Lib.hid H13
  clear b12 own12 ob12 src12 ow12 hrun13 own13 t13 src13 ob11 O11
  simp only [List.length_append, List.length_cons, List.length_nil, Nat.zero_add, Nat.reduceAdd] at HR13
  go_wp2_with (at_builtin; refine append_by_x rfl (.tmp 47) (.tmp 48) 33 rfl _ _ (.slice A13 2 c13) w13 rfl rfl HR13.out ?_)
  refine H13.out.mono ?_
  rintro e w14 ⟨rfl, b14⟩
  have B14 := Lib.hid (TB.out.trans (b14.mono TB.out.size))
  clear b14 H13 TB HR13
  go_wp2_with fail
  refine (MX.out _).mono ?_
  rintro e w15 ⟨rfl, b15⟩
  have B15 := Lib.hid (B14.out.trans (b15.mono B14.out.size))
  clear b15
  go_wp2_with fail
  refine (HT.out _ B15.out).mono ?_
  rintro e w16 ⟨rfl, b16⟩
  have B16 := Lib.hid (B15.out.trans (b16.mono B15.out.size))
  clear b16
  go_wp2_with fail
  refine (MX.out _).mono ?_
  rintro e w17 ⟨rfl, b17⟩
  have B17 := Lib.hid (B16.out.trans (b17.mono B16.out.size))
  clear b17
  go_wp2_with fail
  refine (MY.out _).mono ?_
  rintro e w18 ⟨rfl, b18⟩
  have B18 := Lib.hid (B17.out.trans (b18.mono B17.out.size))
  clear b18
  go_wp2_with fail
  refine (HC.out _ B18.out).mono ?_
  rintro e w19 ⟨rfl, b19⟩
  have hb18 := B18.out.alloc B18.out.size (.cells #[.string ⟨#[120]⟩, .slice none 0 0, .int .i64 0, .int .i64 0, .int .i64 1, .int .i64 1, .int .i64 0, .int .i64 1, .int .i64 1, .string ⟨#[121]⟩, .slice none 0 0, .int .i64 0, .int .i64 0, .int .i64 1, .int .i64 1, .int .i64 0, .int .i64 1, .int .i64 1] 27)
  have B19 := Lib.hid (hb18.trans (b19.mono hb18.size))
  clear b19 hb18
  go_wp2_with fail
  go_ret
  exact ⟨rfl, B19.out⟩
end Go.Proofs.YtopanahgeeolbaaGreatDoor.Aut
