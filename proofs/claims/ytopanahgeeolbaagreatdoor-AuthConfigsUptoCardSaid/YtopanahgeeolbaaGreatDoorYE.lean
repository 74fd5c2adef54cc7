/-
  What Go's strings.Split, Cut (at one byte), CutPrefix, Clone do, as package uri calls them.
  Conditions: those that each theorem names.
-/
import Derived.Test.YtopanahgeeolbaaGreatDoorShelf
import Derived.Test.YtopanahgeeolbaaGreatDoorYA
import Derived.Test.YtopanahgeeolbaaGreatDoorRS
import Derived.Lib.SplitLaws
import Derived.Lib.IndexBytes
namespace Go.Proofs.YtopanahgeeolbaaGreatDoor.Uri
open Go.RowKit

theorem idx_hit (d : UInt8) : ∀ m r : List UInt8, d ∉ m → Lib.indexByte (m ++ d :: r) d = m.length
  | [], r, _ => by simp [Lib.indexByte]
  | c :: m, r, h => by
    simp only [List.mem_cons, not_or] at h
    have hc : (c == d) = false := by simpa using fun e => h.1 e.symm
    have := idx_hit d m r h.2
    simp only [List.cons_append, Lib.indexByte, hc, this, List.length_cons]
    all_goals (simp; try omega)
theorem idx_miss (d : UInt8) : ∀ l : List UInt8, d ∉ l → Lib.indexByte l d = -1
  | [], _ => rfl
  | c :: l, h => by
    simp only [List.mem_cons, not_or] at h
    have hc : (c == d) = false := by simpa using fun e => h.1 e.symm
    simp [Lib.indexByte, hc, idx_miss d l h.2]

/-! ## Split -/
theorem splitK_is (c : UInt8) : ∀ (n : Nat) (l : List UInt8), l.length ≤ n → Lib.splitK [c] 0 (l.count c) l = splitF c l
  | n, l, hn => by
    rcases cutC_or c l with ⟨hm, _⟩ | ⟨a, b, hl, ha, _⟩
    · have : l.count c = 0 := List.count_eq_zero.2 hm
      rw [this, splitF_none c l hm]
      rfl
    · have hc : l.count c = b.count c + 1 := by rw [hl, List.count_append, List.count_eq_zero.2 ha, List.count_cons_self]; omega
      have hi : Lib.index l [c] = (a.length : Int) := by rw [Lib.index_one, hl, idx_hit c a b ha]
      have hne : ¬ (Lib.index l [c] == -1) = true := fun e => by have := beq_iff_eq.1 e; omega
      rw [hc, Lib.splitK, if_neg hne, hi]
      have e1 : ((a.length : Int)).toNat = a.length := by omega
      cases n with
      | zero => rw [hl] at hn; simp at hn
      | succ n =>
        have hb : b.length ≤ n := by rw [hl] at hn; simp at hn; omega
        rw [e1, hl, splitF_hit c a b ha, Nat.add_zero, List.take_left' rfl, show a ++ c :: b = (a ++ [c]) ++ b by simp, List.drop_left' (by simp), splitK_is c n b hb]
theorem splitB_is (s : ByteArray) (c : UInt8) : (Lib.splitB ⟨#[c]⟩ 0 (Lib.countB s ⟨#[c]⟩) s).map Value.string = strs (splitF c (bl s)) := by
  have h := Lib.splitB_data ⟨#[c]⟩ 0 (Lib.countB s ⟨#[c]⟩) s
  have hc : Lib.countB s ⟨#[c]⟩ = (bl s).count c := by
    show Lib.count s.data.toList [c] = _
    rw [Lib.count_one]
    rfl
  rw [show (⟨#[c]⟩ : ByteArray).data.toList = [c] from rfl, show s.data.toList = bl s from rfl, hc, splitK_is c _ (bl s) (Nat.le_refl _)] at h
  rw [← h, strs, List.map_map, hc]
  refine List.map_congr_left fun x _ => ?_
  show Value.string x = Value.string ⟨(x.data.toList).toArray⟩
  rw [Array.toArray_toList]
theorem countB_is (s : ByteArray) (c : UInt8) : Lib.countB s ⟨#[c]⟩ = (bl s).count c := by
  show Lib.count s.data.toList [c] = _
  rw [Lib.count_one]
  rfl

/-- What Split tells: a block of its own with the parts. -/
def SplitGot (ls : List (List UInt8)) (w : World) (e : Ending) (w' : World) : Prop :=
  e = .returned (.slice (some ⟨w.heap.size, 0, none⟩) ls.length ls.length) ∧ Is w' w.heap.size 9 (strs ls) ∧ Below w.heap.size w w'
set_option maxHeartbeats 2000000 in
theorem gensplit_any (s : ByteArray) (c : UInt8) (w : World) (hs : s.size < 4294967281) : Calls Tryz.prog 105 #[.string s, .string ⟨#[c]⟩, .int .i64 0, .int .i64 (-1)] w (SplitGot (splitF c (bl s)) w) := by
  have hle : Lib.countB s ⟨#[c]⟩ ≤ s.size := Lib.countB_le ⟨#[c]⟩ (Nat.le_refl 1) s.size s (Nat.le_refl _)
  have hlen : (splitF c (bl s)).length = Lib.countB s ⟨#[c]⟩ + 1 := by rw [splitF_count, countB_is]
  have hall := Lib.splitB_all ⟨#[c]⟩ (Nat.le_refl 1) 0 _ s rfl
  have C := Any.strings_genSplit_core Tryz.lays221 strInfo s ⟨#[c]⟩ 0 (-1) (Lib.countB s ⟨#[c]⟩ + 1) w hs (Nat.le_refl 1) (Nat.zero_le _)
    (fun x cs _ => (Tryz.strings_Index_one x c _).mono fun e w' h => ⟨by rw [h.1]; show _ = Ending.returned (.int .i64 (Lib.index x.data.toList [c])); rw [Lib.index_one], h.2⟩)
    ((Tryz.strings_Count_one s c w).mono fun e w' h => ⟨by rw [h.1]; rw [countB_is]; rfl, h.2⟩)
    (by decide) (by decide) (by rw [if_pos (by decide)]; omega)
  refine C.mono ?_
  rintro e w' ⟨rfl, rfl⟩
  rw [Nat.add_sub_cancel]
  refine ⟨?_, ?_, (Below.refl _ _).alloc (Nat.le_refl _) _⟩
  · rw [hall, hlen]
  · have h1 : Lib.cellsOf (Lib.splitB ⟨#[c]⟩ 0 (Lib.countB s ⟨#[c]⟩) s) (Lib.countB s ⟨#[c]⟩ + 1) = (strs (splitF c (bl s))).toArray := by
      rw [← hall, Lib.cellsOf_full, splitB_is]
    rw [h1]
    exact Is.made w _ _
theorem split_any (s : ByteArray) (c : UInt8) (w : World) (hs : s.size < 4294967281) : Calls Tryz.prog 97 #[.string s, .string ⟨#[c]⟩] w (SplitGot (splitF c (bl s)) w) := by
  have C := Lib.hid (gensplit_any s c w hs)
  clear hs
  generalize splitF c (bl s) = ls at *
  go_enter Tryz.func97, Tryz.ntmps97
  go_wp2_with fail
  refine C.out.mono ?_
  rintro e w' ⟨rfl, i, b⟩
  go_wp2_with fail
  go_ret
  exact ⟨rfl, i, b⟩

/-! ## Cut, Contains, Clone -/
theorem clone_any (s : ByteArray) (w : World) (hs : s.size ≤ 281474976710656) : Calls Tryz.prog 36 #[.string s] w fun e w' => e = .returned (.string s) ∧ Below w.heap.size w w' := by
  go_enter Tryz.func36, Tryz.ntmps36
  go_wp2_with fail
  refine (Tryz.stringslite_Clone s w hs).mono ?_
  rintro e w9 ⟨rfl, b9⟩
  go_wp2_with fail
  go_ret
  exact ⟨rfl, b9⟩
/-- What Cut tells: the two texts, and something of the third. -/
def CutGot (l : List UInt8) (w : World) (e : Ending) (w' : World) : Prop :=
  ∃ f : Bool, e = .returned (.tuple #[.string ⟨(cutC 58 l).1.toArray⟩, .string ⟨(cutC 58 l).2.toArray⟩, .bool f]) ∧ Below w.heap.size w w'
set_option maxHeartbeats 2000000 in
theorem cut_in (s : ByteArray) (w : World) (hs : s.size ≤ 1125899906842624) : Calls Tryz.prog 57 #[.string s, .string ⟨#[58]⟩] w (CutGot (bl s) w) := by
  have C0 := Tryz.stringslite_Index_one s 58 w
  rcases cutC_or 58 (bl s) with ⟨hm, hc⟩ | ⟨m, r, hl, hm, hc⟩
  · rw [show Lib.indexByte s.data.toList 58 = -1 from idx_miss 58 _ hm] at C0
    have C := Lib.hid C0
    have HC := Lib.hid hc
    clear C0 hm hc
    go_enter Tryz.func57, Tryz.ntmps57
    go_wp2_with fail
    refine C.out.mono ?_
    rintro e w' ⟨rfl, rfl⟩
    go_wp2_with fail
    go_ret3
    refine ⟨false, ?_, Below.refl _ _⟩
    rw [HC.out]
    simp only
    rw [mk_bl]
    rfl
  · rw [show Lib.indexByte s.data.toList 58 = (m.length : Int) by rw [show s.data.toList = m ++ 58 :: r from hl]; exact idx_hit 58 _ _ hm] at C0
    have C := Lib.hid C0
    have HC := Lib.hid hc
    have hsz : s.size = m.length + 1 + r.length := by rw [← bl_length, hl]; simp; omega
    have x1 : s.extract 0 m.length = ⟨m.toArray⟩ := by
      rw [← mk_bl (s.extract 0 m.length), extract_bl, piece_front, hl, List.take_left' rfl]
    have x2 : s.extract (m.length + 1) s.size = ⟨r.toArray⟩ := by
      rw [← mk_bl (s.extract (m.length + 1) s.size), extract_bl, piece_back, hl, show m ++ 58 :: r = (m ++ [58]) ++ r by simp, List.drop_left' (by simp)]
    have X1 := Lib.hid x1
    have X2 := Lib.hid x2
    clear C0 hm hc hl x1 x2
    have c1 : (0 : Int) ≤ (m.length : Int) := by omega
    have c2 : (m.length : Int) ≤ (s.size : Int) := by omega
    have c3 : (0 : Int) ≤ (m.length : Int) + 1 := by omega
    have c4 : (m.length : Int) + 1 ≤ (s.size : Int) := by omega
    have c5 : IntKind.i64.wrap ((m.length : Int) + 1) = (m.length : Int) + 1 := by rw [IntKind.wrap_i64]; omega
    have c6 : ((m.length : Int) + 1).toNat = m.length + 1 := by omega
    clear hsz
    go_enter Tryz.func57, Tryz.ntmps57
    go_wp2_with fail
    refine C.out.mono ?_
    rintro e v ⟨rfl, rfl⟩
    go_wp2_with fail
    go_quiet (fail)
    have HB : Hid (Below v.heap.size v (v.drewN nq)) := Lib.hid (below_drewN (Below.refl _ _) nq)
    go_wp2_with fail
    go_ret3
    refine ⟨true, ?_, HB.out⟩
    rw [HC.out]
    simp only
    rw [← X1.out, ← X2.out]
    rfl
set_option maxHeartbeats 1000000 in
theorem cut_any (s : ByteArray) (w : World) (hs : s.size ≤ 1125899906842624) : Calls Tryz.prog 34 #[.string s, .string ⟨#[58]⟩] w (CutGot (bl s) w) := by
  go_enter Tryz.func34, Tryz.ntmps34
  go_wp2_with fail
  refine (cut_in s w hs).mono ?_
  rintro e w9 ⟨f, rfl, b9⟩
  go_wp2_with fail
  go_ret3
  exact ⟨f, rfl, b9⟩

/-! ## CutPrefix -/
theorem prefix_take (p l : List UInt8) : p.isPrefixOf l = decide (l.take p.length = p) := by
  rw [Bool.eq_iff_iff, List.isPrefixOf_iff_prefix, decide_eq_true_eq, List.prefix_iff_eq_take, eq_comm]
/-- What CutPrefix of "0x" tells. -/
def PreGot (l : List UInt8) (w : World) (e : Ending) (w' : World) : Prop :=
  (if l.take 2 = [48, 120] then e = .returned (.tuple #[.string ⟨(l.drop 2).toArray⟩, .bool true]) else e = .returned (.tuple #[.string ⟨l.toArray⟩, .bool false])) ∧ Below w.heap.size w w'
set_option maxHeartbeats 2000000 in
theorem cutpre_in (s : ByteArray) (w : World) : Calls Tryz.prog 117 #[.string s, .string ⟨#[48, 120]⟩] w (PreGot (bl s) w) := by
  have C0 : Calls Tryz.prog 113 #[.string s, .string ⟨#[48, 120]⟩] w fun e w' => e = .returned (.bool (decide ((bl s).take 2 = [48, 120]))) ∧ w' = w := by
    refine (Tryz.stringslite_HasPrefix s ⟨#[48, 120]⟩ w).mono ?_
    rintro e w' ⟨rfl, rfl⟩
    refine ⟨ret_bool ?_, rfl⟩
    show ([48, 120] : List UInt8).isPrefixOf (bl s) = _
    exact prefix_take _ _
  by_cases h : (bl s).take 2 = [48, 120]
  · rw [decide_eq_true h] at C0
    have C := Lib.hid C0
    have hsz : 2 ≤ s.size := by
      have := congrArg List.length h
      rw [List.length_take, bl_length] at this
      simp at this
      omega
    have x1 : s.extract 2 s.size = ⟨((bl s).drop 2).toArray⟩ := by rw [bl_extract, piece_back]
    have X1 := Lib.hid x1
    have HH := Lib.hid h
    have c1 : (2 : Int) ≤ (s.size : Int) := by omega
    clear C0 h x1
    go_enter Tryz.func117, Tryz.ntmps117
    go_wp2_with fail
    refine C.out.mono ?_
    rintro e v ⟨rfl, rfl⟩
    go_wp2_with fail
    go_ret2
    refine ⟨?_, Below.refl _ _⟩
    rw [if_pos HH.out, ← X1.out]
    rfl
  · rw [decide_eq_false h] at C0
    have C := Lib.hid C0
    have HH := Lib.hid h
    clear C0 h
    go_enter Tryz.func117, Tryz.ntmps117
    go_wp2_with fail
    refine C.out.mono ?_
    rintro e v ⟨rfl, rfl⟩
    go_wp2_with fail
    go_ret2
    refine ⟨?_, Below.refl _ _⟩
    rw [if_neg HH.out, mk_bl]
    rfl
theorem cutpre_any (s : ByteArray) (w : World) : Calls Tryz.prog 110 #[.string s, .string ⟨#[48, 120]⟩] w (PreGot (bl s) w) := by
  have C := Lib.hid (cutpre_in s w)
  by_cases h : (bl s).take 2 = [48, 120]
  · have HH := Lib.hid h
    clear h
    go_enter Tryz.func110, Tryz.ntmps110
    go_wp2_with fail
    refine C.out.mono ?_
    rintro e w9 ⟨h9, b9⟩
    rw [if_pos HH.out] at h9
    subst h9
    go_wp2_with fail
    go_ret2
    refine ⟨?_, b9⟩
    rw [if_pos HH.out]
    rfl
  · have HH := Lib.hid h
    clear h
    go_enter Tryz.func110, Tryz.ntmps110
    go_wp2_with fail
    refine C.out.mono ?_
    rintro e w9 ⟨h9, b9⟩
    rw [if_neg HH.out] at h9
    subst h9
    go_wp2_with fail
    go_ret2
    refine ⟨?_, b9⟩
    rw [if_neg HH.out]
    rfl
end Go.Proofs.YtopanahgeeolbaaGreatDoor.Uri
