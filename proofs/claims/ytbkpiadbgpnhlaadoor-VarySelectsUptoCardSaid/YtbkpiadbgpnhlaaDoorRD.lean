/-
  What the document's own text functions do (the reference): quoted, Unquote.
  Conditions: those that each theorem names.
-/
import Derived.Test.YtbkpiadbgpnhlaaDoorRC
import Derived.Test.YtbkpiadbgpnhlaaDoorRQ
namespace Go.Proofs.YtbkpiadbgpnhlaaDoor
open Go.RowKit

/-- How many bytes a quoted part has behind its first sign, its last sign counted. -/
def qskip : List UInt8 → Nat
  | [] => 0
  | [c] => if c = 34 then 1 else 1
  | c :: d :: l => if c = 34 then 1 else if c = 92 then 2 + qskip l else 1 + qskip (d :: l)
theorem qskip_le : ∀ l : List UInt8, qskip l ≤ l.length
  | [] => Nat.le_refl _
  | [c] => by simp [qskip]
  | c :: d :: l => by
    have h1 := qskip_le l
    have h2 := qskip_le (d :: l)
    simp only [qskip, List.length_cons] at *
    repeat' split
    all_goals omega
theorem qskip_end (c : UInt8) (l : List UInt8) (h : c = 34) : qskip (c :: l) = 1 := by
  subst h
  cases l <;> simp [qskip]
theorem qskip_back (c : UInt8) (l : List UInt8) (h : c = 92) : qskip (c :: l) = 1 + (if l = [] then 0 else 1) + qskip (l.drop 1) := by
  subst h
  cases l with
  | nil => simp [qskip]
  | cons d l => simp [qskip]
theorem qskip_other (c : UInt8) (l : List UInt8) (h : c ≠ 34) (h' : c ≠ 92) : qskip (c :: l) = 1 + qskip l := by
  cases l with
  | nil => simp [qskip]
  | cons d l => simp [qskip, h, h']

theorem u8_eq (c : UInt8) (n : Nat) (hn : n < 256) : (c = UInt8.ofNat n) ↔ (c.toNat : Int) = n := by
  constructor
  · rintro rfl
    simp
    omega
  · intro h
    apply UInt8.toNat_inj.1
    simp
    omega

theorem eq34 (c : UInt8) : c = 34 ↔ (c.toNat : Int) = 34 := u8_eq c 34 (by omega)
theorem eq92 (c : UInt8) : c = 92 ↔ (c.toNat : Int) = 92 := u8_eq c 92 (by omega)

set_option maxHeartbeats 1000000 in
set_option maxRecDepth 100000 in
theorem quoted_any (s : ByteArray) (a : Nat) (w : World) (hs : s.size ≤ 140737488351232) (ha : a < s.size) :
    Calls Tryd.prog 36 #[.string s, .int .i64 (a : Int)] w fun e w' => e = .returned (.int .i64 ((a + 1 + qskip ((bl s).drop (a + 1)) : Nat) : Int)) ∧ w = w' := by
  obtain ⟨t, ht⟩ : ∃ t, t = a + 1 + qskip ((bl s).drop (a + 1)) := ⟨_, rfl⟩
  rw [← ht]
  have hts : t ≤ s.size := by
    have := qskip_le ((bl s).drop (a + 1))
    rw [List.length_drop, bl_length] at this
    omega
  have HT := Lib.hid ht
  clear ht
  go_enter Tryd.func36, Tryd.ntmps36
  go_wp2
  go_loop [1] (fun i => ∃ k : Nat, k ≤ s.size + 1 ∧ i = .int .i64 k ∧ min k s.size + qskip ((bl s).drop k) = t) (fun i => s.size + 1 - (intOf i).toNat)
  case atStart => exact ⟨a + 1, by omega, by simp, by rw [Nat.min_eq_left (by omega), HT.out]⟩
  case round =>
    obtain ⟨k, hk, rfl, hq⟩ := hrel
    have HQ := Lib.hid hq
    clear hq
    by_cases hlt : k < s.size
    · have hd := bl_drop s k hlt
      have HD := Lib.hid hd
      clear hd
      by_cases h34 : (s[k].toNat : Int) = 34
      · have e1 : ((s[k].toNat : Int) != 34) = false := by simpa using h34
        have HF := Lib.hid (show k + 1 = t by
          have := HQ.out
          rw [HD.out, qskip_end _ _ ((eq34 _).2 h34), Nat.min_eq_left (by omega)] at this
          exact this)
        clear h34
        go_wp2
        go_ret
        refine ⟨?_, rfl⟩
        rw [← HF.out]
        simp
      · have e1 : ((s[k].toNat : Int) != 34) = true := by simpa using h34
        by_cases h92 : (s[k].toNat : Int) = 92
        · have e2 : ((s[k].toNat : Int) == 92) = true := by simpa using h92
          have HF := Lib.hid (show min (k + 2) s.size + qskip ((bl s).drop (k + 2)) = t by
            have := HQ.out
            rw [HD.out, qskip_back _ _ ((eq92 _).2 h92), List.drop_drop, Nat.min_eq_left (by omega)] at this
            by_cases hk1 : k + 1 < s.size
            · rw [if_neg (by rw [bl_drop s (k + 1) hk1]; simp)] at this
              rw [Nat.min_eq_left (by omega)]
              rw [show k + 1 + 1 = k + 2 from rfl] at this
              omega
            · rw [if_pos (List.drop_of_length_le (by rw [bl_length]; omega))] at this
              rw [Nat.min_eq_right (by omega)]
              have e : s.size = k + 1 := by omega
              rw [show k + 1 + 1 = k + 2 from rfl] at this
              omega)
          clear h34 h92
          go_wp2
          exact ⟨⟨k + 2, by omega, by simp; omega, HF.out⟩, by simp [intOf]; omega⟩
        · have e2 : ((s[k].toNat : Int) == 92) = false := by simpa using h92
          have HF := Lib.hid (show min (k + 1) s.size + qskip ((bl s).drop (k + 1)) = t by
            have := HQ.out
            rw [HD.out, qskip_other _ _ (fun h => h34 ((eq34 _).1 h)) (fun h => h92 ((eq92 _).1 h)), Nat.min_eq_left (by omega)] at this
            rw [Nat.min_eq_left (by omega)]
            omega)
          clear h34 h92
          go_wp2
          exact ⟨⟨k + 1, by omega, by simp, HF.out⟩, by simp [intOf]; omega⟩
    · have HF := Lib.hid (show s.size = t by
        have := HQ.out
        rw [List.drop_of_length_le (by rw [bl_length]; omega), Nat.min_eq_right (by omega)] at this
        simpa [qskip] using this)
      go_wp2
      go_ret
      exact ⟨by rw [← HF.out]; rfl, rfl⟩

/-- What stands behind the first sign of a quoted string, read: nothing, if it is none. -/
def ubody : List UInt8 → Option (List UInt8)
  | [] => none
  | [c] => if c = 34 then some [] else none
  | c :: d :: l => if c = 34 then none else if c = 92 then (if shownB d then (ubody l).map (d :: ·) else none) else (if shownB c then (ubody (d :: l)).map (c :: ·) else none)
def unqF : List UInt8 → Option (List UInt8)
  | [] => none
  | c :: l => if c = 34 then ubody l else none
theorem ubody_end (c : UInt8) (l : List UInt8) (h : c = 34) : ubody (c :: l) = if l = [] then some [] else none := by
  subst h
  cases l <;> simp [ubody]
theorem ubody_back (c d : UInt8) (l : List UInt8) (h : c = 92) : ubody (c :: d :: l) = if shownB d then (ubody l).map (d :: ·) else none := by
  subst h
  simp [ubody]
theorem ubody_back0 (c : UInt8) (h : c = 92) : ubody [c] = none := by
  subst h
  simp [ubody]
theorem ubody_other (c : UInt8) (l : List UInt8) (h : c ≠ 34) (h' : c ≠ 92) : ubody (c :: l) = if shownB c then (ubody l).map (c :: ·) else none := by
  cases l with
  | nil => simp [ubody, h]
  | cons d l => simp [ubody, h, h']

/-- Two results: a text, and whether there is one. -/
def TextOk (r : Option (List UInt8)) (w : World) (e : Ending) (w' : World) : Prop := e = .returned (.tuple #[.string ⟨(r.getD []).toArray⟩, .bool r.isSome]) ∧ Below w.heap.size w w'

def UnqRel (W : World) (s : ByteArray) (r : Option (List UInt8)) (v i : Value) (wx : World) : Prop :=
  ∃ (k : Nat) (o : Option Nat) (bs : List UInt8), 1 ≤ k ∧ k ≤ s.size ∧ i = .int .i64 (k : Int) ∧ Own wx v o bs ∧ bs.length ≤ k ∧ (∀ b, o = some b → W.heap.size ≤ b) ∧ Below W.heap.size W wx ∧ (ubody ((bl s).drop k)).map (bs ++ ·) = r

theorem UnqRel.step {W wr w' : World} {s : ByteArray} {r : Option (List UInt8)} {k : Nat} {c : UInt8} {bs : List UInt8} {v' : Value} {o o' : Option Nat} (h1 : 1 ≤ k) (hk : k ≤ s.size) (hown : Own w' v' o' (bs ++ [c])) (hl : bs.length + 1 ≤ k) (ho : ∀ b, o = some b → W.heap.size ≤ b)
    (hB : Below W.heap.size W wr) (ht : Turn (fun b => o = some b) wr w') (ho' : ∀ b, o' = some b → o = some b ∨ wr.heap.size ≤ b) (hr : ((ubody ((bl s).drop k)).map (c :: ·)).map (bs ++ ·) = r) (i : Int) (hi : i = (k : Int)) : UnqRel W s r v' (.int .i64 i) w' := by
  subst hi
  refine ⟨k, o', _, h1, hk, rfl, hown, by simpa using hl, fun b hb => ?_, hB.trans ⟨ht.os, ht.tape, ht.output, ht.size, fun b hb => ht.block b (by have := hB.size; omega) (fun h => by have := ho b h; omega)⟩, ?_⟩
  · have := hB.size
    rcases ho' b hb with h | h
    · exact ho b h
    · omega
  · rw [← hr, Option.map_map]
    congr 1
    funext x
    simp

theorem tuple_ret {a a' : Value} {b b' : Value} (h : a = a') (h' : b = b') : Ending.returned (.tuple #[a, b]) = .returned (.tuple #[a', b']) := by rw [h, h']

end Go.Proofs.YtbkpiadbgpnhlaaDoor
