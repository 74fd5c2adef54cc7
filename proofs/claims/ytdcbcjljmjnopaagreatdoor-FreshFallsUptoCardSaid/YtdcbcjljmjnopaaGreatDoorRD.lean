/-
  What the document's own text functions do (the reference): quoted, Unquote.
  Conditions: those that each theorem names.
-/
import Derived.Test.YtdcbcjljmjnopaaGreatDoorRB
import Derived.Test.YtdcbcjljmjnopaaGreatDoorRC
namespace Go.Proofs.YtdcbcjljmjnopaaGreatDoor
open Go.RowKit

def quoB (c : UInt8) : List UInt8 := if c = 34 ∨ c = 92 then [92, c] else [c]
def quoTo (s : ByteArray) (k : Nat) : List UInt8 := 34 :: ((bl s).take k).flatMap quoB
def quoF (l : List UInt8) : List UInt8 := 34 :: l.flatMap quoB ++ [34]
theorem quoB_length (c : UInt8) : (quoB c).length ≤ 2 := by unfold quoB; split <;> simp
theorem quo_length (l : List UInt8) : (l.flatMap quoB).length ≤ 2 * l.length := by
  induction l with
  | nil => simp
  | cons c l ih => have := quoB_length c; simp only [List.flatMap_cons, List.length_append, List.length_cons]; omega
theorem quoTo_length (s : ByteArray) (k : Nat) : (quoTo s k).length ≤ 2 * k + 1 := by
  have := quo_length ((bl s).take k)
  have h : ((bl s).take k).length ≤ k := List.length_take_le _ _
  simp only [quoTo, List.length_cons]
  omega
theorem quoTo_succ (s : ByteArray) (k : Nat) (h : k < s.size) : quoTo s (k + 1) = quoTo s k ++ quoB s[k] := by
  unfold quoTo
  rw [bl_take s k h]
  simp
theorem quoTo_all (s : ByteArray) (k : Nat) (h : s.size ≤ k) : quoTo s k ++ [34] = quoF (bl s) := by
  unfold quoTo quoF
  rw [List.take_of_length_le (by rw [bl_length]; exact h)]
theorem quoB_yes (c : UInt8) (h : (c.toNat : Int) = 34 ∨ (c.toNat : Int) = 92) : quoB c = [92] ++ [c] := by
  unfold quoB
  have h' : c = 34 ∨ c = 92 := by
    rcases h with h | h
    · exact .inl (UInt8.toNat_inj.1 (by show c.toNat = 34; omega))
    · exact .inr (UInt8.toNat_inj.1 (by show c.toNat = 92; omega))
  rw [if_pos h']
  rfl
theorem quoB_no (c : UInt8) (h : ¬ ((c.toNat : Int) = 34 ∨ (c.toNat : Int) = 92)) : quoB c = [c] := by
  unfold quoB
  rw [if_neg]
  rintro (h' | h') <;> (subst h'; exact h (by decide))

theorem Push2.frame {wr w1 w2 : World} {o o1 o2 : Option Nat} (t1 : Turn (fun b => o = some b) wr w1) (t2 : Turn (fun b => o1 = some b) w1 w2) (h1 : ∀ b, o1 = some b → o = some b ∨ wr.heap.size ≤ b) (h2 : ∀ b, o2 = some b → o1 = some b ∨ w1.heap.size ≤ b) :
    Turn (fun b => o = some b) wr w2 ∧ ∀ b, o2 = some b → o = some b ∨ wr.heap.size ≤ b := by
  refine ⟨t1.trans t2 (fun b hb h => ?_), fun b hb => ?_⟩
  · rcases h1 b h with h | h
    · exact h
    · omega
  · rcases h2 b hb with h | h
    · exact h1 b h
    · exact .inr (Nat.le_trans t1.size h)

end Go.Proofs.YtdcbcjljmjnopaaGreatDoor

namespace Go.Proofs.YtdcbcjljmjnopaaGreatDoor
open Go.RowKit

/-- How many bytes a quoted part has behind its first sign, its last sign counted. -/
def qskip : List UInt8 → Nat
  | [] => 0
  | [c] => if c = 34 then 1 else 1
  | c :: d :: l => if c = 34 then 1 else if c = 92 then 2 + qskip l else 1 + qskip (d :: l)
theorem qskip_le : ∀ l : List UInt8, qskip l ≤ l.length
  | [] => Nat.le_refl _
  | [c] => by simp [qskip]
  | c :: d :: l => by
    have h1 := qskip_le l
    have h2 := qskip_le (d :: l)
    simp only [qskip, List.length_cons] at *
    repeat' split
    all_goals omega
theorem qskip_end (c : UInt8) (l : List UInt8) (h : c = 34) : qskip (c :: l) = 1 := by
  subst h
  cases l <;> simp [qskip]
theorem qskip_back (c : UInt8) (l : List UInt8) (h : c = 92) : qskip (c :: l) = 1 + (if l = [] then 0 else 1) + qskip (l.drop 1) := by
  subst h
  cases l with
  | nil => simp [qskip]
  | cons d l => simp [qskip]
theorem qskip_other (c : UInt8) (l : List UInt8) (h : c ≠ 34) (h' : c ≠ 92) : qskip (c :: l) = 1 + qskip l := by
  cases l with
  | nil => simp [qskip]
  | cons d l => simp [qskip, h, h']

theorem u8_eq (c : UInt8) (n : Nat) (hn : n < 256) : (c = UInt8.ofNat n) ↔ (c.toNat : Int) = n := by
  constructor
  · rintro rfl
    simp
    omega
  · intro h
    apply UInt8.toNat_inj.1
    simp
    omega

theorem eq34 (c : UInt8) : c = 34 ↔ (c.toNat : Int) = 34 := u8_eq c 34 (by omega)
theorem eq92 (c : UInt8) : c = 92 ↔ (c.toNat : Int) = 92 := u8_eq c 92 (by omega)

set_option maxHeartbeats 1000000 in
set_option maxRecDepth 100000 in
theorem quoted_any (s : ByteArray) (a : Nat) (w : World) (hs : s.size ≤ 140737488351232) (ha : a < s.size) :
    Calls Tryz.prog 87 #[.string s, .int .i64 (a : Int)] w fun e w' => e = .returned (.int .i64 ((a + 1 + qskip ((bl s).drop (a + 1)) : Nat) : Int)) ∧ w = w' := by
  obtain ⟨t, ht⟩ : ∃ t, t = a + 1 + qskip ((bl s).drop (a + 1)) := ⟨_, rfl⟩
  rw [← ht]
  have hts : t ≤ s.size := by
    have := qskip_le ((bl s).drop (a + 1))
    rw [List.length_drop, bl_length] at this
    omega
  have HT := Lib.hid ht
  clear ht
  go_enter Tryz.func87, Tryz.ntmps87
  go_wp2
  go_loop [1] (fun i => ∃ k : Nat, k ≤ s.size + 1 ∧ i = .int .i64 k ∧ min k s.size + qskip ((bl s).drop k) = t) (fun i => s.size + 1 - (intOf i).toNat)
  case atStart => exact ⟨a + 1, by omega, by simp, by rw [Nat.min_eq_left (by omega), HT.out]⟩
  case round =>
    obtain ⟨k, hk, rfl, hq⟩ := hrel
    have HQ := Lib.hid hq
    clear hq
    by_cases hlt : k < s.size
    · have hd := bl_drop s k hlt
      have HD := Lib.hid hd
      clear hd
      by_cases h34 : (s[k].toNat : Int) = 34
      · have e1 : ((s[k].toNat : Int) != 34) = false := by simpa using h34
        have HF := Lib.hid (show k + 1 = t by
          have := HQ.out
          rw [HD.out, qskip_end _ _ ((eq34 _).2 h34), Nat.min_eq_left (by omega)] at this
          exact this)
        clear h34
        go_wp2
        go_ret
        refine ⟨?_, rfl⟩
        rw [← HF.out]
        simp
      · have e1 : ((s[k].toNat : Int) != 34) = true := by simpa using h34
        by_cases h92 : (s[k].toNat : Int) = 92
        · have e2 : ((s[k].toNat : Int) == 92) = true := by simpa using h92
          have HF := Lib.hid (show min (k + 2) s.size + qskip ((bl s).drop (k + 2)) = t by
            have := HQ.out
            rw [HD.out, qskip_back _ _ ((eq92 _).2 h92), List.drop_drop, Nat.min_eq_left (by omega)] at this
            by_cases hk1 : k + 1 < s.size
            · rw [if_neg (by rw [bl_drop s (k + 1) hk1]; simp)] at this
              rw [Nat.min_eq_left (by omega)]
              rw [show k + 1 + 1 = k + 2 from rfl] at this
              omega
            · rw [if_pos (List.drop_of_length_le (by rw [bl_length]; omega))] at this
              rw [Nat.min_eq_right (by omega)]
              have e : s.size = k + 1 := by omega
              rw [show k + 1 + 1 = k + 2 from rfl] at this
              omega)
          clear h34 h92
          go_wp2
          exact ⟨⟨k + 2, by omega, by simp; omega, HF.out⟩, by simp [intOf]; omega⟩
        · have e2 : ((s[k].toNat : Int) == 92) = false := by simpa using h92
          have HF := Lib.hid (show min (k + 1) s.size + qskip ((bl s).drop (k + 1)) = t by
            have := HQ.out
            rw [HD.out, qskip_other _ _ (fun h => h34 ((eq34 _).1 h)) (fun h => h92 ((eq92 _).1 h)), Nat.min_eq_left (by omega)] at this
            rw [Nat.min_eq_left (by omega)]
            omega)
          clear h34 h92
          go_wp2
          exact ⟨⟨k + 1, by omega, by simp, HF.out⟩, by simp [intOf]; omega⟩
    · have HF := Lib.hid (show s.size = t by
        have := HQ.out
        rw [List.drop_of_length_le (by rw [bl_length]; omega), Nat.min_eq_right (by omega)] at this
        simpa [qskip] using this)
      go_wp2
      go_ret
      exact ⟨by rw [← HF.out]; rfl, rfl⟩

/-- What stands behind the first sign of a quoted string, read: nothing, if it is none. -/
def ubody : List UInt8 → Option (List UInt8)
  | [] => none
  | [c] => if c = 34 then some [] else none
  | c :: d :: l => if c = 34 then none else if c = 92 then (if shownB d then (ubody l).map (d :: ·) else none) else (if shownB c then (ubody (d :: l)).map (c :: ·) else none)
def unqF : List UInt8 → Option (List UInt8)
  | [] => none
  | c :: l => if c = 34 then ubody l else none
theorem ubody_end (c : UInt8) (l : List UInt8) (h : c = 34) : ubody (c :: l) = if l = [] then some [] else none := by
  subst h
  cases l <;> simp [ubody]
theorem ubody_back (c d : UInt8) (l : List UInt8) (h : c = 92) : ubody (c :: d :: l) = if shownB d then (ubody l).map (d :: ·) else none := by
  subst h
  simp [ubody]
theorem ubody_back0 (c : UInt8) (h : c = 92) : ubody [c] = none := by
  subst h
  simp [ubody]
theorem ubody_other (c : UInt8) (l : List UInt8) (h : c ≠ 34) (h' : c ≠ 92) : ubody (c :: l) = if shownB c then (ubody l).map (c :: ·) else none := by
  cases l with
  | nil => simp [ubody, h]
  | cons d l => simp [ubody, h, h']

/-- Two results: a text, and whether there is one. -/
def TextOk (r : Option (List UInt8)) (w : World) (e : Ending) (w' : World) : Prop := e = .returned (.tuple #[.string ⟨(r.getD []).toArray⟩, .bool r.isSome]) ∧ Below w.heap.size w w'

def UnqRel (W : World) (s : ByteArray) (r : Option (List UInt8)) (v i : Value) (wx : World) : Prop :=
  ∃ (k : Nat) (o : Option Nat) (bs : List UInt8), 1 ≤ k ∧ k ≤ s.size ∧ i = .int .i64 (k : Int) ∧ Own wx v o bs ∧ bs.length ≤ k ∧ (∀ b, o = some b → W.heap.size ≤ b) ∧ Below W.heap.size W wx ∧ (ubody ((bl s).drop k)).map (bs ++ ·) = r

theorem UnqRel.step {W wr w' : World} {s : ByteArray} {r : Option (List UInt8)} {k : Nat} {c : UInt8} {bs : List UInt8} {v' : Value} {o o' : Option Nat} (h1 : 1 ≤ k) (hk : k ≤ s.size) (hown : Own w' v' o' (bs ++ [c])) (hl : bs.length + 1 ≤ k) (ho : ∀ b, o = some b → W.heap.size ≤ b)
    (hB : Below W.heap.size W wr) (ht : Turn (fun b => o = some b) wr w') (ho' : ∀ b, o' = some b → o = some b ∨ wr.heap.size ≤ b) (hr : ((ubody ((bl s).drop k)).map (c :: ·)).map (bs ++ ·) = r) (i : Int) (hi : i = (k : Int)) : UnqRel W s r v' (.int .i64 i) w' := by
  subst hi
  refine ⟨k, o', _, h1, hk, rfl, hown, by simpa using hl, fun b hb => ?_, hB.trans ⟨ht.os, ht.tape, ht.output, ht.size, fun b hb => ht.block b (by have := hB.size; omega) (fun h => by have := ho b h; omega)⟩, ?_⟩
  · have := hB.size
    rcases ho' b hb with h | h
    · exact ho b h
    · omega
  · rw [← hr, Option.map_map]
    congr 1
    funext x
    simp

theorem tuple_ret {a a' : Value} {b b' : Value} (h : a = a') (h' : b = b') : Ending.returned (.tuple #[a, b]) = .returned (.tuple #[a', b']) := by rw [h, h']

set_option maxHeartbeats 2000000 in
set_option maxRecDepth 100000 in
theorem unquote_any (s : ByteArray) (W : World) (hs : s.size ≤ 140737488351232) : Calls Tryz.prog 69 #[.string s] W (TextOk (unqF (bl s)) W) := by
  by_cases h0 : s.size = 0
  · have hb : bl s = [] := List.eq_nil_of_length_eq_zero (by rw [bl_length]; exact h0)
    have e0 : ((s.size : Int) == 0) = true := by simpa using h0
    rw [hb]
    clear h0 hb
    go_enter Tryz.func69, Tryz.ntmps69
    go_wp2
    go_ret2
    exact ⟨rfl, Below.refl _ _⟩
  · have hpos : 0 < s.size := by omega
    have e0 : ((s.size : Int) == 0) = false := beq_eq_false_iff_ne.2 (by omega)
    have hd := bl_drop s 0 hpos
    rw [List.drop_zero] at hd
    by_cases h34 : (s[0].toNat : Int) = 34
    · have e1 : ((s[0].toNat : Int) != 34) = false := by simpa using h34
      have hr : unqF (bl s) = ubody ((bl s).drop 1) := by
        rw [hd]
        simp only [unqF, if_pos ((eq34 _).2 h34), Nat.zero_add, List.drop_succ_cons, List.drop_zero]
      obtain ⟨r, hr'⟩ : ∃ r, r = unqF (bl s) := ⟨_, rfl⟩
      rw [← hr']
      have HR := Lib.hid (hr'.trans hr)
      clear hr hr' h34 hd h0
      go_enter Tryz.func69, Tryz.ntmps69
      go_wp2
      go_loopw [4, 5] (fun v i wx => UnqRel W s r v i wx) (fun _ i _ => s.size - (intOf i).toNat)
      case atStart => exact ⟨1, none, [], Nat.le_refl _, hpos, rfl, Own.nil _, Nat.zero_le _, (fun _ h => by cases h), Below.refl _ _, by rw [HR.out]; cases ubody ((bl s).drop 1) <;> simp⟩
      case round =>
        obtain ⟨k, o, bs, hk1, hks, rfl, hown, hbl, ho, hB, hu⟩ := hrel
        have HO := Lib.hid ho
        have HU := Lib.hid hu
        clear ho hu
        by_cases hlt : k < s.size
        · have HD := Lib.hid (bl_drop s k hlt)
          by_cases h34 : (s[k].toNat : Int) = 34
          · have e2 : ((s[k].toNat : Int) != 34) = false := by simpa using h34
            have HE := Lib.hid (show (if (bl s).drop (k + 1) = [] then some bs else none) = r by
              have := HU.out
              rw [HD.out, ubody_end _ _ ((eq34 _).2 h34)] at this
              rw [← this]
              split <;> simp)
            clear h34
            by_cases hlast : k + 1 = s.size
            · have HE2 := Lib.hid (show some bs = r by rw [← HE.out, if_pos (List.drop_of_length_le (by rw [bl_length]; omega))])
              have e3 : ((k : Int) != (s.size : Int) - 1) = false := by simp; omega
              have hc := run_made_text wr u4 o bs hown
              go_wp2
              go_ret2
              exact ⟨by rw [← HE2.out]; rfl, hB⟩
            · have HE2 := Lib.hid (show none = r by rw [← HE.out, if_neg (by rw [bl_drop s (k + 1) (by omega)]; simp)])
              have e3 : ((k : Int) != (s.size : Int) - 1) = true := by simp; omega
              go_wp2
              go_ret2
              exact ⟨by rw [← HE2.out]; rfl, hB⟩
          · have e2 : ((s[k].toNat : Int) != 34) = true := by simpa using h34
            by_cases h92 : (s[k].toNat : Int) = 92
            · have e3 : ((s[k].toNat : Int) == 92) = true := by simpa using h92
              by_cases hk2 : k + 1 < s.size
              · have HD2 := Lib.hid (bl_drop s (k + 1) hk2)
                have HE := Lib.hid (show ((if shownB s[k + 1] then (ubody ((bl s).drop (k + 2))).map (s[k + 1] :: ·) else none)).map (bs ++ ·) = r by
                  have := HU.out
                  rw [HD.out, HD2.out, ubody_back _ _ _ ((eq92 _).2 h92)] at this
                  exact this)
                clear h34 h92
                cases hsh : shownB s[k + 1] with
                | true =>
                  have HF := Lib.hid (show ((ubody ((bl s).drop (k + 2))).map (s[k + 1] :: ·)).map (bs ++ ·) = r by
                    have := HE.out
                    rw [hsh, if_pos rfl] at this
                    exact this)
                  obtain ⟨v', w', o', hrun, own', t', ho'⟩ := run_push1 wr u4 o bs s[k + 1] _ rfl hown (by omega)
                  have HRU := Lib.hid hrun
                  have HO' := Lib.hid ho'
                  have C := Lib.hid (shown_any s[k + 1] wr)
                  rw [hsh] at C
                  clear hrun ho' hsh
                  go_wp2_with fail
                  refine C.out.mono ?_
                  rintro e w9 ⟨rfl, rfl⟩
                  go_wp2_with (at_builtin; refine append_by rfl (.tmp 41) (.tmp 45) 24 rfl _ _ v' w' rfl rfl HRU.out ?_)
                  exact ⟨UnqRel.step (k := k + 2) (by omega) (by omega) own' (by omega) HO.out hB t' HO'.out HF.out _ (by simp; try omega), by simp [intOf]; omega⟩
                | false =>
                  have HF := Lib.hid (show none = r by
                    have := HE.out
                    rw [hsh] at this
                    exact this)
                  have C := Lib.hid (shown_any s[k + 1] wr)
                  rw [hsh] at C
                  clear hsh
                  go_wp2_with fail
                  refine C.out.mono ?_
                  rintro e w9 ⟨rfl, rfl⟩
                  go_wp2
                  go_ret2
                  exact ⟨by rw [← HF.out]; rfl, hB⟩
              · have HE := Lib.hid (show none = r by
                  have := HU.out
                  rw [HD.out, List.drop_of_length_le (i := k + 1) (by rw [bl_length]; omega), ubody_back0 _ ((eq92 _).2 h92)] at this
                  exact this)
                clear h34 h92
                go_wp2
                go_ret2
                exact ⟨by rw [← HE.out]; rfl, hB⟩
            · have e3 : ((s[k].toNat : Int) == 92) = false := by simpa using h92
              have HE := Lib.hid (show ((if shownB s[k] then (ubody ((bl s).drop (k + 1))).map (s[k] :: ·) else none)).map (bs ++ ·) = r by
                have := HU.out
                rw [HD.out, ubody_other _ _ (fun h => h34 ((eq34 _).1 h)) (fun h => h92 ((eq92 _).1 h))] at this
                exact this)
              clear h34 h92
              cases hsh : shownB s[k] with
              | true =>
                have HF := Lib.hid (show ((ubody ((bl s).drop (k + 1))).map (s[k] :: ·)).map (bs ++ ·) = r by
                  have := HE.out
                  rw [hsh, if_pos rfl] at this
                  exact this)
                obtain ⟨v', w', o', hrun, own', t', ho'⟩ := run_push1 wr u4 o bs s[k] _ rfl hown (by omega)
                have HRU := Lib.hid hrun
                have HO' := Lib.hid ho'
                have C := Lib.hid (shown_any s[k] wr)
                rw [hsh] at C
                clear hrun ho' hsh
                go_wp2_with fail
                refine C.out.mono ?_
                rintro e w9 ⟨rfl, rfl⟩
                go_wp2_with (at_builtin; refine append_by rfl (.tmp 41) (.tmp 45) 24 rfl _ _ v' w' rfl rfl HRU.out ?_)
                exact ⟨UnqRel.step (k := k + 1) (by omega) (by omega) own' (by omega) HO.out hB t' HO'.out HF.out _ (by simp; try omega), by simp [intOf]; omega⟩
              | false =>
                have HF := Lib.hid (show none = r by
                  have := HE.out
                  rw [hsh] at this
                  exact this)
                have C := Lib.hid (shown_any s[k] wr)
                rw [hsh] at C
                clear hsh
                go_wp2_with fail
                refine C.out.mono ?_
                rintro e w9 ⟨rfl, rfl⟩
                go_wp2
                go_ret2
                exact ⟨by rw [← HF.out]; rfl, hB⟩
        · have HE := Lib.hid (show none = r by
            have := HU.out
            rw [List.drop_of_length_le (by rw [bl_length]; omega)] at this
            exact this)
          have e3 : ((k : Int) != (s.size : Int) - 1) = true := by simp; omega
          go_wp2
          go_ret2
          exact ⟨by rw [← HE.out]; rfl, hB⟩
    · have e1 : ((s[0].toNat : Int) != 34) = true := by simpa using h34
      have hr : unqF (bl s) = none := by
        rw [hd]
        simp only [unqF, if_neg (fun h => h34 ((eq34 _).1 h))]
      rw [hr]
      clear hr h34 hd h0
      go_enter Tryz.func69, Tryz.ntmps69
      go_wp2
      go_ret2
      exact ⟨rfl, Below.refl _ _⟩
end Go.Proofs.YtdcbcjljmjnopaaGreatDoor
