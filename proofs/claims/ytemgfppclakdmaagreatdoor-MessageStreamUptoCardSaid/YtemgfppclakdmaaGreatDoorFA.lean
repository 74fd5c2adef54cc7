/-
  Plain mathematics of layer 7: what lengths and codings say, kinds of bodies.
  Conditions: those that each theorem names.
-/
import Derived.Test.YtemgfppclakdmaaGreatDoorPA
import Derived.Test.YtemgfppclakdmaaGreatDoorHC
import Derived.Test.YtemgfppclakdmaaGreatDoorNA
import Derived.Test.YtemgfppclakdmaaGreatDoorHE
namespace Go.Proofs.YtemgfppclakdmaaGreatDoor
open Go.RowKit

def quoB (c : UInt8) : List UInt8 := if c = 34 ∨ c = 92 then [92, c] else [c]
def quoTo (s : ByteArray) (k : Nat) : List UInt8 := 34 :: ((bl s).take k).flatMap quoB
def quoF (l : List UInt8) : List UInt8 := 34 :: l.flatMap quoB ++ [34]
theorem quoB_length (c : UInt8) : (quoB c).length ≤ 2 := by unfold quoB; split <;> simp
theorem quo_length (l : List UInt8) : (l.flatMap quoB).length ≤ 2 * l.length := by
  induction l with
  | nil => simp
  | cons c l ih => have := quoB_length c; simp only [List.flatMap_cons, List.length_append, List.length_cons]; omega
theorem quoTo_length (s : ByteArray) (k : Nat) : (quoTo s k).length ≤ 2 * k + 1 := by
  have := quo_length ((bl s).take k)
  have h : ((bl s).take k).length ≤ k := List.length_take_le _ _
  simp only [quoTo, List.length_cons]
  omega
theorem quoTo_succ (s : ByteArray) (k : Nat) (h : k < s.size) : quoTo s (k + 1) = quoTo s k ++ quoB s[k] := by
  unfold quoTo
  rw [bl_take s k h]
  simp
theorem quoTo_all (s : ByteArray) (k : Nat) (h : s.size ≤ k) : quoTo s k ++ [34] = quoF (bl s) := by
  unfold quoTo quoF
  rw [List.take_of_length_le (by rw [bl_length]; exact h)]
theorem quoB_yes (c : UInt8) (h : (c.toNat : Int) = 34 ∨ (c.toNat : Int) = 92) : quoB c = [92] ++ [c] := by
  unfold quoB
  have h' : c = 34 ∨ c = 92 := by
    rcases h with h | h
    · exact .inl (UInt8.toNat_inj.1 (by show c.toNat = 34; omega))
    · exact .inr (UInt8.toNat_inj.1 (by show c.toNat = 92; omega))
  rw [if_pos h']
  rfl
theorem quoB_no (c : UInt8) (h : ¬ ((c.toNat : Int) = 34 ∨ (c.toNat : Int) = 92)) : quoB c = [c] := by
  unfold quoB
  rw [if_neg]
  rintro (h' | h') <;> (subst h'; exact h (by decide))

theorem Push2.frame {wr w1 w2 : World} {o o1 o2 : Option Nat} (t1 : Turn (fun b => o = some b) wr w1) (t2 : Turn (fun b => o1 = some b) w1 w2) (h1 : ∀ b, o1 = some b → o = some b ∨ wr.heap.size ≤ b) (h2 : ∀ b, o2 = some b → o1 = some b ∨ w1.heap.size ≤ b) :
    Turn (fun b => o = some b) wr w2 ∧ ∀ b, o2 = some b → o = some b ∨ wr.heap.size ≤ b := by
  refine ⟨t1.trans t2 (fun b hb h => ?_), fun b hb => ?_⟩
  · rcases h1 b h with h | h
    · exact h
    · omega
  · rcases h2 b hb with h | h
    · exact h1 b h
    · exact .inr (Nat.le_trans t1.size h)

end Go.Proofs.YtemgfppclakdmaaGreatDoor

namespace Go.Proofs.YtemgfppclakdmaaGreatDoor
open Go.RowKit

/-- How many bytes a quoted part has behind its first sign, its last sign counted. -/
def qskip : List UInt8 → Nat
  | [] => 0
  | [c] => if c = 34 then 1 else 1
  | c :: d :: l => if c = 34 then 1 else if c = 92 then 2 + qskip l else 1 + qskip (d :: l)
theorem qskip_le : ∀ l : List UInt8, qskip l ≤ l.length
  | [] => Nat.le_refl _
  | [c] => by simp [qskip]
  | c :: d :: l => by
    have h1 := qskip_le l
    have h2 := qskip_le (d :: l)
    simp only [qskip, List.length_cons] at *
    repeat' split
    all_goals omega
theorem qskip_end (c : UInt8) (l : List UInt8) (h : c = 34) : qskip (c :: l) = 1 := by
  subst h
  cases l <;> simp [qskip]
theorem qskip_back (c : UInt8) (l : List UInt8) (h : c = 92) : qskip (c :: l) = 1 + (if l = [] then 0 else 1) + qskip (l.drop 1) := by
  subst h
  cases l with
  | nil => simp [qskip]
  | cons d l => simp [qskip]
theorem qskip_other (c : UInt8) (l : List UInt8) (h : c ≠ 34) (h' : c ≠ 92) : qskip (c :: l) = 1 + qskip l := by
  cases l with
  | nil => simp [qskip]
  | cons d l => simp [qskip, h, h']

theorem u8_eq (c : UInt8) (n : Nat) (hn : n < 256) : (c = UInt8.ofNat n) ↔ (c.toNat : Int) = n := by
  constructor
  · rintro rfl
    simp
    omega
  · intro h
    apply UInt8.toNat_inj.1
    simp
    omega

theorem eq34 (c : UInt8) : c = 34 ↔ (c.toNat : Int) = 34 := u8_eq c 34 (by omega)
theorem eq92 (c : UInt8) : c = 92 ↔ (c.toNat : Int) = 92 := u8_eq c 92 (by omega)

set_option maxHeartbeats 1000000 in
set_option maxRecDepth 100000 in
theorem quoted_any (s : ByteArray) (a : Nat) (w : World) (hs : s.size ≤ 140737488351232) (ha : a < s.size) :
    Calls Tryz.prog 152 #[.string s, .int .i64 (a : Int)] w fun e w' => e = .returned (.int .i64 ((a + 1 + qskip ((bl s).drop (a + 1)) : Nat) : Int)) ∧ w = w' := by
  obtain ⟨t, ht⟩ : ∃ t, t = a + 1 + qskip ((bl s).drop (a + 1)) := ⟨_, rfl⟩
  rw [← ht]
  have hts : t ≤ s.size := by
    have := qskip_le ((bl s).drop (a + 1))
    rw [List.length_drop, bl_length] at this
    omega
  have HT := Lib.hid ht
  clear ht
  go_enter Tryz.func152, Tryz.ntmps152
  go_wp2
  go_loop [1] (fun i => ∃ k : Nat, k ≤ s.size + 1 ∧ i = .int .i64 k ∧ min k s.size + qskip ((bl s).drop k) = t) (fun i => s.size + 1 - (intOf i).toNat)
  case atStart => exact ⟨a + 1, by omega, by simp, by rw [Nat.min_eq_left (by omega), HT.out]⟩
  case round =>
    obtain ⟨k, hk, rfl, hq⟩ := hrel
    have HQ := Lib.hid hq
    clear hq
    by_cases hlt : k < s.size
    · have hd := bl_drop s k hlt
      have HD := Lib.hid hd
      clear hd
      by_cases h34 : (s[k].toNat : Int) = 34
      · have e1 : ((s[k].toNat : Int) != 34) = false := by simpa using h34
        have HF := Lib.hid (show k + 1 = t by
          have := HQ.out
          rw [HD.out, qskip_end _ _ ((eq34 _).2 h34), Nat.min_eq_left (by omega)] at this
          exact this)
        clear h34
        go_wp2
        go_ret
        refine ⟨?_, rfl⟩
        rw [← HF.out]
        simp
      · have e1 : ((s[k].toNat : Int) != 34) = true := by simpa using h34
        by_cases h92 : (s[k].toNat : Int) = 92
        · have e2 : ((s[k].toNat : Int) == 92) = true := by simpa using h92
          have HF := Lib.hid (show min (k + 2) s.size + qskip ((bl s).drop (k + 2)) = t by
            have := HQ.out
            rw [HD.out, qskip_back _ _ ((eq92 _).2 h92), List.drop_drop, Nat.min_eq_left (by omega)] at this
            by_cases hk1 : k + 1 < s.size
            · rw [if_neg (by rw [bl_drop s (k + 1) hk1]; simp)] at this
              rw [Nat.min_eq_left (by omega)]
              rw [show k + 1 + 1 = k + 2 from rfl] at this
              omega
            · rw [if_pos (List.drop_of_length_le (by rw [bl_length]; omega))] at this
              rw [Nat.min_eq_right (by omega)]
              have e : s.size = k + 1 := by omega
              rw [show k + 1 + 1 = k + 2 from rfl] at this
              omega)
          clear h34 h92
          go_wp2
          exact ⟨⟨k + 2, by omega, by simp; omega, HF.out⟩, by simp [intOf]; omega⟩
        · have e2 : ((s[k].toNat : Int) == 92) = false := by simpa using h92
          have HF := Lib.hid (show min (k + 1) s.size + qskip ((bl s).drop (k + 1)) = t by
            have := HQ.out
            rw [HD.out, qskip_other _ _ (fun h => h34 ((eq34 _).1 h)) (fun h => h92 ((eq92 _).1 h)), Nat.min_eq_left (by omega)] at this
            rw [Nat.min_eq_left (by omega)]
            omega)
          clear h34 h92
          go_wp2
          exact ⟨⟨k + 1, by omega, by simp, HF.out⟩, by simp [intOf]; omega⟩
    · have HF := Lib.hid (show s.size = t by
        have := HQ.out
        rw [List.drop_of_length_le (by rw [bl_length]; omega), Nat.min_eq_right (by omega)] at this
        simpa [qskip] using this)
      go_wp2
      go_ret
      exact ⟨by rw [← HF.out]; rfl, rfl⟩

/-- What stands behind the first sign of a quoted string, read: nothing, if it is none. -/
def ubody : List UInt8 → Option (List UInt8)
  | [] => none
  | [c] => if c = 34 then some [] else none
  | c :: d :: l => if c = 34 then none else if c = 92 then (if shownB d then (ubody l).map (d :: ·) else none) else (if shownB c then (ubody (d :: l)).map (c :: ·) else none)
def unqF : List UInt8 → Option (List UInt8)
  | [] => none
  | c :: l => if c = 34 then ubody l else none
theorem ubody_end (c : UInt8) (l : List UInt8) (h : c = 34) : ubody (c :: l) = if l = [] then some [] else none := by
  subst h
  cases l <;> simp [ubody]
theorem ubody_back (c d : UInt8) (l : List UInt8) (h : c = 92) : ubody (c :: d :: l) = if shownB d then (ubody l).map (d :: ·) else none := by
  subst h
  simp [ubody]
theorem ubody_back0 (c : UInt8) (h : c = 92) : ubody [c] = none := by
  subst h
  simp [ubody]
theorem ubody_other (c : UInt8) (l : List UInt8) (h : c ≠ 34) (h' : c ≠ 92) : ubody (c :: l) = if shownB c then (ubody l).map (c :: ·) else none := by
  cases l with
  | nil => simp [ubody, h]
  | cons d l => simp [ubody, h, h']

/-- Two results: a text, and whether there is one. -/
def TextOk (r : Option (List UInt8)) (w : World) (e : Ending) (w' : World) : Prop := e = .returned (.tuple #[.string ⟨(r.getD []).toArray⟩, .bool r.isSome]) ∧ Below w.heap.size w w'

def UnqRel (W : World) (s : ByteArray) (r : Option (List UInt8)) (v i : Value) (wx : World) : Prop :=
  ∃ (k : Nat) (o : Option Nat) (bs : List UInt8), 1 ≤ k ∧ k ≤ s.size ∧ i = .int .i64 (k : Int) ∧ Own wx v o bs ∧ bs.length ≤ k ∧ (∀ b, o = some b → W.heap.size ≤ b) ∧ Below W.heap.size W wx ∧ (ubody ((bl s).drop k)).map (bs ++ ·) = r

theorem UnqRel.step {W wr w' : World} {s : ByteArray} {r : Option (List UInt8)} {k : Nat} {c : UInt8} {bs : List UInt8} {v' : Value} {o o' : Option Nat} (h1 : 1 ≤ k) (hk : k ≤ s.size) (hown : Own w' v' o' (bs ++ [c])) (hl : bs.length + 1 ≤ k) (ho : ∀ b, o = some b → W.heap.size ≤ b)
    (hB : Below W.heap.size W wr) (ht : Turn (fun b => o = some b) wr w') (ho' : ∀ b, o' = some b → o = some b ∨ wr.heap.size ≤ b) (hr : ((ubody ((bl s).drop k)).map (c :: ·)).map (bs ++ ·) = r) (i : Int) (hi : i = (k : Int)) : UnqRel W s r v' (.int .i64 i) w' := by
  subst hi
  refine ⟨k, o', _, h1, hk, rfl, hown, by simpa using hl, fun b hb => ?_, hB.trans ⟨ht.os, ht.tape, ht.output, ht.size, fun b hb => ht.block b (by have := hB.size; omega) (fun h => by have := ho b h; omega)⟩, ?_⟩
  · have := hB.size
    rcases ho' b hb with h | h
    · exact ho b h
    · omega
  · rw [← hr, Option.map_map]
    congr 1
    funext x
    simp

theorem tuple_ret {a a' : Value} {b b' : Value} (h : a = a') (h' : b = b') : Ending.returned (.tuple #[a, b]) = .returned (.tuple #[a', b']) := by rw [h, h']

end Go.Proofs.YtemgfppclakdmaaGreatDoor

namespace Go.Proofs.YtemgfppclakdmaaGreatDoor
open Go.RowKit

/-- The elements behind a place: from is where the present part began, k where the reader stands; n is more than what is left. -/
def listFrom (b : List UInt8) : Nat → Nat → Nat → List (List UInt8)
  | 0, _, _ => []
  | n + 1, f, k =>
    if k < b.length then
      (if b[k]? = some 34 then listFrom b n f (k + 1 + qskip (b.drop (k + 1)))
       else if b[k]? = some 44 then (if trimF ((b.drop f).take (k - f)) = [] then [] else [trimF ((b.drop f).take (k - f))]) ++ listFrom b n (k + 1) (k + 1)
       else listFrom b n f (k + 1))
    else if k = b.length then (if trimF ((b.drop f).take (k - f)) = [] then [] else [trimF ((b.drop f).take (k - f))]) else []
def listF (b : List UInt8) : List (List UInt8) := listFrom b (b.length + 2) 0 0
theorem listFrom_beyond (b : List UInt8) (n f k : Nat) (h : b.length < k) : listFrom b n f k = [] := by
  cases n with
  | zero => rfl
  | succ n => rw [listFrom, if_neg (by omega), if_neg (by omega)]

/-- What List answers. -/
def Lists (ls : List (List UInt8)) (w : World) (e : Ending) (w' : World) : Prop := ∃ v o, e = .returned v ∧ OwnS w' v o ls ∧ (∀ b, o = some b → w.heap.size ≤ b) ∧ Below w.heap.size w w'

def ListRel (W : World) (s : ByteArray) (r : List (List UInt8)) (v vf i : Value) (wx : World) : Prop :=
  ∃ (k f n : Nat) (o : Option Nat) (ls : List (List UInt8)), k ≤ s.size + 1 ∧ f ≤ k ∧ s.size + 2 ≤ n + k ∧ i = .int .i64 (k : Int) ∧ vf = .int .i64 (f : Int) ∧ OwnS wx v o ls ∧ ls.length ≤ k ∧ (∀ b, o = some b → W.heap.size ≤ b) ∧ Below W.heap.size W wx ∧ ls ++ listFrom (bl s) n f k = r

theorem ListRel.step {W wr w' : World} {s : ByteArray} {r : List (List UInt8)} {k n : Nat} {x : List UInt8} {ls : List (List UInt8)} {v' : Value} {o o' : Option Nat} (hk : k ≤ s.size) (hn : s.size + 2 ≤ n + (k + 1)) (hown : OwnS w' v' o' (ls ++ [x])) (hl : ls.length ≤ k) (ho : ∀ b, o = some b → W.heap.size ≤ b)
    (hB : Below W.heap.size W wr) (ht : Turn (fun b => o = some b) wr w') (ho' : ∀ b, o' = some b → o = some b ∨ wr.heap.size ≤ b) (hr : ls ++ ([x] ++ listFrom (bl s) n (k + 1) (k + 1)) = r) : ListRel W s r v' (.int .i64 ((k : Int) + 1)) (.int .i64 ((k : Int) + 1)) w' := by
  refine ⟨k + 1, k + 1, n, o', _, by omega, Nat.le_refl _, hn, by simp, by simp, hown, by simpa using hl, fun b hb => ?_, hB.trans ⟨ht.os, ht.tape, ht.output, ht.size, fun b hb => ht.block b (by have := hB.size; omega) (fun h => by have := ho b h; omega)⟩, by rw [List.append_assoc]; exact hr⟩
  have := hB.size
  rcases ho' b hb with h | h
  · exact ho b h
  · omega
theorem eq44 (c : UInt8) : c = 44 ↔ (c.toNat : Int) = 44 := u8_eq c 44 (by omega)

theorem trim_piece (s : ByteArray) (f k : Nat) (w : World) (hs : s.size ≤ 140737488351232) : Calls Tryz.prog 100 #[.string (s.extract f k)] w fun e w' => e = .returned (.string ⟨(trimF (piece s f k)).toArray⟩) ∧ w = w' := by
  have hl : (s.extract f k).size ≤ s.size := by
    rw [← bl_length, bl_extract, bl_mk, piece]
    rw [List.length_take, List.length_drop, bl_length]
    omega
  have h := trim_any (s.extract f k) w (by omega)
  have e : bl (s.extract f k) = piece s f k := by rw [bl_extract, bl_mk]
  rw [e] at h
  exact h

set_option maxHeartbeats 2000000 in
set_option maxRecDepth 100000 in
theorem list_any (s : ByteArray) (W : World) (hs : s.size ≤ 1000000000) : Calls Tryz.prog 129 #[.string s] W (Lists (listF (bl s)) W) := by
  obtain ⟨r, hr⟩ : ∃ r, r = listF (bl s) := ⟨_, rfl⟩
  rw [← hr]
  have HR := Lib.hid hr
  clear hr
  go_enter Tryz.func129, Tryz.ntmps129
  go_wp2
  go_loopw [3, 4, 5] (fun v vf i wx => ListRel W s r v vf i wx) (fun _ _ i _ => s.size + 1 - (intOf i).toNat)
  case atStart => exact ⟨0, 0, s.size + 2, none, [], by omega, Nat.le_refl _, by omega, rfl, rfl, OwnS.nil _, Nat.le_refl _, (fun _ h => by cases h), Below.refl _ _, by rw [HR.out, listF, bl_length]; rfl⟩
  case round =>
    obtain ⟨k, f, n, o, ls, hk, hf, hn, rfl, rfl, hown, hll, ho, hB, hu⟩ := hrel
    have HO := Lib.hid ho
    have HU := Lib.hid hu
    clear ho hu
    by_cases hle : k ≤ s.size
    · obtain ⟨n, rfl⟩ : ∃ n', n = n' + 1 := ⟨n - 1, by omega⟩
      by_cases hlt : k < s.size
      · have hget := bl_get s k hlt
        by_cases h34 : (s[k].toNat : Int) = 34
        · have e1 : ((s[k].toNat : Int) == 34) = true := by simpa using h34
          have hq := qskip_le ((bl s).drop (k + 1))
          rw [List.length_drop, bl_length] at hq
          have HE := Lib.hid (show ls ++ listFrom (bl s) n f (k + 1 + qskip ((bl s).drop (k + 1))) = r by
            have := HU.out
            rw [listFrom, if_pos (by rw [bl_length]; exact hlt), hget, if_pos (by rw [(eq34 _).2 h34])] at this
            exact this)
          have C := Lib.hid (quoted_any s k wr (by omega) hlt)
          generalize qskip ((bl s).drop (k + 1)) = j at *
          clear h34 hget
          go_wp2_with fail
          refine C.out.mono ?_
          rintro e w9 ⟨rfl, rfl⟩
          go_wp2_with fail
          exact ⟨⟨k + 1 + j, f, n, o, ls, by omega, by omega, by omega, by simp, rfl, hown, by omega, HO.out, hB, HE.out⟩, by simp [intOf]; omega⟩
        · have e1 : ((s[k].toNat : Int) == 34) = false := by simpa using h34
          by_cases h44 : (s[k].toNat : Int) = 44
          · have e2 : ((s[k].toNat : Int) == 44) = true := by simpa using h44
            have e3 : ((k : Int) == (s.size : Int)) = false := beq_eq_false_iff_ne.2 (by omega)
            have HE := Lib.hid (show ls ++ ((if trimF (piece s f k) = [] then [] else [trimF (piece s f k)]) ++ listFrom (bl s) n (k + 1) (k + 1)) = r by
              have := HU.out
              rw [listFrom, if_pos (by rw [bl_length]; exact hlt), hget, if_neg (fun h => h34 ((eq34 _).1 (Option.some.inj h))), if_pos (by rw [(eq44 _).2 h44])] at this
              exact this)
            clear h34 h44 hget
            have C := Lib.hid (trim_piece s f k wr (by omega))
            generalize trimF (piece s f k) = X at *
            cases X with
            | nil =>
              have HF := Lib.hid (show ls ++ listFrom (bl s) n (k + 1) (k + 1) = r by
                have := HE.out
                rw [if_pos rfl] at this
                exact this)
              go_wp2_with fail
              refine C.out.mono ?_
              rintro e w9 ⟨rfl, rfl⟩
              go_wp2_with fail
              exact ⟨⟨k + 1, k + 1, n, o, ls, by omega, by omega, by omega, by simp, by simp, hown, by omega, HO.out, hB, HF.out⟩, by simp [intOf]; omega⟩
            | cons x X =>
              have HF := Lib.hid (show ls ++ ([x :: X] ++ listFrom (bl s) n (k + 1) (k + 1)) = r by
                have := HE.out
                rw [if_neg (by simp)] at this
                exact this)
              obtain ⟨v', w', o', hrun, own', t', ho'⟩ := run_push_str wr u3 o ls (x :: X) hown (by omega)
              have HRU := Lib.hid hrun
              have HO' := Lib.hid ho'
              clear hrun ho'
              go_wp2_with fail
              refine C.out.mono ?_
              rintro e w9 ⟨rfl, rfl⟩
              go_wp2_with (at_builtin; refine append_by rfl (.tmp 41) (.tmp 43) 114 rfl _ _ v' w' rfl rfl HRU.out ?_)
              exact ⟨ListRel.step (by omega) (by omega) own' hll HO.out hB t' HO'.out HF.out, by simp [intOf]; omega⟩
          · have e2 : ((s[k].toNat : Int) == 44) = false := by simpa using h44
            have e3 : ((k : Int) == (s.size : Int)) = false := beq_eq_false_iff_ne.2 (by omega)
            have HE := Lib.hid (show ls ++ listFrom (bl s) n f (k + 1) = r by
              have := HU.out
              rw [listFrom, if_pos (by rw [bl_length]; exact hlt), hget, if_neg (fun h => h34 ((eq34 _).1 (Option.some.inj h))), if_neg (fun h => h44 ((eq44 _).1 (Option.some.inj h)))] at this
              exact this)
            clear h34 h44 hget
            go_wp2_with fail
            exact ⟨⟨k + 1, f, n, o, ls, by omega, by omega, by omega, by simp, rfl, hown, by omega, HO.out, hB, HE.out⟩, by simp [intOf]; omega⟩
      · have e3 : ((k : Int) == (s.size : Int)) = true := beq_iff_eq.2 (by omega)
        have HE := Lib.hid (show ls ++ ((if trimF (piece s f k) = [] then [] else [trimF (piece s f k)]) ++ listFrom (bl s) n (k + 1) (k + 1)) = r by
          have := HU.out
          rw [listFrom, if_neg (by rw [bl_length]; exact hlt), if_pos (by rw [bl_length]; omega)] at this
          rw [listFrom_beyond _ _ _ _ (by rw [bl_length]; omega), List.append_nil]
          exact this)
        have C := Lib.hid (trim_piece s f k wr (by omega))
        generalize trimF (piece s f k) = X at *
        cases X with
        | nil =>
          have HF := Lib.hid (show ls ++ listFrom (bl s) n (k + 1) (k + 1) = r by
            have := HE.out
            rw [if_pos rfl] at this
            exact this)
          go_wp2_with fail
          refine C.out.mono ?_
          rintro e w9 ⟨rfl, rfl⟩
          go_wp2_with fail
          exact ⟨⟨k + 1, k + 1, n, o, ls, by omega, by omega, by omega, by simp, by simp, hown, by omega, HO.out, hB, HF.out⟩, by simp [intOf]; omega⟩
        | cons x X =>
          have HF := Lib.hid (show ls ++ ([x :: X] ++ listFrom (bl s) n (k + 1) (k + 1)) = r by
            have := HE.out
            rw [if_neg (by simp)] at this
            exact this)
          obtain ⟨v', w', o', hrun, own', t', ho'⟩ := run_push_str wr u3 o ls (x :: X) hown (by omega)
          have HRU := Lib.hid hrun
          have HO' := Lib.hid ho'
          clear hrun ho'
          go_wp2_with fail
          refine C.out.mono ?_
          rintro e w9 ⟨rfl, rfl⟩
          go_wp2_with (at_builtin; refine append_by rfl (.tmp 41) (.tmp 43) 114 rfl _ _ v' w' rfl rfl HRU.out ?_)
          exact ⟨ListRel.step (by omega) (by omega) own' hll HO.out hB t' HO'.out HF.out, by simp [intOf]; omega⟩
    · have HF := Lib.hid (show ls = r by
        have := HU.out
        rw [listFrom_beyond _ _ _ _ (by rw [bl_length]; omega), List.append_nil] at this
        exact this)
      go_wp2
      go_ret
      exact ⟨_, o, rfl, by rw [← HF.out]; exact hown, HO.out, hB⟩
end Go.Proofs.YtemgfppclakdmaaGreatDoor

namespace Go.Proofs.YtemgfppclakdmaaGreatDoor
open Go.RowKit

def lenN : List UInt8 := [99, 111, 110, 116, 101, 110, 116, 45, 108, 101, 110, 103, 116, 104]
def codN : List UInt8 := [116, 114, 97, 110, 115, 102, 101, 114, 45, 101, 110, 99, 111, 100, 105, 110, 103]
def chkN : List UInt8 := [99, 104, 117, 110, 107, 101, 100]
def isChk (x : List UInt8) : Bool := lowF x == lowF chkN
/-- All elements of values. -/
def elsF (vs : List (List UInt8)) : List (List UInt8) := vs.flatMap listF
theorem elsF_snoc (vs : List (List UInt8)) (v : List UInt8) : elsF (vs ++ [v]) = elsF vs ++ listF v := by simp [elsF]
/-- What a length says: its number, its text, if that is too long, and the error. -/
abbrev Sd := Nat × List UInt8 × Nat
def rdF (x : List UInt8) : Sd := if (readF 10 x).2 = 3 then (0, x, 3) else ((readF 10 x).1, [], (readF 10 x).2)
def firstF : List (List UInt8) → Sd
  | [] => (0, [], 0)
  | x :: _ => rdF x
def okL (p : Sd) (y : List UInt8) : Bool := rdF y == p && (rdF y).2.2 != 5
def sureL (xs : List (List UInt8)) : Bool := xs.all (okL (firstF xs))
theorem firstF_snoc (xs : List (List UInt8)) (x : List UInt8) : firstF (xs ++ [x]) = if xs.length = 0 then rdF x else firstF xs := by
  cases xs <;> simp [firstF]
theorem sureL_snoc (xs : List (List UInt8)) (x : List UInt8) : sureL (xs ++ [x]) = (sureL xs && okL (firstF (xs ++ [x])) x) := by
  cases xs with
  | nil => simp [sureL]
  | cons y xs => simp [sureL, firstF, Bool.and_assoc]
abbrev Kd := Nat × Nat × Nat
def codF (minor : Int) (cs : List (List UInt8)) : Kd := if cs.length = 1 ∧ (minor = 1 ∧ cs.all isChk = true) then (2, 0, 0) else (0, 0, 22)
def lenF (xs : List (List UInt8)) : Kd :=
  if xs.length = 0 ∨ sureL xs = false then (0, 0, 22) else if (firstF xs).2.2 = 3 ∨ 4096 < (firstF xs).1 then (0, 0, 21) else (1, (firstF xs).1, 0)
/-- What a request is. -/
def reqK (minor : Int) (ls : List Fld) : Kd :=
  if minor ≠ 0 ∧ minor ≠ 1 then (0, 0, 1)
  else if getF ls lenN ≠ [] ∧ getF ls codN ≠ [] then (0, 0, 22)
  else if getF ls codN ≠ [] then codF minor (elsF (getF ls codN))
  else if getF ls lenN ≠ [] then lenF (elsF (getF ls lenN))
  else (0, 0, 0)
def bodyF (status : Int) (m : List UInt8) : Bool :=
  if m = [72, 69, 65, 68] ∨ status < 200 ∨ status = 204 ∨ status = 304 then false else (m != [67, 79, 78, 78, 69, 67, 84]) || decide (300 ≤ status)
/-- What a response is, by what a request with its fields is. -/
def resK (status : Int) (m : List UInt8) (p : Kd) : Kd :=
  if status < 100 ∨ 599 < status then (0, 0, 1)
  else if p.2.2 = 1 ∨ p.2.2 = 22 then (0, 0, p.2.2)
  else if bodyF status m = false then (0, 0, 0)
  else if p.2.2 = 0 ∧ p.1 = 0 then (3, 0, 0)
  else p
/-- What is told: a kind, a number, an error. -/
def kdV (p : Kd) : Value := .tuple #[.int .i64 (p.1 : Int), .int .u64 (p.2.1 : Int), .int .i64 (p.2.2 : Int)]
def Tells (p : Kd) (w : World) (e : Ending) (w' : World) : Prop := e = .returned (kdV p) ∧ Below w.heap.size w w'

theorem readF_cases (x : List UInt8) : (readF 10 x = (0, 5)) ∨ (readF 10 x = (0, 3)) ∨ (∃ n, n ≤ Most ∧ readF 10 x = (n, 0)) := by
  unfold readF
  split
  · exact .inl rfl
  · split
    · split
      · exact .inr (.inr ⟨_, by assumption, rfl⟩)
      · exact .inr (.inl rfl)
    · exact .inl rfl
theorem rdF_cases (x : List UInt8) : rdF x = (0, [], 5) ∨ rdF x = (0, x, 3) ∨ ∃ n, n ≤ Most ∧ rdF x = (n, [], 0) := by
  unfold rdF
  rcases readF_cases x with h | h | ⟨n, hn, h⟩
  · left; simp [h]
  · right; left; simp [h]
  · right; right; exact ⟨n, hn, by simp [h]⟩
theorem firstF_small (xs : List (List UInt8)) : (firstF xs).1 ≤ Most := by
  cases xs with
  | nil => simp [firstF]
  | cons x xs =>
    show (rdF x).1 ≤ Most
    rcases rdF_cases x with h | h | ⟨n, hn, h⟩ <;> rw [h]
    · simp
    · simp
    · exact hn
end Go.Proofs.YtemgfppclakdmaaGreatDoor
