/-
  What the document's own text functions do (the reference): List, Equal. Slices of texts.
  Conditions: those that each theorem names.
-/
import Derived.Test.YtdcbcjljmjnopaaGreatDoorRD
import Derived.Test.YtdcbcjljmjnopaaGreatDoorRS
namespace Go.Proofs.YtdcbcjljmjnopaaGreatDoor
open Go.RowKit

/-- The elements behind a place: from is where the present part began, k where the reader stands; n is more than what is left. -/
def listFrom (b : List UInt8) : Nat → Nat → Nat → List (List UInt8)
  | 0, _, _ => []
  | n + 1, f, k =>
    if k < b.length then
      (if b[k]? = some 34 then listFrom b n f (k + 1 + qskip (b.drop (k + 1)))
       else if b[k]? = some 44 then (if trimF ((b.drop f).take (k - f)) = [] then [] else [trimF ((b.drop f).take (k - f))]) ++ listFrom b n (k + 1) (k + 1)
       else listFrom b n f (k + 1))
    else if k = b.length then (if trimF ((b.drop f).take (k - f)) = [] then [] else [trimF ((b.drop f).take (k - f))]) else []
def listF (b : List UInt8) : List (List UInt8) := listFrom b (b.length + 2) 0 0
theorem listFrom_beyond (b : List UInt8) (n f k : Nat) (h : b.length < k) : listFrom b n f k = [] := by
  cases n with
  | zero => rfl
  | succ n => rw [listFrom, if_neg (by omega), if_neg (by omega)]

/-- What List answers. -/
def Lists (ls : List (List UInt8)) (w : World) (e : Ending) (w' : World) : Prop := ∃ v o, e = .returned v ∧ OwnS w' v o ls ∧ (∀ b, o = some b → w.heap.size ≤ b) ∧ Below w.heap.size w w'

def ListRel (W : World) (s : ByteArray) (r : List (List UInt8)) (v vf i : Value) (wx : World) : Prop :=
  ∃ (k f n : Nat) (o : Option Nat) (ls : List (List UInt8)), k ≤ s.size + 1 ∧ f ≤ k ∧ s.size + 2 ≤ n + k ∧ i = .int .i64 (k : Int) ∧ vf = .int .i64 (f : Int) ∧ OwnS wx v o ls ∧ ls.length ≤ k ∧ (∀ b, o = some b → W.heap.size ≤ b) ∧ Below W.heap.size W wx ∧ ls ++ listFrom (bl s) n f k = r

theorem ListRel.step {W wr w' : World} {s : ByteArray} {r : List (List UInt8)} {k n : Nat} {x : List UInt8} {ls : List (List UInt8)} {v' : Value} {o o' : Option Nat} (hk : k ≤ s.size) (hn : s.size + 2 ≤ n + (k + 1)) (hown : OwnS w' v' o' (ls ++ [x])) (hl : ls.length ≤ k) (ho : ∀ b, o = some b → W.heap.size ≤ b)
    (hB : Below W.heap.size W wr) (ht : Turn (fun b => o = some b) wr w') (ho' : ∀ b, o' = some b → o = some b ∨ wr.heap.size ≤ b) (hr : ls ++ ([x] ++ listFrom (bl s) n (k + 1) (k + 1)) = r) : ListRel W s r v' (.int .i64 ((k : Int) + 1)) (.int .i64 ((k : Int) + 1)) w' := by
  refine ⟨k + 1, k + 1, n, o', _, by omega, Nat.le_refl _, hn, by simp, by simp, hown, by simpa using hl, fun b hb => ?_, hB.trans ⟨ht.os, ht.tape, ht.output, ht.size, fun b hb => ht.block b (by have := hB.size; omega) (fun h => by have := ho b h; omega)⟩, by rw [List.append_assoc]; exact hr⟩
  have := hB.size
  rcases ho' b hb with h | h
  · exact ho b h
  · omega
theorem eq44 (c : UInt8) : c = 44 ↔ (c.toNat : Int) = 44 := u8_eq c 44 (by omega)

theorem trim_piece (s : ByteArray) (f k : Nat) (w : World) (hs : s.size ≤ 140737488351232) : Calls Tryz.prog 88 #[.string (s.extract f k)] w fun e w' => e = .returned (.string ⟨(trimF (piece s f k)).toArray⟩) ∧ w = w' := by
  have hl : (s.extract f k).size ≤ s.size := by
    rw [← bl_length, bl_extract, bl_mk, piece]
    rw [List.length_take, List.length_drop, bl_length]
    omega
  have h := trim_any (s.extract f k) w (by omega)
  have e : bl (s.extract f k) = piece s f k := by rw [bl_extract, bl_mk]
  rw [e] at h
  exact h

set_option maxHeartbeats 2000000 in
set_option maxRecDepth 100000 in
theorem list_any (s : ByteArray) (W : World) (hs : s.size ≤ 1000000000) : Calls Tryz.prog 66 #[.string s] W (Lists (listF (bl s)) W) := by
  obtain ⟨r, hr⟩ : ∃ r, r = listF (bl s) := ⟨_, rfl⟩
  rw [← hr]
  have HR := Lib.hid hr
  clear hr
  go_enter Tryz.func66, Tryz.ntmps66
  go_wp2
  go_loopw [3, 4, 5] (fun v vf i wx => ListRel W s r v vf i wx) (fun _ _ i _ => s.size + 1 - (intOf i).toNat)
  case atStart => exact ⟨0, 0, s.size + 2, none, [], by omega, Nat.le_refl _, by omega, rfl, rfl, OwnS.nil _, Nat.le_refl _, (fun _ h => by cases h), Below.refl _ _, by rw [HR.out, listF, bl_length]; rfl⟩
  case round =>
    obtain ⟨k, f, n, o, ls, hk, hf, hn, rfl, rfl, hown, hll, ho, hB, hu⟩ := hrel
    have HO := Lib.hid ho
    have HU := Lib.hid hu
    clear ho hu
    by_cases hle : k ≤ s.size
    · obtain ⟨n, rfl⟩ : ∃ n', n = n' + 1 := ⟨n - 1, by omega⟩
      by_cases hlt : k < s.size
      · have hget := bl_get s k hlt
        by_cases h34 : (s[k].toNat : Int) = 34
        · have e1 : ((s[k].toNat : Int) == 34) = true := by simpa using h34
          have hq := qskip_le ((bl s).drop (k + 1))
          rw [List.length_drop, bl_length] at hq
          have HE := Lib.hid (show ls ++ listFrom (bl s) n f (k + 1 + qskip ((bl s).drop (k + 1))) = r by
            have := HU.out
            rw [listFrom, if_pos (by rw [bl_length]; exact hlt), hget, if_pos (by rw [(eq34 _).2 h34])] at this
            exact this)
          have C := Lib.hid (quoted_any s k wr (by omega) hlt)
          generalize qskip ((bl s).drop (k + 1)) = j at *
          clear h34 hget
          go_wp2_with fail
          refine C.out.mono ?_
          rintro e w9 ⟨rfl, rfl⟩
          go_wp2_with fail
          exact ⟨⟨k + 1 + j, f, n, o, ls, by omega, by omega, by omega, by simp, rfl, hown, by omega, HO.out, hB, HE.out⟩, by simp [intOf]; omega⟩
        · have e1 : ((s[k].toNat : Int) == 34) = false := by simpa using h34
          by_cases h44 : (s[k].toNat : Int) = 44
          · have e2 : ((s[k].toNat : Int) == 44) = true := by simpa using h44
            have e3 : ((k : Int) == (s.size : Int)) = false := beq_eq_false_iff_ne.2 (by omega)
            have HE := Lib.hid (show ls ++ ((if trimF (piece s f k) = [] then [] else [trimF (piece s f k)]) ++ listFrom (bl s) n (k + 1) (k + 1)) = r by
              have := HU.out
              rw [listFrom, if_pos (by rw [bl_length]; exact hlt), hget, if_neg (fun h => h34 ((eq34 _).1 (Option.some.inj h))), if_pos (by rw [(eq44 _).2 h44])] at this
              exact this)
            clear h34 h44 hget
            have C := Lib.hid (trim_piece s f k wr (by omega))
            generalize trimF (piece s f k) = X at *
            cases X with
            | nil =>
              have HF := Lib.hid (show ls ++ listFrom (bl s) n (k + 1) (k + 1) = r by
                have := HE.out
                rw [if_pos rfl] at this
                exact this)
              go_wp2_with fail
              refine C.out.mono ?_
              rintro e w9 ⟨rfl, rfl⟩
              go_wp2_with fail
              exact ⟨⟨k + 1, k + 1, n, o, ls, by omega, by omega, by omega, by simp, by simp, hown, by omega, HO.out, hB, HF.out⟩, by simp [intOf]; omega⟩
            | cons x X =>
              have HF := Lib.hid (show ls ++ ([x :: X] ++ listFrom (bl s) n (k + 1) (k + 1)) = r by
                have := HE.out
                rw [if_neg (by simp)] at this
                exact this)
              obtain ⟨v', w', o', hrun, own', t', ho'⟩ := run_push_str wr u3 o ls (x :: X) hown (by omega)
              have HRU := Lib.hid hrun
              have HO' := Lib.hid ho'
              clear hrun ho'
              go_wp2_with fail
              refine C.out.mono ?_
              rintro e w9 ⟨rfl, rfl⟩
              go_wp2_with (at_builtin; refine append_by rfl (.tmp 41) (.tmp 43) 48 rfl _ _ v' w' rfl rfl HRU.out ?_)
              exact ⟨ListRel.step (by omega) (by omega) own' hll HO.out hB t' HO'.out HF.out, by simp [intOf]; omega⟩
          · have e2 : ((s[k].toNat : Int) == 44) = false := by simpa using h44
            have e3 : ((k : Int) == (s.size : Int)) = false := beq_eq_false_iff_ne.2 (by omega)
            have HE := Lib.hid (show ls ++ listFrom (bl s) n f (k + 1) = r by
              have := HU.out
              rw [listFrom, if_pos (by rw [bl_length]; exact hlt), hget, if_neg (fun h => h34 ((eq34 _).1 (Option.some.inj h))), if_neg (fun h => h44 ((eq44 _).1 (Option.some.inj h)))] at this
              exact this)
            clear h34 h44 hget
            go_wp2_with fail
            exact ⟨⟨k + 1, f, n, o, ls, by omega, by omega, by omega, by simp, rfl, hown, by omega, HO.out, hB, HE.out⟩, by simp [intOf]; omega⟩
      · have e3 : ((k : Int) == (s.size : Int)) = true := beq_iff_eq.2 (by omega)
        have HE := Lib.hid (show ls ++ ((if trimF (piece s f k) = [] then [] else [trimF (piece s f k)]) ++ listFrom (bl s) n (k + 1) (k + 1)) = r by
          have := HU.out
          rw [listFrom, if_neg (by rw [bl_length]; exact hlt), if_pos (by rw [bl_length]; omega)] at this
          rw [listFrom_beyond _ _ _ _ (by rw [bl_length]; omega), List.append_nil]
          exact this)
        have C := Lib.hid (trim_piece s f k wr (by omega))
        generalize trimF (piece s f k) = X at *
        cases X with
        | nil =>
          have HF := Lib.hid (show ls ++ listFrom (bl s) n (k + 1) (k + 1) = r by
            have := HE.out
            rw [if_pos rfl] at this
            exact this)
          go_wp2_with fail
          refine C.out.mono ?_
          rintro e w9 ⟨rfl, rfl⟩
          go_wp2_with fail
          exact ⟨⟨k + 1, k + 1, n, o, ls, by omega, by omega, by omega, by simp, by simp, hown, by omega, HO.out, hB, HF.out⟩, by simp [intOf]; omega⟩
        | cons x X =>
          have HF := Lib.hid (show ls ++ ([x :: X] ++ listFrom (bl s) n (k + 1) (k + 1)) = r by
            have := HE.out
            rw [if_neg (by simp)] at this
            exact this)
          obtain ⟨v', w', o', hrun, own', t', ho'⟩ := run_push_str wr u3 o ls (x :: X) hown (by omega)
          have HRU := Lib.hid hrun
          have HO' := Lib.hid ho'
          clear hrun ho'
          go_wp2_with fail
          refine C.out.mono ?_
          rintro e w9 ⟨rfl, rfl⟩
          go_wp2_with (at_builtin; refine append_by rfl (.tmp 41) (.tmp 43) 48 rfl _ _ v' w' rfl rfl HRU.out ?_)
          exact ⟨ListRel.step (by omega) (by omega) own' hll HO.out hB t' HO'.out HF.out, by simp [intOf]; omega⟩
    · have HF := Lib.hid (show ls = r by
        have := HU.out
        rw [listFrom_beyond _ _ _ _ (by rw [bl_length]; omega), List.append_nil] at this
        exact this)
      go_wp2
      go_ret
      exact ⟨_, o, rfl, by rw [← HF.out]; exact hown, HO.out, hB⟩
end Go.Proofs.YtdcbcjljmjnopaaGreatDoor
