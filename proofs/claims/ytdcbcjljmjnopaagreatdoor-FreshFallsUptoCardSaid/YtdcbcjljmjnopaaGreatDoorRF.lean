/-
  What the document's own text functions do (the reference): Pair.
  Conditions: those that each theorem names.
-/
import Derived.Test.YtdcbcjljmjnopaaGreatDoorRE
namespace Go.Proofs.YtdcbcjljmjnopaaGreatDoor
open Go.RowKit


/-- Where the first '=' stands; how many bytes there are, if there is none. -/
def eqAt (l : List UInt8) : Nat := l.findIdx (· == 61)
def pairF (l : List UInt8) : Option (List UInt8 × List UInt8) :=
  if tokF (l.take (eqAt l)) = false then none
  else if eqAt l = l.length then some (lowF l, [])
  else if tokF (l.drop (eqAt l + 1)) = true then some (lowF (l.take (eqAt l)), l.drop (eqAt l + 1))
  else (unqF (l.drop (eqAt l + 1))).map fun x => (lowF (l.take (eqAt l)), x)
/-- Three results: two texts, and whether there are any. -/
def Pairs (r : Option (List UInt8 × List UInt8)) (w : World) (e : Ending) (w' : World) : Prop :=
  e = .returned (.tuple #[.string ⟨((r.map (·.1)).getD []).toArray⟩, .string ⟨((r.map (·.2)).getD []).toArray⟩, .bool r.isSome]) ∧ Below w.heap.size w w'

theorem eq61 (c : UInt8) : c = 61 ↔ (c.toNat : Int) = 61 := u8_eq c 61 (by omega)
theorem eqAt_none (l : List UInt8) (k : Nat) (h : ∀ j c, j < k → l[j]? = some c → c ≠ 61) (hk : k = l.length) : eqAt l = l.length := by
  unfold eqAt
  rw [List.findIdx_eq_length]
  intro x hx
  obtain ⟨j, hj, rfl⟩ := List.mem_iff_getElem.1 hx
  simpa using h j _ (by omega) (List.getElem?_eq_getElem hj)
theorem eqAt_some (l : List UInt8) (k : Nat) (c : UInt8) (h : ∀ j c, j < k → l[j]? = some c → c ≠ 61) (hk : l[k]? = some c) (hc : c = 61) : eqAt l = k := by
  unfold eqAt
  have hlt : k < l.length := (List.getElem?_eq_some_iff.1 hk).1
  rw [List.findIdx_eq hlt]
  refine ⟨?_, fun j hj => ?_⟩
  · have := (List.getElem?_eq_some_iff.1 hk).2
    rw [this, hc]
    rfl
  · have := h j _ hj (List.getElem?_eq_getElem (by omega))
    simpa using this

def PairRel (s : ByteArray) (w : World) (i : Value) (wx : World) : Prop := ∃ k : Nat, k ≤ s.size ∧ i = .int .i64 (k : Int) ∧ (∀ j c, j < k → (bl s)[j]? = some c → c ≠ 61) ∧ w = wx

set_option maxHeartbeats 2000000 in
set_option maxRecDepth 100000 in
theorem pair_any (s : ByteArray) (W : World) (hs : s.size ≤ 140737488351232) : Calls Tryz.prog 44 #[.string s] W (Pairs (pairF (bl s)) W) := by
  go_enter Tryz.func44, Tryz.ntmps44
  go_wp2
  go_loopw [5] (fun i wx => PairRel s W i wx) (fun i _ => s.size - (intOf i).toNat)
  case atStart => exact ⟨0, Nat.zero_le _, rfl, (fun j c h => absurd h (by omega)), rfl⟩
  case round =>
    obtain ⟨k, hk, rfl, hno, rfl⟩ := hrel
    have HNO := Lib.hid hno
    clear hno
    have hend : (k < s.size ∧ ∃ h : k < s.size, (s[k].toNat : Int) ≠ 61) ∨ (eqAt (bl s) = k ∧ (k < s.size → ∃ h : k < s.size, (s[k].toNat : Int) = 61)) := by
      by_cases hlt : k < s.size
      · by_cases h61 : (s[k].toNat : Int) = 61
        · exact .inr ⟨eqAt_some _ k _ HNO.out (bl_get s k hlt) ((eq61 _).2 h61), fun _ => ⟨hlt, h61⟩⟩
        · exact .inl ⟨hlt, hlt, h61⟩
      · exact .inr ⟨by rw [eqAt_none _ k HNO.out (by rw [bl_length]; omega), bl_length]; omega, fun h => absurd h hlt⟩
    rcases hend with ⟨hlt, _, h61⟩ | ⟨hE, h61⟩
    · have e1 : ((s[k].toNat : Int) != 61) = true := by simpa using h61
      have HN2 := Lib.hid (show ∀ j c, j < k + 1 → (bl s)[j]? = some c → c ≠ 61 by
        intro j c hj hc
        by_cases e : j = k
        · subst e
          rw [bl_get s j hlt] at hc
          rw [← Option.some.inj hc]
          exact fun h => h61 ((eq61 _).1 h)
        · exact HNO.out j c (by omega) hc)
      clear h61
      go_wp2_with fail
      exact ⟨⟨k + 1, hlt, by simp, HN2.out, rfl⟩, by simp [intOf]; omega⟩
    · have HE := Lib.hid hE
      have CT := Lib.hid (token_any (s.extract 0 k) W (by have := extract_size s 0 k; unfold maxLen; omega))
      rw [extract_bl, piece_front] at CT
      have HP := Lib.hid (show pairF (bl s) = _ from rfl)
      by_cases hlt : k < s.size
      · obtain ⟨_, h61'⟩ := h61 hlt
        have e1 : ((s[k].toNat : Int) != 61) = false := by simpa using h61'
        have e2 : ((k : Int) == (s.size : Int)) = false := beq_eq_false_iff_ne.2 (by omega)
        clear hE h61 h61' HP
        cases ht : tokF ((bl s).take k) with
        | false =>
          have HF := Lib.hid (show pairF (bl s) = none by unfold pairF; rw [HE.out, if_pos ht])
          rw [ht] at CT
          clear ht
          go_wp2_with fail
          refine CT.out.mono ?_
          rintro e w9 ⟨rfl, rfl⟩
          go_wp2_with fail
          go_ret3
          exact ⟨by rw [HF.out]; rfl, Below.refl _ _⟩
        | true =>
          rw [ht] at CT
          have CV := Lib.hid (token_any (s.extract (k + 1) s.size) W (by have := extract_size s (k + 1) s.size; unfold maxLen; omega))
          rw [extract_bl, piece_back] at CV
          have HX := Lib.hid (show s.extract (k + 1) s.size = ⟨((bl s).drop (k + 1)).toArray⟩ by rw [bl_extract, piece_back])
          have hne : ¬ eqAt (bl s) = (bl s).length := by rw [HE.out, bl_length]; omega
          cases hv : tokF ((bl s).drop (k + 1)) with
          | true =>
            have HF := Lib.hid (show pairF (bl s) = some (lowF ((bl s).take k), (bl s).drop (k + 1)) by unfold pairF; rw [if_neg hne, HE.out, if_neg (by rw [ht]; simp), if_pos hv])
            have CL := Lib.hid (fun X : World => lower_any (s.extract 0 k) X (by have := extract_size s 0 k; omega))
            rw [extract_bl, piece_front] at CL
            rw [hv] at CV
            clear ht hv hne
            go_wp2_with fail
            refine CT.out.mono ?_
            rintro e w9 ⟨rfl, rfl⟩
            go_wp2_with fail
            refine CV.out.mono ?_
            rintro e w9 ⟨rfl, rfl⟩
            go_wp2_with fail
            refine (CL.out _).mono ?_
            rintro e w9 ⟨rfl, b9⟩
            go_wp2_with fail
            go_ret3
            exact ⟨by rw [HF.out]; show Ending.returned (.tuple #[_, .string (s.extract (k + 1) s.size), _]) = _; rw [HX.out]; rfl, b9⟩
          | false =>
            have CU := Lib.hid (unquote_any (s.extract (k + 1) s.size) W (by have := extract_size s (k + 1) s.size; omega))
            rw [extract_bl, piece_back] at CU
            have CL := Lib.hid (fun X : World => lower_any (s.extract 0 k) X (by have := extract_size s 0 k; omega))
            rw [extract_bl, piece_front] at CL
            rw [hv] at CV
            have HF := Lib.hid (show pairF (bl s) = (unqF ((bl s).drop (k + 1))).map fun x => (lowF ((bl s).take k), x) by unfold pairF; rw [if_neg hne, HE.out, if_neg (by rw [ht]; simp), if_neg (by rw [hv]; simp)])
            clear ht hv hne
            generalize unqF ((bl s).drop (k + 1)) = r at *
            cases r with
            | none =>
              go_wp2_with fail
              refine CT.out.mono ?_
              rintro e w9 ⟨rfl, rfl⟩
              go_wp2_with fail
              refine CV.out.mono ?_
              rintro e w9 ⟨rfl, rfl⟩
              go_wp2_with fail
              refine CU.out.mono ?_
              rintro e w9 ⟨rfl, b9⟩
              go_wp2_with fail
              go_ret3
              exact ⟨by rw [HF.out]; rfl, b9⟩
            | some x =>
              go_wp2_with fail
              refine CT.out.mono ?_
              rintro e w9 ⟨rfl, rfl⟩
              go_wp2_with fail
              refine CV.out.mono ?_
              rintro e w9 ⟨rfl, rfl⟩
              go_wp2_with fail
              refine CU.out.mono ?_
              rintro e w9 ⟨rfl, b9⟩
              go_wp2_with fail
              refine (CL.out _).mono ?_
              rintro e w10 ⟨rfl, b10⟩
              go_wp2_with fail
              go_ret3
              exact ⟨by rw [HF.out]; rfl, b9.trans (b10.mono b9.size)⟩
      · have e2 : ((k : Int) == (s.size : Int)) = true := beq_iff_eq.2 (by omega)
        clear hE h61 HP
        cases ht : tokF ((bl s).take k) with
        | false =>
          have HF := Lib.hid (show pairF (bl s) = none by unfold pairF; rw [HE.out, if_pos ht])
          rw [ht] at CT
          clear ht
          go_wp2_with fail
          refine CT.out.mono ?_
          rintro e w9 ⟨rfl, rfl⟩
          go_wp2_with fail
          go_ret3
          exact ⟨by rw [HF.out]; rfl, Below.refl _ _⟩
        | true =>
          have HF := Lib.hid (show pairF (bl s) = some (lowF (bl s), []) by unfold pairF; rw [HE.out, if_neg (by rw [ht]; simp), if_pos (by rw [bl_length]; omega)])
          rw [ht] at CT
          clear ht
          go_wp2_with fail
          refine CT.out.mono ?_
          rintro e w9 ⟨rfl, rfl⟩
          go_wp2_with fail
          refine (lower_any s W hs).mono ?_
          rintro e w9 ⟨rfl, b9⟩
          go_wp2_with fail
          go_ret3
          exact ⟨by rw [HF.out]; rfl, b9⟩
end Go.Proofs.YtdcbcjljmjnopaaGreatDoor
