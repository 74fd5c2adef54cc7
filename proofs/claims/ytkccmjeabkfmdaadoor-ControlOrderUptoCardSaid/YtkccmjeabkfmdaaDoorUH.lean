/-
  What package text's Pair does, call by call.
  Conditions: those that each theorem names.
-/
import Derived.Test.YtkccmjeabkfmdaaDoorUG
namespace Go.Proofs.YtkccmjeabkfmdaaDoor
open Go.RowKit

def equalS : ByteArray := ⟨#[61]⟩
/-- What Cut answers at the first '='. -/
def CutV (s : ByteArray) (k : Nat) : Value := if k < s.size then .tuple #[.string (s.extract 0 k), .string (s.extract (k + 1) s.size), .bool true] else .tuple #[.string s, .string ⟨#[]⟩, .bool false]
theorem index_eqAt (s : ByteArray) : (Lib.indexByte (bl s) 61 = -1 ∧ eqAt (bl s) = s.size) ∨ (∃ k : Nat, Lib.indexByte (bl s) 61 = (k : Int) ∧ eqAt (bl s) = k ∧ k < s.size) := by
  by_cases h : Lib.indexByte (bl s) 61 = -1
  · refine .inl ⟨h, ?_⟩
    rw [← bl_length s]
    exact eqAt_none _ _ (fun j c _ hc e => Lib.indexByte_none h j (by rw [hc, e])) rfl
  · have h1 := Lib.indexByte_ge (bl s) 61
    obtain ⟨k, hk⟩ := Int.eq_ofNat_of_zero_le (a := Lib.indexByte (bl s) 61) (by omega)
    obtain ⟨h2, h3⟩ := Lib.indexByte_some hk
    refine .inr ⟨k, hk, eqAt_some _ k 61 (fun j c hj hc e => h3 j hj (by rw [hc, e])) h2 rfl, ?_⟩
    rw [← bl_length s]
    exact (List.getElem?_eq_some_iff.1 h2).1

set_option maxHeartbeats 1000000 in
theorem lite_cut (s : ByteArray) (W : World) (hs : s.size ≤ 140737488351232) : Calls Tryd.prog 67 #[.string s, .string equalS] W fun e w' => e = .returned (CutV s (eqAt (bl s))) ∧ Quiet W w' := by
  have C := Lib.hid (Tryd.stringslite_Index_one s 61 W)
  rcases index_eqAt s with ⟨h1, h2⟩ | ⟨k, h1, h2, h3⟩
  · have C2 := Lib.hid (show Calls Tryd.prog 78 #[.string s, .string equalS] W fun e w' => e = .returned (.int .i64 (-1)) ∧ w' = W by rw [← h1]; exact C.out)
    have HF := Lib.hid (show CutV s (eqAt (bl s)) = .tuple #[.string s, .string ⟨#[]⟩, .bool false] by unfold CutV; rw [h2, if_neg (by omega)])
    clear C h1 h2
    go_enter Tryd.func67, Tryd.ntmps67
    go_wp2_with fail
    refine C2.out.mono ?_
    rintro e w1 ⟨rfl, h9⟩
    subst h9
    go_wp2_with fail
    go_ret3
    exact ⟨by rw [HF.out]; rfl, 0, rfl⟩
  · have C2 := Lib.hid (show Calls Tryd.prog 78 #[.string s, .string equalS] W fun e w' => e = .returned (.int .i64 (k : Int)) ∧ w' = W by rw [← h1]; exact C.out)
    have HF := Lib.hid (show CutV s (eqAt (bl s)) = .tuple #[.string (s.extract 0 k), .string (s.extract (k + 1) s.size), .bool true] by unfold CutV; rw [h2, if_pos h3])
    clear C h1 h2
    go_enter Tryd.func67, Tryd.ntmps67
    go_wp2_with fail
    refine C2.out.mono ?_
    rintro e w1 ⟨rfl, h9⟩
    subst h9
    go_wp2_with fail
    have hz : equalS.size = 1 := rfl
    have q1 : IntKind.i64.wrap ((k : Int) + 1) = (k : Int) + 1 := IntWalk.i64_in _ (by omega)
    have q2 : 0 ≤ (k : Int) + 1 := by omega
    have q3 : ((k : Int) + 1).toNat = k + 1 := by omega
    have q4 : (k : Int) + 1 ≤ (s.size : Int) := by omega
    have q5 : k + 1 ≤ s.size := by omega
    have q6 : (k : Int) ≤ (s.size : Int) := by omega
    have q7 : k ≤ s.size := by omega
    go_quiet (fail)
    clear q1 q2 q3 q4 q5 q6 q7
    go_wp2_with fail
    go_ret3
    exact ⟨by rw [HF.out]; rfl, nq, rfl⟩
theorem cut_any (s : ByteArray) (W : World) (hs : s.size ≤ 140737488351232) : Calls Tryd.prog 50 #[.string s, .string equalS] W fun e w' => e = .returned (CutV s (eqAt (bl s))) ∧ Quiet W w' := by
  have C := Lib.hid (lite_cut s W hs)
  by_cases h : eqAt (bl s) < s.size
  · have HF := Lib.hid (show CutV s (eqAt (bl s)) = .tuple #[.string (s.extract 0 (eqAt (bl s))), .string (s.extract (eqAt (bl s) + 1) s.size), .bool true] by unfold CutV; rw [if_pos h])
    rw [HF.out] at C ⊢
    generalize eqAt (bl s) = k at *
    go_enter Tryd.func50, Tryd.ntmps50
    go_wp2_with fail
    refine C.out.mono ?_
    rintro e w1 ⟨rfl, q1⟩
    go_wp2_with fail
    go_ret3
    exact ⟨rfl, q1⟩
  · have HF := Lib.hid (show CutV s (eqAt (bl s)) = .tuple #[.string s, .string ⟨#[]⟩, .bool false] by unfold CutV; rw [if_neg h])
    rw [HF.out] at C ⊢
    generalize eqAt (bl s) = k at *
    go_enter Tryd.func50, Tryd.ntmps50
    go_wp2_with fail
    refine C.out.mono ?_
    rintro e w1 ⟨rfl, q1⟩
    go_wp2_with fail
    go_ret3
    exact ⟨rfl, q1⟩

set_option maxHeartbeats 4000000 in
theorem ty_pair (s : ByteArray) (W : World) (hs : s.size ≤ 140737488351232) : Calls Tryd.prog 35 #[.string s] W (Pairs (pairF (bl s)) W) := by
  have CC := Lib.hid (cut_any s W hs)
  obtain ⟨k, hk⟩ : ∃ k, eqAt (bl s) = k := ⟨_, rfl⟩
  have hks : k ≤ s.size := by
    rw [← hk, ← bl_length]
    exact List.findIdx_le_length
  rw [hk] at CC
  have HE := Lib.hid hk
  clear hk
  unfold CutV at CC
  by_cases hlt : k < s.size
  · rw [if_pos hlt] at CC
    have hne : ¬ eqAt (bl s) = (bl s).length := by rw [HE.out, bl_length]; omega
    have CT := Lib.hid (fun X : World => ty_token (s.extract 0 k) X)
    rw [extract_bl, piece_front] at CT
    cases ht : tokF ((bl s).take k) with
    | false =>
      have HF := Lib.hid (show pairF (bl s) = none by unfold pairF; rw [HE.out, if_pos ht])
      rw [ht] at CT
      clear ht hne
      go_enter Tryd.func35, Tryd.ntmps35
      go_wp2_with fail
      refine CC.out.mono ?_
      rintro e w1 ⟨rfl, q1⟩
      have b1 := q1.turn.below (fun _ _ h => h)
      go_wp2_with fail
      refine (CT.out _).mono ?_
      rintro e w2 ⟨rfl, b2⟩
      go_wp2_with fail
      go_ret3
      exact ⟨by rw [HF.out]; rfl, b1.trans (b2.mono b1.size)⟩
    | true =>
      rw [ht] at CT
      have CV := Lib.hid (fun X : World => ty_token (s.extract (k + 1) s.size) X)
      rw [extract_bl, piece_back] at CV
      have CL := Lib.hid (fun X : World => ty_lower (s.extract 0 k) X)
      rw [extract_bl, piece_front] at CL
      have HX := Lib.hid (show s.extract (k + 1) s.size = ⟨((bl s).drop (k + 1)).toArray⟩ by rw [bl_extract, piece_back])
      cases hv : tokF ((bl s).drop (k + 1)) with
      | true =>
        have HF := Lib.hid (show pairF (bl s) = some (lowF ((bl s).take k), (bl s).drop (k + 1)) by unfold pairF; rw [if_neg hne, HE.out, if_neg (by rw [ht]; simp), if_pos hv])
        have CK := Lib.hid (fun X : World => clone_any (s.extract (k + 1) s.size) X (by have := extract_size s (k + 1) s.size; omega))
        rw [hv] at CV
        clear ht hv hne
        go_enter Tryd.func35, Tryd.ntmps35
        go_wp2_with fail
        refine CC.out.mono ?_
        rintro e w1 ⟨rfl, q1⟩
        have b1 := q1.turn.below (fun _ _ h => h)
        go_wp2_with fail
        refine (CT.out _).mono ?_
        rintro e w2 ⟨rfl, b2⟩
        go_wp2_with fail
        refine (CV.out _).mono ?_
        rintro e w3 ⟨rfl, b3⟩
        go_wp2_with fail
        refine (CL.out _).mono ?_
        rintro e w4 ⟨rfl, b4⟩
        go_wp2_with fail
        refine (CK.out _).mono ?_
        rintro e w5 ⟨rfl, b5⟩
        go_wp2_with fail
        go_ret3
        have b12 := b1.trans (b2.mono b1.size)
        have b13 := b12.trans (b3.mono b12.size)
        have b14 := b13.trans (b4.mono b13.size)
        exact ⟨by rw [HF.out]; show Ending.returned (.tuple #[_, .string (s.extract (k + 1) s.size), _]) = _; rw [HX.out]; rfl, b14.trans (b5.mono b14.size)⟩
      | false =>
        have CU := Lib.hid (fun X : World => ty_unquote (s.extract (k + 1) s.size) X (by have := extract_size s (k + 1) s.size; omega))
        rw [extract_bl, piece_back] at CU
        rw [hv] at CV
        have HF := Lib.hid (show pairF (bl s) = (unqF ((bl s).drop (k + 1))).map fun x => (lowF ((bl s).take k), x) by unfold pairF; rw [if_neg hne, HE.out, if_neg (by rw [ht]; simp), if_neg (by rw [hv]; simp)])
        clear ht hv hne
        generalize unqF ((bl s).drop (k + 1)) = r at *
        cases r with
        | none =>
          go_enter Tryd.func35, Tryd.ntmps35
          go_wp2_with fail
          refine CC.out.mono ?_
          rintro e w1 ⟨rfl, q1⟩
          have b1 := q1.turn.below (fun _ _ h => h)
          go_wp2_with fail
          refine (CT.out _).mono ?_
          rintro e w2 ⟨rfl, b2⟩
          go_wp2_with fail
          refine (CV.out _).mono ?_
          rintro e w3 ⟨rfl, b3⟩
          go_wp2_with fail
          refine (CU.out _).mono ?_
          rintro e w4 ⟨rfl, b4⟩
          go_wp2_with fail
          go_ret3
          have b12 := b1.trans (b2.mono b1.size)
          have b13 := b12.trans (b3.mono b12.size)
          exact ⟨by rw [HF.out]; rfl, b13.trans (b4.mono b13.size)⟩
        | some x =>
          go_enter Tryd.func35, Tryd.ntmps35
          go_wp2_with fail
          refine CC.out.mono ?_
          rintro e w1 ⟨rfl, q1⟩
          have b1 := q1.turn.below (fun _ _ h => h)
          go_wp2_with fail
          refine (CT.out _).mono ?_
          rintro e w2 ⟨rfl, b2⟩
          go_wp2_with fail
          refine (CV.out _).mono ?_
          rintro e w3 ⟨rfl, b3⟩
          go_wp2_with fail
          refine (CU.out _).mono ?_
          rintro e w4 ⟨rfl, b4⟩
          go_wp2_with fail
          refine (CL.out _).mono ?_
          rintro e w5 ⟨rfl, b5⟩
          go_wp2_with fail
          go_ret3
          have b12 := b1.trans (b2.mono b1.size)
          have b13 := b12.trans (b3.mono b12.size)
          have b14 := b13.trans (b4.mono b13.size)
          exact ⟨by rw [HF.out]; rfl, b14.trans (b5.mono b14.size)⟩
  · rw [if_neg hlt] at CC
    have CT := Lib.hid (fun X : World => ty_token s X)
    have hk2 : k = s.size := by omega
    have HT := Lib.hid (show (bl s).take k = bl s from List.take_of_length_le (by rw [bl_length]; omega))
    cases ht : tokF (bl s) with
    | false =>
      have HF := Lib.hid (show pairF (bl s) = none by unfold pairF; rw [HE.out, HT.out, if_pos ht])
      rw [ht] at CT
      clear ht hk2
      go_enter Tryd.func35, Tryd.ntmps35
      go_wp2_with fail
      refine CC.out.mono ?_
      rintro e w1 ⟨rfl, q1⟩
      have b1 := q1.turn.below (fun _ _ h => h)
      go_wp2_with fail
      refine (CT.out _).mono ?_
      rintro e w2 ⟨rfl, b2⟩
      go_wp2_with fail
      go_ret3
      exact ⟨by rw [HF.out]; rfl, b1.trans (b2.mono b1.size)⟩
    | true =>
      have HF := Lib.hid (show pairF (bl s) = some (lowF (bl s), []) by unfold pairF; rw [HE.out, HT.out, if_neg (by rw [ht]; simp), if_pos (by rw [bl_length]; omega)])
      rw [ht] at CT
      clear ht hk2
      go_enter Tryd.func35, Tryd.ntmps35
      go_wp2_with fail
      refine CC.out.mono ?_
      rintro e w1 ⟨rfl, q1⟩
      have b1 := q1.turn.below (fun _ _ h => h)
      go_wp2_with fail
      refine (CT.out _).mono ?_
      rintro e w2 ⟨rfl, b2⟩
      go_wp2_with fail
      refine (ty_lower s _).mono ?_
      rintro e w3 ⟨rfl, b3⟩
      go_wp2_with fail
      go_ret3
      have b12 := b1.trans (b2.mono b1.size)
      exact ⟨by rw [HF.out]; rfl, b12.trans (b3.mono b12.size)⟩
theorem tx_pair (s : ByteArray) (W : World) (hs : s.size ≤ 1000000000) : Calls Tryd.prog 35 #[.string s] W (Pairs (pairF (bl s)) W) := ty_pair s W (by omega)
end Go.Proofs.YtkccmjeabkfmdaaDoor
