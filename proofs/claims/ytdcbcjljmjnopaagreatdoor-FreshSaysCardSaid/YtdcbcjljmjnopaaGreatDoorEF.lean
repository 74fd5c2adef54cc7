/-
  Package control's closures and numberOf.
  Conditions: none.
-/
import Derived.Test.YtdcbcjljmjnopaaGreatDoorUG
import Derived.Test.YtdcbcjljmjnopaaGreatDoorVC
import Derived.Test.YtdcbcjljmjnopaaGreatDoorKF
import Derived.Test.YtdcbcjljmjnopaaGreatDoorED
import Derived.Test.YtdcbcjljmjnopaaGreatDoorNC
namespace Go.Proofs.YtdcbcjljmjnopaaGreatDoor
open Go.RowKit

def equalS : ByteArray := ⟨#[61]⟩
/-- What Cut answers at the first '='. -/
def CutV (s : ByteArray) (k : Nat) : Value := if k < s.size then .tuple #[.string (s.extract 0 k), .string (s.extract (k + 1) s.size), .bool true] else .tuple #[.string s, .string ⟨#[]⟩, .bool false]
theorem index_eqAt (s : ByteArray) : (Lib.indexByte (bl s) 61 = -1 ∧ eqAt (bl s) = s.size) ∨ (∃ k : Nat, Lib.indexByte (bl s) 61 = (k : Int) ∧ eqAt (bl s) = k ∧ k < s.size) := by
  by_cases h : Lib.indexByte (bl s) 61 = -1
  · refine .inl ⟨h, ?_⟩
    rw [← bl_length s]
    exact eqAt_none _ _ (fun j c _ hc e => Lib.indexByte_none h j (by rw [hc, e])) rfl
  · have h1 := Lib.indexByte_ge (bl s) 61
    obtain ⟨k, hk⟩ := Int.eq_ofNat_of_zero_le (a := Lib.indexByte (bl s) 61) (by omega)
    obtain ⟨h2, h3⟩ := Lib.indexByte_some hk
    refine .inr ⟨k, hk, eqAt_some _ k 61 (fun j c hj hc e => h3 j hj (by rw [hc, e])) h2 rfl, ?_⟩
    rw [← bl_length s]
    exact (List.getElem?_eq_some_iff.1 h2).1

set_option maxHeartbeats 1000000 in
theorem lite_cut (s : ByteArray) (W : World) (hs : s.size ≤ 140737488351232) : Calls Tryz.prog 98 #[.string s, .string equalS] W fun e w' => e = .returned (CutV s (eqAt (bl s))) ∧ Quiet W w' := by
  have C := Lib.hid (Tryz.stringslite_Index_one s 61 W)
  rcases index_eqAt s with ⟨h1, h2⟩ | ⟨k, h1, h2, h3⟩
  · have C2 := Lib.hid (show Calls Tryz.prog 109 #[.string s, .string equalS] W fun e w' => e = .returned (.int .i64 (-1)) ∧ w' = W by rw [← h1]; exact C.out)
    have HF := Lib.hid (show CutV s (eqAt (bl s)) = .tuple #[.string s, .string ⟨#[]⟩, .bool false] by unfold CutV; rw [h2, if_neg (by omega)])
    clear C h1 h2
    go_enter Tryz.func98, Tryz.ntmps98
    go_wp2_with fail
    refine C2.out.mono ?_
    rintro e w1 ⟨rfl, h9⟩
    subst h9
    go_wp2_with fail
    go_ret3
    exact ⟨by rw [HF.out]; rfl, 0, rfl⟩
  · have C2 := Lib.hid (show Calls Tryz.prog 109 #[.string s, .string equalS] W fun e w' => e = .returned (.int .i64 (k : Int)) ∧ w' = W by rw [← h1]; exact C.out)
    have HF := Lib.hid (show CutV s (eqAt (bl s)) = .tuple #[.string (s.extract 0 k), .string (s.extract (k + 1) s.size), .bool true] by unfold CutV; rw [h2, if_pos h3])
    clear C h1 h2
    go_enter Tryz.func98, Tryz.ntmps98
    go_wp2_with fail
    refine C2.out.mono ?_
    rintro e w1 ⟨rfl, h9⟩
    subst h9
    go_wp2_with fail
    have hz : equalS.size = 1 := rfl
    have q1 : IntKind.i64.wrap ((k : Int) + 1) = (k : Int) + 1 := IntWalk.i64_in _ (by omega)
    have q2 : 0 ≤ (k : Int) + 1 := by omega
    have q3 : ((k : Int) + 1).toNat = k + 1 := by omega
    have q4 : (k : Int) + 1 ≤ (s.size : Int) := by omega
    have q5 : k + 1 ≤ s.size := by omega
    have q6 : (k : Int) ≤ (s.size : Int) := by omega
    have q7 : k ≤ s.size := by omega
    go_quiet (fail)
    clear q1 q2 q3 q4 q5 q6 q7
    go_wp2_with fail
    go_ret3
    exact ⟨by rw [HF.out]; rfl, nq, rfl⟩
theorem cut_any (s : ByteArray) (W : World) (hs : s.size ≤ 140737488351232) : Calls Tryz.prog 81 #[.string s, .string equalS] W fun e w' => e = .returned (CutV s (eqAt (bl s))) ∧ Quiet W w' := by
  have C := Lib.hid (lite_cut s W hs)
  by_cases h : eqAt (bl s) < s.size
  · have HF := Lib.hid (show CutV s (eqAt (bl s)) = .tuple #[.string (s.extract 0 (eqAt (bl s))), .string (s.extract (eqAt (bl s) + 1) s.size), .bool true] by unfold CutV; rw [if_pos h])
    rw [HF.out] at C ⊢
    generalize eqAt (bl s) = k at *
    go_enter Tryz.func81, Tryz.ntmps81
    go_wp2_with fail
    refine C.out.mono ?_
    rintro e w1 ⟨rfl, q1⟩
    go_wp2_with fail
    go_ret3
    exact ⟨rfl, q1⟩
  · have HF := Lib.hid (show CutV s (eqAt (bl s)) = .tuple #[.string s, .string ⟨#[]⟩, .bool false] by unfold CutV; rw [if_neg h])
    rw [HF.out] at C ⊢
    generalize eqAt (bl s) = k at *
    go_enter Tryz.func81, Tryz.ntmps81
    go_wp2_with fail
    refine C.out.mono ?_
    rintro e w1 ⟨rfl, q1⟩
    go_wp2_with fail
    go_ret3
    exact ⟨rfl, q1⟩

set_option maxHeartbeats 4000000 in
theorem ty_pair (s : ByteArray) (W : World) (hs : s.size ≤ 140737488351232) : Calls Tryz.prog 60 #[.string s] W (Pairs (pairF (bl s)) W) := by
  have CC := Lib.hid (cut_any s W hs)
  obtain ⟨k, hk⟩ : ∃ k, eqAt (bl s) = k := ⟨_, rfl⟩
  have hks : k ≤ s.size := by
    rw [← hk, ← bl_length]
    exact List.findIdx_le_length
  rw [hk] at CC
  have HE := Lib.hid hk
  clear hk
  unfold CutV at CC
  by_cases hlt : k < s.size
  · rw [if_pos hlt] at CC
    have hne : ¬ eqAt (bl s) = (bl s).length := by rw [HE.out, bl_length]; omega
    have CT := Lib.hid (fun X : World => ty_token (s.extract 0 k) X)
    rw [extract_bl, piece_front] at CT
    cases ht : tokF ((bl s).take k) with
    | false =>
      have HF := Lib.hid (show pairF (bl s) = none by unfold pairF; rw [HE.out, if_pos ht])
      rw [ht] at CT
      clear ht hne
      go_enter Tryz.func60, Tryz.ntmps60
      go_wp2_with fail
      refine CC.out.mono ?_
      rintro e w1 ⟨rfl, q1⟩
      have b1 := q1.turn.below (fun _ _ h => h)
      go_wp2_with fail
      refine (CT.out _).mono ?_
      rintro e w2 ⟨rfl, b2⟩
      go_wp2_with fail
      go_ret3
      exact ⟨by rw [HF.out]; rfl, b1.trans (b2.mono b1.size)⟩
    | true =>
      rw [ht] at CT
      have CV := Lib.hid (fun X : World => ty_token (s.extract (k + 1) s.size) X)
      rw [extract_bl, piece_back] at CV
      have CL := Lib.hid (fun X : World => ty_lower (s.extract 0 k) X)
      rw [extract_bl, piece_front] at CL
      have HX := Lib.hid (show s.extract (k + 1) s.size = ⟨((bl s).drop (k + 1)).toArray⟩ by rw [bl_extract, piece_back])
      cases hv : tokF ((bl s).drop (k + 1)) with
      | true =>
        have HF := Lib.hid (show pairF (bl s) = some (lowF ((bl s).take k), (bl s).drop (k + 1)) by unfold pairF; rw [if_neg hne, HE.out, if_neg (by rw [ht]; simp), if_pos hv])
        have CK := Lib.hid (fun X : World => clone_any (s.extract (k + 1) s.size) X (by have := extract_size s (k + 1) s.size; omega))
        rw [hv] at CV
        clear ht hv hne
        go_enter Tryz.func60, Tryz.ntmps60
        go_wp2_with fail
        refine CC.out.mono ?_
        rintro e w1 ⟨rfl, q1⟩
        have b1 := q1.turn.below (fun _ _ h => h)
        go_wp2_with fail
        refine (CT.out _).mono ?_
        rintro e w2 ⟨rfl, b2⟩
        go_wp2_with fail
        refine (CV.out _).mono ?_
        rintro e w3 ⟨rfl, b3⟩
        go_wp2_with fail
        refine (CL.out _).mono ?_
        rintro e w4 ⟨rfl, b4⟩
        go_wp2_with fail
        refine (CK.out _).mono ?_
        rintro e w5 ⟨rfl, b5⟩
        go_wp2_with fail
        go_ret3
        have b12 := b1.trans (b2.mono b1.size)
        have b13 := b12.trans (b3.mono b12.size)
        have b14 := b13.trans (b4.mono b13.size)
        exact ⟨by rw [HF.out]; show Ending.returned (.tuple #[_, .string (s.extract (k + 1) s.size), _]) = _; rw [HX.out]; rfl, b14.trans (b5.mono b14.size)⟩
      | false =>
        have CU := Lib.hid (fun X : World => ty_unquote (s.extract (k + 1) s.size) X (by have := extract_size s (k + 1) s.size; omega))
        rw [extract_bl, piece_back] at CU
        rw [hv] at CV
        have HF := Lib.hid (show pairF (bl s) = (unqF ((bl s).drop (k + 1))).map fun x => (lowF ((bl s).take k), x) by unfold pairF; rw [if_neg hne, HE.out, if_neg (by rw [ht]; simp), if_neg (by rw [hv]; simp)])
        clear ht hv hne
        generalize unqF ((bl s).drop (k + 1)) = r at *
        cases r with
        | none =>
          go_enter Tryz.func60, Tryz.ntmps60
          go_wp2_with fail
          refine CC.out.mono ?_
          rintro e w1 ⟨rfl, q1⟩
          have b1 := q1.turn.below (fun _ _ h => h)
          go_wp2_with fail
          refine (CT.out _).mono ?_
          rintro e w2 ⟨rfl, b2⟩
          go_wp2_with fail
          refine (CV.out _).mono ?_
          rintro e w3 ⟨rfl, b3⟩
          go_wp2_with fail
          refine (CU.out _).mono ?_
          rintro e w4 ⟨rfl, b4⟩
          go_wp2_with fail
          go_ret3
          have b12 := b1.trans (b2.mono b1.size)
          have b13 := b12.trans (b3.mono b12.size)
          exact ⟨by rw [HF.out]; rfl, b13.trans (b4.mono b13.size)⟩
        | some x =>
          go_enter Tryz.func60, Tryz.ntmps60
          go_wp2_with fail
          refine CC.out.mono ?_
          rintro e w1 ⟨rfl, q1⟩
          have b1 := q1.turn.below (fun _ _ h => h)
          go_wp2_with fail
          refine (CT.out _).mono ?_
          rintro e w2 ⟨rfl, b2⟩
          go_wp2_with fail
          refine (CV.out _).mono ?_
          rintro e w3 ⟨rfl, b3⟩
          go_wp2_with fail
          refine (CU.out _).mono ?_
          rintro e w4 ⟨rfl, b4⟩
          go_wp2_with fail
          refine (CL.out _).mono ?_
          rintro e w5 ⟨rfl, b5⟩
          go_wp2_with fail
          go_ret3
          have b12 := b1.trans (b2.mono b1.size)
          have b13 := b12.trans (b3.mono b12.size)
          have b14 := b13.trans (b4.mono b13.size)
          exact ⟨by rw [HF.out]; rfl, b14.trans (b5.mono b14.size)⟩
  · rw [if_neg hlt] at CC
    have CT := Lib.hid (fun X : World => ty_token s X)
    have hk2 : k = s.size := by omega
    have HT := Lib.hid (show (bl s).take k = bl s from List.take_of_length_le (by rw [bl_length]; omega))
    cases ht : tokF (bl s) with
    | false =>
      have HF := Lib.hid (show pairF (bl s) = none by unfold pairF; rw [HE.out, HT.out, if_pos ht])
      rw [ht] at CT
      clear ht hk2
      go_enter Tryz.func60, Tryz.ntmps60
      go_wp2_with fail
      refine CC.out.mono ?_
      rintro e w1 ⟨rfl, q1⟩
      have b1 := q1.turn.below (fun _ _ h => h)
      go_wp2_with fail
      refine (CT.out _).mono ?_
      rintro e w2 ⟨rfl, b2⟩
      go_wp2_with fail
      go_ret3
      exact ⟨by rw [HF.out]; rfl, b1.trans (b2.mono b1.size)⟩
    | true =>
      have HF := Lib.hid (show pairF (bl s) = some (lowF (bl s), []) by unfold pairF; rw [HE.out, HT.out, if_neg (by rw [ht]; simp), if_pos (by rw [bl_length]; omega)])
      rw [ht] at CT
      clear ht hk2
      go_enter Tryz.func60, Tryz.ntmps60
      go_wp2_with fail
      refine CC.out.mono ?_
      rintro e w1 ⟨rfl, q1⟩
      have b1 := q1.turn.below (fun _ _ h => h)
      go_wp2_with fail
      refine (CT.out _).mono ?_
      rintro e w2 ⟨rfl, b2⟩
      go_wp2_with fail
      refine (ty_lower s _).mono ?_
      rintro e w3 ⟨rfl, b3⟩
      go_wp2_with fail
      go_ret3
      have b12 := b1.trans (b2.mono b1.size)
      exact ⟨by rw [HF.out]; rfl, b12.trans (b3.mono b12.size)⟩
theorem tx_pair (s : ByteArray) (W : World) (hs : s.size ≤ 1000000000) : Calls Tryz.prog 60 #[.string s] W (Pairs (pairF (bl s)) W) := ty_pair s W (by omega)
end Go.Proofs.YtdcbcjljmjnopaaGreatDoor

namespace Go.Proofs.YtdcbcjljmjnopaaGreatDoor.Hop
open Go.RowKit

theorem flds_take : ∀ (ls : List Fld) (k : Nat), (flds ls).take (k * 2) = flds (ls.take k)
  | [], k => by simp [flds]
  | f :: r, 0 => by simp [flds]
  | f :: r, k + 1 => by
    show ([strV f.1, strV f.2] ++ flds r).take ((k + 1) * 2) = [strV f.1, strV f.2] ++ flds (r.take k)
    rw [show (k + 1) * 2 = k * 2 + 1 + 1 by omega, ← flds_take r k]
    rfl
theorem set_two (l : List Value) (k : Nat) (a b : Value) (h : k * 2 + 1 < l.length) : ((l.set (k * 2) a).set (k * 2 + 1) b).take ((k + 1) * 2) = l.take (k * 2) ++ [a, b] := by
  rw [show (k + 1) * 2 = k * 2 + 1 + 1 by omega, List.take_add_one, List.take_set_of_le (Nat.le_refl _), List.take_add_one, List.take_set_of_le (Nat.le_refl _)]
  rw [List.getElem?_set_self (by omega), List.getElem?_set_self (by rw [List.length_set]; omega)]
  simp
theorem zero_fld (w : World) : (zeroValue 42).run Tryz.prog w = .ok (.agg #[.string ⟨#[]⟩, .string ⟨#[]⟩]) w := by kernel_rfl


end Go.Proofs.YtdcbcjljmjnopaaGreatDoor.Hop

namespace Go.Proofs.YtdcbcjljmjnopaaGreatDoor.Con
open Go.RowKit Hop

theorem cont_snoc (ls : List Fld) (k : Nat) (f : Fld) (h : ls[k]? = some f) : contB (ls.take (k + 1)) = (contB (ls.take k) || lowF f.1 == ccN) := by
  unfold contB
  rw [take_snoc ls k f h, List.any_append]
  simp
theorem prag_snoc (es : List (List UInt8)) (k : Nat) (x : List UInt8) (h : es[k]? = some x) : pragB (es.take (k + 1)) = (pragB (es.take k) || lowF x == noCacheN) := by
  unfold pragB
  rw [take_snoc es k x h, List.any_append]
  simp
theorem cont_low (ls : List Fld) : ls.any (fun f => lowF f.1 == lowF ccN) = contB ls := by
  unfold contB
  rw [show lowF ccN = ccN by decide]

end Go.Proofs.YtdcbcjljmjnopaaGreatDoor.Con

namespace Go.Proofs.YtdcbcjljmjnopaaGreatDoor.Con
open Go.RowKit Hop

theorem max_cast (a b : Nat) : ((max a b : Nat) : Int) = max (a : Int) (b : Int) := by omega
theorem min_cast (a b : Nat) : ((min a b : Nat) : Int) = min (a : Int) (b : Int) := by omega
theorem pick_res (nm : ByteArray) (a b : Nat) (w : World) : Calls Tryz.prog 37 #[.string nm, .int .i64 (a : Int), .int .i64 (b : Int)] w fun e w' => e = .returned (.int .i64 (pickO false (bl nm) a b : Nat)) ∧ w' = w := by
  have HF := Lib.hid (show pickO false (bl nm) a b = min a b from rfl)
  go_enter Tryz.func37, Tryz.ntmps37
  go_wp2_with fail
  go_ret
  exact ⟨by rw [HF.out, min_cast]; rfl, rfl⟩

theorem read_cap (v : List UInt8) : (readF 10 v).2 ≠ 3 → min (readF 10 v).1 2147483647 = capN v := by
  unfold readF capN
  split
  · intro _; rfl
  · split
    · split
      · intro _; rfl
      · intro h; exact absurd rfl h
    · intro _; rfl
theorem read_long (v : List UInt8) : (readF 10 v).2 = 3 → capN v = Top := by
  unfold readF capN
  split
  · intro h; cases h
  · split
    · split
      · intro h; cases h
      · next hm =>
        intro _
        refine Nat.min_eq_right ?_
        simp only [YtdcbcjljmjnopaaGreatDoor.Most, Top] at *
        omega
    · intro h; cases h
theorem read_val (v : List UInt8) : (readF 10 v).1 ≤ 9007199254740991 ∧ (readF 10 v).2 ≤ 5 := by
  unfold readF
  split
  · exact ⟨by simp, by simp⟩
  · split
    · split
      · next h => exact ⟨h, by simp⟩
      · exact ⟨by simp, by simp⟩
    · exact ⟨by simp, by simp⟩

set_option maxHeartbeats 4000000 in
theorem numof_any (nm v : ByteArray) (w : World) : Calls Tryz.prog 61 #[.string nm, .string v] w fun e w' => e = .returned (.int .i64 (numD (bl nm, bl v) : Nat)) ∧ Below w.heap.size w w' := by
  have htl : nm.toList = bl nm := Lib.toList_data nm
  have hvl : v.toList = bl v := Lib.toList_data v
  have CD := Lib.hid (decimal_any v w)
  unfold Read at CD
  have go : ∀ (hn : numD (bl nm, bl v) = capN (bl v)), Hid ((nm.toList == [109, 97, 120, 45, 115, 116, 97, 108, 101]) = false ∨ ((nm.toList == [109, 97, 120, 45, 115, 116, 97, 108, 101]) = true ∧ v.toList.isEmpty = false ∧ (v.toList == []) = false)) → Calls Tryz.prog 61 #[.string nm, .string v] w fun e w' => e = .returned (.int .i64 (numD (bl nm, bl v) : Nat)) ∧ Below w.heap.size w w' := by
    intro hn hor
    obtain ⟨h1, h2⟩ := read_val (bl v)
    have HC := Lib.hid (read_cap (bl v))
    have HL := Lib.hid (read_long (bl v))
    rw [hn]
    clear hn htl hvl
    generalize capN (bl v) = q at *
    generalize (readF 10 (bl v)).1 = r1 at *
    generalize (readF 10 (bl v)).2 = r2 at *
    by_cases h3 : r2 = 3
    · have HQ := Lib.hid (HL.out h3)
      subst h3
      clear HL HC
      rcases hor.out with e1 | ⟨e1, e2, e3⟩
      · clear hor
        go_enter Tryz.func61, Tryz.ntmps61
        go_wp2_with fail
        refine CD.out.mono ?_
        rintro e w1 ⟨rfl, b1⟩
        go_wp2_with fail
        go_ret
        exact ⟨by rw [HQ.out]; rfl, b1⟩
      · clear hor
        go_enter Tryz.func61, Tryz.ntmps61
        go_wp2_with fail
        refine CD.out.mono ?_
        rintro e w1 ⟨rfl, b1⟩
        go_wp2_with fail
        go_ret
        exact ⟨by rw [HQ.out]; rfl, b1⟩
    · have HQ := Lib.hid (HC.out h3)
      have e9 : ((r2 : Int) == 3) = false := beq_eq_false_iff_ne.2 (by omega)
      clear HL HC h3
      rcases hor.out with e1 | ⟨e1, e2, e3⟩
      · clear hor
        go_enter Tryz.func61, Tryz.ntmps61
        go_wp2_with fail
        refine CD.out.mono ?_
        rintro e w1 ⟨rfl, b1⟩
        go_wp2_with fail
        go_ret
        exact ⟨by rw [← HQ.out]; congr 2; go_num, b1⟩
      · clear hor
        go_enter Tryz.func61, Tryz.ntmps61
        go_wp2_with fail
        refine CD.out.mono ?_
        rintro e w1 ⟨rfl, b1⟩
        go_wp2_with fail
        go_ret
        exact ⟨by rw [← HQ.out]; congr 2; go_num, b1⟩
  by_cases hs : bl nm = staleN
  · have e1 : (nm.toList == [109, 97, 120, 45, 115, 116, 97, 108, 101]) = true := by rw [htl, hs]; decide
    by_cases hv : bl v = []
    · have e2 : v.toList.isEmpty = true := by rw [hvl, hv]; rfl
      have e3 : (v.toList == []) = true := by rw [hvl, hv]; rfl
      have HF := Lib.hid (show numD (bl nm, bl v) = Top by unfold numD; rw [if_pos ⟨hs, hv⟩])
      clear hs hv htl hvl CD go
      go_enter Tryz.func61, Tryz.ntmps61
      go_wp2_with fail
      go_ret
      exact ⟨by rw [HF.out]; rfl, Below.refl _ _⟩
    · refine go (by unfold numD; rw [if_neg (fun x => hv x.2)]) (Lib.hid (.inr ⟨e1, ?_, ?_⟩))
      · rw [hvl]
        cases hq : bl v with
        | nil => exact absurd hq hv
        | cons _ _ => rfl
      · rw [hvl]
        exact beq_eq_false_iff_ne.2 hv
  · refine go (numD_not (bl nm, bl v) hs) (Lib.hid (.inl ?_))
    rw [htl]
    exact beq_eq_false_iff_ne.2 hs
end Go.Proofs.YtdcbcjljmjnopaaGreatDoor.Con
