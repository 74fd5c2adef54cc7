/-
  What package start's mayAsk, mayTell, PutRequest, PutStatus do.
  Conditions: those that each theorem names; Go's table of powers of ten is as its text lays it.
-/
import Derived.Test.YteggdakbebnjfaaDoorGD
namespace Go.Proofs.YteggdakbebnjfaaDoor
open Go.RowKit

theorem vers_01 {n : Int} (h : n = 0 ∨ n = 1) : versI n = versL n.toNat := by
  rcases h with rfl | rfl
  · exact itoa_01 0 (by omega)
  · exact itoa_01 1 (by omega)
theorem vers_size (n : Int) (hn : I64 n) : (versI n).length ≤ 27 ∧ (minB n = true → (versI n).length = 8) := by
  constructor
  · have := itoa_len n hn
    unfold versI
    simp
    omega
  · intro h
    have : n = 0 ∨ n = 1 := by unfold minB at h; simpa using h
    rw [vers_01 this]
    rfl
theorem ask_eq (n : Int) (m t : ByteArray) (hn : I64 n) : (putReqF n (bl m) (bl t)).isSome = (decide (m.size + t.size + 2 + (versI n).length ≤ 512) && decide (m.size ≤ 32) && tokF (bl m) && targF (bl t) && minB n) := by
  obtain ⟨_, h8⟩ := vers_size n hn
  unfold putReqF
  cases hmb : minB n with
  | false =>
    have : ¬ (n = 0 ∨ n = 1) := by unfold minB at hmb; simpa using hmb
    rw [if_neg (fun h => this h.1)]
    simp
  | true =>
    have h01 : n = 0 ∨ n = 1 := by unfold minB at hmb; simpa using hmb
    rw [h8 hmb]
    rw [bl_length, bl_length]
    split
    · rename_i h
      obtain ⟨_, h1, h2, h3, h4⟩ := h
      rw [h1, h3, decide_eq_true h2, decide_eq_true (by omega)]
      rfl
    · rename_i h
      rw [Option.isSome_none, eq_comm, Bool.eq_false_iff]
      intro h'
      simp only [Bool.and_eq_true, decide_eq_true_eq] at h'
      exact h ⟨h01, h'.1.1.2, h'.1.1.1.2, h'.1.2, by omega⟩
theorem tell_eq (n st : Int) (r : ByteArray) (hn : I64 n) : (putStatF n st (bl r)).isSome = (decide ((versI n).length + 5 + r.size ≤ 512) && minB n && decide (100 ≤ st) && decide (st ≤ 599) && visF (bl r)) := by
  obtain ⟨_, h8⟩ := vers_size n hn
  unfold putStatF
  cases hmb : minB n with
  | false =>
    have : ¬ (n = 0 ∨ n = 1) := by unfold minB at hmb; simpa using hmb
    rw [if_neg (fun h => this h.1)]
    simp
  | true =>
    have h01 : n = 0 ∨ n = 1 := by unfold minB at hmb; simpa using hmb
    rw [h8 hmb]
    rw [bl_length]
    split
    · rename_i h
      obtain ⟨_, h1, h2, h3, h4⟩ := h
      rw [h3, decide_eq_true h1, decide_eq_true h2, decide_eq_true (by omega)]
      rfl
    · rename_i h
      rw [Option.isSome_none, eq_comm, Bool.eq_false_iff]
      intro h'
      simp only [Bool.and_eq_true, decide_eq_true_eq] at h'
      exact h ⟨h01, h'.1.1.2, h'.1.2, h'.2, by omega⟩

set_option maxHeartbeats 4000000 in
theorem mayask_any (m t : ByteArray) (n : Int) (w : World) (hm : m.size ≤ 140737488355328) (ht : t.size ≤ 140737488355328) (hn : I64 n) (hp : PowT w) :
    Calls Tryd.prog 22 #[.string m, .string t, .int .i64 n] w fun e w' => e = .returned (.bool (putReqF n (bl m) (bl t)).isSome) ∧ Below w.heap.size w w' := by
  have CV := Lib.hid (version_any n w hn hp)
  have CT := Lib.hid (fun X : World => ty_token m X)
  have CG := Lib.hid (fun X : World => istarg_any t X (by omega))
  have CM := Lib.hid (fun X : World => isminor_any n X)
  rw [ask_eq n m t hn]
  obtain ⟨hvl, _⟩ := vers_size n hn
  clear hp hn
  generalize versI n = V at *
  by_cases h1 : m.size + t.size + 2 + V.length ≤ 512
  · rw [decide_eq_true h1]
    by_cases h2 : m.size ≤ 32
    · rw [decide_eq_true h2]
      cases h3 : tokF (bl m) with
      | true =>
        rw [h3] at CT
        cases h4 : targF (bl t) with
        | true =>
          rw [h4] at CG
          clear h3 h4
          go_enter Tryd.func22, Tryd.ntmps22
          go_wp2_with fail
          refine CV.out.mono ?_
          rintro e w1 ⟨rfl, b1⟩
          go_wp2_with fail
          refine (CT.out _).mono ?_
          rintro e w2 ⟨rfl, b2⟩
          go_wp2_with fail
          refine (CG.out _).mono ?_
          rintro e w3 ⟨rfl, rfl⟩
          go_wp2_with fail
          refine (CM.out _).mono ?_
          rintro e w4 ⟨rfl, rfl⟩
          go_wp2_with fail
          go_ret
          exact ⟨ret_bool (by simp), b1.trans (b2.mono b1.size)⟩
        | false =>
          rw [h4] at CG
          clear h3 h4
          go_enter Tryd.func22, Tryd.ntmps22
          go_wp2_with fail
          refine CV.out.mono ?_
          rintro e w1 ⟨rfl, b1⟩
          go_wp2_with fail
          refine (CT.out _).mono ?_
          rintro e w2 ⟨rfl, b2⟩
          go_wp2_with fail
          refine (CG.out _).mono ?_
          rintro e w3 ⟨rfl, rfl⟩
          go_wp2_with fail
          go_ret
          exact ⟨ret_bool (by simp), b1.trans (b2.mono b1.size)⟩
      | false =>
        rw [h3] at CT
        clear h3
        go_enter Tryd.func22, Tryd.ntmps22
        go_wp2_with fail
        refine CV.out.mono ?_
        rintro e w1 ⟨rfl, b1⟩
        go_wp2_with fail
        refine (CT.out _).mono ?_
        rintro e w2 ⟨rfl, b2⟩
        go_wp2_with fail
        go_ret
        exact ⟨ret_bool (by simp), b1.trans (b2.mono b1.size)⟩
    · rw [decide_eq_false h2]
      go_enter Tryd.func22, Tryd.ntmps22
      go_wp2_with fail
      refine CV.out.mono ?_
      rintro e w1 ⟨rfl, b1⟩
      go_wp2_with fail
      go_ret
      exact ⟨ret_bool (by simp), b1⟩
  · rw [decide_eq_false h1]
    go_enter Tryd.func22, Tryd.ntmps22
    go_wp2_with fail
    refine CV.out.mono ?_
    rintro e w1 ⟨rfl, b1⟩
    go_wp2_with fail
    go_ret
    exact ⟨ret_bool (by simp), b1⟩
set_option maxHeartbeats 4000000 in
theorem maytell_any (n st : Int) (r : ByteArray) (w : World) (hr : r.size ≤ 140737488355328) (hn : I64 n) (hp : PowT w) :
    Calls Tryd.prog 29 #[.int .i64 n, .int .i64 st, .string r] w fun e w' => e = .returned (.bool (putStatF n st (bl r)).isSome) ∧ Below w.heap.size w w' := by
  have CV := Lib.hid (version_any n w hn hp)
  have CS := Lib.hid (fun X : World => ty_visible r X)
  have CM := Lib.hid (fun X : World => isminor_any n X)
  rw [tell_eq n st r hn]
  obtain ⟨hvl, _⟩ := vers_size n hn
  clear hp hn
  generalize versI n = V at *
  by_cases h1 : V.length + 5 + r.size ≤ 512
  · rw [decide_eq_true h1]
    cases h2 : minB n with
    | true =>
      rw [h2] at CM
      clear h2
      by_cases h3 : 100 ≤ st
      · rw [decide_eq_true h3]
        by_cases h4 : st ≤ 599
        · rw [decide_eq_true h4]
          go_enter Tryd.func29, Tryd.ntmps29
          go_wp2_with fail
          refine CV.out.mono ?_
          rintro e w1 ⟨rfl, b1⟩
          go_wp2_with fail
          refine (CM.out _).mono ?_
          rintro e w4 ⟨rfl, rfl⟩
          go_wp2_with fail
          refine (CS.out _).mono ?_
          rintro e w5 ⟨rfl, b2⟩
          go_wp2_with fail
          go_ret
          exact ⟨ret_bool (by simp), b1.trans (b2.mono b1.size)⟩
        · rw [decide_eq_false h4]
          go_enter Tryd.func29, Tryd.ntmps29
          go_wp2_with fail
          refine CV.out.mono ?_
          rintro e w1 ⟨rfl, b1⟩
          go_wp2_with fail
          refine (CM.out _).mono ?_
          rintro e w4 ⟨rfl, rfl⟩
          go_wp2_with fail
          go_ret
          exact ⟨ret_bool (by simp), b1⟩
      · rw [decide_eq_false h3]
        go_enter Tryd.func29, Tryd.ntmps29
        go_wp2_with fail
        refine CV.out.mono ?_
        rintro e w1 ⟨rfl, b1⟩
        go_wp2_with fail
        refine (CM.out _).mono ?_
        rintro e w4 ⟨rfl, rfl⟩
        go_wp2_with fail
        go_ret
        exact ⟨ret_bool (by simp), b1⟩
    | false =>
      rw [h2] at CM
      clear h2
      go_enter Tryd.func29, Tryd.ntmps29
      go_wp2_with fail
      refine CV.out.mono ?_
      rintro e w1 ⟨rfl, b1⟩
      go_wp2_with fail
      refine (CM.out _).mono ?_
      rintro e w4 ⟨rfl, rfl⟩
      go_wp2_with fail
      go_ret
      exact ⟨ret_bool (by simp), b1⟩
  · rw [decide_eq_false h1]
    go_enter Tryd.func29, Tryd.ntmps29
    go_wp2_with fail
    refine CV.out.mono ?_
    rintro e w1 ⟨rfl, b1⟩
    go_wp2_with fail
    go_ret
    exact ⟨ret_bool (by simp), b1⟩

set_option maxHeartbeats 4000000 in
theorem putreq_any (m t : ByteArray) (n : Int) (w : World) (hm : m.size ≤ 140737488355328) (ht : t.size ≤ 140737488355328) (hn : I64 n) (hp : PowT w) :
    Calls Tryd.prog 9 #[.string m, .string t, .int .i64 n] w (PutGot (putReqF n (bl m) (bl t)) w) := by
  have CA := Lib.hid (mayask_any m t n w hm ht hn hp)
  cases hq : putReqF n (bl m) (bl t) with
  | none =>
    rw [hq] at CA
    clear hq hp hn hm ht
    go_enter Tryd.func9, Tryd.ntmps9
    go_wp2_with fail
    refine CA.out.mono ?_
    rintro e w1 ⟨rfl, b1⟩
    go_wp2_with fail
    go_ret2
    exact ⟨b1, rfl⟩
  | some l =>
    rw [hq] at CA
    obtain ⟨h01, _, h32, _, hlen, rfl⟩ : (n = 0 ∨ n = 1) ∧ tokF (bl m) = true ∧ (bl m).length ≤ 32 ∧ targF (bl t) = true ∧ (bl m).length + (bl t).length + 10 ≤ 512 ∧ reqL (bl m) (bl t) n.toNat = l := by
      unfold putReqF at hq
      split at hq
      · rename_i h
        injection hq with hq
        exact ⟨h.1, h.2.1, h.2.2.1, h.2.2.2.1, h.2.2.2.2, hq⟩
      · cases hq
    rw [bl_length] at h32 hlen
    rw [bl_length] at hlen
    obtain ⟨k, rfl, hk⟩ : ∃ k : Nat, n = (k : Int) ∧ k ≤ 1 := ⟨n.toNat, by omega, by omega⟩
    have CV := Lib.hid (fun X : World => version_lit k hk X)
    have hvl : (versL k).length = 8 := rfl
    have HL := Lib.hid (show reqL (bl m) (bl t) (k : Int).toNat = bl m ++ 32 :: (bl t ++ 32 :: versL k) from rfl)
    generalize versL k = V at *
    clear hq hp hn hm ht h01
    go_enter Tryd.func9, Tryd.ntmps9
    go_wp2_with fail
    refine CA.out.mono ?_
    rintro e w1 ⟨rfl, b1⟩
    go_wp2_with fail
    refine (CV.out _).mono ?_
    rintro e w2 ⟨rfl, rfl⟩
    go_wp2_with fail
    go_ret2
    refine ⟨b1, ?_⟩
    simp only
    rw [HL.out, ← mk_bl (m ++ (⟨#[32]⟩ : ByteArray) ++ t ++ ⟨#[32]⟩ ++ ⟨V.toArray⟩)]
    simp [bl]
set_option maxHeartbeats 4000000 in
theorem putstat_any (n st : Int) (r : ByteArray) (w : World) (hr : r.size ≤ 140737488355328) (hn : I64 n) (hp : PowT w) :
    Calls Tryd.prog 14 #[.int .i64 n, .int .i64 st, .string r] w (PutGot (putStatF n st (bl r)) w) := by
  have CA := Lib.hid (maytell_any n st r w hr hn hp)
  cases hq : putStatF n st (bl r) with
  | none =>
    rw [hq] at CA
    clear hq hp hn hr
    go_enter Tryd.func14, Tryd.ntmps14
    go_wp2_with fail
    refine CA.out.mono ?_
    rintro e w1 ⟨rfl, b1⟩
    go_wp2_with fail
    go_ret2
    exact ⟨b1, rfl⟩
  | some l =>
    rw [hq] at CA
    obtain ⟨h01, h100, h599, _, hlen, rfl⟩ : (n = 0 ∨ n = 1) ∧ 100 ≤ st ∧ st ≤ 599 ∧ visF (bl r) = true ∧ (bl r).length + 13 ≤ 512 ∧ statL n.toNat st.toNat (bl r) = l := by
      unfold putStatF at hq
      split at hq
      · rename_i h
        injection hq with hq
        exact ⟨h.1, h.2.1, h.2.2.1, h.2.2.2.1, h.2.2.2.2, hq⟩
      · cases hq
    rw [bl_length] at hlen
    obtain ⟨k, rfl, hk⟩ : ∃ k : Nat, n = (k : Int) ∧ k ≤ 1 := ⟨n.toNat, by omega, by omega⟩
    obtain ⟨j, rfl, hj1, hj2⟩ : ∃ j : Nat, st = (j : Int) ∧ 100 ≤ j ∧ j ≤ 599 := ⟨st.toNat, by omega, by omega, by omega⟩
    have CV := Lib.hid (fun X : World => version_lit k hk X)
    have CI := Lib.hid (fun (X : World) (hX : PowT X) => itoa_any (j : Int) X ⟨by omega, by omega⟩ hX)
    rw [itoa_st j hj1 hj2] at CI
    have hvl : (versL k).length = 8 := rfl
    have hdl : (digL j).length = 3 := rfl
    have HP := Lib.hid hp
    have HL := Lib.hid (show statL (k : Int).toNat (j : Int).toNat (bl r) = versL k ++ 32 :: (digL j ++ 32 :: bl r) from rfl)
    generalize versL k = V at *
    generalize digL j = D at *
    clear hq hp hn hr h01
    go_enter Tryd.func14, Tryd.ntmps14
    go_wp2_with fail
    refine CA.out.mono ?_
    rintro e w1 ⟨rfl, b1⟩
    go_wp2_with fail
    refine (CV.out _).mono ?_
    rintro e w2 ⟨rfl, rfl⟩
    go_wp2_with fail
    refine (CI.out _ (HP.out.below b1)).mono ?_
    rintro e w3 ⟨rfl, b2⟩
    go_wp2_with fail
    go_ret2
    refine ⟨b1.trans (b2.mono b1.size), ?_⟩
    simp only
    rw [HL.out, ← mk_bl ((⟨V.toArray⟩ : ByteArray) ++ ⟨#[32]⟩ ++ ⟨D.toArray⟩ ++ ⟨#[32]⟩ ++ r)]
    simp [bl]
end Go.Proofs.YteggdakbebnjfaaDoor
