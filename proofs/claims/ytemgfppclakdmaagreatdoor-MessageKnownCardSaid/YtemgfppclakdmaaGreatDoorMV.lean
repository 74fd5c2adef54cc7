/-
  What the landed message.Response answers.
  Conditions: those that each theorem names.
-/
import Derived.Test.YtemgfppclakdmaaGreatDoorGD
import Derived.Test.YtemgfppclakdmaaGreatDoorMF
import Derived.Test.YtemgfppclakdmaaGreatDoorCP
import Derived.Test.YtemgfppclakdmaaGreatDoorMG
import Derived.Test.YtemgfppclakdmaaGreatDoorFG
import Derived.Test.YtemgfppclakdmaaGreatDoorMC
namespace Go.Proofs.YtemgfppclakdmaaGreatDoor.Sta
open Go.RowKit

theorem vers_01 {n : Int} (h : n = 0 ∨ n = 1) : versI n = versL n.toNat := by
  rcases h with rfl | rfl
  · exact itoa_01 0 (by omega)
  · exact itoa_01 1 (by omega)
theorem vers_size (n : Int) (hn : I64 n) : (versI n).length ≤ 27 ∧ (minB n = true → (versI n).length = 8) := by
  constructor
  · have := itoa_len n hn
    unfold versI
    simp
    omega
  · intro h
    have : n = 0 ∨ n = 1 := by unfold minB at h; simpa using h
    rw [vers_01 this]
    rfl
theorem ask_eq (n : Int) (m t : ByteArray) (hn : I64 n) : (putReqF n (bl m) (bl t)).isSome = (decide (m.size + t.size + 2 + (versI n).length ≤ 512) && decide (m.size ≤ 32) && tokF (bl m) && targF (bl t) && minB n) := by
  obtain ⟨_, h8⟩ := vers_size n hn
  unfold putReqF
  cases hmb : minB n with
  | false =>
    have : ¬ (n = 0 ∨ n = 1) := by unfold minB at hmb; simpa using hmb
    rw [if_neg (fun h => this h.1)]
    simp
  | true =>
    have h01 : n = 0 ∨ n = 1 := by unfold minB at hmb; simpa using hmb
    rw [h8 hmb]
    rw [bl_length, bl_length]
    split
    · rename_i h
      obtain ⟨_, h1, h2, h3, h4⟩ := h
      rw [h1, h3, decide_eq_true h2, decide_eq_true (by omega)]
      rfl
    · rename_i h
      rw [Option.isSome_none, eq_comm, Bool.eq_false_iff]
      intro h'
      simp only [Bool.and_eq_true, decide_eq_true_eq] at h'
      exact h ⟨h01, h'.1.1.2, h'.1.1.1.2, h'.1.2, by omega⟩
theorem tell_eq (n st : Int) (r : ByteArray) (hn : I64 n) : (putStatF n st (bl r)).isSome = (decide ((versI n).length + 5 + r.size ≤ 512) && minB n && decide (100 ≤ st) && decide (st ≤ 599) && visF (bl r)) := by
  obtain ⟨_, h8⟩ := vers_size n hn
  unfold putStatF
  cases hmb : minB n with
  | false =>
    have : ¬ (n = 0 ∨ n = 1) := by unfold minB at hmb; simpa using hmb
    rw [if_neg (fun h => this h.1)]
    simp
  | true =>
    have h01 : n = 0 ∨ n = 1 := by unfold minB at hmb; simpa using hmb
    rw [h8 hmb]
    rw [bl_length]
    split
    · rename_i h
      obtain ⟨_, h1, h2, h3, h4⟩ := h
      rw [h3, decide_eq_true h1, decide_eq_true h2, decide_eq_true (by omega)]
      rfl
    · rename_i h
      rw [Option.isSome_none, eq_comm, Bool.eq_false_iff]
      intro h'
      simp only [Bool.and_eq_true, decide_eq_true_eq] at h'
      exact h ⟨h01, h'.1.1.2, h'.1.2, h'.2, by omega⟩

set_option maxHeartbeats 4000000 in
theorem mayask_any (m t : ByteArray) (n : Int) (w : World) (hm : m.size ≤ 140737488355328) (ht : t.size ≤ 140737488355328) (hn : I64 n) (hp : PowT w) :
    Calls Tryz.prog 54 #[.string m, .string t, .int .i64 n] w fun e w' => e = .returned (.bool (putReqF n (bl m) (bl t)).isSome) ∧ Below w.heap.size w w' := by
  have CV := Lib.hid (version_any n w hn hp)
  have CT := Lib.hid (fun X : World => ty_token m X)
  have CG := Lib.hid (fun X : World => istarg_any t X (by omega))
  have CM := Lib.hid (fun X : World => isminor_any n X)
  rw [ask_eq n m t hn]
  obtain ⟨hvl, _⟩ := vers_size n hn
  clear hp hn
  generalize versI n = V at *
  by_cases h1 : m.size + t.size + 2 + V.length ≤ 512
  · rw [decide_eq_true h1]
    by_cases h2 : m.size ≤ 32
    · rw [decide_eq_true h2]
      cases h3 : tokF (bl m) with
      | true =>
        rw [h3] at CT
        cases h4 : targF (bl t) with
        | true =>
          rw [h4] at CG
          clear h3 h4
          go_enter Tryz.func54, Tryz.ntmps54
          go_wp2_with fail
          refine CV.out.mono ?_
          rintro e w1 ⟨rfl, b1⟩
          go_wp2_with fail
          refine (CT.out _).mono ?_
          rintro e w2 ⟨rfl, b2⟩
          go_wp2_with fail
          refine (CG.out _).mono ?_
          rintro e w3 ⟨rfl, rfl⟩
          go_wp2_with fail
          refine (CM.out _).mono ?_
          rintro e w4 ⟨rfl, rfl⟩
          go_wp2_with fail
          go_ret
          exact ⟨ret_bool (by simp), b1.trans (b2.mono b1.size)⟩
        | false =>
          rw [h4] at CG
          clear h3 h4
          go_enter Tryz.func54, Tryz.ntmps54
          go_wp2_with fail
          refine CV.out.mono ?_
          rintro e w1 ⟨rfl, b1⟩
          go_wp2_with fail
          refine (CT.out _).mono ?_
          rintro e w2 ⟨rfl, b2⟩
          go_wp2_with fail
          refine (CG.out _).mono ?_
          rintro e w3 ⟨rfl, rfl⟩
          go_wp2_with fail
          go_ret
          exact ⟨ret_bool (by simp), b1.trans (b2.mono b1.size)⟩
      | false =>
        rw [h3] at CT
        clear h3
        go_enter Tryz.func54, Tryz.ntmps54
        go_wp2_with fail
        refine CV.out.mono ?_
        rintro e w1 ⟨rfl, b1⟩
        go_wp2_with fail
        refine (CT.out _).mono ?_
        rintro e w2 ⟨rfl, b2⟩
        go_wp2_with fail
        go_ret
        exact ⟨ret_bool (by simp), b1.trans (b2.mono b1.size)⟩
    · rw [decide_eq_false h2]
      go_enter Tryz.func54, Tryz.ntmps54
      go_wp2_with fail
      refine CV.out.mono ?_
      rintro e w1 ⟨rfl, b1⟩
      go_wp2_with fail
      go_ret
      exact ⟨ret_bool (by simp), b1⟩
  · rw [decide_eq_false h1]
    go_enter Tryz.func54, Tryz.ntmps54
    go_wp2_with fail
    refine CV.out.mono ?_
    rintro e w1 ⟨rfl, b1⟩
    go_wp2_with fail
    go_ret
    exact ⟨ret_bool (by simp), b1⟩
set_option maxHeartbeats 4000000 in
theorem maytell_any (n st : Int) (r : ByteArray) (w : World) (hr : r.size ≤ 140737488355328) (hn : I64 n) (hp : PowT w) :
    Calls Tryz.prog 68 #[.int .i64 n, .int .i64 st, .string r] w fun e w' => e = .returned (.bool (putStatF n st (bl r)).isSome) ∧ Below w.heap.size w w' := by
  have CV := Lib.hid (version_any n w hn hp)
  have CS := Lib.hid (fun X : World => ty_visible r X)
  have CM := Lib.hid (fun X : World => isminor_any n X)
  rw [tell_eq n st r hn]
  obtain ⟨hvl, _⟩ := vers_size n hn
  clear hp hn
  generalize versI n = V at *
  by_cases h1 : V.length + 5 + r.size ≤ 512
  · rw [decide_eq_true h1]
    cases h2 : minB n with
    | true =>
      rw [h2] at CM
      clear h2
      by_cases h3 : 100 ≤ st
      · rw [decide_eq_true h3]
        by_cases h4 : st ≤ 599
        · rw [decide_eq_true h4]
          go_enter Tryz.func68, Tryz.ntmps68
          go_wp2_with fail
          refine CV.out.mono ?_
          rintro e w1 ⟨rfl, b1⟩
          go_wp2_with fail
          refine (CM.out _).mono ?_
          rintro e w4 ⟨rfl, rfl⟩
          go_wp2_with fail
          refine (CS.out _).mono ?_
          rintro e w5 ⟨rfl, b2⟩
          go_wp2_with fail
          go_ret
          exact ⟨ret_bool (by simp), b1.trans (b2.mono b1.size)⟩
        · rw [decide_eq_false h4]
          go_enter Tryz.func68, Tryz.ntmps68
          go_wp2_with fail
          refine CV.out.mono ?_
          rintro e w1 ⟨rfl, b1⟩
          go_wp2_with fail
          refine (CM.out _).mono ?_
          rintro e w4 ⟨rfl, rfl⟩
          go_wp2_with fail
          go_ret
          exact ⟨ret_bool (by simp), b1⟩
      · rw [decide_eq_false h3]
        go_enter Tryz.func68, Tryz.ntmps68
        go_wp2_with fail
        refine CV.out.mono ?_
        rintro e w1 ⟨rfl, b1⟩
        go_wp2_with fail
        refine (CM.out _).mono ?_
        rintro e w4 ⟨rfl, rfl⟩
        go_wp2_with fail
        go_ret
        exact ⟨ret_bool (by simp), b1⟩
    | false =>
      rw [h2] at CM
      clear h2
      go_enter Tryz.func68, Tryz.ntmps68
      go_wp2_with fail
      refine CV.out.mono ?_
      rintro e w1 ⟨rfl, b1⟩
      go_wp2_with fail
      refine (CM.out _).mono ?_
      rintro e w4 ⟨rfl, rfl⟩
      go_wp2_with fail
      go_ret
      exact ⟨ret_bool (by simp), b1⟩
  · rw [decide_eq_false h1]
    go_enter Tryz.func68, Tryz.ntmps68
    go_wp2_with fail
    refine CV.out.mono ?_
    rintro e w1 ⟨rfl, b1⟩
    go_wp2_with fail
    go_ret
    exact ⟨ret_bool (by simp), b1⟩

set_option maxHeartbeats 4000000 in
theorem putreq_any (m t : ByteArray) (n : Int) (w : World) (hm : m.size ≤ 140737488355328) (ht : t.size ≤ 140737488355328) (hn : I64 n) (hp : PowT w) :
    Calls Tryz.prog 44 #[.string m, .string t, .int .i64 n] w (PutGot (putReqF n (bl m) (bl t)) w) := by
  have CA := Lib.hid (mayask_any m t n w hm ht hn hp)
  cases hq : putReqF n (bl m) (bl t) with
  | none =>
    rw [hq] at CA
    clear hq hp hn hm ht
    go_enter Tryz.func44, Tryz.ntmps44
    go_wp2_with fail
    refine CA.out.mono ?_
    rintro e w1 ⟨rfl, b1⟩
    go_wp2_with fail
    go_ret2
    exact ⟨b1, rfl⟩
  | some l =>
    rw [hq] at CA
    obtain ⟨h01, _, h32, _, hlen, rfl⟩ : (n = 0 ∨ n = 1) ∧ tokF (bl m) = true ∧ (bl m).length ≤ 32 ∧ targF (bl t) = true ∧ (bl m).length + (bl t).length + 10 ≤ 512 ∧ reqL (bl m) (bl t) n.toNat = l := by
      unfold putReqF at hq
      split at hq
      · rename_i h
        injection hq with hq
        exact ⟨h.1, h.2.1, h.2.2.1, h.2.2.2.1, h.2.2.2.2, hq⟩
      · cases hq
    rw [bl_length] at h32 hlen
    rw [bl_length] at hlen
    obtain ⟨k, rfl, hk⟩ : ∃ k : Nat, n = (k : Int) ∧ k ≤ 1 := ⟨n.toNat, by omega, by omega⟩
    have CV := Lib.hid (fun X : World => version_lit k hk X)
    have hvl : (versL k).length = 8 := rfl
    have HL := Lib.hid (show reqL (bl m) (bl t) (k : Int).toNat = bl m ++ 32 :: (bl t ++ 32 :: versL k) from rfl)
    generalize versL k = V at *
    clear hq hp hn hm ht h01
    go_enter Tryz.func44, Tryz.ntmps44
    go_wp2_with fail
    refine CA.out.mono ?_
    rintro e w1 ⟨rfl, b1⟩
    go_wp2_with fail
    refine (CV.out _).mono ?_
    rintro e w2 ⟨rfl, rfl⟩
    go_wp2_with fail
    go_ret2
    refine ⟨b1, ?_⟩
    simp only
    rw [HL.out, ← mk_bl (m ++ (⟨#[32]⟩ : ByteArray) ++ t ++ ⟨#[32]⟩ ++ ⟨V.toArray⟩)]
    simp [bl]
set_option maxHeartbeats 4000000 in
theorem putstat_any (n st : Int) (r : ByteArray) (w : World) (hr : r.size ≤ 140737488355328) (hn : I64 n) (hp : PowT w) :
    Calls Tryz.prog 46 #[.int .i64 n, .int .i64 st, .string r] w (PutGot (putStatF n st (bl r)) w) := by
  have CA := Lib.hid (maytell_any n st r w hr hn hp)
  cases hq : putStatF n st (bl r) with
  | none =>
    rw [hq] at CA
    clear hq hp hn hr
    go_enter Tryz.func46, Tryz.ntmps46
    go_wp2_with fail
    refine CA.out.mono ?_
    rintro e w1 ⟨rfl, b1⟩
    go_wp2_with fail
    go_ret2
    exact ⟨b1, rfl⟩
  | some l =>
    rw [hq] at CA
    obtain ⟨h01, h100, h599, _, hlen, rfl⟩ : (n = 0 ∨ n = 1) ∧ 100 ≤ st ∧ st ≤ 599 ∧ visF (bl r) = true ∧ (bl r).length + 13 ≤ 512 ∧ statL n.toNat st.toNat (bl r) = l := by
      unfold putStatF at hq
      split at hq
      · rename_i h
        injection hq with hq
        exact ⟨h.1, h.2.1, h.2.2.1, h.2.2.2.1, h.2.2.2.2, hq⟩
      · cases hq
    rw [bl_length] at hlen
    obtain ⟨k, rfl, hk⟩ : ∃ k : Nat, n = (k : Int) ∧ k ≤ 1 := ⟨n.toNat, by omega, by omega⟩
    obtain ⟨j, rfl, hj1, hj2⟩ : ∃ j : Nat, st = (j : Int) ∧ 100 ≤ j ∧ j ≤ 599 := ⟨st.toNat, by omega, by omega, by omega⟩
    have CV := Lib.hid (fun X : World => version_lit k hk X)
    have CI := Lib.hid (fun (X : World) (hX : PowT X) => itoa_any (j : Int) X ⟨by omega, by omega⟩ hX)
    rw [itoa_st j hj1 hj2] at CI
    have hvl : (versL k).length = 8 := rfl
    have hdl : (digL j).length = 3 := rfl
    have HP := Lib.hid hp
    have HL := Lib.hid (show statL (k : Int).toNat (j : Int).toNat (bl r) = versL k ++ 32 :: (digL j ++ 32 :: bl r) from rfl)
    generalize versL k = V at *
    generalize digL j = D at *
    clear hq hp hn hr h01
    go_enter Tryz.func46, Tryz.ntmps46
    go_wp2_with fail
    refine CA.out.mono ?_
    rintro e w1 ⟨rfl, b1⟩
    go_wp2_with fail
    refine (CV.out _).mono ?_
    rintro e w2 ⟨rfl, rfl⟩
    go_wp2_with fail
    refine (CI.out _ (HP.out.below b1)).mono ?_
    rintro e w3 ⟨rfl, b2⟩
    go_wp2_with fail
    go_ret2
    refine ⟨b1.trans (b2.mono b1.size), ?_⟩
    simp only
    rw [HL.out, ← mk_bl ((⟨V.toArray⟩ : ByteArray) ++ ⟨#[32]⟩ ++ ⟨D.toArray⟩ ++ ⟨#[32]⟩ ++ r)]
    simp [bl]
end Go.Proofs.YtemgfppclakdmaaGreatDoor.Sta

namespace Go.Proofs.YtemgfppclakdmaaGreatDoor.Sta
open Go.RowKit

/-- What readStatus tells: the status, and whether it is one. -/
def stV (r : Option Nat) : Value := match r with
  | none => .tuple #[.int .i64 0, .bool false]
  | some n => .tuple #[.int .i64 (n : Int), .bool true]
theorem readst_all (d : List UInt8) : readStF d = if d.length = 3 ∧ d.all digB = true then readStF d else none := by
  split
  · rfl
  · rename_i h
    cases hd : readStF d with
    | none => rfl
    | some st =>
      refine absurd ?_ h
      unfold readStF at hd
      split at hd
      · split at hd
        · rename_i hh
          exact ⟨rfl, by simp [hh]⟩
        · cases hd
      · cases hd
theorem readst_is (d : List UInt8) (h : d.length = 3) (ha : d.all digB = true) : ∃ st, readStF d = some st := by
  match d, h with
  | [a, b, c], _ =>
    simp only [List.all_cons, List.all_nil, Bool.and_eq_true, Bool.and_true] at ha
    exact ⟨statOf a b c, by unfold readStF; exact if_pos ha⟩
set_option maxHeartbeats 4000000 in
theorem rdstat_any (s : ByteArray) (w : World) (hs : s.size ≤ 281474976710656) : Calls Tryz.prog 67 #[.string s] w fun e w' => e = .returned (stV (readStF (bl s))) ∧ Below w.heap.size w w' := by
  have C := Lib.hid (sall_any 106 (.inr rfl) digB dig_says s w hs)
  have hr := readst_all (bl s)
  rw [bl_length] at hr
  by_cases h3 : s.size = 3
  · cases hall : (bl s).all digB with
    | false =>
      have HN := Lib.hid (show readStF (bl s) = none by rw [hr, if_neg (by rw [hall]; simp)])
      rw [hall] at C
      have e3 : ((s.size : Int) != 3) = false := by simp; omega
      clear hr hall h3
      go_enter Tryz.func67, Tryz.ntmps67
      go_wp2_with fail
      refine C.out.mono ?_
      rintro e v ⟨rfl, rfl⟩
      go_wp2_with fail
      go_ret2
      exact ⟨by rw [HN.out]; rfl, Below.refl _ _⟩
    | true =>
      obtain ⟨st, hst⟩ := readst_is (bl s) (by rw [bl_length]; exact h3) hall
      have CA := Lib.hid (fun X : World => Tryz.strconv_Atoi s (st : Int) (by omega) (atoi_st hst) X)
      have HN := Lib.hid hst
      rw [hall] at C
      have e3 : ((s.size : Int) != 3) = false := by simp; omega
      clear hr hall h3 hst
      go_enter Tryz.func67, Tryz.ntmps67
      go_wp2_with fail
      refine C.out.mono ?_
      rintro e v ⟨rfl, rfl⟩
      go_wp2_with fail
      refine (CA.out _).mono ?_
      rintro e v2 ⟨rfl, t, rfl⟩
      have B := Lib.hid (Lib.bytesWorld_below w 5 t)
      generalize Lib.bytesWorld w 5 t = v3 at *
      go_wp2_with fail
      go_quiet (fail)
      have HB : Hid (Below w.heap.size w (v3.drewN nq)) := Lib.hid (below_drewN B.out nq)
      go_wp2_with fail
      go_ret2
      exact ⟨by rw [HN.out]; rfl, HB.out⟩
  · have HN := Lib.hid (show readStF (bl s) = none by rw [hr, if_neg (fun h => h3 h.1)])
    have e3 : ((s.size : Int) != 3) = true := by simp; omega
    clear hr h3
    go_enter Tryz.func67, Tryz.ntmps67
    go_wp2_with fail
    go_ret2
    exact ⟨by rw [HN.out]; rfl, Below.refl _ _⟩

theorem cut_len : ∀ (l : List UInt8), (cutP l).1.length ≤ l.length ∧ (cutP l).2.1.length ≤ l.length
  | [] => ⟨Nat.le_refl _, Nat.le_refl _⟩
  | c :: l => by
    have := cut_len l
    unfold cutP
    split <;> simp <;> omega
theorem bl_of (l : List UInt8) : bl ⟨l.toArray⟩ = l := rfl
theorem size_of (l : List UInt8) : (⟨l.toArray⟩ : ByteArray).size = l.length := by rw [← bl_length, bl_of]

set_option maxHeartbeats 4000000 in
theorem request_any (s : ByteArray) (w : World) (hs : s.size ≤ 140737488355328) (hp : PowT w) : Calls Tryz.prog 25 #[.string s] w (ReqGot (reqF (bl s)) w) := by
  have hrq := req_line (bl s)
  unfold lineF at hrq
  have C1 := cut_any s w (by omega)
  unfold CutGot at C1
  obtain ⟨l1, l2⟩ := cut_len (bl s)
  rw [bl_length] at l1 l2
  generalize cutP (bl s) = p1 at *
  obtain ⟨a, r, f1⟩ := p1
  simp only at hrq C1 l1 l2
  have C2 := fun X : World => cut_any ⟨r.toArray⟩ X (by rw [size_of]; omega)
  unfold CutGot at C2
  rw [bl_of] at C2
  obtain ⟨l3, l4⟩ := cut_len r
  generalize cutP r = p2 at *
  obtain ⟨t, v, f2⟩ := p2
  simp only at hrq C2 l3 l4
  have C3 := Lib.hid (fun X : World => rdminor_any ⟨v.toArray⟩ X)
  rw [bl_of] at C3
  have D1 := Lib.hid C1
  have D2 := Lib.hid C2
  have HP := Lib.hid hp
  clear C1 C2 hp
  cases hmi : minorF v with
  | none =>
    rw [hmi] at hrq C3
    have HN := Lib.hid (show reqF (bl s) = none from hrq)
    clear hrq hmi
    go_enter Tryz.func25, Tryz.ntmps25
    go_wp2_with fail
    refine D1.out.mono ?_
    rintro e w1 ⟨rfl, b1⟩
    go_wp2_with fail
    refine (D2.out _).mono ?_
    rintro e w2 ⟨rfl, b2⟩
    have B2 := Lib.hid (b1.trans (b2.mono b1.size))
    clear b1 b2
    go_wp2_with fail
    refine (C3.out _).mono ?_
    rintro e w3 ⟨rfl, rfl⟩
    rw [show minV (none : Option Nat) = .tuple #[.int .i64 0, .bool false] from rfl]
    go_wp2_with fail
    (try simp only [Exit.inBlock, Exit.then]); refine bodyPost_ret (results_tmp4 rfl _ _ _) rfl ?_
    exact ⟨B2.out, by rw [HN.out]; rfl⟩
  | some n =>
    have hn1 := (minor_some hmi).2
    rw [hmi] at hrq C3
    have CA := Lib.hid (fun (X : World) (hX : PowT X) => mayask_any ⟨a.toArray⟩ ⟨t.toArray⟩ (n : Int) X (by rw [size_of]; omega) (by rw [size_of]; omega) ⟨by omega, by omega⟩ hX)
    rw [bl_of, bl_of] at CA
    cases hq : (putReqF n a t).isSome with
    | false =>
      rw [hq] at CA
      have HN := Lib.hid (show reqF (bl s) = none by rw [hrq]; simp only; rw [hq]; rfl)
      clear hrq hmi hq
      go_enter Tryz.func25, Tryz.ntmps25
      go_wp2_with fail
      refine D1.out.mono ?_
      rintro e w1 ⟨rfl, b1⟩
      go_wp2_with fail
      refine (D2.out _).mono ?_
      rintro e w2 ⟨rfl, b2⟩
      have B2 := Lib.hid (b1.trans (b2.mono b1.size))
      clear b1 b2
      go_wp2_with fail
      refine (C3.out _).mono ?_
      rintro e w3 ⟨rfl, rfl⟩
      rw [show minV (some n) = .tuple #[.int .i64 (n : Int), .bool true] from rfl]
      go_wp2_with fail
      refine (CA.out _ (HP.out.below B2.out)).mono ?_
      rintro e w4 ⟨rfl, b4⟩
      have B4 := Lib.hid (B2.out.trans (b4.mono B2.out.size))
      clear b4 B2
      go_wp2_with fail
      (try simp only [Exit.inBlock, Exit.then]); refine bodyPost_ret (results_tmp4 rfl _ _ _) rfl ?_
      exact ⟨B4.out, by rw [HN.out]; rfl⟩
    | true =>
      rw [hq] at CA
      have HN := Lib.hid (show reqF (bl s) = some (a, t, n) by rw [hrq]; simp only; rw [hq]; rfl)
      have K1 := Lib.hid (fun X : World => sclone_any ⟨a.toArray⟩ X (by rw [size_of]; omega))
      have K2 := Lib.hid (fun X : World => sclone_any ⟨t.toArray⟩ X (by rw [size_of]; omega))
      clear hrq hmi hq
      go_enter Tryz.func25, Tryz.ntmps25
      go_wp2_with fail
      refine D1.out.mono ?_
      rintro e w1 ⟨rfl, b1⟩
      go_wp2_with fail
      refine (D2.out _).mono ?_
      rintro e w2 ⟨rfl, b2⟩
      have B2 := Lib.hid (b1.trans (b2.mono b1.size))
      clear b1 b2
      go_wp2_with fail
      refine (C3.out _).mono ?_
      rintro e w3 ⟨rfl, rfl⟩
      rw [show minV (some n) = .tuple #[.int .i64 (n : Int), .bool true] from rfl]
      go_wp2_with fail
      refine (CA.out _ (HP.out.below B2.out)).mono ?_
      rintro e w4 ⟨rfl, b4⟩
      have B4 := Lib.hid (B2.out.trans (b4.mono B2.out.size))
      clear b4 B2
      go_wp2_with fail
      refine (K1.out _).mono ?_
      rintro e w5 ⟨rfl, b5⟩
      have B5 := Lib.hid (B4.out.trans (b5.mono B4.out.size))
      clear b5 B4
      go_wp2_with fail
      refine (K2.out _).mono ?_
      rintro e w6 ⟨rfl, b6⟩
      have B6 := Lib.hid (B5.out.trans (b6.mono B5.out.size))
      clear b6 B5
      go_wp2_with fail
      (try simp only [Exit.inBlock, Exit.then]); refine bodyPost_ret (results_tmp4 rfl _ _ _) rfl ?_
      exact ⟨B6.out, by rw [HN.out]; rfl⟩

set_option maxHeartbeats 4000000 in
theorem status_any (s : ByteArray) (w : World) (hs : s.size ≤ 140737488355328) (hp : PowT w) : Calls Tryz.prog 36 #[.string s] w (StatGot (statF (bl s)) w) := by
  have hrq := stat_line (bl s)
  unfold tellF at hrq
  have C1 := cut_any s w (by omega)
  unfold CutGot at C1
  obtain ⟨l1, l2⟩ := cut_len (bl s)
  rw [bl_length] at l1 l2
  generalize cutP (bl s) = p1 at *
  obtain ⟨a, r, f1⟩ := p1
  simp only at hrq C1 l1 l2
  have C2 := fun X : World => cut_any ⟨r.toArray⟩ X (by rw [size_of]; omega)
  unfold CutGot at C2
  rw [bl_of] at C2
  obtain ⟨l3, l4⟩ := cut_len r
  generalize cutP r = p2 at *
  obtain ⟨d, x, f2⟩ := p2
  simp only at hrq C2 l3 l4
  have C3 := Lib.hid (fun X : World => rdminor_any ⟨a.toArray⟩ X)
  rw [bl_of] at C3
  have C4 := Lib.hid (fun X : World => rdstat_any ⟨d.toArray⟩ X (by rw [size_of]; omega))
  rw [bl_of] at C4
  have D1 := Lib.hid C1
  have D2 := Lib.hid C2
  have HP := Lib.hid hp
  clear C1 C2 hp
  cases hmi : minorF a with
  | none =>
    rw [hmi] at hrq C3
    have HN := Lib.hid (show statF (bl s) = none from hrq)
    clear hrq hmi
    go_enter Tryz.func36, Tryz.ntmps36
    go_wp2_with fail
    refine D1.out.mono ?_
    rintro e w1 ⟨rfl, b1⟩
    go_wp2_with fail
    refine (D2.out _).mono ?_
    rintro e w2 ⟨rfl, b2⟩
    have B2 := Lib.hid (b1.trans (b2.mono b1.size))
    clear b1 b2
    go_wp2_with fail
    refine (C3.out _).mono ?_
    rintro e w3 ⟨rfl, rfl⟩
    rw [show minV (none : Option Nat) = .tuple #[.int .i64 0, .bool false] from rfl]
    go_wp2_with fail
    (try simp only [Exit.inBlock, Exit.then]); refine bodyPost_ret (results_tmp4 rfl _ _ _) rfl ?_
    exact ⟨B2.out, by rw [HN.out]; rfl⟩
  | some n =>
    have hn1 := (minor_some hmi).2
    rw [hmi] at hrq C3
    simp only at hrq
    cases f2 with
    | false =>
      have HN := Lib.hid (show statF (bl s) = none by rw [hrq]; rfl)
      clear hrq hmi
      go_enter Tryz.func36, Tryz.ntmps36
      go_wp2_with fail
      refine D1.out.mono ?_
      rintro e w1 ⟨rfl, b1⟩
      go_wp2_with fail
      refine (D2.out _).mono ?_
      rintro e w2 ⟨rfl, b2⟩
      have B2 := Lib.hid (b1.trans (b2.mono b1.size))
      clear b1 b2
      go_wp2_with fail
      refine (C3.out _).mono ?_
      rintro e w3 ⟨rfl, rfl⟩
      rw [show minV (some n) = .tuple #[.int .i64 (n : Int), .bool true] from rfl]
      go_wp2_with fail
      (try simp only [Exit.inBlock, Exit.then]); refine bodyPost_ret (results_tmp4 rfl _ _ _) rfl ?_
      exact ⟨B2.out, by rw [HN.out]; rfl⟩
    | true =>
      rw [if_pos rfl] at hrq
      cases hst : readStF d with
      | none =>
        rw [hst] at hrq C4
        have HN := Lib.hid (show statF (bl s) = none from hrq)
        clear hrq hmi hst
        go_enter Tryz.func36, Tryz.ntmps36
        go_wp2_with fail
        refine D1.out.mono ?_
        rintro e w1 ⟨rfl, b1⟩
        go_wp2_with fail
        refine (D2.out _).mono ?_
        rintro e w2 ⟨rfl, b2⟩
        have B2 := Lib.hid (b1.trans (b2.mono b1.size))
        clear b1 b2
        go_wp2_with fail
        refine (C3.out _).mono ?_
        rintro e w3 ⟨rfl, rfl⟩
        rw [show minV (some n) = .tuple #[.int .i64 (n : Int), .bool true] from rfl]
        go_wp2_with fail
        refine (C4.out _).mono ?_
        rintro e w4 ⟨rfl, b4⟩
        have B4 := Lib.hid (B2.out.trans (b4.mono B2.out.size))
        clear b4 B2
        rw [show stV (none : Option Nat) = .tuple #[.int .i64 0, .bool false] from rfl]
        go_wp2_with fail
        (try simp only [Exit.inBlock, Exit.then]); refine bodyPost_ret (results_tmp4 rfl _ _ _) rfl ?_
        exact ⟨B4.out, by rw [HN.out]; rfl⟩
      | some st =>
        have hst9 := (readst_some hst).2
        rw [hst] at hrq C4
        simp only at hrq
        have CA := Lib.hid (fun (X : World) (hX : PowT X) => maytell_any (n : Int) (st : Int) ⟨x.toArray⟩ X (by rw [size_of]; omega) ⟨by omega, by omega⟩ hX)
        rw [bl_of] at CA
        cases hq : (putStatF n st x).isSome with
        | false =>
          rw [hq] at CA
          have HN := Lib.hid (show statF (bl s) = none by rw [hrq, hq]; rfl)
          clear hrq hmi hst hq
          go_enter Tryz.func36, Tryz.ntmps36
          go_wp2_with fail
          refine D1.out.mono ?_
          rintro e w1 ⟨rfl, b1⟩
          go_wp2_with fail
          refine (D2.out _).mono ?_
          rintro e w2 ⟨rfl, b2⟩
          have B2 := Lib.hid (b1.trans (b2.mono b1.size))
          clear b1 b2
          go_wp2_with fail
          refine (C3.out _).mono ?_
          rintro e w3 ⟨rfl, rfl⟩
          rw [show minV (some n) = .tuple #[.int .i64 (n : Int), .bool true] from rfl]
          go_wp2_with fail
          refine (C4.out _).mono ?_
          rintro e w4 ⟨rfl, b4⟩
          have B4 := Lib.hid (B2.out.trans (b4.mono B2.out.size))
          clear b4 B2
          rw [show stV (some st) = .tuple #[.int .i64 (st : Int), .bool true] from rfl]
          go_wp2_with fail
          refine (CA.out _ (HP.out.below B4.out)).mono ?_
          rintro e w5 ⟨rfl, b5⟩
          have B5 := Lib.hid (B4.out.trans (b5.mono B4.out.size))
          clear b5 B4
          go_wp2_with fail
          (try simp only [Exit.inBlock, Exit.then]); refine bodyPost_ret (results_tmp4 rfl _ _ _) rfl ?_
          exact ⟨B5.out, by rw [HN.out]; rfl⟩
        | true =>
          rw [hq] at CA
          have HN := Lib.hid (show statF (bl s) = some (n, st, x) by rw [hrq, hq]; rfl)
          have K1 := Lib.hid (fun X : World => sclone_any ⟨x.toArray⟩ X (by rw [size_of]; omega))
          clear hrq hmi hst hq
          go_enter Tryz.func36, Tryz.ntmps36
          go_wp2_with fail
          refine D1.out.mono ?_
          rintro e w1 ⟨rfl, b1⟩
          go_wp2_with fail
          refine (D2.out _).mono ?_
          rintro e w2 ⟨rfl, b2⟩
          have B2 := Lib.hid (b1.trans (b2.mono b1.size))
          clear b1 b2
          go_wp2_with fail
          refine (C3.out _).mono ?_
          rintro e w3 ⟨rfl, rfl⟩
          rw [show minV (some n) = .tuple #[.int .i64 (n : Int), .bool true] from rfl]
          go_wp2_with fail
          refine (C4.out _).mono ?_
          rintro e w4 ⟨rfl, b4⟩
          have B4 := Lib.hid (B2.out.trans (b4.mono B2.out.size))
          clear b4 B2
          rw [show stV (some st) = .tuple #[.int .i64 (st : Int), .bool true] from rfl]
          go_wp2_with fail
          refine (CA.out _ (HP.out.below B4.out)).mono ?_
          rintro e w5 ⟨rfl, b5⟩
          have B5 := Lib.hid (B4.out.trans (b5.mono B4.out.size))
          clear b5 B4
          go_wp2_with fail
          refine (K1.out _).mono ?_
          rintro e w6 ⟨rfl, b6⟩
          have B6 := Lib.hid (B5.out.trans (b6.mono B5.out.size))
          clear b6 B5
          go_wp2_with fail
          (try simp only [Exit.inBlock, Exit.then]); refine bodyPost_ret (results_tmp4 rfl _ _ _) rfl ?_
          exact ⟨B6.out, by rw [HN.out]; rfl⟩
end Go.Proofs.YtemgfppclakdmaaGreatDoor.Sta

namespace Go.Proofs.YtemgfppclakdmaaGreatDoor
open Go.RowKit

theorem more_any (b : Bool) (w : World) : Calls Tryz.prog 81 #[.bool b] w fun e w' => e = .returned (.int .i64 (if b = true then 21 else 8)) ∧ w = w' := by
  cases b
  · go_enter Tryz.func81, Tryz.ntmps81
    go_wp2_with fail
    go_ret
    exact ⟨rfl, rfl⟩
  · go_enter Tryz.func81, Tryz.ntmps81
    go_wp2_with fail
    go_ret
    exact ⟨rfl, rfl⟩

theorem last_take (bs : List UInt8) (k : Nat) (hk : k ≤ bs.length) : (bs.take k).getLast? = if k = 0 then none else bs[k - 1]? := by
  rw [List.getLast?_eq_getElem?, List.length_take, Nat.min_eq_left hk, List.getElem?_take]
  by_cases h : k = 0
  · rw [if_pos h, if_neg (by omega)]
  · rw [if_neg h, if_pos (by omega)]
theorem firstM_none {bs : List UInt8} (h : lfF 512 bs = none) : firstM bs = ([], 0, if 512 ≤ bs.length then 21 else 8) := by unfold firstM; rw [h]
theorem firstM_some {bs : List UInt8} {k : Nat} (h : lfF 512 bs = some k) (hk : k ≤ bs.length) : firstM bs = if (bs.take k).getLast? = some 13 then (bs.take (k - 1), k + 1, 0) else ([], 0, 20) := by
  unfold firstM
  rw [h, last_take bs k hk]
  simp only
  by_cases h0 : k = 0
  · rw [if_pos (Or.inl h0), if_pos h0, if_neg (by simp)]
  · rw [if_neg h0]
    by_cases h1 : bs[k - 1]? = some 13
    · rw [if_neg (by rintro (h | h); exact h0 h; exact h h1), if_pos h1]
    · rw [if_pos (Or.inr h1), if_neg h1]

set_option maxHeartbeats 4000000 in
set_option maxRecDepth 100000 in
theorem readLine_any {P : Nat → Prop} (w : World) (A : Option Addr) (bs : List UInt8) (n c : Nat) (hn : bs.length = n) (hnc : n ≤ c) (hmax : n ≤ 140737488355328) (h : Src w P A bs) :
    Calls Tryz.prog 49 #[.slice A n c] w (LineGot (firstM bs) w) := by
  obtain ⟨m, hm⟩ : ∃ m, min n 512 = m := ⟨_, rfl⟩
  obtain ⟨R, hR⟩ : ∃ R, firstM bs = R := ⟨_, rfl⟩
  obtain ⟨A1, hs1, hsrc1⟩ := run_front8 A n c m (by omega)
  have S1 := hsrc1 w P bs hn (by omega) h
  have hl1 : (bs.take m).length = m := by rw [List.length_take]; omega
  have C1 := bindex_any w A1 (bs.take m) m c hl1 S1
  rw [hR]
  have hmin : min (n : Int) 512 = (m : Int) := by omega
  cases hk : lfF 512 bs with
  | none =>
    have hmiss := find_miss 10 (bs.take m) (fun hx => by
      obtain ⟨i, hi, hx⟩ := List.getElem_of_mem hx
      rw [hl1] at hi
      have := (lf_none 512 bs).1 hk i (by omega)
      apply this
      rw [← hx, List.getElem_take, List.getElem?_eq_getElem])
    rw [hmiss] at C1
    rw [firstM_none hk, hn] at hR
    have C := Lib.hid C1
    have HR := Lib.hid hR
    obtain ⟨q, hq⟩ : ∃ q : Bool, ((m : Int) == 512) = q := ⟨_, rfl⟩
    have CM := Lib.hid (fun X : World => more_any q X)
    have HF := Lib.hid (show LineGot R w (.returned (.tuple #[.string ⟨#[]⟩, .int .i64 0, .int .i64 (if q = true then 21 else 8)])) w by
      cases q with
      | true =>
        have : (m : Int) = 512 := by simpa using hq
        exact LineGot.mk (l := []) (a := 0) (b := 21) (by rw [← HR.out, if_pos (by omega)]) rfl rfl rfl
      | false =>
        have : ¬ (m : Int) = 512 := by simpa using hq
        exact LineGot.mk (l := []) (a := 0) (b := 8) (by rw [← HR.out, if_neg (by omega)]) rfl rfl rfl)
    generalize hz : (if q = true then (21 : Int) else 8) = z at *
    clear C1 S1 hsrc1 h hk hR HR hz
    go_enter Tryz.func49, Tryz.ntmps49
    go_wp2_with fail
    refine C.out.mono ?_
    rintro e w' ⟨rfl, rfl⟩
    go_wp2_with fail
    refine (CM.out _).mono ?_
    rintro e w' ⟨rfl, rfl⟩
    go_wp2_with fail
    go_ret3
    exact HF.out
  | some k =>
    obtain ⟨k1, k2, k3, k4⟩ := lf_some 512 bs k hk
    have hkm : k < m := by omega
    rw [firstM_some hk (by omega)] at hR
    obtain ⟨t, ht⟩ : ∃ t, bs.take k = t := ⟨_, rfl⟩
    have htl : t.length = k := by rw [← ht, List.length_take]; omega
    have hsplit : (bs.take m).take (k + 1) = t ++ [10] := by
      rw [List.take_take, Nat.min_eq_left (by omega), List.take_add_one, k3, ht]
      rfl
    have hidx : Lib.indexByte (bs.take m) 10 = (k : Int) := by
      have h1 : bs.take m = t ++ 10 :: (bs.take m).drop (k + 1) := by
        conv => lhs; rw [← List.take_append_drop (k + 1) (bs.take m), hsplit]
        simp
      rw [h1, find_hit 10 t _ (fun hx => by
        obtain ⟨i, hi, hx⟩ := List.getElem_of_mem hx
        refine k4 i (by omega) ?_
        rw [← hx]
        simp only [← ht]
        rw [List.getElem_take, List.getElem?_eq_getElem]), htl]
    rw [hidx] at C1
    obtain ⟨A2, hs2, hsrc2⟩ := run_front8 A1 m c (k + 1) (by omega)
    have S2 := hsrc2 w P (bs.take m) hl1 (by omega) S1
    rw [hsplit] at S2
    have T2 := run_text w A2 (t ++ [10]) (k + 1) c (by simp; omega) S2
    have hs3 : ∀ X : World, (Instr.slice 22 (.slice A1 m c) none (some (.int .i64 ((k : Int) + 1))) none).run Tryz.prog X = .ok (.slice A2 (k + 1) c) X := fun X => by
      have := hs2 X
      rwa [show ((k + 1 : Nat) : Int) = (k : Int) + 1 by omega] at this
    have C := Lib.hid C1
    have CX := Lib.hid (suffix_any t (by omega) w)
    obtain ⟨x, q, hxq⟩ : ∃ x q, sufF t = (x, q) := ⟨_, _, rfl⟩
    rw [hxq] at CX
    have HF : Hid ((q = true → R = (x, k + 1, 0)) ∧ (q = false → R = ([], 0, 20))) := by
      apply Lib.hid
      unfold sufF at hxq
      rw [ht] at hR
      by_cases h13 : t.getLast? = some 13
      · rw [if_pos h13] at hxq hR
        injection hxq with h1 h2
        subst h2
        refine ⟨fun _ => ?_, fun h => by cases h⟩
        rw [← hR, ← h1, ← ht, List.dropLast_eq_take, List.length_take, Nat.min_eq_left (by omega), List.take_take, Nat.min_eq_left (by omega)]
      · rw [if_neg h13] at hxq hR
        injection hxq with h1 h2
        subst h2
        exact ⟨fun h => (by cases h), fun _ => hR.symm⟩
    clear C1 S1 S2 hsrc1 hsrc2 h hk hR hidx hsplit ht hxq hs2 k3 k4
    have wk : IntKind.i64.wrap ((k : Int) + 1) = (k : Int) + 1 := by rw [IntKind.wrap_i64]; omega
    have e0 : (((k : Int) + 1) == 0) = false := by simp; omega
    go_enter Tryz.func49, Tryz.ntmps49
    go_wp2_with fail
    refine C.out.mono ?_
    rintro e w' ⟨rfl, rfl⟩
    go_wp2_with fail
    refine CX.out.mono ?_
    rintro e w1 ⟨rfl, rfl⟩
    cases q with
    | false =>
      go_wp2_with fail
      go_ret3
      exact LineGot.mk (HF.out.2 (by trivial)) rfl rfl rfl
    | true =>
      go_wp2_with fail
      go_ret3
      exact LineGot.mk (HF.out.1 (by trivial)) rfl (by omega) rfl

/-- What the landed readFields tells. -/
def landF (bs : List UInt8) (at0 : Nat) : List Fld × Nat × Nat := if (parseH ((bs.take 2048).drop at0)).2.2 = 8 then ((parseH ((bs.take 2048).drop at0)).1, (parseH ((bs.take 2048).drop at0)).2.1, if 2048 ≤ bs.length then 21 else 8) else parseH ((bs.take 2048).drop at0)
theorem landF_is (bs : List UInt8) (at0 : Nat) : fieldsM bs at0 = if (landF bs at0).2.2 ≠ 0 then ([], 0, (landF bs at0).2.2) else ((landF bs at0).1, at0 + (landF bs at0).2.1, 0) := by
  unfold fieldsM landF
  by_cases h8 : (parseH ((bs.take 2048).drop at0)).2.2 = 8
  · rw [if_pos h8]
    by_cases hb : 2048 ≤ bs.length
    · rw [if_pos ⟨h8, hb⟩, if_pos hb, if_pos (by simp)]
    · rw [if_neg (fun h => hb h.2), if_neg hb, if_pos (by omega), if_pos (by simp), h8]
  · rw [if_neg h8, if_neg (fun h => h8 h.1)]
set_option maxHeartbeats 4000000 in
set_option maxRecDepth 100000 in
theorem readFields_any {P : Nat → Prop} (w : World) (A : Option Addr) (bs : List UInt8) (n c at0 : Nat) (hn : bs.length = n) (hnc : n ≤ c) (hmax : n ≤ 140737488351232) (ha : at0 ≤ n) (ha2 : at0 ≤ 512) (h : Src w P A bs) :
    Calls Tryz.prog 50 #[.slice A n c, .int .i64 (at0 : Int)] w (HeadGot (landF bs at0) w) := by
  obtain ⟨m, hm⟩ : ∃ m, min n 2048 = m := ⟨_, rfl⟩
  obtain ⟨A1, hs1, hsrc1⟩ := run_front8 A n c m (by omega)
  have S1 := hsrc1 w P bs hn (by omega) h
  have hl1 : (bs.take m).length = m := by rw [List.length_take]; omega
  have e1 : bs.take m = bs.take 2048 := by
    rw [← hm]
    by_cases hb : n ≤ 2048
    · rw [Nat.min_eq_left hb, List.take_of_length_le (by omega), List.take_of_length_le (by omega)]
    · rw [Nat.min_eq_right (by omega)]
  obtain ⟨A2, hs2, hsrc2⟩ := run_tail8 A1 m c at0 (by omega) (by omega)
  have CP0 := parse_any w A2 ((bs.take m).drop at0) (m - at0) (c - at0) (by rw [List.length_drop, hl1]) (by omega) (by omega) (hsrc2 w P _ hl1 S1)
  rw [e1] at CP0
  have hmin : min (n : Int) 2048 = (m : Int) := by omega
  obtain ⟨R, hR⟩ : ∃ R, landF bs at0 = R := ⟨_, rfl⟩
  have HR := Lib.hid (show R = if (parseH ((bs.take 2048).drop at0)).2.2 = 8 then ((parseH ((bs.take 2048).drop at0)).1, (parseH ((bs.take 2048).drop at0)).2.1, if 2048 ≤ n then 21 else 8) else parseH ((bs.take 2048).drop at0) by rw [← hR, ← hn]; rfl)
  rw [hR]
  clear hR hsrc1 hsrc2 S1 e1 hl1 h hn
  generalize parseH ((bs.take 2048).drop at0) = p at *
  obtain ⟨ql, qu, qe⟩ := p
  unfold HeadGot at CP0
  simp only at CP0 HR
  have CP := Lib.hid CP0
  clear CP0
  by_cases h8 : qe = 8
  · have e8 : ((qe : Int) == 8) = true := by subst h8; rfl
    have HQ := Lib.hid (HR.out.trans (if_pos h8))
    obtain ⟨q, hq⟩ : ∃ q : Bool, ((m : Int) == 2048) = q := ⟨_, rfl⟩
    have CM := Lib.hid (fun X : World => more_any q X)
    have HF := Lib.hid (show ((if q = true then (21 : Int) else 8) = ((if 2048 ≤ n then 21 else 8 : Nat) : Int)) by
      cases q with
      | true =>
        have : (m : Int) = 2048 := by simpa using hq
        rw [if_pos rfl, if_pos (by omega)]; rfl
      | false =>
        have : ¬ (m : Int) = 2048 := by simpa using hq
        rw [if_neg (by simp), if_neg (by omega)]; rfl)
    generalize (if q = true then (21 : Int) else 8) = z at *
    clear h8 HR hm
    go_enter Tryz.func50, Tryz.ntmps50
    go_wp2_with fail
    refine CP.out.mono ?_
    rintro e w1 ⟨v1, o1, rfl, own1, f1, b1⟩
    have B1 := Lib.hid b1
    have O1 := Lib.hid own1
    have F1 := Lib.hid f1
    clear own1 f1 b1
    go_wp2_with fail
    refine (CM.out _).mono ?_
    rintro e w' ⟨rfl, rfl⟩
    go_wp2_with fail
    go_ret3
    exact ⟨v1, o1, by rw [HQ.out, HF.out]; rfl, by rw [HQ.out]; exact O1.out, F1.out, B1.out⟩
  · have e8 : ((qe : Int) == 8) = false := by simp; omega
    have HQ := Lib.hid (HR.out.trans (if_neg h8))
    clear h8 HR hm
    go_enter Tryz.func50, Tryz.ntmps50
    go_wp2_with fail
    refine CP.out.mono ?_
    rintro e w1 ⟨v1, o1, rfl, own1, f1, b1⟩
    have B1 := Lib.hid b1
    have O1 := Lib.hid own1
    have F1 := Lib.hid f1
    clear own1 f1 b1
    go_wp2_with fail
    go_ret3
    exact ⟨v1, o1, by rw [HQ.out]; rfl, by rw [HQ.out]; exact O1.out, F1.out, B1.out⟩

set_option maxHeartbeats 1000000 in
set_option maxRecDepth 100000 in
theorem clone9_any {P : Nat → Prop} (w : World) (A : Option Addr) (bs : List UInt8) (n c : Nat) (hn : bs.length = n) (hmax : n ≤ 140737488355328) (h : Src w P A bs) :
    Calls Tryz.prog 84 #[.slice A n c] w fun e w' => ∃ v o, e = .returned v ∧ Own w' v o bs ∧ (∀ b, o = some b → w.heap.size ≤ b) ∧ Below w.heap.size w w' := by
  cases A with
  | some a => exact clone8_any w a bs n c hn hmax (h.mono (fun _ _ _ => trivial))
  | none =>
    have hb : bs = [] := by
      cases bs with
      | nil => rfl
      | cons b l => obtain ⟨ad, hA, _⟩ := h (by simp); cases hA
    subst hb
    have hnil : ∀ X : World, (binOp .eql 22 (.slice none n c) (.slice none 0 0)).run Tryz.prog X = .ok (.bool true) X := fun X => Lib.run_eql_slice_nil X 22 5 none n c 0 0 Tryz.underlying22
    clear h
    go_enter Tryz.func84, Tryz.ntmps84
    go_wp2_with fail
    go_ret
    exact ⟨_, none, rfl, Own.nil _, fun _ h => (by cases h), Below.refl _ _⟩

set_option maxHeartbeats 4000000 in
set_option maxRecDepth 100000 in
theorem readBody_any {P : Nat → Prop} (w : World) (A : Option Addr) (bs : List UInt8) (n c kd nn : Nat) (ended : Bool) (hn : bs.length = n) (hnc : n ≤ c) (hmax : n ≤ 140737488351232) (hnn : nn ≤ 4096) (hkd : kd ≤ 3) (h : Src w P A bs) :
    Calls Tryz.prog 51 #[.slice A n c, .int .i64 (kd : Int), .int .u64 (nn : Int), .bool ended] w (TakeGot (bodyM bs (kd, nn, 0) ended) w) := by
  obtain ⟨R, hR⟩ : ∃ R, bodyM bs (kd, nn, 0) ended = R := ⟨_, rfl⟩
  have HR := Lib.hid hR
  rw [hR]
  clear hR
  have wn : IntKind.i64.wrap (nn : Int) = (nn : Int) := by rw [IntKind.wrap_i64]; omega
  have wu : IntKind.u64.wrap (n : Int) = (n : Int) := by rw [IntKind.wrap_u64]; omega
  obtain rfl | rfl | rfl | rfl : kd = 0 ∨ kd = 1 ∨ kd = 2 ∨ kd = 3 := by omega
  · have HF := Lib.hid (show R = ([], 0, 0) by rw [← HR.out]; rfl)
    clear h hn
    go_enter Tryz.func51, Tryz.ntmps51
    go_wp2_with fail
    go_ret3
    exact take_stop HF.out rfl (Below.refl _ _)
  · by_cases hl : n < nn
    · have d1 : decide ((n : Int) < (nn : Int)) = true := decide_eq_true (by omega)
      have d1n : decide (n < nn) = true := decide_eq_true hl
      have HF := Lib.hid (show R = ([], 0, 8) by
        rw [← HR.out]
        unfold bodyM
        rw [if_neg (by simp), if_pos rfl, if_pos (by rw [hn]; exact hl)])
      clear h hn
      go_enter Tryz.func51, Tryz.ntmps51
      go_wp2_with fail
      go_ret3
      exact take_stop HF.out rfl (Below.refl _ _)
    · have d1 : decide ((n : Int) < (nn : Int)) = false := decide_eq_false (by omega)
      have d1n : decide (n < nn) = false := decide_eq_false hl
      have HF := Lib.hid (show R = (bs.take nn, nn, 0) by
        rw [← HR.out]
        unfold bodyM
        rw [if_neg (by simp), if_pos rfl, if_neg (by rw [hn]; exact hl)])
      obtain ⟨A2, hs2, hsrc2⟩ := run_front_u64 A n c nn (by omega)
      have CO := Lib.hid (clone9_any w A2 (bs.take nn) nn c (by rw [List.length_take, hn]; omega) (by omega) (hsrc2 w P bs hn (by omega) h))
      clear h hn hsrc2
      go_enter Tryz.func51, Tryz.ntmps51
      go_wp2_with fail
      refine CO.out.mono ?_
      rintro e w1 ⟨v1, o1, rfl, own1, f1, b1⟩
      have O1 := Lib.hid own1
      have F1 := Lib.hid f1
      have B1 := Lib.hid b1
      clear own1 f1 b1
      go_wp2_with fail
      go_ret3
      exact ⟨v1, o1, take_tell HF.out rfl, by rw [HF.out]; exact O1.out, F1.out, B1.out⟩
  · have HF := Lib.hid (show takeF bs = R by
      rw [← HR.out]
      rfl)
    have CT := Lib.hid (take_any w A bs n c hn hnc hmax (h.mono (fun _ _ _ => trivial)))
    rw [HF.out] at CT
    unfold TakeGot at CT
    clear h hn
    go_enter Tryz.func51, Tryz.ntmps51
    go_wp2_with fail
    refine CT.out.mono ?_
    rintro e w1 ⟨v1, o1, rfl, own1, f1, b1⟩
    have O1 := Lib.hid own1
    have F1 := Lib.hid f1
    have B1 := Lib.hid b1
    clear own1 f1 b1
    go_wp2_with fail
    go_ret3
    exact ⟨v1, o1, rfl, O1.out, F1.out, B1.out⟩
  · have HG := Lib.hid (show (if 4096 < n then (([], 0, 21) : Tk) else if ended = true then (bs, bs.length, 0) else ([], 0, 8)) = R by
      rw [← HR.out]
      unfold bodyM
      simp only
      rw [if_neg (show ¬ (3 : Nat) = 0 by decide), if_neg (show ¬ (3 : Nat) = 1 by decide), if_neg (show ¬ (3 : Nat) = 2 by decide), hn])
    have CM := Lib.hid (fun (q : Bool) (X : World) => more_any q X)
    by_cases hb : 4096 < n
    · have d1 : decide ((4096 : Int) < (n : Int)) = true := decide_eq_true (by omega)
      have d1n : decide (4096 < n) = true := decide_eq_true hb
      have HF := Lib.hid (HG.out.symm.trans (if_pos hb))
      clear h hn
      go_enter Tryz.func51, Tryz.ntmps51
      go_wp2_with fail
      refine (CM.out true _).mono ?_
      rintro e w' ⟨rfl, rfl⟩
      go_wp2_with fail
      go_ret3
      exact take_stop HF.out rfl (Below.refl _ _)
    · have d1 : decide ((4096 : Int) < (n : Int)) = false := decide_eq_false (by omega)
      have d1n : decide (4096 < n) = false := decide_eq_false hb
      have HG2 := Lib.hid (HG.out.symm.trans (if_neg hb))
      cases ended with
      | false =>
        have HF := Lib.hid (HG2.out.trans (if_neg (by simp)))
        clear h hn
        go_enter Tryz.func51, Tryz.ntmps51
        go_wp2_with fail
        refine (CM.out false _).mono ?_
        rintro e w' ⟨rfl, rfl⟩
        go_wp2_with fail
        go_ret3
        exact take_stop HF.out rfl (Below.refl _ _)
      | true =>
        have HF := Lib.hid (HG2.out.trans (if_pos rfl))
        have CO := Lib.hid (clone9_any w A bs n c hn (by omega) h)
        rw [hn] at HF
        clear h hn
        go_enter Tryz.func51, Tryz.ntmps51
        go_wp2_with fail
        refine CO.out.mono ?_
        rintro e w1 ⟨v1, o1, rfl, own1, f1, b1⟩
        have O1 := Lib.hid own1
        have F1 := Lib.hid f1
        have B1 := Lib.hid b1
        clear own1 f1 b1
        go_wp2_with fail
        go_ret3
        exact ⟨v1, o1, take_tell HF.out rfl, by rw [HF.out]; exact O1.out, F1.out, B1.out⟩
end Go.Proofs.YtemgfppclakdmaaGreatDoor

namespace Go.Proofs.YtemgfppclakdmaaGreatDoor
open Go.RowKit

theorem results_cell1 {P : Program} {fn : Func} {p t : Tmp} {ty : TypeId} (h : fn.results = #[.cell p ty, .tmp t]) (tmps : Array Value) (w : World) (g : Nat) (tt : TypeId) (cs : Array Value) (fr : Nat × Nat) (d : TypeDesc)
    (hp : tmps.getD p undef = .pointer (some ⟨g, 0, none⟩)) (hg : w.heap[g]? = some (.cells cs tt fr))
    (hu : P.underlying ty = some d) (hd : (match d with | .struct _ | .array _ _ => true | _ => false) = true) (hi : (P.info? ty).map (·.size) = some cs.size) :
    (results fn tmps).run P w = .ok (.tuple #[.agg cs, tmps.getD t undef]) w := by
  have hp' : tmps[p]?.getD undef = .pointer (some ⟨g, 0, none⟩) := by simpa using hp
  simp [results, h, hp', asAddr, run_loadVar_row w g tt ty cs fr d hg hu hd hi]
theorem put5_below2 {W X : World} {g : Nat} (hB : Below W.heap.size W X) (hg : W.heap.size ≤ g) (a b c d e : Value) : Below W.heap.size W (put5 X g a b c d e) := by
  have ht := put5_turn X g a b c d e
  exact hB.trans ⟨ht.os, ht.tape, ht.output, ht.size, fun k hk => ht.block k (by have := hB.size; omega) (by omega)⟩

/-- What a start line says, as a message's beginning. -/
def FirstRq (r : Option RqM) (w : World) (e : Ending) (w' : World) : Prop :=
  Below w.heap.size w w' ∧ match r with
    | none => e = .returned (.tuple #[.agg #[.string ⟨#[]⟩, .string ⟨#[]⟩, .int .i64 0, .slice none 0 0, .slice none 0 0], .int .i64 5])
    | some (am, at_, an) => e = .returned (.tuple #[.agg #[.string ⟨am.toArray⟩, .string ⟨at_.toArray⟩, .int .i64 (an : Int), .slice none 0 0, .slice none 0 0], .int .i64 0])
set_option maxHeartbeats 4000000 in
set_option maxRecDepth 100000 in
theorem first_Rq (s : ByteArray) (w : World) (hs : s.size ≤ 140737488355328) (hp : Sta.PowT w) : Calls Tryz.prog 24 #[.string s] w (FirstRq (Sta.reqF (bl s)) w) := by
  obtain ⟨g, hg⟩ : ∃ g, w.heap.size = g := ⟨_, rfl⟩
  have I0 := Lib.hid (show Is (w.alloc (.cells #[.string ⟨#[]⟩, .string ⟨#[]⟩, .int .i64 0, .slice none 0 0, .slice none 0 0] 25)) g 25 [.string ⟨#[]⟩, .string ⟨#[]⟩, .int .i64 0, .slice none 0 0, .slice none 0 0] by have := Is.made w 25 [.string ⟨#[]⟩, .string ⟨#[]⟩, .int .i64 0, .slice none 0 0, .slice none 0 0]; rwa [hg] at this)
  have B0 := Lib.hid (show Below w.heap.size w (w.alloc (.cells #[.string ⟨#[]⟩, .string ⟨#[]⟩, .int .i64 0, .slice none 0 0, .slice none 0 0] 25)) from (Below.refl _ _).alloc (Nat.le_refl _) _)
  have CQ := Lib.hid (Sta.request_any s (w.alloc (.cells #[.string ⟨#[]⟩, .string ⟨#[]⟩, .int .i64 0, .slice none 0 0, .slice none 0 0] 25)) hs (hp.below B0.out))
  unfold Sta.ReqGot at CQ
  unfold FirstRq
  have HG := Lib.hid hg
  generalize Sta.reqF (bl s) = r at *
  clear hg hp
  cases r with
  | none =>
    simp only at CQ ⊢
    go_enter Tryz.func24, Tryz.ntmps24
    go_wp2_with fail
    try simp only [HG.out]
    refine CQ.out.mono ?_
    rintro e w2 ⟨b2, rfl⟩
    have I2 := Lib.hid (I0.out.kept (Turn.of_below (S := fun _ => False) b2) (fun h => h))
    have B2 := Lib.hid (B0.out.trans (b2.mono B0.out.size))
    clear b2
    have c0 : w2.cell? ⟨g, 0, none⟩ = some (.string ⟨#[]⟩) := I2.out.cell 0
    have cf0 : w2.frozen? ⟨g, 0, none⟩ = false := I2.out.free 0
    have c1 : w2.cell? ⟨g, 1, none⟩ = some (.string ⟨#[]⟩) := I2.out.cell 1
    have cf1 : w2.frozen? ⟨g, 1, none⟩ = false := I2.out.free 1
    have c2 : w2.cell? ⟨g, 2, none⟩ = some (.int .i64 0) := I2.out.cell 2
    have cf2 : w2.frozen? ⟨g, 2, none⟩ = false := I2.out.free 2
    have c3 : w2.cell? ⟨g, 3, none⟩ = some (.slice none 0 0) := I2.out.cell 3
    have cf3 : w2.frozen? ⟨g, 3, none⟩ = false := I2.out.free 3
    have c4 : w2.cell? ⟨g, 4, none⟩ = some (.slice none 0 0) := I2.out.cell 4
    have cf4 : w2.frozen? ⟨g, 4, none⟩ = false := I2.out.free 4
    have I9 := Lib.hid (put5_is I2.out (.string ⟨#[]⟩) (.string ⟨#[]⟩) (.int .i64 0) (.slice none 0 0) (.slice none 0 0))
    have B9 := Lib.hid (put5_below B2.out HG.out (.string ⟨#[]⟩) (.string ⟨#[]⟩) (.int .i64 0) (.slice none 0 0) (.slice none 0 0))
    go_wp2_with fail
    refine bodyPost_ret (results_cell1 rfl _ _ g _ _ _ _ rfl I9.out Tryz.underlying25 rfl (by kernel_rfl)) rfl ?_
    exact ⟨B9.out, rfl⟩
  | some a =>
    obtain ⟨am, at_, an⟩ := a
    simp only at CQ ⊢
    go_enter Tryz.func24, Tryz.ntmps24
    go_wp2_with fail
    try simp only [HG.out]
    refine CQ.out.mono ?_
    rintro e w2 ⟨b2, rfl⟩
    have I2 := Lib.hid (I0.out.kept (Turn.of_below (S := fun _ => False) b2) (fun h => h))
    have B2 := Lib.hid (B0.out.trans (b2.mono B0.out.size))
    clear b2
    have c0 : w2.cell? ⟨g, 0, none⟩ = some (.string ⟨#[]⟩) := I2.out.cell 0
    have cf0 : w2.frozen? ⟨g, 0, none⟩ = false := I2.out.free 0
    have c1 : w2.cell? ⟨g, 1, none⟩ = some (.string ⟨#[]⟩) := I2.out.cell 1
    have cf1 : w2.frozen? ⟨g, 1, none⟩ = false := I2.out.free 1
    have c2 : w2.cell? ⟨g, 2, none⟩ = some (.int .i64 0) := I2.out.cell 2
    have cf2 : w2.frozen? ⟨g, 2, none⟩ = false := I2.out.free 2
    have c3 : w2.cell? ⟨g, 3, none⟩ = some (.slice none 0 0) := I2.out.cell 3
    have cf3 : w2.frozen? ⟨g, 3, none⟩ = false := I2.out.free 3
    have c4 : w2.cell? ⟨g, 4, none⟩ = some (.slice none 0 0) := I2.out.cell 4
    have cf4 : w2.frozen? ⟨g, 4, none⟩ = false := I2.out.free 4
    have I9 := Lib.hid (put5_is I2.out (.string ⟨am.toArray⟩) (.string ⟨at_.toArray⟩) (.int .i64 (an : Int)) (.slice none 0 0) (.slice none 0 0))
    have B9 := Lib.hid (put5_below B2.out HG.out (.string ⟨am.toArray⟩) (.string ⟨at_.toArray⟩) (.int .i64 (an : Int)) (.slice none 0 0) (.slice none 0 0))
    go_wp2_with fail
    refine bodyPost_ret (results_cell1 rfl _ _ g _ _ _ _ rfl I9.out Tryz.underlying25 rfl (by kernel_rfl)) rfl ?_
    exact ⟨B9.out, rfl⟩

set_option maxHeartbeats 4000000 in
set_option maxRecDepth 100000 in
theorem kind_Rq {P : Nat → Prop} (x0 x1 : ByteArray) (k : Int) (fv bv : Value) (w : World) (A : Option Addr) (ls : List Fld) (n c : Nat) (hn : ls.length = n) (h : SrcF w P A ls) (hf : Fit ls) :
    Calls Tryz.prog 26 #[.agg #[.string x0, .string x1, .int .i64 k, fv, bv], .slice A n c] w (Tells (reqK k ls) w) := by
  have I0 := Lib.hid (Is.made w 25 [.string x0, .string x1, .int .i64 k, fv, bv])
  have B0 := Lib.hid (show Below w.heap.size w (w.alloc (.cells #[.string x0, .string x1, .int .i64 k, fv, bv] 25)) from (Below.refl _ _).alloc (Nat.le_refl _) _)
  have CK := Lib.hid (request_any k (w.alloc (.cells #[.string x0, .string x1, .int .i64 k, fv, bv] 25)) A ls n c hn (h.below B0.out) hf)
  unfold Tells kdV at CK ⊢
  generalize reqK k ls = K at *
  clear h hf hn
  go_enter Tryz.func26, Tryz.ntmps26
  go_upto_region 1 with fail
  generalize w.alloc _ = X0 at *
  have c2 : X0.cell? ⟨w.heap.size, 2, none⟩ = some (.int .i64 k) := I0.out.cell 2
  go_wp2_with fail
  refine CK.out.mono ?_
  rintro e w1 ⟨rfl, b1⟩
  have B1 := Lib.hid (B0.out.trans (b1.mono B0.out.size))
  clear b1
  go_wp2_with fail
  go_ret3
  exact ⟨rfl, B1.out⟩

set_option maxHeartbeats 4000000 in
set_option maxRecDepth 100000 in
theorem whole_Rq (s0 s1 : ByteArray) (k2 : Int) (x3 x4 : Value) (Af Ab : Option Addr) (nf cf nb cb : Nat) (w : World) :
    Calls Tryz.prog 28 #[.agg #[.string s0, .string s1, .int .i64 k2, x3, x4], .slice Af nf cf, .slice Ab nb cb] w fun e w' => e = .returned (.agg #[.string s0, .string s1, .int .i64 k2, .slice Af nf cf, .slice Ab nb cb]) ∧ Below w.heap.size w w' := by
  obtain ⟨g, hg⟩ : ∃ g, w.heap.size = g := ⟨_, rfl⟩
  obtain ⟨g2, hg2⟩ : ∃ g2, g + 1 = g2 := ⟨_, rfl⟩
  have i1 := (Is.made w 25 [.string s0, .string s1, .int .i64 k2, x3, x4]).alloc (.cells #[.string ⟨#[]⟩, .string ⟨#[]⟩, .int .i64 0, .slice none 0 0, .slice none 0 0] 25)
  have i2 := Is.made (w.alloc (.cells #[.string s0, .string s1, .int .i64 k2, x3, x4] 25)) 25 [.string ⟨#[]⟩, .string ⟨#[]⟩, .int .i64 0, .slice none 0 0, .slice none 0 0]
  rw [show (w.alloc (.cells #[.string s0, .string s1, .int .i64 k2, x3, x4] 25)).heap.size = w.heap.size + 1 from by simp, hg, hg2] at i2
  rw [hg] at i1
  have b0 : Below w.heap.size w ((w.alloc (.cells #[.string s0, .string s1, .int .i64 k2, x3, x4] 25)).alloc (.cells #[.string ⟨#[]⟩, .string ⟨#[]⟩, .int .i64 0, .slice none 0 0, .slice none 0 0] 25)) := ((Below.refl w.heap.size w).alloc (Nat.le_refl _) _).alloc (by simp) _
  have I1 := Lib.hid i1
  have I2 := Lib.hid i2
  have B0 := Lib.hid b0
  have HG := Lib.hid hg
  have HG2 := Lib.hid hg2
  clear i1 i2 b0 hg hg2
  go_enter Tryz.func28, Tryz.ntmps28
  go_upto_region 1 with fail
  simp only [HG.out, HG2.out]
  generalize (w.alloc _).alloc _ = X0 at *
  have a3 : X0.cell? ⟨g, 3, none⟩ = some (x3) := I1.out.cell 3
  have af3 : X0.frozen? ⟨g, 3, none⟩ = false := I1.out.free 3
  have a4 : X0.cell? ⟨g, 4, none⟩ = some (x4) := I1.out.cell 4
  have af4 : X0.frozen? ⟨g, 4, none⟩ = false := I1.out.free 4
  go_upto_region 2 with fail
  have I1b := Lib.hid ((I1.out.set 3 (.slice Af nf cf)).set 4 (.slice Ab nb cb))
  have hne : g2 ≠ g := by have := HG2.out; omega
  have I2b := Lib.hid ((I2.out.far (p := ⟨g, 3, none⟩) hne (.slice Af nf cf)).far (p := ⟨g, 4, none⟩) hne (.slice Ab nb cb))
  have B1 := Lib.hid ((B0.out.setCell (p := ⟨g, 3, none⟩) (by have := HG.out; show _ ≤ g; omega) (.slice Af nf cf)).setCell (p := ⟨g, 4, none⟩) (by have := HG.out; show _ ≤ g; omega) (.slice Ab nb cb))
  clear I1 I2 B0 a3 a4 af3 af4 hne
  generalize (X0.setCell _ _).setCell _ _ = X1 at *
  simp only [List.set_cons_zero, List.set_cons_succ] at I1b
  have b0 : X1.cell? ⟨g, 0, none⟩ = some (.string s0) := I1b.out.cell 0
  have b1 : X1.cell? ⟨g, 1, none⟩ = some (.string s1) := I1b.out.cell 1
  have b2 : X1.cell? ⟨g, 2, none⟩ = some (.int .i64 k2) := I1b.out.cell 2
  have b3 : X1.cell? ⟨g, 3, none⟩ = some (.slice Af nf cf) := I1b.out.cell 3
  have b4 : X1.cell? ⟨g, 4, none⟩ = some (.slice Ab nb cb) := I1b.out.cell 4
  have d0 : X1.cell? ⟨g2, 0, none⟩ = some (.string ⟨#[]⟩) := I2b.out.cell 0
  have df0 : X1.frozen? ⟨g2, 0, none⟩ = false := I2b.out.free 0
  have d1 : X1.cell? ⟨g2, 1, none⟩ = some (.string ⟨#[]⟩) := I2b.out.cell 1
  have df1 : X1.frozen? ⟨g2, 1, none⟩ = false := I2b.out.free 1
  have d2 : X1.cell? ⟨g2, 2, none⟩ = some (.int .i64 0) := I2b.out.cell 2
  have df2 : X1.frozen? ⟨g2, 2, none⟩ = false := I2b.out.free 2
  have d3 : X1.cell? ⟨g2, 3, none⟩ = some (.slice none 0 0) := I2b.out.cell 3
  have df3 : X1.frozen? ⟨g2, 3, none⟩ = false := I2b.out.free 3
  have d4 : X1.cell? ⟨g2, 4, none⟩ = some (.slice none 0 0) := I2b.out.cell 4
  have df4 : X1.frozen? ⟨g2, 4, none⟩ = false := I2b.out.free 4
  have I9 := Lib.hid (put5_is I2b.out (.string s0) (.string s1) (.int .i64 k2) (.slice Af nf cf) (.slice Ab nb cb))
  have B9 := Lib.hid (put5_below2 B1.out (by have := HG.out; have := HG2.out; omega) (g := g2) (.string s0) (.string s1) (.int .i64 k2) (.slice Af nf cf) (.slice Ab nb cb))
  go_wp2_with fail
  refine bodyPost_ret (results_cell_row rfl _ _ g2 _ _ _ _ rfl I9.out Tryz.underlying25 rfl (by kernel_rfl)) rfl ?_
  exact ⟨rfl, B9.out⟩

/-- What a start line says, as a message's beginning. -/
def FirstRs (r : Option RsM) (w : World) (e : Ending) (w' : World) : Prop :=
  Below w.heap.size w w' ∧ match r with
    | none => e = .returned (.tuple #[.agg #[.int .i64 0, .string ⟨#[]⟩, .int .i64 0, .slice none 0 0, .slice none 0 0], .int .i64 5])
    | some (an, ast, ar) => e = .returned (.tuple #[.agg #[.int .i64 (ast : Int), .string ⟨ar.toArray⟩, .int .i64 (an : Int), .slice none 0 0, .slice none 0 0], .int .i64 0])
set_option maxHeartbeats 4000000 in
set_option maxRecDepth 100000 in
theorem first_Rs (s : ByteArray) (w : World) (hs : s.size ≤ 140737488355328) (hp : Sta.PowT w) : Calls Tryz.prog 35 #[.string s] w (FirstRs (Sta.statF (bl s)) w) := by
  obtain ⟨g, hg⟩ : ∃ g, w.heap.size = g := ⟨_, rfl⟩
  have I0 := Lib.hid (show Is (w.alloc (.cells #[.int .i64 0, .string ⟨#[]⟩, .int .i64 0, .slice none 0 0, .slice none 0 0] 32)) g 32 [.int .i64 0, .string ⟨#[]⟩, .int .i64 0, .slice none 0 0, .slice none 0 0] by have := Is.made w 32 [.int .i64 0, .string ⟨#[]⟩, .int .i64 0, .slice none 0 0, .slice none 0 0]; rwa [hg] at this)
  have B0 := Lib.hid (show Below w.heap.size w (w.alloc (.cells #[.int .i64 0, .string ⟨#[]⟩, .int .i64 0, .slice none 0 0, .slice none 0 0] 32)) from (Below.refl _ _).alloc (Nat.le_refl _) _)
  have CQ := Lib.hid (Sta.status_any s (w.alloc (.cells #[.int .i64 0, .string ⟨#[]⟩, .int .i64 0, .slice none 0 0, .slice none 0 0] 32)) hs (hp.below B0.out))
  unfold Sta.StatGot at CQ
  unfold FirstRs
  have HG := Lib.hid hg
  generalize Sta.statF (bl s) = r at *
  clear hg hp
  cases r with
  | none =>
    simp only at CQ ⊢
    go_enter Tryz.func35, Tryz.ntmps35
    go_wp2_with fail
    try simp only [HG.out]
    refine CQ.out.mono ?_
    rintro e w2 ⟨b2, rfl⟩
    have I2 := Lib.hid (I0.out.kept (Turn.of_below (S := fun _ => False) b2) (fun h => h))
    have B2 := Lib.hid (B0.out.trans (b2.mono B0.out.size))
    clear b2
    have c0 : w2.cell? ⟨g, 0, none⟩ = some (.int .i64 0) := I2.out.cell 0
    have cf0 : w2.frozen? ⟨g, 0, none⟩ = false := I2.out.free 0
    have c1 : w2.cell? ⟨g, 1, none⟩ = some (.string ⟨#[]⟩) := I2.out.cell 1
    have cf1 : w2.frozen? ⟨g, 1, none⟩ = false := I2.out.free 1
    have c2 : w2.cell? ⟨g, 2, none⟩ = some (.int .i64 0) := I2.out.cell 2
    have cf2 : w2.frozen? ⟨g, 2, none⟩ = false := I2.out.free 2
    have c3 : w2.cell? ⟨g, 3, none⟩ = some (.slice none 0 0) := I2.out.cell 3
    have cf3 : w2.frozen? ⟨g, 3, none⟩ = false := I2.out.free 3
    have c4 : w2.cell? ⟨g, 4, none⟩ = some (.slice none 0 0) := I2.out.cell 4
    have cf4 : w2.frozen? ⟨g, 4, none⟩ = false := I2.out.free 4
    have I9 := Lib.hid (put5_is I2.out (.int .i64 0) (.string ⟨#[]⟩) (.int .i64 0) (.slice none 0 0) (.slice none 0 0))
    have B9 := Lib.hid (put5_below B2.out HG.out (.int .i64 0) (.string ⟨#[]⟩) (.int .i64 0) (.slice none 0 0) (.slice none 0 0))
    go_wp2_with fail
    refine bodyPost_ret (results_cell1 rfl _ _ g _ _ _ _ rfl I9.out Tryz.underlying32 rfl (by kernel_rfl)) rfl ?_
    exact ⟨B9.out, rfl⟩
  | some a =>
    obtain ⟨an, ast, ar⟩ := a
    simp only at CQ ⊢
    go_enter Tryz.func35, Tryz.ntmps35
    go_wp2_with fail
    try simp only [HG.out]
    refine CQ.out.mono ?_
    rintro e w2 ⟨b2, rfl⟩
    have I2 := Lib.hid (I0.out.kept (Turn.of_below (S := fun _ => False) b2) (fun h => h))
    have B2 := Lib.hid (B0.out.trans (b2.mono B0.out.size))
    clear b2
    have c0 : w2.cell? ⟨g, 0, none⟩ = some (.int .i64 0) := I2.out.cell 0
    have cf0 : w2.frozen? ⟨g, 0, none⟩ = false := I2.out.free 0
    have c1 : w2.cell? ⟨g, 1, none⟩ = some (.string ⟨#[]⟩) := I2.out.cell 1
    have cf1 : w2.frozen? ⟨g, 1, none⟩ = false := I2.out.free 1
    have c2 : w2.cell? ⟨g, 2, none⟩ = some (.int .i64 0) := I2.out.cell 2
    have cf2 : w2.frozen? ⟨g, 2, none⟩ = false := I2.out.free 2
    have c3 : w2.cell? ⟨g, 3, none⟩ = some (.slice none 0 0) := I2.out.cell 3
    have cf3 : w2.frozen? ⟨g, 3, none⟩ = false := I2.out.free 3
    have c4 : w2.cell? ⟨g, 4, none⟩ = some (.slice none 0 0) := I2.out.cell 4
    have cf4 : w2.frozen? ⟨g, 4, none⟩ = false := I2.out.free 4
    have I9 := Lib.hid (put5_is I2.out (.int .i64 (ast : Int)) (.string ⟨ar.toArray⟩) (.int .i64 (an : Int)) (.slice none 0 0) (.slice none 0 0))
    have B9 := Lib.hid (put5_below B2.out HG.out (.int .i64 (ast : Int)) (.string ⟨ar.toArray⟩) (.int .i64 (an : Int)) (.slice none 0 0) (.slice none 0 0))
    go_wp2_with fail
    refine bodyPost_ret (results_cell1 rfl _ _ g _ _ _ _ rfl I9.out Tryz.underlying32 rfl (by kernel_rfl)) rfl ?_
    exact ⟨B9.out, rfl⟩

set_option maxHeartbeats 4000000 in
set_option maxRecDepth 100000 in
theorem kind_Rs {P : Nat → Prop} (st : Int) (x1 : ByteArray) (k : Int) (m : ByteArray) (gm : Nat) (fv bv : Value) (w : World) (A : Option Addr) (ls : List Fld) (n c : Nat) (hn : ls.length = n) (h : SrcF w P A ls) (hf : Fit ls) (hm : w.cell? ⟨gm, 0, none⟩ = some (.string m)) (hgm : gm < w.heap.size) :
    Calls Tryz.prog 37 #[.agg #[.int .i64 st, .string x1, .int .i64 k, fv, bv], .slice A n c, .pointer (some ⟨gm, 0, none⟩)] w (Tells (resK st (bl m) (reqK k ls)) w) := by
  have I0 := Lib.hid (Is.made w 32 [.int .i64 st, .string x1, .int .i64 k, fv, bv])
  have B0 := Lib.hid (show Below w.heap.size w (w.alloc (.cells #[.int .i64 st, .string x1, .int .i64 k, fv, bv] 32)) from (Below.refl _ _).alloc (Nat.le_refl _) _)
  have CK := Lib.hid (response_any st m k (w.alloc (.cells #[.int .i64 st, .string x1, .int .i64 k, fv, bv] 32)) A ls n c hn (h.below B0.out) hf)
  have m0 : (w.alloc (.cells #[.int .i64 st, .string x1, .int .i64 k, fv, bv] 32)).cell? ⟨gm, 0, none⟩ = some (.string m) := (B0.out.cell (p := ⟨gm, 0, none⟩) hgm).trans hm
  unfold Tells kdV at CK ⊢
  generalize resK st (bl m) (reqK k ls) = K at *
  clear h hf hn hm hgm
  go_enter Tryz.func37, Tryz.ntmps37
  go_upto_region 1 with fail
  generalize w.alloc _ = X0 at *
  have c0 : X0.cell? ⟨w.heap.size, 0, none⟩ = some (.int .i64 st) := I0.out.cell 0
  have c2 : X0.cell? ⟨w.heap.size, 2, none⟩ = some (.int .i64 k) := I0.out.cell 2
  go_wp2_with fail
  refine CK.out.mono ?_
  rintro e w1 ⟨rfl, b1⟩
  have B1 := Lib.hid (B0.out.trans (b1.mono B0.out.size))
  clear b1
  go_wp2_with fail
  go_ret3
  exact ⟨rfl, B1.out⟩

set_option maxHeartbeats 4000000 in
set_option maxRecDepth 100000 in
theorem whole_Rs (k0 : Int) (s1 : ByteArray) (k2 : Int) (x3 x4 : Value) (Af Ab : Option Addr) (nf cf nb cb : Nat) (w : World) :
    Calls Tryz.prog 39 #[.agg #[.int .i64 k0, .string s1, .int .i64 k2, x3, x4], .slice Af nf cf, .slice Ab nb cb] w fun e w' => e = .returned (.agg #[.int .i64 k0, .string s1, .int .i64 k2, .slice Af nf cf, .slice Ab nb cb]) ∧ Below w.heap.size w w' := by
  obtain ⟨g, hg⟩ : ∃ g, w.heap.size = g := ⟨_, rfl⟩
  obtain ⟨g2, hg2⟩ : ∃ g2, g + 1 = g2 := ⟨_, rfl⟩
  have i1 := (Is.made w 32 [.int .i64 k0, .string s1, .int .i64 k2, x3, x4]).alloc (.cells #[.int .i64 0, .string ⟨#[]⟩, .int .i64 0, .slice none 0 0, .slice none 0 0] 32)
  have i2 := Is.made (w.alloc (.cells #[.int .i64 k0, .string s1, .int .i64 k2, x3, x4] 32)) 32 [.int .i64 0, .string ⟨#[]⟩, .int .i64 0, .slice none 0 0, .slice none 0 0]
  rw [show (w.alloc (.cells #[.int .i64 k0, .string s1, .int .i64 k2, x3, x4] 32)).heap.size = w.heap.size + 1 from by simp, hg, hg2] at i2
  rw [hg] at i1
  have b0 : Below w.heap.size w ((w.alloc (.cells #[.int .i64 k0, .string s1, .int .i64 k2, x3, x4] 32)).alloc (.cells #[.int .i64 0, .string ⟨#[]⟩, .int .i64 0, .slice none 0 0, .slice none 0 0] 32)) := ((Below.refl w.heap.size w).alloc (Nat.le_refl _) _).alloc (by simp) _
  have I1 := Lib.hid i1
  have I2 := Lib.hid i2
  have B0 := Lib.hid b0
  have HG := Lib.hid hg
  have HG2 := Lib.hid hg2
  clear i1 i2 b0 hg hg2
  go_enter Tryz.func39, Tryz.ntmps39
  go_upto_region 1 with fail
  simp only [HG.out, HG2.out]
  generalize (w.alloc _).alloc _ = X0 at *
  have a3 : X0.cell? ⟨g, 3, none⟩ = some (x3) := I1.out.cell 3
  have af3 : X0.frozen? ⟨g, 3, none⟩ = false := I1.out.free 3
  have a4 : X0.cell? ⟨g, 4, none⟩ = some (x4) := I1.out.cell 4
  have af4 : X0.frozen? ⟨g, 4, none⟩ = false := I1.out.free 4
  go_upto_region 2 with fail
  have I1b := Lib.hid ((I1.out.set 3 (.slice Af nf cf)).set 4 (.slice Ab nb cb))
  have hne : g2 ≠ g := by have := HG2.out; omega
  have I2b := Lib.hid ((I2.out.far (p := ⟨g, 3, none⟩) hne (.slice Af nf cf)).far (p := ⟨g, 4, none⟩) hne (.slice Ab nb cb))
  have B1 := Lib.hid ((B0.out.setCell (p := ⟨g, 3, none⟩) (by have := HG.out; show _ ≤ g; omega) (.slice Af nf cf)).setCell (p := ⟨g, 4, none⟩) (by have := HG.out; show _ ≤ g; omega) (.slice Ab nb cb))
  clear I1 I2 B0 a3 a4 af3 af4 hne
  generalize (X0.setCell _ _).setCell _ _ = X1 at *
  simp only [List.set_cons_zero, List.set_cons_succ] at I1b
  have b0 : X1.cell? ⟨g, 0, none⟩ = some (.int .i64 k0) := I1b.out.cell 0
  have b1 : X1.cell? ⟨g, 1, none⟩ = some (.string s1) := I1b.out.cell 1
  have b2 : X1.cell? ⟨g, 2, none⟩ = some (.int .i64 k2) := I1b.out.cell 2
  have b3 : X1.cell? ⟨g, 3, none⟩ = some (.slice Af nf cf) := I1b.out.cell 3
  have b4 : X1.cell? ⟨g, 4, none⟩ = some (.slice Ab nb cb) := I1b.out.cell 4
  have d0 : X1.cell? ⟨g2, 0, none⟩ = some (.int .i64 0) := I2b.out.cell 0
  have df0 : X1.frozen? ⟨g2, 0, none⟩ = false := I2b.out.free 0
  have d1 : X1.cell? ⟨g2, 1, none⟩ = some (.string ⟨#[]⟩) := I2b.out.cell 1
  have df1 : X1.frozen? ⟨g2, 1, none⟩ = false := I2b.out.free 1
  have d2 : X1.cell? ⟨g2, 2, none⟩ = some (.int .i64 0) := I2b.out.cell 2
  have df2 : X1.frozen? ⟨g2, 2, none⟩ = false := I2b.out.free 2
  have d3 : X1.cell? ⟨g2, 3, none⟩ = some (.slice none 0 0) := I2b.out.cell 3
  have df3 : X1.frozen? ⟨g2, 3, none⟩ = false := I2b.out.free 3
  have d4 : X1.cell? ⟨g2, 4, none⟩ = some (.slice none 0 0) := I2b.out.cell 4
  have df4 : X1.frozen? ⟨g2, 4, none⟩ = false := I2b.out.free 4
  have I9 := Lib.hid (put5_is I2b.out (.int .i64 k0) (.string s1) (.int .i64 k2) (.slice Af nf cf) (.slice Ab nb cb))
  have B9 := Lib.hid (put5_below2 B1.out (by have := HG.out; have := HG2.out; omega) (g := g2) (.int .i64 k0) (.string s1) (.int .i64 k2) (.slice Af nf cf) (.slice Ab nb cb))
  go_wp2_with fail
  refine bodyPost_ret (results_cell_row rfl _ _ g2 _ _ _ _ rfl I9.out Tryz.underlying32 rfl (by kernel_rfl)) rfl ?_
  exact ⟨rfl, B9.out⟩
end Go.Proofs.YtemgfppclakdmaaGreatDoor

namespace Go.Proofs.YtemgfppclakdmaaGreatDoor
open Go.RowKit

theorem lenF_kind (xs : List (List UInt8)) : (lenF xs).1 ≤ 3 := by
  unfold lenF
  repeat' split
  all_goals simp
theorem reqK_kind (n : Int) (ls : List Fld) : (reqK n ls).1 ≤ 3 := by
  unfold reqK
  repeat' split
  · simp
  · simp
  · unfold codF; split <;> simp
  · exact lenF_kind _
  · simp
theorem resK_kind (st : Int) (m : List UInt8) (p : Kd) (h : p.1 ≤ 3) : (resK st m p).1 ≤ 3 := by
  unfold resK
  repeat' split
  · simp
  · simp
  · simp
  · simp
  · exact h
/-- A response's status that a line tells, as its number. -/
theorem land_bad {α : Type} {kind : α → List Fld → Kd} {ended : Bool} {b : List UInt8} {a : α} {l : List Fld} {u e at1 : Nat} (h : landF b at1 = (l, u, e)) (he : e ≠ 0) : restM kind ended b a (fieldsM b at1) = (none, 0, e) := by
  rw [landF_is, h, if_pos he]
  obtain ⟨k, n, f, hk⟩ : ∃ k n f, kind a [] = (k, n, f) := ⟨_, _, _, rfl⟩
  rw [rest_eq hk, if_pos he]
theorem land_good {b : List UInt8} {l : List Fld} {u e at1 : Nat} (h : landF b at1 = (l, u, e)) (he : e = 0) : fieldsM b at1 = (l, at1 + u, 0) := by
  rw [landF_is, h, if_neg (by simpa using he)]
set_option maxHeartbeats 16000000 in
set_option maxRecDepth 100000 in
theorem read_Rq (W : World) (A : Option Addr) (bs : List UInt8) (n c : Nat) (hn : bs.length = n) (hnc : n ≤ c) (hmax : n ≤ 140737488351232) (h : Src W (fun _ => True) A bs) (hp : Sta.PowT W) :
    Calls Tryz.prog 23 #[.slice A n c, .bool false, .agg #[.func (.func 24) #[] #[], .func (.func 26) #[] #[], .func (.func 28) #[] #[]]] W (RqGot9 (requestM bs) W) := by
  obtain ⟨gB, hgB⟩ : ∃ g, W.heap.size = g := ⟨_, rfl⟩
  obtain ⟨g6, hg6⟩ : ∃ g, gB + 1 = g := ⟨_, rfl⟩
  obtain ⟨g9, hg9⟩ : ∃ g, g6 + 1 = g := ⟨_, rfl⟩
  obtain ⟨R, hR⟩ : ∃ R, requestM bs = R := ⟨_, rfl⟩
  obtain ⟨line, at1, e1, hf⟩ : ∃ line at1 e1, firstM bs = (line, at1, e1) := ⟨_, _, _, rfl⟩
  have HR := Lib.hid (hR.symm.trans (line_eq (begin := Sta.reqF) (kind := (fun a l => reqK (a.2.2 : Int) l)) (ended := false) hf))
  have hfr := firstM_range bs
  rw [hf] at hfr
  simp only at hfr
  have HFR := Lib.hid hfr
  have CL := Lib.hid (fun (X : World) (hX : Below W.heap.size W X) => readLine_any X A bs n c hn hnc (by omega) (h.kept (Turn.of_below (S := fun _ => False) hX) (fun _ _ h => h)))
  have CF := Lib.hid (fun (X : World) (hX : Below W.heap.size W X) (k : Nat) (hk : k ≤ n) (hk2 : k ≤ 512) => readFields_any X A bs n c k hn hnc hmax hk hk2 (h.kept (Turn.of_below (S := fun _ => False) hX) (fun _ _ h => h)))
  have HSRC := Lib.hid (fun (X : World) (hX : Below W.heap.size W X) => h.kept (P := fun _ => True) (Turn.of_below (S := fun _ => False) hX) (fun _ _ h => h))
  have HP := Lib.hid hp
  have HN := Lib.hid hn
  rw [hf] at CL
  unfold LineGot at CL
  simp only at CL
  rw [hR]
  have i1 := ((Is.made W 69 [.func (.func 24) #[] #[], .func (.func 26) #[] #[], .func (.func 28) #[] #[]]).alloc (.cells #[.string ⟨#[]⟩, .string ⟨#[]⟩, .int .i64 0, .slice none 0 0, .slice none 0 0] 25)).alloc (.cells #[.string ⟨#[]⟩, .string ⟨#[]⟩, .int .i64 0, .slice none 0 0, .slice none 0 0] 25)
  have i2 := (Is.made (W.alloc (.cells #[.func (.func 24) #[] #[], .func (.func 26) #[] #[], .func (.func 28) #[] #[]] 69)) 25 [.string ⟨#[]⟩, .string ⟨#[]⟩, .int .i64 0, .slice none 0 0, .slice none 0 0]).alloc (.cells #[.string ⟨#[]⟩, .string ⟨#[]⟩, .int .i64 0, .slice none 0 0, .slice none 0 0] 25)
  rw [show (W.alloc (.cells #[.func (.func 24) #[] #[], .func (.func 26) #[] #[], .func (.func 28) #[] #[]] 69)).heap.size = W.heap.size + 1 from by simp, hgB, hg6] at i2
  have i3 := Is.made ((W.alloc (.cells #[.func (.func 24) #[] #[], .func (.func 26) #[] #[], .func (.func 28) #[] #[]] 69)).alloc (.cells #[.string ⟨#[]⟩, .string ⟨#[]⟩, .int .i64 0, .slice none 0 0, .slice none 0 0] 25)) 25 [.string ⟨#[]⟩, .string ⟨#[]⟩, .int .i64 0, .slice none 0 0, .slice none 0 0]
  rw [show ((W.alloc (.cells #[.func (.func 24) #[] #[], .func (.func 26) #[] #[], .func (.func 28) #[] #[]] 69)).alloc (.cells #[.string ⟨#[]⟩, .string ⟨#[]⟩, .int .i64 0, .slice none 0 0, .slice none 0 0] 25)).heap.size = W.heap.size + 1 + 1 from by simp, hgB, hg6, hg9] at i3
  rw [hgB] at i1
  have b0 : Below W.heap.size W (((W.alloc (.cells #[.func (.func 24) #[] #[], .func (.func 26) #[] #[], .func (.func 28) #[] #[]] 69)).alloc (.cells #[.string ⟨#[]⟩, .string ⟨#[]⟩, .int .i64 0, .slice none 0 0, .slice none 0 0] 25)).alloc (.cells #[.string ⟨#[]⟩, .string ⟨#[]⟩, .int .i64 0, .slice none 0 0, .slice none 0 0] 25)) := (((Below.refl W.heap.size W).alloc (Nat.le_refl _) _).alloc (by simp) _).alloc (by simp; omega) _
  have J0 := Lib.hid i1
  have I0 := Lib.hid i2
  have N0 := Lib.hid i3
  have B0 := Lib.hid b0
  have HGB := Lib.hid hgB
  have HG6 := Lib.hid hg6
  have HG9 := Lib.hid hg9
  clear i1 i2 i3 b0 hgB hg6 hg9 hfr h hn hR hf hp
  go_enter Tryz.func23, Tryz.ntmps23
  go_upto_region 2 with fail
  simp only [HGB.out, HG6.out, HG9.out]
  generalize ((W.alloc _).alloc _).alloc _ = X0 at *
  have HLE := Lib.hid (show W.heap.size ≤ g6 ∧ g6 < g9 from by have := HGB.out; have := HG6.out; have := HG9.out; omega)
  clear HGB HG6 HG9
  go_wp2_with fail
  refine (CL.out X0 B0.out).mono ?_
  rintro e y1 ⟨rfl, rfl⟩
  clear CL
  by_cases h1 : e1 = 0
  · have d1 : ((e1 : Int) != 0) = false := by subst h1; rfl
    have HR1 := Lib.hid (HR.out.trans (if_neg (fun h => h h1)))
    have hat : at1 ≤ n ∧ at1 ≤ 512 ∧ line.length ≤ 512 := by
      rcases HFR.out with ⟨_, h2, h3, _, h5⟩ | ⟨h2, _, _⟩
      · exact ⟨by rw [← HN.out]; exact h2, h3, h5⟩
      · exact absurd h1 h2
    obtain ⟨hat1, hat2, hll⟩ := hat
    have CQ := Lib.hid (first_Rq ⟨line.toArray⟩ X0 (by rw [← bl_length, bl_mk]; omega) (HP.out.below B0.out))
    rw [bl_mk] at CQ
    unfold FirstRq at CQ
    clear HR HFR h1 hll
    have j0 : X0.cell? ⟨gB, 0, none⟩ = some (.func (.func 24) #[] #[]) := J0.out.cell 0
    cases hq : Sta.reqF line with
    | none =>
      rw [hq] at CQ HR1
      simp only at CQ HR1
      go_wp2_with fail
      refine CQ.out.mono ?_
      rintro e y2 ⟨b2, rfl⟩
      have b2' := b2.alloc b2.size (.cells #[.string ⟨#[]⟩, .string ⟨#[]⟩, .int .i64 0, .slice none 0 0, .slice none 0 0] 25)
      have I2 := Lib.hid (I0.out.kept (Turn.of_below (S := fun _ => False) b2') (fun h => h))
      have N2 := Lib.hid (N0.out.kept (Turn.of_below (S := fun _ => False) b2') (fun h => h))
      have B2 := Lib.hid (B0.out.trans (b2'.mono B0.out.size))
      clear b2 b2' I0 N0 J0 B0 CQ j0
      go_upto_region 6 with fail
      generalize y2.alloc _ = X2 at *
      have r0 : X2.cell? ⟨g6, 0, none⟩ = some (.string ⟨#[]⟩) := I2.out.cell 0
      have rf0 : X2.frozen? ⟨g6, 0, none⟩ = false := I2.out.free 0
      have r1 : X2.cell? ⟨g6, 1, none⟩ = some (.string ⟨#[]⟩) := I2.out.cell 1
      have rf1 : X2.frozen? ⟨g6, 1, none⟩ = false := I2.out.free 1
      have r2 : X2.cell? ⟨g6, 2, none⟩ = some (.int .i64 0) := I2.out.cell 2
      have rf2 : X2.frozen? ⟨g6, 2, none⟩ = false := I2.out.free 2
      have r3 : X2.cell? ⟨g6, 3, none⟩ = some (.slice none 0 0) := I2.out.cell 3
      have rf3 : X2.frozen? ⟨g6, 3, none⟩ = false := I2.out.free 3
      have r4 : X2.cell? ⟨g6, 4, none⟩ = some (.slice none 0 0) := I2.out.cell 4
      have rf4 : X2.frozen? ⟨g6, 4, none⟩ = false := I2.out.free 4
      have n0 : X2.cell? ⟨g9, 0, none⟩ = some (.string ⟨#[]⟩) := N2.out.cell 0
      have n1 : X2.cell? ⟨g9, 1, none⟩ = some (.string ⟨#[]⟩) := N2.out.cell 1
      have n2 : X2.cell? ⟨g9, 2, none⟩ = some (.int .i64 0) := N2.out.cell 2
      have n3 : X2.cell? ⟨g9, 3, none⟩ = some (.slice none 0 0) := N2.out.cell 3
      have n4 : X2.cell? ⟨g9, 4, none⟩ = some (.slice none 0 0) := N2.out.cell 4
      have I99 := Lib.hid (put5_is I2.out (.string ⟨#[]⟩) (.string ⟨#[]⟩) (.int .i64 0) (.slice none 0 0) (.slice none 0 0))
      have B99 := Lib.hid (put5_below2 B2.out HLE.out.1 (g := g6) (.string ⟨#[]⟩) (.string ⟨#[]⟩) (.int .i64 0) (.slice none 0 0) (.slice none 0 0))
      go_wp2_with fail
      refine bodyPost_ret (results_cell2 rfl _ _ g6 _ _ _ _ rfl I99.out Tryz.underlying25 rfl (by kernel_rfl)) rfl ?_
      exact rq_stop HR1.out rfl B99.out
    | some a =>
      obtain ⟨am, at_, an⟩ := a
      rw [hq] at CQ HR1
      simp only at CQ HR1
      clear hq
      go_wp2_with fail
      refine CQ.out.mono ?_
      rintro e y2 ⟨b2, rfl⟩
      have b2' := b2.alloc b2.size (.cells #[.string ⟨am.toArray⟩, .string ⟨at_.toArray⟩, .int .i64 (an : Int), .slice none 0 0, .slice none 0 0] 25)
      have M2 := Lib.hid (Is.made y2 25 [.string ⟨am.toArray⟩, .string ⟨at_.toArray⟩, .int .i64 (an : Int), .slice none 0 0, .slice none 0 0])
      have I2 := Lib.hid (I0.out.kept (Turn.of_below (S := fun _ => False) b2') (fun h => h))
      have N2 := Lib.hid (N0.out.kept (Turn.of_below (S := fun _ => False) b2') (fun h => h))
      have J2 := Lib.hid (J0.out.kept (Turn.of_below (S := fun _ => False) b2') (fun h => h))
      have B2 := Lib.hid (B0.out.trans (b2'.mono B0.out.size))
      clear b2 b2' I0 N0 J0 B0 CQ j0
      go_upto_region 6 with fail
      generalize y2.alloc _ = X2 at *
      generalize y2.heap.size = g13 at *
      obtain ⟨fl, qu, e3, hff⟩ : ∃ fl qu e3, landF bs at1 = (fl, qu, e3) := ⟨_, _, _, rfl⟩
      have CF2 := Lib.hid (CF.out X2 B2.out at1 hat1 hat2)
      rw [hff] at CF2
      unfold HeadGot at CF2
      simp only at CF2
      clear CF
      go_wp2_with fail
      refine CF2.out.mono ?_
      rintro e X3 ⟨v3, o3, rfl, own3, f3, b3⟩
      have I3 := Lib.hid (I2.out.kept (Turn.of_below (S := fun _ => False) b3) (fun h => h))
      have N3 := Lib.hid (N2.out.kept (Turn.of_below (S := fun _ => False) b3) (fun h => h))
      have J3 := Lib.hid (J2.out.kept (Turn.of_below (S := fun _ => False) b3) (fun h => h))
      have M3 := Lib.hid (M2.out.kept (Turn.of_below (S := fun _ => False) b3) (fun h => h))
      have B3 := Lib.hid (B2.out.trans (b3.mono B2.out.size))
      have O3 := Lib.hid own3
      have F3 := Lib.hid (fun (b : Nat) (hb : o3 = some b) => (show g6 < b by have := f3 b hb; have := I2.out.lt; omega))
      obtain ⟨A3, c3, rfl, s3⟩ := own3.src (fun _ => True) (fun _ _ => trivial)
      have S3 := Lib.hid s3
      clear own3 f3 b3 s3 CF2 I2 N2 J2 M2 B2
      by_cases h3 : e3 = 0
      · have d3 : ((e3 : Int) != 0) = false := by subst h3; rfl
        have hfe := land_good hff h3
        obtain ⟨at3, hat3⟩ : ∃ k, at1 + qu = k := ⟨_, rfl⟩
        rw [hat3] at hfe
        obtain ⟨kd, nn, ke, hke⟩ : ∃ kd nn ke, reqK (an : Int) fl = (kd, nn, ke) := ⟨_, _, _, rfl⟩
        have HR3 := HR1.out
        rw [hfe, rest_eq (kind := (fun a l => reqK (a.2.2 : Int) l)) (a := (am, at_, an)) hke, if_neg (by simp)] at HR3
        have HR4 := Lib.hid HR3
        have hfr := fieldsM_range bs at1 (by rw [HN.out]; exact hat1) hat2
        have hbk := fieldsM_bulk bs at1
        rw [hfe] at hfr hbk
        simp only at hfr hbk
        have hat4 : at3 ≤ n := by
          rcases hfr with ⟨_, h2, _, _⟩ | ⟨h2, _⟩
          · rw [← HN.out]; exact h2
          · exact absurd rfl h2
        have hns := reqK_small (an : Int) fl
        rw [hke] at hns
        simp only at hns
        have hkd := reqK_kind (an : Int) fl
        rw [hke] at hkd
        simp only at hkd
        have wr : IntKind.i64.wrap ((at1 : Int) + (qu : Int)) = ((at3 : Nat) : Int) := by rw [IntKind.wrap_i64]; omega
        have CK := Lib.hid (kind_Rq ⟨am.toArray⟩ ⟨at_.toArray⟩ (an : Int) (.slice none 0 0) (.slice none 0 0) X3 A3 fl fl.length c3 rfl S3.out (Meek.small (by omega)).fit)
        rw [hke] at CK
        unfold Tells kdV at CK
        simp only at CK
        clear HR1 HR3 hfe h3 hke hff hfr hbk
        have j1 : X3.cell? ⟨gB, 1, none⟩ = some (.func (.func 26) #[] #[]) := J3.out.cell 1
        have m0 : X3.cell? ⟨g13, 0, none⟩ = some (.string ⟨am.toArray⟩) := M3.out.cell 0
        have m1 : X3.cell? ⟨g13, 1, none⟩ = some (.string ⟨at_.toArray⟩) := M3.out.cell 1
        have m2 : X3.cell? ⟨g13, 2, none⟩ = some (.int .i64 (an : Int)) := M3.out.cell 2
        have m3 : X3.cell? ⟨g13, 3, none⟩ = some (.slice none 0 0) := M3.out.cell 3
        have m4 : X3.cell? ⟨g13, 4, none⟩ = some (.slice none 0 0) := M3.out.cell 4
        go_wp2_with fail
        refine CK.out.mono ?_
        rintro e X4 ⟨rfl, b4⟩
        have I4 := Lib.hid (I3.out.kept (Turn.of_below (S := fun _ => False) b4) (fun h => h))
        have N4 := Lib.hid (N3.out.kept (Turn.of_below (S := fun _ => False) b4) (fun h => h))
        have J4 := Lib.hid (J3.out.kept (Turn.of_below (S := fun _ => False) b4) (fun h => h))
        have M4 := Lib.hid (M3.out.kept (Turn.of_below (S := fun _ => False) b4) (fun h => h))
        have O4 := Lib.hid (O3.out.kept (Turn.of_below (S := fun _ => False) b4) (fun _ _ h => h))
        have B4 := Lib.hid (B3.out.trans (b4.mono B3.out.size))
        clear b4 CK O3 I3 N3 J3 M3 B3 S3 j1 m0 m1 m2 m3 m4
        by_cases h4 : ke = 0
        · have d4 : ((ke : Int) != 0) = false := by subst h4; rfl
          have HR5 := HR4.out.trans (if_neg (fun h => h h4))
          obtain ⟨A5, hs5, hsrc5⟩ := run_tail8 A n c at3 hat4 hnc
          obtain ⟨bx, bu, be, hbb⟩ : ∃ bx bu be, bodyM (bs.drop at3) (kd, nn, 0) false = (bx, bu, be) := ⟨_, _, _, rfl⟩
          have CB := Lib.hid (readBody_any X4 A5 (bs.drop at3) (n - at3) (c - at3) kd nn false (by rw [List.length_drop, HN.out]) (by omega) (by omega) hns hkd (hsrc5 X4 _ bs HN.out (HSRC.out X4 B4.out)))
          have hbr := bodyM_range (bs.drop at3) (kd, nn, 0) false (fun _ => hns)
          rw [hbb] at hbr CB
          rw [h4, hbb] at HR5
          have HR6 := Lib.hid (HR5.trans done_eq)
          rw [List.length_drop, HN.out] at hbr
          simp only at hbr
          have HBR := Lib.hid hbr
          unfold TakeGot at CB
          simp only at CB
          clear HR4 HR5 h4 hbr hbb hsrc5
          go_wp2_with fail
          refine CB.out.mono ?_
          rintro e X5 ⟨v5, o5, rfl, own5, f5, b5⟩
          obtain ⟨Av, cv, hv, _⟩ := own5.src (fun _ => True) (fun _ _ => trivial)
          subst hv
          have I5 := Lib.hid (I4.out.kept (Turn.of_below (S := fun _ => False) b5) (fun h => h))
          have N5 := Lib.hid (N4.out.kept (Turn.of_below (S := fun _ => False) b5) (fun h => h))
          have J5 := Lib.hid (J4.out.kept (Turn.of_below (S := fun _ => False) b5) (fun h => h))
          have M5 := Lib.hid (M4.out.kept (Turn.of_below (S := fun _ => False) b5) (fun h => h))
          have O5 := Lib.hid (O4.out.kept (Turn.of_below (S := fun _ => False) b5) (fun _ _ h => h))
          have B5 := Lib.hid (B4.out.trans (b5.mono B4.out.size))
          have P5 := Lib.hid own5
          have F5 := Lib.hid (fun (b : Nat) (hb : o5 = some b) => (show g6 < b by have := f5 b hb; have := I4.out.lt; omega))
          clear own5 f5 b5 CB O4 I4 N4 J4 M4 B4
          by_cases h5 : be = 0
          · have d5 : ((be : Int) != 0) = false := by subst h5; rfl
            have HF := Lib.hid (HR6.out.trans (if_neg (fun h => h h5)))
            have wr2 : IntKind.i64.wrap ((at3 : Int) + (bu : Int)) = (at3 : Int) + (bu : Int) := by
              have : bu ≤ n - at3 := by
                rcases HBR.out with ⟨_, _, h⟩ | ⟨_, _, h⟩ <;> omega
              rw [IntKind.wrap_i64]; omega
            clear HR6 h5 HBR
            have j2 : X5.cell? ⟨gB, 2, none⟩ = some (.func (.func 28) #[] #[]) := J5.out.cell 2
            have m0 : X5.cell? ⟨g13, 0, none⟩ = some (.string ⟨am.toArray⟩) := M5.out.cell 0
            have m1 : X5.cell? ⟨g13, 1, none⟩ = some (.string ⟨at_.toArray⟩) := M5.out.cell 1
            have m2 : X5.cell? ⟨g13, 2, none⟩ = some (.int .i64 (an : Int)) := M5.out.cell 2
            have m3 : X5.cell? ⟨g13, 3, none⟩ = some (.slice none 0 0) := M5.out.cell 3
            have m4 : X5.cell? ⟨g13, 4, none⟩ = some (.slice none 0 0) := M5.out.cell 4
            have CW := Lib.hid (whole_Rq ⟨am.toArray⟩ ⟨at_.toArray⟩ (an : Int) (.slice none 0 0) (.slice none 0 0) A3 Av fl.length c3 bx.length cv X5)
            go_wp2_with fail
            refine CW.out.mono ?_
            rintro e X6 ⟨rfl, b6⟩
            have I6 := Lib.hid (I5.out.kept (Turn.of_below (S := fun _ => False) b6) (fun h => h))
            have O6 := Lib.hid (O5.out.kept (Turn.of_below (S := fun _ => False) b6) (fun _ _ h => h))
            have P6 := Lib.hid (P5.out.kept (Turn.of_below (S := fun _ => False) b6) (fun _ _ h => h))
            have B6 := Lib.hid (B5.out.trans (b6.mono B5.out.size))
            clear b6 CW O5 P5 I5 N5 J5 M5 B5 j2 m0 m1 m2 m3 m4
            have r0 : X6.cell? ⟨g6, 0, none⟩ = some (.string ⟨#[]⟩) := I6.out.cell 0
            have rf0 : X6.frozen? ⟨g6, 0, none⟩ = false := I6.out.free 0
            have r1 : X6.cell? ⟨g6, 1, none⟩ = some (.string ⟨#[]⟩) := I6.out.cell 1
            have rf1 : X6.frozen? ⟨g6, 1, none⟩ = false := I6.out.free 1
            have r2 : X6.cell? ⟨g6, 2, none⟩ = some (.int .i64 0) := I6.out.cell 2
            have rf2 : X6.frozen? ⟨g6, 2, none⟩ = false := I6.out.free 2
            have r3 : X6.cell? ⟨g6, 3, none⟩ = some (.slice none 0 0) := I6.out.cell 3
            have rf3 : X6.frozen? ⟨g6, 3, none⟩ = false := I6.out.free 3
            have r4 : X6.cell? ⟨g6, 4, none⟩ = some (.slice none 0 0) := I6.out.cell 4
            have rf4 : X6.frozen? ⟨g6, 4, none⟩ = false := I6.out.free 4
            have I99 := Lib.hid (put5_is I6.out (.string ⟨am.toArray⟩) (.string ⟨at_.toArray⟩) (.int .i64 (an : Int)) (.slice A3 fl.length c3) (.slice Av bx.length cv))
            have B99 := Lib.hid (put5_below2 B6.out HLE.out.1 (g := g6) (.string ⟨am.toArray⟩) (.string ⟨at_.toArray⟩) (.int .i64 (an : Int)) (.slice A3 fl.length c3) (.slice Av bx.length cv))
            have O9 := Lib.hid (O6.out.kept (put5_turn X6 g6 (.string ⟨am.toArray⟩) (.string ⟨at_.toArray⟩) (.int .i64 (an : Int)) (.slice A3 fl.length c3) (.slice Av bx.length cv)) (fun b hb e => by have := F3.out b hb; omega))
            have P9 := Lib.hid (P6.out.kept (put5_turn X6 g6 (.string ⟨am.toArray⟩) (.string ⟨at_.toArray⟩) (.int .i64 (an : Int)) (.slice A3 fl.length c3) (.slice Av bx.length cv)) (fun b hb e => by have := F5.out b hb; omega))
            go_wp2_with fail
            refine bodyPost_ret (results_cell2 rfl _ _ g6 _ _ _ _ rfl I99.out Tryz.underlying25 rfl (by kernel_rfl)) rfl ?_
            have hle := HLE.out
            exact ⟨_, o3, _, o5, by rw [HF.out]; rfl, by rw [HF.out]; exact O9.out, by rw [HF.out]; exact P9.out, fun b hb => by have := F3.out b hb; omega, fun b hb => by have := F5.out b hb; omega, B99.out⟩
          · have d5 : ((be : Int) != 0) = true := by simp; omega
            have HF := Lib.hid (HR6.out.trans (if_pos h5))
            clear HR6 h5 HBR
            have r0 : X5.cell? ⟨g6, 0, none⟩ = some (.string ⟨#[]⟩) := I5.out.cell 0
            have rf0 : X5.frozen? ⟨g6, 0, none⟩ = false := I5.out.free 0
            have r1 : X5.cell? ⟨g6, 1, none⟩ = some (.string ⟨#[]⟩) := I5.out.cell 1
            have rf1 : X5.frozen? ⟨g6, 1, none⟩ = false := I5.out.free 1
            have r2 : X5.cell? ⟨g6, 2, none⟩ = some (.int .i64 0) := I5.out.cell 2
            have rf2 : X5.frozen? ⟨g6, 2, none⟩ = false := I5.out.free 2
            have r3 : X5.cell? ⟨g6, 3, none⟩ = some (.slice none 0 0) := I5.out.cell 3
            have rf3 : X5.frozen? ⟨g6, 3, none⟩ = false := I5.out.free 3
            have r4 : X5.cell? ⟨g6, 4, none⟩ = some (.slice none 0 0) := I5.out.cell 4
            have rf4 : X5.frozen? ⟨g6, 4, none⟩ = false := I5.out.free 4
            have n0 : X5.cell? ⟨g9, 0, none⟩ = some (.string ⟨#[]⟩) := N5.out.cell 0
            have n1 : X5.cell? ⟨g9, 1, none⟩ = some (.string ⟨#[]⟩) := N5.out.cell 1
            have n2 : X5.cell? ⟨g9, 2, none⟩ = some (.int .i64 0) := N5.out.cell 2
            have n3 : X5.cell? ⟨g9, 3, none⟩ = some (.slice none 0 0) := N5.out.cell 3
            have n4 : X5.cell? ⟨g9, 4, none⟩ = some (.slice none 0 0) := N5.out.cell 4
            have I99 := Lib.hid (put5_is I5.out (.string ⟨#[]⟩) (.string ⟨#[]⟩) (.int .i64 0) (.slice none 0 0) (.slice none 0 0))
            have B99 := Lib.hid (put5_below2 B5.out HLE.out.1 (g := g6) (.string ⟨#[]⟩) (.string ⟨#[]⟩) (.int .i64 0) (.slice none 0 0) (.slice none 0 0))
            go_wp2_with fail
            refine bodyPost_ret (results_cell2 rfl _ _ g6 _ _ _ _ rfl I99.out Tryz.underlying25 rfl (by kernel_rfl)) rfl ?_
            exact rq_stop HF.out rfl B99.out
        · have d4 : ((ke : Int) != 0) = true := by simp; omega
          have HF := Lib.hid (HR4.out.trans (if_pos h4))
          clear HR4 h4
          have r0 : X4.cell? ⟨g6, 0, none⟩ = some (.string ⟨#[]⟩) := I4.out.cell 0
          have rf0 : X4.frozen? ⟨g6, 0, none⟩ = false := I4.out.free 0
          have r1 : X4.cell? ⟨g6, 1, none⟩ = some (.string ⟨#[]⟩) := I4.out.cell 1
          have rf1 : X4.frozen? ⟨g6, 1, none⟩ = false := I4.out.free 1
          have r2 : X4.cell? ⟨g6, 2, none⟩ = some (.int .i64 0) := I4.out.cell 2
          have rf2 : X4.frozen? ⟨g6, 2, none⟩ = false := I4.out.free 2
          have r3 : X4.cell? ⟨g6, 3, none⟩ = some (.slice none 0 0) := I4.out.cell 3
          have rf3 : X4.frozen? ⟨g6, 3, none⟩ = false := I4.out.free 3
          have r4 : X4.cell? ⟨g6, 4, none⟩ = some (.slice none 0 0) := I4.out.cell 4
          have rf4 : X4.frozen? ⟨g6, 4, none⟩ = false := I4.out.free 4
          have n0 : X4.cell? ⟨g9, 0, none⟩ = some (.string ⟨#[]⟩) := N4.out.cell 0
          have n1 : X4.cell? ⟨g9, 1, none⟩ = some (.string ⟨#[]⟩) := N4.out.cell 1
          have n2 : X4.cell? ⟨g9, 2, none⟩ = some (.int .i64 0) := N4.out.cell 2
          have n3 : X4.cell? ⟨g9, 3, none⟩ = some (.slice none 0 0) := N4.out.cell 3
          have n4 : X4.cell? ⟨g9, 4, none⟩ = some (.slice none 0 0) := N4.out.cell 4
          have I99 := Lib.hid (put5_is I4.out (.string ⟨#[]⟩) (.string ⟨#[]⟩) (.int .i64 0) (.slice none 0 0) (.slice none 0 0))
          have B99 := Lib.hid (put5_below2 B4.out HLE.out.1 (g := g6) (.string ⟨#[]⟩) (.string ⟨#[]⟩) (.int .i64 0) (.slice none 0 0) (.slice none 0 0))
          go_wp2_with fail
          refine bodyPost_ret (results_cell2 rfl _ _ g6 _ _ _ _ rfl I99.out Tryz.underlying25 rfl (by kernel_rfl)) rfl ?_
          exact rq_stop HF.out rfl B99.out
      · have d3 : ((e3 : Int) != 0) = true := by simp; omega
        have HF := Lib.hid (HR1.out.trans (land_bad (kind := (fun a l => reqK (a.2.2 : Int) l)) (ended := false) (a := (am, at_, an)) hff h3))
        clear HR1 h3 hff
        have r0 : X3.cell? ⟨g6, 0, none⟩ = some (.string ⟨#[]⟩) := I3.out.cell 0
        have rf0 : X3.frozen? ⟨g6, 0, none⟩ = false := I3.out.free 0
        have r1 : X3.cell? ⟨g6, 1, none⟩ = some (.string ⟨#[]⟩) := I3.out.cell 1
        have rf1 : X3.frozen? ⟨g6, 1, none⟩ = false := I3.out.free 1
        have r2 : X3.cell? ⟨g6, 2, none⟩ = some (.int .i64 0) := I3.out.cell 2
        have rf2 : X3.frozen? ⟨g6, 2, none⟩ = false := I3.out.free 2
        have r3 : X3.cell? ⟨g6, 3, none⟩ = some (.slice none 0 0) := I3.out.cell 3
        have rf3 : X3.frozen? ⟨g6, 3, none⟩ = false := I3.out.free 3
        have r4 : X3.cell? ⟨g6, 4, none⟩ = some (.slice none 0 0) := I3.out.cell 4
        have rf4 : X3.frozen? ⟨g6, 4, none⟩ = false := I3.out.free 4
        have n0 : X3.cell? ⟨g9, 0, none⟩ = some (.string ⟨#[]⟩) := N3.out.cell 0
        have n1 : X3.cell? ⟨g9, 1, none⟩ = some (.string ⟨#[]⟩) := N3.out.cell 1
        have n2 : X3.cell? ⟨g9, 2, none⟩ = some (.int .i64 0) := N3.out.cell 2
        have n3 : X3.cell? ⟨g9, 3, none⟩ = some (.slice none 0 0) := N3.out.cell 3
        have n4 : X3.cell? ⟨g9, 4, none⟩ = some (.slice none 0 0) := N3.out.cell 4
        have I99 := Lib.hid (put5_is I3.out (.string ⟨#[]⟩) (.string ⟨#[]⟩) (.int .i64 0) (.slice none 0 0) (.slice none 0 0))
        have B99 := Lib.hid (put5_below2 B3.out HLE.out.1 (g := g6) (.string ⟨#[]⟩) (.string ⟨#[]⟩) (.int .i64 0) (.slice none 0 0) (.slice none 0 0))
        go_wp2_with fail
        refine bodyPost_ret (results_cell2 rfl _ _ g6 _ _ _ _ rfl I99.out Tryz.underlying25 rfl (by kernel_rfl)) rfl ?_
        exact rq_stop HF.out rfl B99.out
  · have d1 : ((e1 : Int) != 0) = true := by simp; omega
    have HF := Lib.hid (HR.out.trans (if_pos h1))
    clear HR HFR h1
    have r0 : X0.cell? ⟨g6, 0, none⟩ = some (.string ⟨#[]⟩) := I0.out.cell 0
    have rf0 : X0.frozen? ⟨g6, 0, none⟩ = false := I0.out.free 0
    have r1 : X0.cell? ⟨g6, 1, none⟩ = some (.string ⟨#[]⟩) := I0.out.cell 1
    have rf1 : X0.frozen? ⟨g6, 1, none⟩ = false := I0.out.free 1
    have r2 : X0.cell? ⟨g6, 2, none⟩ = some (.int .i64 0) := I0.out.cell 2
    have rf2 : X0.frozen? ⟨g6, 2, none⟩ = false := I0.out.free 2
    have r3 : X0.cell? ⟨g6, 3, none⟩ = some (.slice none 0 0) := I0.out.cell 3
    have rf3 : X0.frozen? ⟨g6, 3, none⟩ = false := I0.out.free 3
    have r4 : X0.cell? ⟨g6, 4, none⟩ = some (.slice none 0 0) := I0.out.cell 4
    have rf4 : X0.frozen? ⟨g6, 4, none⟩ = false := I0.out.free 4
    have n0 : X0.cell? ⟨g9, 0, none⟩ = some (.string ⟨#[]⟩) := N0.out.cell 0
    have n1 : X0.cell? ⟨g9, 1, none⟩ = some (.string ⟨#[]⟩) := N0.out.cell 1
    have n2 : X0.cell? ⟨g9, 2, none⟩ = some (.int .i64 0) := N0.out.cell 2
    have n3 : X0.cell? ⟨g9, 3, none⟩ = some (.slice none 0 0) := N0.out.cell 3
    have n4 : X0.cell? ⟨g9, 4, none⟩ = some (.slice none 0 0) := N0.out.cell 4
    have I99 := Lib.hid (put5_is I0.out (.string ⟨#[]⟩) (.string ⟨#[]⟩) (.int .i64 0) (.slice none 0 0) (.slice none 0 0))
    have B99 := Lib.hid (put5_below2 B0.out HLE.out.1 (g := g6) (.string ⟨#[]⟩) (.string ⟨#[]⟩) (.int .i64 0) (.slice none 0 0) (.slice none 0 0))
    go_wp2_with fail
    refine bodyPost_ret (results_cell2 rfl _ _ g6 _ _ _ _ rfl I99.out Tryz.underlying25 rfl (by kernel_rfl)) rfl ?_
    exact rq_stop HF.out rfl B99.out

set_option maxHeartbeats 4000000 in
set_option maxRecDepth 100000 in
theorem request_land (W : World) (A : Option Addr) (bs : List UInt8) (n c : Nat) (hn : bs.length = n) (hnc : n ≤ c) (hmax : n ≤ 140737488351232) (h : Src W (fun _ => True) A bs) (hp : Sta.PowT W) :
    Calls Tryz.prog 9 #[.slice A n c] W (RqGot9 (requestM bs) W) := by
  obtain ⟨g, hg⟩ : ∃ g, W.heap.size = g := ⟨_, rfl⟩
  have I0 := Lib.hid (show Is (W.alloc (.cells #[.string ⟨#[]⟩, .string ⟨#[]⟩, .int .i64 0, .slice none 0 0, .slice none 0 0] 25)) g 25 [.string ⟨#[]⟩, .string ⟨#[]⟩, .int .i64 0, .slice none 0 0, .slice none 0 0] by have := Is.made W 25 [.string ⟨#[]⟩, .string ⟨#[]⟩, .int .i64 0, .slice none 0 0, .slice none 0 0]; rwa [hg] at this)
  have b0 : Below W.heap.size W (W.alloc (.cells #[.string ⟨#[]⟩, .string ⟨#[]⟩, .int .i64 0, .slice none 0 0, .slice none 0 0] 25)) := (Below.refl _ _).alloc (Nat.le_refl _) _
  have CR := Lib.hid (read_Rq (W.alloc (.cells #[.string ⟨#[]⟩, .string ⟨#[]⟩, .int .i64 0, .slice none 0 0, .slice none 0 0] 25)) A bs n c hn hnc hmax (h.kept (Turn.of_below (S := fun _ => False) b0) (fun _ _ h => h)) (hp.below b0))
  have B0 := Lib.hid b0
  have HG := Lib.hid (show W.heap.size ≤ g by omega)
  unfold RqGot9 at CR ⊢
  generalize requestM bs = R at *
  obtain ⟨R1, u, e9⟩ := R
  obtain ⟨⟨⟨x0, x1, x2⟩, fl, bx⟩, hz⟩ : ∃ z, R1.getD rqZ = z := ⟨_, rfl⟩
  rw [hz] at CR ⊢
  simp only at CR ⊢
  clear hz b0 h hp hn
  have HGE := Lib.hid hg
  clear hg
  go_enter Tryz.func9, Tryz.ntmps9
  go_upto_region 1 with fail
  simp only [HGE.out]
  generalize W.alloc _ = X0 at *
  go_wp2_with fail
  refine CR.out.mono ?_
  rintro e X1 ⟨v3, o3, v5, o5, rfl, O3, P5, F3, F5, b1⟩
  have I1 := Lib.hid (I0.out.kept (Turn.of_below (S := fun _ => False) b1) (fun h => h))
  have B1 := Lib.hid (B0.out.trans (b1.mono B0.out.size))
  have HLT := Lib.hid (show g < X0.heap.size from I0.out.lt)
  have O3 := Lib.hid O3
  have P5 := Lib.hid P5
  have F3 := Lib.hid F3
  have F5 := Lib.hid F5
  obtain ⟨A3, k3, rfl, _⟩ := O3.out.src (fun _ => True) (fun _ _ => trivial)
  obtain ⟨A5, k5, rfl, _⟩ := P5.out.src (fun _ => True) (fun _ _ => trivial)
  clear b1 CR
  have c0 : X1.cell? ⟨g, 0, none⟩ = some (.string ⟨#[]⟩) := I1.out.cell 0
  have f0 : X1.frozen? ⟨g, 0, none⟩ = false := I1.out.free 0
  have c1 : X1.cell? ⟨g, 1, none⟩ = some (.string ⟨#[]⟩) := I1.out.cell 1
  have f1 : X1.frozen? ⟨g, 1, none⟩ = false := I1.out.free 1
  have c2 : X1.cell? ⟨g, 2, none⟩ = some (.int .i64 0) := I1.out.cell 2
  have f2 : X1.frozen? ⟨g, 2, none⟩ = false := I1.out.free 2
  have c3 : X1.cell? ⟨g, 3, none⟩ = some (.slice none 0 0) := I1.out.cell 3
  have f3 : X1.frozen? ⟨g, 3, none⟩ = false := I1.out.free 3
  have c4 : X1.cell? ⟨g, 4, none⟩ = some (.slice none 0 0) := I1.out.cell 4
  have f4 : X1.frozen? ⟨g, 4, none⟩ = false := I1.out.free 4
  have I9 := Lib.hid (put5_is I1.out (.string ⟨x0.toArray⟩) (.string ⟨x1.toArray⟩) (.int .i64 (x2 : Int)) (.slice A3 fl.length k3) (.slice A5 bx.length k5))
  have B9 := Lib.hid (put5_below2 B1.out HG.out (g := g) (.string ⟨x0.toArray⟩) (.string ⟨x1.toArray⟩) (.int .i64 (x2 : Int)) (.slice A3 fl.length k3) (.slice A5 bx.length k5))
  have O9 := Lib.hid (O3.out.kept (put5_turn X1 g (.string ⟨x0.toArray⟩) (.string ⟨x1.toArray⟩) (.int .i64 (x2 : Int)) (.slice A3 fl.length k3) (.slice A5 bx.length k5)) (fun b hb e => by have := F3.out b hb; have := HLT.out; omega))
  have P9 := Lib.hid (P5.out.kept (put5_turn X1 g (.string ⟨x0.toArray⟩) (.string ⟨x1.toArray⟩) (.int .i64 (x2 : Int)) (.slice A3 fl.length k3) (.slice A5 bx.length k5)) (fun b hb e => by have := F5.out b hb; have := HLT.out; omega))
  go_wp2_with fail
  refine bodyPost_ret (results_cell2 rfl _ _ g _ _ _ _ rfl I9.out Tryz.underlying25 rfl (by kernel_rfl)) rfl ?_
  have hle := B0.out.size
  exact ⟨_, o3, _, o5, rfl, O9.out, P9.out, fun b hb => by have := F3.out b hb; omega, fun b hb => by have := F5.out b hb; omega, B9.out⟩
end Go.Proofs.YtemgfppclakdmaaGreatDoor

namespace Go.Proofs.YtemgfppclakdmaaGreatDoor
open Go.RowKit

set_option maxHeartbeats 16000000 in
set_option maxRecDepth 100000 in
theorem read_Rs (W : World) (A : Option Addr) (bs : List UInt8) (n c : Nat) (mt : ByteArray) (gm : Nat) (ended : Bool) (hn : bs.length = n) (hnc : n ≤ c) (hmax : n ≤ 140737488351232) (h : Src W (fun _ => True) A bs) (hp : Sta.PowT W) (hm : W.cell? ⟨gm, 0, none⟩ = some (.string mt)) (hgm : gm < W.heap.size) :
    Calls Tryz.prog 34 #[.slice A n c, .bool ended, .agg #[.func (.func 35) #[] #[], .func (.func 37) #[] #[.pointer (some ⟨gm, 0, none⟩)], .func (.func 39) #[] #[]]] W (RsGot9 (responseM bs (bl mt) ended) W) := by
  obtain ⟨gB, hgB⟩ : ∃ g, W.heap.size = g := ⟨_, rfl⟩
  obtain ⟨g6, hg6⟩ : ∃ g, gB + 1 = g := ⟨_, rfl⟩
  obtain ⟨g9, hg9⟩ : ∃ g, g6 + 1 = g := ⟨_, rfl⟩
  obtain ⟨R, hR⟩ : ∃ R, responseM bs (bl mt) ended = R := ⟨_, rfl⟩
  obtain ⟨line, at1, e1, hf⟩ : ∃ line at1 e1, firstM bs = (line, at1, e1) := ⟨_, _, _, rfl⟩
  have HR := Lib.hid (hR.symm.trans (line_eq (begin := Sta.statF) (kind := (fun a l => resK (a.2.1 : Int) (bl mt) (reqK (a.1 : Int) l))) (ended := ended) hf))
  have hfr := firstM_range bs
  rw [hf] at hfr
  simp only at hfr
  have HFR := Lib.hid hfr
  have CL := Lib.hid (fun (X : World) (hX : Below W.heap.size W X) => readLine_any X A bs n c hn hnc (by omega) (h.kept (Turn.of_below (S := fun _ => False) hX) (fun _ _ h => h)))
  have CF := Lib.hid (fun (X : World) (hX : Below W.heap.size W X) (k : Nat) (hk : k ≤ n) (hk2 : k ≤ 512) => readFields_any X A bs n c k hn hnc hmax hk hk2 (h.kept (Turn.of_below (S := fun _ => False) hX) (fun _ _ h => h)))
  have HSRC := Lib.hid (fun (X : World) (hX : Below W.heap.size W X) => h.kept (P := fun _ => True) (Turn.of_below (S := fun _ => False) hX) (fun _ _ h => h))
  have HP := Lib.hid hp
  have HM := Lib.hid (fun (X : World) (hX : Below W.heap.size W X) => (hX.cell (p := ⟨gm, 0, none⟩) hgm).trans hm)
  have HGM := Lib.hid hgm
  have HN := Lib.hid hn
  rw [hf] at CL
  unfold LineGot at CL
  simp only at CL
  rw [hR]
  have i1 := ((Is.made W 88 [.func (.func 35) #[] #[], .func (.func 37) #[] #[.pointer (some ⟨gm, 0, none⟩)], .func (.func 39) #[] #[]]).alloc (.cells #[.int .i64 0, .string ⟨#[]⟩, .int .i64 0, .slice none 0 0, .slice none 0 0] 32)).alloc (.cells #[.int .i64 0, .string ⟨#[]⟩, .int .i64 0, .slice none 0 0, .slice none 0 0] 32)
  have i2 := (Is.made (W.alloc (.cells #[.func (.func 35) #[] #[], .func (.func 37) #[] #[.pointer (some ⟨gm, 0, none⟩)], .func (.func 39) #[] #[]] 88)) 32 [.int .i64 0, .string ⟨#[]⟩, .int .i64 0, .slice none 0 0, .slice none 0 0]).alloc (.cells #[.int .i64 0, .string ⟨#[]⟩, .int .i64 0, .slice none 0 0, .slice none 0 0] 32)
  rw [show (W.alloc (.cells #[.func (.func 35) #[] #[], .func (.func 37) #[] #[.pointer (some ⟨gm, 0, none⟩)], .func (.func 39) #[] #[]] 88)).heap.size = W.heap.size + 1 from by simp, hgB, hg6] at i2
  have i3 := Is.made ((W.alloc (.cells #[.func (.func 35) #[] #[], .func (.func 37) #[] #[.pointer (some ⟨gm, 0, none⟩)], .func (.func 39) #[] #[]] 88)).alloc (.cells #[.int .i64 0, .string ⟨#[]⟩, .int .i64 0, .slice none 0 0, .slice none 0 0] 32)) 32 [.int .i64 0, .string ⟨#[]⟩, .int .i64 0, .slice none 0 0, .slice none 0 0]
  rw [show ((W.alloc (.cells #[.func (.func 35) #[] #[], .func (.func 37) #[] #[.pointer (some ⟨gm, 0, none⟩)], .func (.func 39) #[] #[]] 88)).alloc (.cells #[.int .i64 0, .string ⟨#[]⟩, .int .i64 0, .slice none 0 0, .slice none 0 0] 32)).heap.size = W.heap.size + 1 + 1 from by simp, hgB, hg6, hg9] at i3
  rw [hgB] at i1
  have b0 : Below W.heap.size W (((W.alloc (.cells #[.func (.func 35) #[] #[], .func (.func 37) #[] #[.pointer (some ⟨gm, 0, none⟩)], .func (.func 39) #[] #[]] 88)).alloc (.cells #[.int .i64 0, .string ⟨#[]⟩, .int .i64 0, .slice none 0 0, .slice none 0 0] 32)).alloc (.cells #[.int .i64 0, .string ⟨#[]⟩, .int .i64 0, .slice none 0 0, .slice none 0 0] 32)) := (((Below.refl W.heap.size W).alloc (Nat.le_refl _) _).alloc (by simp) _).alloc (by simp; omega) _
  have J0 := Lib.hid i1
  have I0 := Lib.hid i2
  have N0 := Lib.hid i3
  have B0 := Lib.hid b0
  have HGB := Lib.hid hgB
  have HG6 := Lib.hid hg6
  have HG9 := Lib.hid hg9
  clear i1 i2 i3 b0 hgB hg6 hg9 hfr h hn hR hf hp hm hgm
  go_enter Tryz.func34, Tryz.ntmps34
  go_upto_region 2 with fail
  simp only [HGB.out, HG6.out, HG9.out]
  generalize ((W.alloc _).alloc _).alloc _ = X0 at *
  have HLE := Lib.hid (show W.heap.size ≤ g6 ∧ g6 < g9 from by have := HGB.out; have := HG6.out; have := HG9.out; omega)
  clear HGB HG6 HG9
  go_wp2_with fail
  refine (CL.out X0 B0.out).mono ?_
  rintro e y1 ⟨rfl, rfl⟩
  clear CL
  by_cases h1 : e1 = 0
  · have d1 : ((e1 : Int) != 0) = false := by subst h1; rfl
    have HR1 := Lib.hid (HR.out.trans (if_neg (fun h => h h1)))
    have hat : at1 ≤ n ∧ at1 ≤ 512 ∧ line.length ≤ 512 := by
      rcases HFR.out with ⟨_, h2, h3, _, h5⟩ | ⟨h2, _, _⟩
      · exact ⟨by rw [← HN.out]; exact h2, h3, h5⟩
      · exact absurd h1 h2
    obtain ⟨hat1, hat2, hll⟩ := hat
    have CQ := Lib.hid (first_Rs ⟨line.toArray⟩ X0 (by rw [← bl_length, bl_mk]; omega) (HP.out.below B0.out))
    rw [bl_mk] at CQ
    unfold FirstRs at CQ
    clear HR HFR h1 hll
    have j0 : X0.cell? ⟨gB, 0, none⟩ = some (.func (.func 35) #[] #[]) := J0.out.cell 0
    cases hq : Sta.statF line with
    | none =>
      rw [hq] at CQ HR1
      simp only at CQ HR1
      go_wp2_with fail
      refine CQ.out.mono ?_
      rintro e y2 ⟨b2, rfl⟩
      have b2' := b2.alloc b2.size (.cells #[.int .i64 0, .string ⟨#[]⟩, .int .i64 0, .slice none 0 0, .slice none 0 0] 32)
      have I2 := Lib.hid (I0.out.kept (Turn.of_below (S := fun _ => False) b2') (fun h => h))
      have N2 := Lib.hid (N0.out.kept (Turn.of_below (S := fun _ => False) b2') (fun h => h))
      have B2 := Lib.hid (B0.out.trans (b2'.mono B0.out.size))
      clear b2 b2' I0 N0 J0 B0 CQ j0
      go_upto_region 6 with fail
      generalize y2.alloc _ = X2 at *
      have r0 : X2.cell? ⟨g6, 0, none⟩ = some (.int .i64 0) := I2.out.cell 0
      have rf0 : X2.frozen? ⟨g6, 0, none⟩ = false := I2.out.free 0
      have r1 : X2.cell? ⟨g6, 1, none⟩ = some (.string ⟨#[]⟩) := I2.out.cell 1
      have rf1 : X2.frozen? ⟨g6, 1, none⟩ = false := I2.out.free 1
      have r2 : X2.cell? ⟨g6, 2, none⟩ = some (.int .i64 0) := I2.out.cell 2
      have rf2 : X2.frozen? ⟨g6, 2, none⟩ = false := I2.out.free 2
      have r3 : X2.cell? ⟨g6, 3, none⟩ = some (.slice none 0 0) := I2.out.cell 3
      have rf3 : X2.frozen? ⟨g6, 3, none⟩ = false := I2.out.free 3
      have r4 : X2.cell? ⟨g6, 4, none⟩ = some (.slice none 0 0) := I2.out.cell 4
      have rf4 : X2.frozen? ⟨g6, 4, none⟩ = false := I2.out.free 4
      have n0 : X2.cell? ⟨g9, 0, none⟩ = some (.int .i64 0) := N2.out.cell 0
      have n1 : X2.cell? ⟨g9, 1, none⟩ = some (.string ⟨#[]⟩) := N2.out.cell 1
      have n2 : X2.cell? ⟨g9, 2, none⟩ = some (.int .i64 0) := N2.out.cell 2
      have n3 : X2.cell? ⟨g9, 3, none⟩ = some (.slice none 0 0) := N2.out.cell 3
      have n4 : X2.cell? ⟨g9, 4, none⟩ = some (.slice none 0 0) := N2.out.cell 4
      have I99 := Lib.hid (put5_is I2.out (.int .i64 0) (.string ⟨#[]⟩) (.int .i64 0) (.slice none 0 0) (.slice none 0 0))
      have B99 := Lib.hid (put5_below2 B2.out HLE.out.1 (g := g6) (.int .i64 0) (.string ⟨#[]⟩) (.int .i64 0) (.slice none 0 0) (.slice none 0 0))
      go_wp2_with fail
      refine bodyPost_ret (results_cell2 rfl _ _ g6 _ _ _ _ rfl I99.out Tryz.underlying32 rfl (by kernel_rfl)) rfl ?_
      exact rs_stop HR1.out rfl B99.out
    | some a =>
      obtain ⟨an, as_, ar⟩ := a
      rw [hq] at CQ HR1
      simp only at CQ HR1
      clear hq
      go_wp2_with fail
      refine CQ.out.mono ?_
      rintro e y2 ⟨b2, rfl⟩
      have b2' := b2.alloc b2.size (.cells #[.int .i64 (as_ : Int), .string ⟨ar.toArray⟩, .int .i64 (an : Int), .slice none 0 0, .slice none 0 0] 32)
      have M2 := Lib.hid (Is.made y2 32 [.int .i64 (as_ : Int), .string ⟨ar.toArray⟩, .int .i64 (an : Int), .slice none 0 0, .slice none 0 0])
      have I2 := Lib.hid (I0.out.kept (Turn.of_below (S := fun _ => False) b2') (fun h => h))
      have N2 := Lib.hid (N0.out.kept (Turn.of_below (S := fun _ => False) b2') (fun h => h))
      have J2 := Lib.hid (J0.out.kept (Turn.of_below (S := fun _ => False) b2') (fun h => h))
      have B2 := Lib.hid (B0.out.trans (b2'.mono B0.out.size))
      clear b2 b2' I0 N0 J0 B0 CQ j0
      go_upto_region 6 with fail
      generalize y2.alloc _ = X2 at *
      generalize y2.heap.size = g13 at *
      obtain ⟨fl, qu, e3, hff⟩ : ∃ fl qu e3, landF bs at1 = (fl, qu, e3) := ⟨_, _, _, rfl⟩
      have CF2 := Lib.hid (CF.out X2 B2.out at1 hat1 hat2)
      rw [hff] at CF2
      unfold HeadGot at CF2
      simp only at CF2
      clear CF
      go_wp2_with fail
      refine CF2.out.mono ?_
      rintro e X3 ⟨v3, o3, rfl, own3, f3, b3⟩
      have I3 := Lib.hid (I2.out.kept (Turn.of_below (S := fun _ => False) b3) (fun h => h))
      have N3 := Lib.hid (N2.out.kept (Turn.of_below (S := fun _ => False) b3) (fun h => h))
      have J3 := Lib.hid (J2.out.kept (Turn.of_below (S := fun _ => False) b3) (fun h => h))
      have M3 := Lib.hid (M2.out.kept (Turn.of_below (S := fun _ => False) b3) (fun h => h))
      have B3 := Lib.hid (B2.out.trans (b3.mono B2.out.size))
      have O3 := Lib.hid own3
      have F3 := Lib.hid (fun (b : Nat) (hb : o3 = some b) => (show g6 < b by have := f3 b hb; have := I2.out.lt; omega))
      obtain ⟨A3, c3, rfl, s3⟩ := own3.src (fun _ => True) (fun _ _ => trivial)
      have S3 := Lib.hid s3
      clear own3 f3 b3 s3 CF2 I2 N2 J2 M2 B2
      by_cases h3 : e3 = 0
      · have d3 : ((e3 : Int) != 0) = false := by subst h3; rfl
        have hfe := land_good hff h3
        obtain ⟨at3, hat3⟩ : ∃ k, at1 + qu = k := ⟨_, rfl⟩
        rw [hat3] at hfe
        obtain ⟨kd, nn, ke, hke⟩ : ∃ kd nn ke, resK (as_ : Int) (bl mt) (reqK (an : Int) fl) = (kd, nn, ke) := ⟨_, _, _, rfl⟩
        have HR3 := HR1.out
        rw [hfe, rest_eq (kind := (fun a l => resK (a.2.1 : Int) (bl mt) (reqK (a.1 : Int) l))) (a := (an, as_, ar)) hke, if_neg (by simp)] at HR3
        have HR4 := Lib.hid HR3
        have hfr := fieldsM_range bs at1 (by rw [HN.out]; exact hat1) hat2
        have hbk := fieldsM_bulk bs at1
        rw [hfe] at hfr hbk
        simp only at hfr hbk
        have hat4 : at3 ≤ n := by
          rcases hfr with ⟨_, h2, _, _⟩ | ⟨h2, _⟩
          · rw [← HN.out]; exact h2
          · exact absurd rfl h2
        have hns := resK_small (as_ : Int) (bl mt) _ (reqK_small (an : Int) fl)
        rw [hke] at hns
        simp only at hns
        have hkd := resK_kind (as_ : Int) (bl mt) _ (reqK_kind (an : Int) fl)
        rw [hke] at hkd
        simp only at hkd
        have wr : IntKind.i64.wrap ((at1 : Int) + (qu : Int)) = ((at3 : Nat) : Int) := by rw [IntKind.wrap_i64]; omega
        have CK := Lib.hid (kind_Rs (as_ : Int) ⟨ar.toArray⟩ (an : Int) mt gm (.slice none 0 0) (.slice none 0 0) X3 A3 fl fl.length c3 rfl S3.out (Meek.small (by omega)).fit (HM.out X3 B3.out) (Nat.lt_of_lt_of_le HGM.out B3.out.size))
        rw [hke] at CK
        unfold Tells kdV at CK
        simp only at CK
        clear HR1 HR3 hfe h3 hke hff hfr hbk
        have j1 : X3.cell? ⟨gB, 1, none⟩ = some (.func (.func 37) #[] #[.pointer (some ⟨gm, 0, none⟩)]) := J3.out.cell 1
        have m0 : X3.cell? ⟨g13, 0, none⟩ = some (.int .i64 (as_ : Int)) := M3.out.cell 0
        have m1 : X3.cell? ⟨g13, 1, none⟩ = some (.string ⟨ar.toArray⟩) := M3.out.cell 1
        have m2 : X3.cell? ⟨g13, 2, none⟩ = some (.int .i64 (an : Int)) := M3.out.cell 2
        have m3 : X3.cell? ⟨g13, 3, none⟩ = some (.slice none 0 0) := M3.out.cell 3
        have m4 : X3.cell? ⟨g13, 4, none⟩ = some (.slice none 0 0) := M3.out.cell 4
        go_wp2_with fail
        refine CK.out.mono ?_
        rintro e X4 ⟨rfl, b4⟩
        have I4 := Lib.hid (I3.out.kept (Turn.of_below (S := fun _ => False) b4) (fun h => h))
        have N4 := Lib.hid (N3.out.kept (Turn.of_below (S := fun _ => False) b4) (fun h => h))
        have J4 := Lib.hid (J3.out.kept (Turn.of_below (S := fun _ => False) b4) (fun h => h))
        have M4 := Lib.hid (M3.out.kept (Turn.of_below (S := fun _ => False) b4) (fun h => h))
        have O4 := Lib.hid (O3.out.kept (Turn.of_below (S := fun _ => False) b4) (fun _ _ h => h))
        have B4 := Lib.hid (B3.out.trans (b4.mono B3.out.size))
        clear b4 CK O3 I3 N3 J3 M3 B3 S3 j1 m0 m1 m2 m3 m4
        by_cases h4 : ke = 0
        · have d4 : ((ke : Int) != 0) = false := by subst h4; rfl
          have HR5 := HR4.out.trans (if_neg (fun h => h h4))
          obtain ⟨A5, hs5, hsrc5⟩ := run_tail8 A n c at3 hat4 hnc
          obtain ⟨bx, bu, be, hbb⟩ : ∃ bx bu be, bodyM (bs.drop at3) (kd, nn, 0) ended = (bx, bu, be) := ⟨_, _, _, rfl⟩
          have CB := Lib.hid (readBody_any X4 A5 (bs.drop at3) (n - at3) (c - at3) kd nn ended (by rw [List.length_drop, HN.out]) (by omega) (by omega) hns hkd (hsrc5 X4 _ bs HN.out (HSRC.out X4 B4.out)))
          have hbr := bodyM_range (bs.drop at3) (kd, nn, 0) ended (fun _ => hns)
          rw [hbb] at hbr CB
          rw [h4, hbb] at HR5
          have HR6 := Lib.hid (HR5.trans done_eq)
          rw [List.length_drop, HN.out] at hbr
          simp only at hbr
          have HBR := Lib.hid hbr
          unfold TakeGot at CB
          simp only at CB
          clear HR4 HR5 h4 hbr hbb hsrc5
          go_wp2_with fail
          refine CB.out.mono ?_
          rintro e X5 ⟨v5, o5, rfl, own5, f5, b5⟩
          obtain ⟨Av, cv, hv, _⟩ := own5.src (fun _ => True) (fun _ _ => trivial)
          subst hv
          have I5 := Lib.hid (I4.out.kept (Turn.of_below (S := fun _ => False) b5) (fun h => h))
          have N5 := Lib.hid (N4.out.kept (Turn.of_below (S := fun _ => False) b5) (fun h => h))
          have J5 := Lib.hid (J4.out.kept (Turn.of_below (S := fun _ => False) b5) (fun h => h))
          have M5 := Lib.hid (M4.out.kept (Turn.of_below (S := fun _ => False) b5) (fun h => h))
          have O5 := Lib.hid (O4.out.kept (Turn.of_below (S := fun _ => False) b5) (fun _ _ h => h))
          have B5 := Lib.hid (B4.out.trans (b5.mono B4.out.size))
          have P5 := Lib.hid own5
          have F5 := Lib.hid (fun (b : Nat) (hb : o5 = some b) => (show g6 < b by have := f5 b hb; have := I4.out.lt; omega))
          clear own5 f5 b5 CB O4 I4 N4 J4 M4 B4
          by_cases h5 : be = 0
          · have d5 : ((be : Int) != 0) = false := by subst h5; rfl
            have HF := Lib.hid (HR6.out.trans (if_neg (fun h => h h5)))
            have wr2 : IntKind.i64.wrap ((at3 : Int) + (bu : Int)) = (at3 : Int) + (bu : Int) := by
              have : bu ≤ n - at3 := by
                rcases HBR.out with ⟨_, _, h⟩ | ⟨_, _, h⟩ <;> omega
              rw [IntKind.wrap_i64]; omega
            clear HR6 h5 HBR
            have j2 : X5.cell? ⟨gB, 2, none⟩ = some (.func (.func 39) #[] #[]) := J5.out.cell 2
            have m0 : X5.cell? ⟨g13, 0, none⟩ = some (.int .i64 (as_ : Int)) := M5.out.cell 0
            have m1 : X5.cell? ⟨g13, 1, none⟩ = some (.string ⟨ar.toArray⟩) := M5.out.cell 1
            have m2 : X5.cell? ⟨g13, 2, none⟩ = some (.int .i64 (an : Int)) := M5.out.cell 2
            have m3 : X5.cell? ⟨g13, 3, none⟩ = some (.slice none 0 0) := M5.out.cell 3
            have m4 : X5.cell? ⟨g13, 4, none⟩ = some (.slice none 0 0) := M5.out.cell 4
            have CW := Lib.hid (whole_Rs (as_ : Int) ⟨ar.toArray⟩ (an : Int) (.slice none 0 0) (.slice none 0 0) A3 Av fl.length c3 bx.length cv X5)
            go_wp2_with fail
            refine CW.out.mono ?_
            rintro e X6 ⟨rfl, b6⟩
            have I6 := Lib.hid (I5.out.kept (Turn.of_below (S := fun _ => False) b6) (fun h => h))
            have O6 := Lib.hid (O5.out.kept (Turn.of_below (S := fun _ => False) b6) (fun _ _ h => h))
            have P6 := Lib.hid (P5.out.kept (Turn.of_below (S := fun _ => False) b6) (fun _ _ h => h))
            have B6 := Lib.hid (B5.out.trans (b6.mono B5.out.size))
            clear b6 CW O5 P5 I5 N5 J5 M5 B5 j2 m0 m1 m2 m3 m4
            have r0 : X6.cell? ⟨g6, 0, none⟩ = some (.int .i64 0) := I6.out.cell 0
            have rf0 : X6.frozen? ⟨g6, 0, none⟩ = false := I6.out.free 0
            have r1 : X6.cell? ⟨g6, 1, none⟩ = some (.string ⟨#[]⟩) := I6.out.cell 1
            have rf1 : X6.frozen? ⟨g6, 1, none⟩ = false := I6.out.free 1
            have r2 : X6.cell? ⟨g6, 2, none⟩ = some (.int .i64 0) := I6.out.cell 2
            have rf2 : X6.frozen? ⟨g6, 2, none⟩ = false := I6.out.free 2
            have r3 : X6.cell? ⟨g6, 3, none⟩ = some (.slice none 0 0) := I6.out.cell 3
            have rf3 : X6.frozen? ⟨g6, 3, none⟩ = false := I6.out.free 3
            have r4 : X6.cell? ⟨g6, 4, none⟩ = some (.slice none 0 0) := I6.out.cell 4
            have rf4 : X6.frozen? ⟨g6, 4, none⟩ = false := I6.out.free 4
            have I99 := Lib.hid (put5_is I6.out (.int .i64 (as_ : Int)) (.string ⟨ar.toArray⟩) (.int .i64 (an : Int)) (.slice A3 fl.length c3) (.slice Av bx.length cv))
            have B99 := Lib.hid (put5_below2 B6.out HLE.out.1 (g := g6) (.int .i64 (as_ : Int)) (.string ⟨ar.toArray⟩) (.int .i64 (an : Int)) (.slice A3 fl.length c3) (.slice Av bx.length cv))
            have O9 := Lib.hid (O6.out.kept (put5_turn X6 g6 (.int .i64 (as_ : Int)) (.string ⟨ar.toArray⟩) (.int .i64 (an : Int)) (.slice A3 fl.length c3) (.slice Av bx.length cv)) (fun b hb e => by have := F3.out b hb; omega))
            have P9 := Lib.hid (P6.out.kept (put5_turn X6 g6 (.int .i64 (as_ : Int)) (.string ⟨ar.toArray⟩) (.int .i64 (an : Int)) (.slice A3 fl.length c3) (.slice Av bx.length cv)) (fun b hb e => by have := F5.out b hb; omega))
            go_wp2_with fail
            refine bodyPost_ret (results_cell2 rfl _ _ g6 _ _ _ _ rfl I99.out Tryz.underlying32 rfl (by kernel_rfl)) rfl ?_
            have hle := HLE.out
            exact ⟨_, o3, _, o5, by rw [HF.out]; rfl, by rw [HF.out]; exact O9.out, by rw [HF.out]; exact P9.out, fun b hb => by have := F3.out b hb; omega, fun b hb => by have := F5.out b hb; omega, B99.out⟩
          · have d5 : ((be : Int) != 0) = true := by simp; omega
            have HF := Lib.hid (HR6.out.trans (if_pos h5))
            clear HR6 h5 HBR
            have r0 : X5.cell? ⟨g6, 0, none⟩ = some (.int .i64 0) := I5.out.cell 0
            have rf0 : X5.frozen? ⟨g6, 0, none⟩ = false := I5.out.free 0
            have r1 : X5.cell? ⟨g6, 1, none⟩ = some (.string ⟨#[]⟩) := I5.out.cell 1
            have rf1 : X5.frozen? ⟨g6, 1, none⟩ = false := I5.out.free 1
            have r2 : X5.cell? ⟨g6, 2, none⟩ = some (.int .i64 0) := I5.out.cell 2
            have rf2 : X5.frozen? ⟨g6, 2, none⟩ = false := I5.out.free 2
            have r3 : X5.cell? ⟨g6, 3, none⟩ = some (.slice none 0 0) := I5.out.cell 3
            have rf3 : X5.frozen? ⟨g6, 3, none⟩ = false := I5.out.free 3
            have r4 : X5.cell? ⟨g6, 4, none⟩ = some (.slice none 0 0) := I5.out.cell 4
            have rf4 : X5.frozen? ⟨g6, 4, none⟩ = false := I5.out.free 4
            have n0 : X5.cell? ⟨g9, 0, none⟩ = some (.int .i64 0) := N5.out.cell 0
            have n1 : X5.cell? ⟨g9, 1, none⟩ = some (.string ⟨#[]⟩) := N5.out.cell 1
            have n2 : X5.cell? ⟨g9, 2, none⟩ = some (.int .i64 0) := N5.out.cell 2
            have n3 : X5.cell? ⟨g9, 3, none⟩ = some (.slice none 0 0) := N5.out.cell 3
            have n4 : X5.cell? ⟨g9, 4, none⟩ = some (.slice none 0 0) := N5.out.cell 4
            have I99 := Lib.hid (put5_is I5.out (.int .i64 0) (.string ⟨#[]⟩) (.int .i64 0) (.slice none 0 0) (.slice none 0 0))
            have B99 := Lib.hid (put5_below2 B5.out HLE.out.1 (g := g6) (.int .i64 0) (.string ⟨#[]⟩) (.int .i64 0) (.slice none 0 0) (.slice none 0 0))
            go_wp2_with fail
            refine bodyPost_ret (results_cell2 rfl _ _ g6 _ _ _ _ rfl I99.out Tryz.underlying32 rfl (by kernel_rfl)) rfl ?_
            exact rs_stop HF.out rfl B99.out
        · have d4 : ((ke : Int) != 0) = true := by simp; omega
          have HF := Lib.hid (HR4.out.trans (if_pos h4))
          clear HR4 h4
          have r0 : X4.cell? ⟨g6, 0, none⟩ = some (.int .i64 0) := I4.out.cell 0
          have rf0 : X4.frozen? ⟨g6, 0, none⟩ = false := I4.out.free 0
          have r1 : X4.cell? ⟨g6, 1, none⟩ = some (.string ⟨#[]⟩) := I4.out.cell 1
          have rf1 : X4.frozen? ⟨g6, 1, none⟩ = false := I4.out.free 1
          have r2 : X4.cell? ⟨g6, 2, none⟩ = some (.int .i64 0) := I4.out.cell 2
          have rf2 : X4.frozen? ⟨g6, 2, none⟩ = false := I4.out.free 2
          have r3 : X4.cell? ⟨g6, 3, none⟩ = some (.slice none 0 0) := I4.out.cell 3
          have rf3 : X4.frozen? ⟨g6, 3, none⟩ = false := I4.out.free 3
          have r4 : X4.cell? ⟨g6, 4, none⟩ = some (.slice none 0 0) := I4.out.cell 4
          have rf4 : X4.frozen? ⟨g6, 4, none⟩ = false := I4.out.free 4
          have n0 : X4.cell? ⟨g9, 0, none⟩ = some (.int .i64 0) := N4.out.cell 0
          have n1 : X4.cell? ⟨g9, 1, none⟩ = some (.string ⟨#[]⟩) := N4.out.cell 1
          have n2 : X4.cell? ⟨g9, 2, none⟩ = some (.int .i64 0) := N4.out.cell 2
          have n3 : X4.cell? ⟨g9, 3, none⟩ = some (.slice none 0 0) := N4.out.cell 3
          have n4 : X4.cell? ⟨g9, 4, none⟩ = some (.slice none 0 0) := N4.out.cell 4
          have I99 := Lib.hid (put5_is I4.out (.int .i64 0) (.string ⟨#[]⟩) (.int .i64 0) (.slice none 0 0) (.slice none 0 0))
          have B99 := Lib.hid (put5_below2 B4.out HLE.out.1 (g := g6) (.int .i64 0) (.string ⟨#[]⟩) (.int .i64 0) (.slice none 0 0) (.slice none 0 0))
          go_wp2_with fail
          refine bodyPost_ret (results_cell2 rfl _ _ g6 _ _ _ _ rfl I99.out Tryz.underlying32 rfl (by kernel_rfl)) rfl ?_
          exact rs_stop HF.out rfl B99.out
      · have d3 : ((e3 : Int) != 0) = true := by simp; omega
        have HF := Lib.hid (HR1.out.trans (land_bad (kind := (fun a l => resK (a.2.1 : Int) (bl mt) (reqK (a.1 : Int) l))) (ended := ended) (a := (an, as_, ar)) hff h3))
        clear HR1 h3 hff
        have r0 : X3.cell? ⟨g6, 0, none⟩ = some (.int .i64 0) := I3.out.cell 0
        have rf0 : X3.frozen? ⟨g6, 0, none⟩ = false := I3.out.free 0
        have r1 : X3.cell? ⟨g6, 1, none⟩ = some (.string ⟨#[]⟩) := I3.out.cell 1
        have rf1 : X3.frozen? ⟨g6, 1, none⟩ = false := I3.out.free 1
        have r2 : X3.cell? ⟨g6, 2, none⟩ = some (.int .i64 0) := I3.out.cell 2
        have rf2 : X3.frozen? ⟨g6, 2, none⟩ = false := I3.out.free 2
        have r3 : X3.cell? ⟨g6, 3, none⟩ = some (.slice none 0 0) := I3.out.cell 3
        have rf3 : X3.frozen? ⟨g6, 3, none⟩ = false := I3.out.free 3
        have r4 : X3.cell? ⟨g6, 4, none⟩ = some (.slice none 0 0) := I3.out.cell 4
        have rf4 : X3.frozen? ⟨g6, 4, none⟩ = false := I3.out.free 4
        have n0 : X3.cell? ⟨g9, 0, none⟩ = some (.int .i64 0) := N3.out.cell 0
        have n1 : X3.cell? ⟨g9, 1, none⟩ = some (.string ⟨#[]⟩) := N3.out.cell 1
        have n2 : X3.cell? ⟨g9, 2, none⟩ = some (.int .i64 0) := N3.out.cell 2
        have n3 : X3.cell? ⟨g9, 3, none⟩ = some (.slice none 0 0) := N3.out.cell 3
        have n4 : X3.cell? ⟨g9, 4, none⟩ = some (.slice none 0 0) := N3.out.cell 4
        have I99 := Lib.hid (put5_is I3.out (.int .i64 0) (.string ⟨#[]⟩) (.int .i64 0) (.slice none 0 0) (.slice none 0 0))
        have B99 := Lib.hid (put5_below2 B3.out HLE.out.1 (g := g6) (.int .i64 0) (.string ⟨#[]⟩) (.int .i64 0) (.slice none 0 0) (.slice none 0 0))
        go_wp2_with fail
        refine bodyPost_ret (results_cell2 rfl _ _ g6 _ _ _ _ rfl I99.out Tryz.underlying32 rfl (by kernel_rfl)) rfl ?_
        exact rs_stop HF.out rfl B99.out
  · have d1 : ((e1 : Int) != 0) = true := by simp; omega
    have HF := Lib.hid (HR.out.trans (if_pos h1))
    clear HR HFR h1
    have r0 : X0.cell? ⟨g6, 0, none⟩ = some (.int .i64 0) := I0.out.cell 0
    have rf0 : X0.frozen? ⟨g6, 0, none⟩ = false := I0.out.free 0
    have r1 : X0.cell? ⟨g6, 1, none⟩ = some (.string ⟨#[]⟩) := I0.out.cell 1
    have rf1 : X0.frozen? ⟨g6, 1, none⟩ = false := I0.out.free 1
    have r2 : X0.cell? ⟨g6, 2, none⟩ = some (.int .i64 0) := I0.out.cell 2
    have rf2 : X0.frozen? ⟨g6, 2, none⟩ = false := I0.out.free 2
    have r3 : X0.cell? ⟨g6, 3, none⟩ = some (.slice none 0 0) := I0.out.cell 3
    have rf3 : X0.frozen? ⟨g6, 3, none⟩ = false := I0.out.free 3
    have r4 : X0.cell? ⟨g6, 4, none⟩ = some (.slice none 0 0) := I0.out.cell 4
    have rf4 : X0.frozen? ⟨g6, 4, none⟩ = false := I0.out.free 4
    have n0 : X0.cell? ⟨g9, 0, none⟩ = some (.int .i64 0) := N0.out.cell 0
    have n1 : X0.cell? ⟨g9, 1, none⟩ = some (.string ⟨#[]⟩) := N0.out.cell 1
    have n2 : X0.cell? ⟨g9, 2, none⟩ = some (.int .i64 0) := N0.out.cell 2
    have n3 : X0.cell? ⟨g9, 3, none⟩ = some (.slice none 0 0) := N0.out.cell 3
    have n4 : X0.cell? ⟨g9, 4, none⟩ = some (.slice none 0 0) := N0.out.cell 4
    have I99 := Lib.hid (put5_is I0.out (.int .i64 0) (.string ⟨#[]⟩) (.int .i64 0) (.slice none 0 0) (.slice none 0 0))
    have B99 := Lib.hid (put5_below2 B0.out HLE.out.1 (g := g6) (.int .i64 0) (.string ⟨#[]⟩) (.int .i64 0) (.slice none 0 0) (.slice none 0 0))
    go_wp2_with fail
    refine bodyPost_ret (results_cell2 rfl _ _ g6 _ _ _ _ rfl I99.out Tryz.underlying32 rfl (by kernel_rfl)) rfl ?_
    exact rs_stop HF.out rfl B99.out

set_option maxHeartbeats 4000000 in
set_option maxRecDepth 100000 in
theorem response_land (W : World) (A : Option Addr) (bs : List UInt8) (n c : Nat) (mt : ByteArray) (ended : Bool) (hn : bs.length = n) (hnc : n ≤ c) (hmax : n ≤ 140737488351232) (h : Src W (fun _ => True) A bs) (hp : Sta.PowT W) :
    Calls Tryz.prog 11 #[.slice A n c, .string mt, .bool ended] W (RsGot9 (responseM bs (bl mt) ended) W) := by
  obtain ⟨gm, hgm⟩ : ∃ g, W.heap.size = g := ⟨_, rfl⟩
  obtain ⟨g, hg⟩ : ∃ g, gm + 1 = g := ⟨_, rfl⟩
  have i1 := (Is.made W 9 [.string mt]).alloc (.cells #[.int .i64 0, .string ⟨#[]⟩, .int .i64 0, .slice none 0 0, .slice none 0 0] 32)
  have i2 := Is.made (W.alloc (.cells #[.string mt] 9)) 32 [.int .i64 0, .string ⟨#[]⟩, .int .i64 0, .slice none 0 0, .slice none 0 0]
  rw [show (W.alloc (.cells #[.string mt] 9)).heap.size = W.heap.size + 1 from by simp, hgm, hg] at i2
  rw [hgm] at i1
  have I0 := Lib.hid i2
  have b0 : Below W.heap.size W ((W.alloc (.cells #[.string mt] 9)).alloc (.cells #[.int .i64 0, .string ⟨#[]⟩, .int .i64 0, .slice none 0 0, .slice none 0 0] 32)) := ((Below.refl W.heap.size W).alloc (Nat.le_refl _) _).alloc (by simp) _
  have CR := Lib.hid (read_Rs ((W.alloc (.cells #[.string mt] 9)).alloc (.cells #[.int .i64 0, .string ⟨#[]⟩, .int .i64 0, .slice none 0 0, .slice none 0 0] 32)) A bs n c mt gm ended hn hnc hmax (h.kept (Turn.of_below (S := fun _ => False) b0) (fun _ _ h => h)) (hp.below b0) (i1.cell 0) i1.lt)
  clear i1 i2
  have B0 := Lib.hid b0
  have HG := Lib.hid (show W.heap.size ≤ g by omega)
  unfold RsGot9 at CR ⊢
  generalize responseM bs (bl mt) ended = R at *
  obtain ⟨R1, u, e9⟩ := R
  obtain ⟨⟨⟨x0, x1, x2⟩, fl, bx⟩, hz⟩ : ∃ z, R1.getD rsZ = z := ⟨_, rfl⟩
  rw [hz] at CR ⊢
  simp only at CR ⊢
  clear hz b0 h hp hn
  have HGE := Lib.hid hgm
  have HGE2 := Lib.hid hg
  clear hg hgm
  go_enter Tryz.func11, Tryz.ntmps11
  go_upto_region 1 with fail
  simp only [HGE.out, HGE2.out]
  generalize (W.alloc _).alloc _ = X0 at *
  go_wp2_with fail
  refine CR.out.mono ?_
  rintro e X1 ⟨v3, o3, v5, o5, rfl, O3, P5, F3, F5, b1⟩
  have I1 := Lib.hid (I0.out.kept (Turn.of_below (S := fun _ => False) b1) (fun h => h))
  have B1 := Lib.hid (B0.out.trans (b1.mono B0.out.size))
  have HLT := Lib.hid (show g < X0.heap.size from I0.out.lt)
  have O3 := Lib.hid O3
  have P5 := Lib.hid P5
  have F3 := Lib.hid F3
  have F5 := Lib.hid F5
  obtain ⟨A3, k3, rfl, _⟩ := O3.out.src (fun _ => True) (fun _ _ => trivial)
  obtain ⟨A5, k5, rfl, _⟩ := P5.out.src (fun _ => True) (fun _ _ => trivial)
  clear b1 CR
  have c0 : X1.cell? ⟨g, 0, none⟩ = some (.int .i64 0) := I1.out.cell 0
  have f0 : X1.frozen? ⟨g, 0, none⟩ = false := I1.out.free 0
  have c1 : X1.cell? ⟨g, 1, none⟩ = some (.string ⟨#[]⟩) := I1.out.cell 1
  have f1 : X1.frozen? ⟨g, 1, none⟩ = false := I1.out.free 1
  have c2 : X1.cell? ⟨g, 2, none⟩ = some (.int .i64 0) := I1.out.cell 2
  have f2 : X1.frozen? ⟨g, 2, none⟩ = false := I1.out.free 2
  have c3 : X1.cell? ⟨g, 3, none⟩ = some (.slice none 0 0) := I1.out.cell 3
  have f3 : X1.frozen? ⟨g, 3, none⟩ = false := I1.out.free 3
  have c4 : X1.cell? ⟨g, 4, none⟩ = some (.slice none 0 0) := I1.out.cell 4
  have f4 : X1.frozen? ⟨g, 4, none⟩ = false := I1.out.free 4
  have I9 := Lib.hid (put5_is I1.out (.int .i64 (x1 : Int)) (.string ⟨x2.toArray⟩) (.int .i64 (x0 : Int)) (.slice A3 fl.length k3) (.slice A5 bx.length k5))
  have B9 := Lib.hid (put5_below2 B1.out HG.out (g := g) (.int .i64 (x1 : Int)) (.string ⟨x2.toArray⟩) (.int .i64 (x0 : Int)) (.slice A3 fl.length k3) (.slice A5 bx.length k5))
  have O9 := Lib.hid (O3.out.kept (put5_turn X1 g (.int .i64 (x1 : Int)) (.string ⟨x2.toArray⟩) (.int .i64 (x0 : Int)) (.slice A3 fl.length k3) (.slice A5 bx.length k5)) (fun b hb e => by have := F3.out b hb; have := HLT.out; omega))
  have P9 := Lib.hid (P5.out.kept (put5_turn X1 g (.int .i64 (x1 : Int)) (.string ⟨x2.toArray⟩) (.int .i64 (x0 : Int)) (.slice A3 fl.length k3) (.slice A5 bx.length k5)) (fun b hb e => by have := F5.out b hb; have := HLT.out; omega))
  go_wp2_with fail
  refine bodyPost_ret (results_cell2 rfl _ _ g _ _ _ _ rfl I9.out Tryz.underlying32 rfl (by kernel_rfl)) rfl ?_
  have hle := B0.out.size
  exact ⟨_, o3, _, o5, rfl, O9.out, P9.out, fun b hb => by have := F3.out b hb; omega, fun b hb => by have := F5.out b hb; omega, B9.out⟩
end Go.Proofs.YtemgfppclakdmaaGreatDoor
