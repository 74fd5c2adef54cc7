/-
  What package start's readStatus, Request, Status do.
  Conditions: those that each theorem names; Go's table of powers of ten is as its text lays it.
-/
import Derived.Test.YteggdakbebnjfaaDoorGE
namespace Go.Proofs.YteggdakbebnjfaaDoor
open Go.RowKit

/-- What readStatus tells: the status, and whether it is one. -/
def stV (r : Option Nat) : Value := match r with
  | none => .tuple #[.int .i64 0, .bool false]
  | some n => .tuple #[.int .i64 (n : Int), .bool true]
theorem readst_all (d : List UInt8) : readStF d = if d.length = 3 ∧ d.all digB = true then readStF d else none := by
  split
  · rfl
  · rename_i h
    cases hd : readStF d with
    | none => rfl
    | some st =>
      refine absurd ?_ h
      unfold readStF at hd
      split at hd
      · split at hd
        · rename_i hh
          exact ⟨rfl, by simp [hh]⟩
        · cases hd
      · cases hd
theorem readst_is (d : List UInt8) (h : d.length = 3) (ha : d.all digB = true) : ∃ st, readStF d = some st := by
  match d, h with
  | [a, b, c], _ =>
    simp only [List.all_cons, List.all_nil, Bool.and_eq_true, Bool.and_true] at ha
    exact ⟨statOf a b c, by unfold readStF; exact if_pos ha⟩
set_option maxHeartbeats 4000000 in
theorem rdstat_any (s : ByteArray) (w : World) (hs : s.size ≤ 281474976710656) : Calls Tryd.prog 28 #[.string s] w fun e w' => e = .returned (stV (readStF (bl s))) ∧ Below w.heap.size w w' := by
  have C := Lib.hid (sall_any 42 (.inr rfl) digB dig_says s w hs)
  have hr := readst_all (bl s)
  rw [bl_length] at hr
  by_cases h3 : s.size = 3
  · cases hall : (bl s).all digB with
    | false =>
      have HN := Lib.hid (show readStF (bl s) = none by rw [hr, if_neg (by rw [hall]; simp)])
      rw [hall] at C
      have e3 : ((s.size : Int) != 3) = false := by simp; omega
      clear hr hall h3
      go_enter Tryd.func28, Tryd.ntmps28
      go_wp2_with fail
      refine C.out.mono ?_
      rintro e v ⟨rfl, rfl⟩
      go_wp2_with fail
      go_ret2
      exact ⟨by rw [HN.out]; rfl, Below.refl _ _⟩
    | true =>
      obtain ⟨st, hst⟩ := readst_is (bl s) (by rw [bl_length]; exact h3) hall
      have CA := Lib.hid (fun X : World => Tryd.strconv_Atoi s (st : Int) (by omega) (atoi_st hst) X)
      have HN := Lib.hid hst
      rw [hall] at C
      have e3 : ((s.size : Int) != 3) = false := by simp; omega
      clear hr hall h3 hst
      go_enter Tryd.func28, Tryd.ntmps28
      go_wp2_with fail
      refine C.out.mono ?_
      rintro e v ⟨rfl, rfl⟩
      go_wp2_with fail
      refine (CA.out _).mono ?_
      rintro e v2 ⟨rfl, t, rfl⟩
      have B := Lib.hid (Lib.bytesWorld_below w 5 t)
      generalize Lib.bytesWorld w 5 t = v3 at *
      go_wp2_with fail
      go_quiet (fail)
      have HB : Hid (Below w.heap.size w (v3.drewN nq)) := Lib.hid (below_drewN B.out nq)
      go_wp2_with fail
      go_ret2
      exact ⟨by rw [HN.out]; rfl, HB.out⟩
  · have HN := Lib.hid (show readStF (bl s) = none by rw [hr, if_neg (fun h => h3 h.1)])
    have e3 : ((s.size : Int) != 3) = true := by simp; omega
    clear hr h3
    go_enter Tryd.func28, Tryd.ntmps28
    go_wp2_with fail
    go_ret2
    exact ⟨by rw [HN.out]; rfl, Below.refl _ _⟩

theorem cut_len : ∀ (l : List UInt8), (cutP l).1.length ≤ l.length ∧ (cutP l).2.1.length ≤ l.length
  | [] => ⟨Nat.le_refl _, Nat.le_refl _⟩
  | c :: l => by
    have := cut_len l
    unfold cutP
    split <;> simp <;> omega
theorem bl_of (l : List UInt8) : bl ⟨l.toArray⟩ = l := rfl
theorem size_of (l : List UInt8) : (⟨l.toArray⟩ : ByteArray).size = l.length := by rw [← bl_length, bl_of]

set_option maxHeartbeats 4000000 in
theorem request_any (s : ByteArray) (w : World) (hs : s.size ≤ 140737488355328) (hp : PowT w) : Calls Tryd.prog 7 #[.string s] w (ReqGot (reqF (bl s)) w) := by
  have hrq := req_line (bl s)
  unfold lineF at hrq
  have C1 := cut_any s w (by omega)
  unfold CutGot at C1
  obtain ⟨l1, l2⟩ := cut_len (bl s)
  rw [bl_length] at l1 l2
  generalize cutP (bl s) = p1 at *
  obtain ⟨a, r, f1⟩ := p1
  simp only at hrq C1 l1 l2
  have C2 := fun X : World => cut_any ⟨r.toArray⟩ X (by rw [size_of]; omega)
  unfold CutGot at C2
  rw [bl_of] at C2
  obtain ⟨l3, l4⟩ := cut_len r
  generalize cutP r = p2 at *
  obtain ⟨t, v, f2⟩ := p2
  simp only at hrq C2 l3 l4
  have C3 := Lib.hid (fun X : World => rdminor_any ⟨v.toArray⟩ X)
  rw [bl_of] at C3
  have D1 := Lib.hid C1
  have D2 := Lib.hid C2
  have HP := Lib.hid hp
  clear C1 C2 hp
  cases hmi : minorF v with
  | none =>
    rw [hmi] at hrq C3
    have HN := Lib.hid (show reqF (bl s) = none from hrq)
    clear hrq hmi
    go_enter Tryd.func7, Tryd.ntmps7
    go_wp2_with fail
    refine D1.out.mono ?_
    rintro e w1 ⟨rfl, b1⟩
    go_wp2_with fail
    refine (D2.out _).mono ?_
    rintro e w2 ⟨rfl, b2⟩
    have B2 := Lib.hid (b1.trans (b2.mono b1.size))
    clear b1 b2
    go_wp2_with fail
    refine (C3.out _).mono ?_
    rintro e w3 ⟨rfl, rfl⟩
    rw [show minV (none : Option Nat) = .tuple #[.int .i64 0, .bool false] from rfl]
    go_wp2_with fail
    (try simp only [Exit.inBlock, Exit.then]); refine bodyPost_ret (results_tmp4 rfl _ _ _) rfl ?_
    exact ⟨B2.out, by rw [HN.out]; rfl⟩
  | some n =>
    have hn1 := (minor_some hmi).2
    rw [hmi] at hrq C3
    have CA := Lib.hid (fun (X : World) (hX : PowT X) => mayask_any ⟨a.toArray⟩ ⟨t.toArray⟩ (n : Int) X (by rw [size_of]; omega) (by rw [size_of]; omega) ⟨by omega, by omega⟩ hX)
    rw [bl_of, bl_of] at CA
    cases hq : (putReqF n a t).isSome with
    | false =>
      rw [hq] at CA
      have HN := Lib.hid (show reqF (bl s) = none by rw [hrq]; simp only; rw [hq]; rfl)
      clear hrq hmi hq
      go_enter Tryd.func7, Tryd.ntmps7
      go_wp2_with fail
      refine D1.out.mono ?_
      rintro e w1 ⟨rfl, b1⟩
      go_wp2_with fail
      refine (D2.out _).mono ?_
      rintro e w2 ⟨rfl, b2⟩
      have B2 := Lib.hid (b1.trans (b2.mono b1.size))
      clear b1 b2
      go_wp2_with fail
      refine (C3.out _).mono ?_
      rintro e w3 ⟨rfl, rfl⟩
      rw [show minV (some n) = .tuple #[.int .i64 (n : Int), .bool true] from rfl]
      go_wp2_with fail
      refine (CA.out _ (HP.out.below B2.out)).mono ?_
      rintro e w4 ⟨rfl, b4⟩
      have B4 := Lib.hid (B2.out.trans (b4.mono B2.out.size))
      clear b4 B2
      go_wp2_with fail
      (try simp only [Exit.inBlock, Exit.then]); refine bodyPost_ret (results_tmp4 rfl _ _ _) rfl ?_
      exact ⟨B4.out, by rw [HN.out]; rfl⟩
    | true =>
      rw [hq] at CA
      have HN := Lib.hid (show reqF (bl s) = some (a, t, n) by rw [hrq]; simp only; rw [hq]; rfl)
      have K1 := Lib.hid (fun X : World => sclone_any ⟨a.toArray⟩ X (by rw [size_of]; omega))
      have K2 := Lib.hid (fun X : World => sclone_any ⟨t.toArray⟩ X (by rw [size_of]; omega))
      clear hrq hmi hq
      go_enter Tryd.func7, Tryd.ntmps7
      go_wp2_with fail
      refine D1.out.mono ?_
      rintro e w1 ⟨rfl, b1⟩
      go_wp2_with fail
      refine (D2.out _).mono ?_
      rintro e w2 ⟨rfl, b2⟩
      have B2 := Lib.hid (b1.trans (b2.mono b1.size))
      clear b1 b2
      go_wp2_with fail
      refine (C3.out _).mono ?_
      rintro e w3 ⟨rfl, rfl⟩
      rw [show minV (some n) = .tuple #[.int .i64 (n : Int), .bool true] from rfl]
      go_wp2_with fail
      refine (CA.out _ (HP.out.below B2.out)).mono ?_
      rintro e w4 ⟨rfl, b4⟩
      have B4 := Lib.hid (B2.out.trans (b4.mono B2.out.size))
      clear b4 B2
      go_wp2_with fail
      refine (K1.out _).mono ?_
      rintro e w5 ⟨rfl, b5⟩
      have B5 := Lib.hid (B4.out.trans (b5.mono B4.out.size))
      clear b5 B4
      go_wp2_with fail
      refine (K2.out _).mono ?_
      rintro e w6 ⟨rfl, b6⟩
      have B6 := Lib.hid (B5.out.trans (b6.mono B5.out.size))
      clear b6 B5
      go_wp2_with fail
      (try simp only [Exit.inBlock, Exit.then]); refine bodyPost_ret (results_tmp4 rfl _ _ _) rfl ?_
      exact ⟨B6.out, by rw [HN.out]; rfl⟩

set_option maxHeartbeats 4000000 in
theorem status_any (s : ByteArray) (w : World) (hs : s.size ≤ 140737488355328) (hp : PowT w) : Calls Tryd.prog 12 #[.string s] w (StatGot (statF (bl s)) w) := by
  have hrq := stat_line (bl s)
  unfold tellF at hrq
  have C1 := cut_any s w (by omega)
  unfold CutGot at C1
  obtain ⟨l1, l2⟩ := cut_len (bl s)
  rw [bl_length] at l1 l2
  generalize cutP (bl s) = p1 at *
  obtain ⟨a, r, f1⟩ := p1
  simp only at hrq C1 l1 l2
  have C2 := fun X : World => cut_any ⟨r.toArray⟩ X (by rw [size_of]; omega)
  unfold CutGot at C2
  rw [bl_of] at C2
  obtain ⟨l3, l4⟩ := cut_len r
  generalize cutP r = p2 at *
  obtain ⟨d, x, f2⟩ := p2
  simp only at hrq C2 l3 l4
  have C3 := Lib.hid (fun X : World => rdminor_any ⟨a.toArray⟩ X)
  rw [bl_of] at C3
  have C4 := Lib.hid (fun X : World => rdstat_any ⟨d.toArray⟩ X (by rw [size_of]; omega))
  rw [bl_of] at C4
  have D1 := Lib.hid C1
  have D2 := Lib.hid C2
  have HP := Lib.hid hp
  clear C1 C2 hp
  cases hmi : minorF a with
  | none =>
    rw [hmi] at hrq C3
    have HN := Lib.hid (show statF (bl s) = none from hrq)
    clear hrq hmi
    go_enter Tryd.func12, Tryd.ntmps12
    go_wp2_with fail
    refine D1.out.mono ?_
    rintro e w1 ⟨rfl, b1⟩
    go_wp2_with fail
    refine (D2.out _).mono ?_
    rintro e w2 ⟨rfl, b2⟩
    have B2 := Lib.hid (b1.trans (b2.mono b1.size))
    clear b1 b2
    go_wp2_with fail
    refine (C3.out _).mono ?_
    rintro e w3 ⟨rfl, rfl⟩
    rw [show minV (none : Option Nat) = .tuple #[.int .i64 0, .bool false] from rfl]
    go_wp2_with fail
    (try simp only [Exit.inBlock, Exit.then]); refine bodyPost_ret (results_tmp4 rfl _ _ _) rfl ?_
    exact ⟨B2.out, by rw [HN.out]; rfl⟩
  | some n =>
    have hn1 := (minor_some hmi).2
    rw [hmi] at hrq C3
    simp only at hrq
    cases f2 with
    | false =>
      have HN := Lib.hid (show statF (bl s) = none by rw [hrq]; rfl)
      clear hrq hmi
      go_enter Tryd.func12, Tryd.ntmps12
      go_wp2_with fail
      refine D1.out.mono ?_
      rintro e w1 ⟨rfl, b1⟩
      go_wp2_with fail
      refine (D2.out _).mono ?_
      rintro e w2 ⟨rfl, b2⟩
      have B2 := Lib.hid (b1.trans (b2.mono b1.size))
      clear b1 b2
      go_wp2_with fail
      refine (C3.out _).mono ?_
      rintro e w3 ⟨rfl, rfl⟩
      rw [show minV (some n) = .tuple #[.int .i64 (n : Int), .bool true] from rfl]
      go_wp2_with fail
      (try simp only [Exit.inBlock, Exit.then]); refine bodyPost_ret (results_tmp4 rfl _ _ _) rfl ?_
      exact ⟨B2.out, by rw [HN.out]; rfl⟩
    | true =>
      rw [if_pos rfl] at hrq
      cases hst : readStF d with
      | none =>
        rw [hst] at hrq C4
        have HN := Lib.hid (show statF (bl s) = none from hrq)
        clear hrq hmi hst
        go_enter Tryd.func12, Tryd.ntmps12
        go_wp2_with fail
        refine D1.out.mono ?_
        rintro e w1 ⟨rfl, b1⟩
        go_wp2_with fail
        refine (D2.out _).mono ?_
        rintro e w2 ⟨rfl, b2⟩
        have B2 := Lib.hid (b1.trans (b2.mono b1.size))
        clear b1 b2
        go_wp2_with fail
        refine (C3.out _).mono ?_
        rintro e w3 ⟨rfl, rfl⟩
        rw [show minV (some n) = .tuple #[.int .i64 (n : Int), .bool true] from rfl]
        go_wp2_with fail
        refine (C4.out _).mono ?_
        rintro e w4 ⟨rfl, b4⟩
        have B4 := Lib.hid (B2.out.trans (b4.mono B2.out.size))
        clear b4 B2
        rw [show stV (none : Option Nat) = .tuple #[.int .i64 0, .bool false] from rfl]
        go_wp2_with fail
        (try simp only [Exit.inBlock, Exit.then]); refine bodyPost_ret (results_tmp4 rfl _ _ _) rfl ?_
        exact ⟨B4.out, by rw [HN.out]; rfl⟩
      | some st =>
        have hst9 := (readst_some hst).2
        rw [hst] at hrq C4
        simp only at hrq
        have CA := Lib.hid (fun (X : World) (hX : PowT X) => maytell_any (n : Int) (st : Int) ⟨x.toArray⟩ X (by rw [size_of]; omega) ⟨by omega, by omega⟩ hX)
        rw [bl_of] at CA
        cases hq : (putStatF n st x).isSome with
        | false =>
          rw [hq] at CA
          have HN := Lib.hid (show statF (bl s) = none by rw [hrq, hq]; rfl)
          clear hrq hmi hst hq
          go_enter Tryd.func12, Tryd.ntmps12
          go_wp2_with fail
          refine D1.out.mono ?_
          rintro e w1 ⟨rfl, b1⟩
          go_wp2_with fail
          refine (D2.out _).mono ?_
          rintro e w2 ⟨rfl, b2⟩
          have B2 := Lib.hid (b1.trans (b2.mono b1.size))
          clear b1 b2
          go_wp2_with fail
          refine (C3.out _).mono ?_
          rintro e w3 ⟨rfl, rfl⟩
          rw [show minV (some n) = .tuple #[.int .i64 (n : Int), .bool true] from rfl]
          go_wp2_with fail
          refine (C4.out _).mono ?_
          rintro e w4 ⟨rfl, b4⟩
          have B4 := Lib.hid (B2.out.trans (b4.mono B2.out.size))
          clear b4 B2
          rw [show stV (some st) = .tuple #[.int .i64 (st : Int), .bool true] from rfl]
          go_wp2_with fail
          refine (CA.out _ (HP.out.below B4.out)).mono ?_
          rintro e w5 ⟨rfl, b5⟩
          have B5 := Lib.hid (B4.out.trans (b5.mono B4.out.size))
          clear b5 B4
          go_wp2_with fail
          (try simp only [Exit.inBlock, Exit.then]); refine bodyPost_ret (results_tmp4 rfl _ _ _) rfl ?_
          exact ⟨B5.out, by rw [HN.out]; rfl⟩
        | true =>
          rw [hq] at CA
          have HN := Lib.hid (show statF (bl s) = some (n, st, x) by rw [hrq, hq]; rfl)
          have K1 := Lib.hid (fun X : World => sclone_any ⟨x.toArray⟩ X (by rw [size_of]; omega))
          clear hrq hmi hst hq
          go_enter Tryd.func12, Tryd.ntmps12
          go_wp2_with fail
          refine D1.out.mono ?_
          rintro e w1 ⟨rfl, b1⟩
          go_wp2_with fail
          refine (D2.out _).mono ?_
          rintro e w2 ⟨rfl, b2⟩
          have B2 := Lib.hid (b1.trans (b2.mono b1.size))
          clear b1 b2
          go_wp2_with fail
          refine (C3.out _).mono ?_
          rintro e w3 ⟨rfl, rfl⟩
          rw [show minV (some n) = .tuple #[.int .i64 (n : Int), .bool true] from rfl]
          go_wp2_with fail
          refine (C4.out _).mono ?_
          rintro e w4 ⟨rfl, b4⟩
          have B4 := Lib.hid (B2.out.trans (b4.mono B2.out.size))
          clear b4 B2
          rw [show stV (some st) = .tuple #[.int .i64 (st : Int), .bool true] from rfl]
          go_wp2_with fail
          refine (CA.out _ (HP.out.below B4.out)).mono ?_
          rintro e w5 ⟨rfl, b5⟩
          have B5 := Lib.hid (B4.out.trans (b5.mono B4.out.size))
          clear b5 B4
          go_wp2_with fail
          refine (K1.out _).mono ?_
          rintro e w6 ⟨rfl, b6⟩
          have B6 := Lib.hid (B5.out.trans (b6.mono B5.out.size))
          clear b6 B5
          go_wp2_with fail
          (try simp only [Exit.inBlock, Exit.then]); refine bodyPost_ret (results_tmp4 rfl _ _ _) rfl ?_
          exact ⟨B6.out, by rw [HN.out]; rfl⟩
end Go.Proofs.YteggdakbebnjfaaDoor
