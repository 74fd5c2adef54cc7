/-
  The law StartBack: walk.
  Conditions: those that each theorem names; Go's table of powers of ten is as its text lays it.
-/
import Derived.Test.YteggdakbebnjfaaDoorGH
namespace Go.Proofs.YteggdakbebnjfaaDoor
open Go.RowKit

theorem put_facts {n : Int} {m t a : List UInt8} (h : putReqF n m t = some a) : reqF a = some (m, t, n.toNat) ∧ statF a = none ∧ tokF m = true ∧ a.length ≤ 512 ∧ (n.toNat : Int) = n := by
  unfold putReqF at h
  split at h
  · rename_i hh
    injection h with h
    subst h
    obtain ⟨h0, h1, h2, h3, h4⟩ := hh
    have hr : reqF (reqL m t n.toNat) = some (m, t, n.toNat) := (req_iff _ _ _ _).2 ⟨rfl, h1, h2, h3, by omega, by rw [req_len]; exact h4⟩
    refine ⟨hr, ?_, h1, by rw [req_len]; exact h4, by omega⟩
    cases hs : statF (reqL m t n.toNat) with
    | none => rfl
    | some x => exact (never_both _ _ _ hr hs).elim
  · cases h
theorem tell_facts {n st : Int} {r b : List UInt8} (h : putStatF n st r = some b) : statF b = some (n.toNat, st.toNat, r) ∧ visF r = true ∧ b.length ≤ 512 ∧ (n.toNat : Int) = n ∧ (st.toNat : Int) = st := by
  unfold putStatF at h
  split at h
  · rename_i hh
    injection h with h
    subst h
    obtain ⟨h0, h1, h2, h3, h4⟩ := hh
    exact ⟨(stat_iff _ _ _ _).2 ⟨rfl, by omega, by omega, by omega, h3, by rw [stat_len]; exact h4⟩, h3, by rw [stat_len]; exact h4, by omega, by omega⟩
  · cases h
theorem req_facts {l m t : List UInt8} {n : Nat} (h : reqF l = some (m, t, n)) : putReqF n m t = some l ∧ statF l = none ∧ n ≤ 1 ∧ m.length ≤ 512 ∧ t.length ≤ 512 := by
  obtain ⟨hl, h1, h2, h3, h4, h5⟩ := (req_iff _ _ _ _).1 h
  have hlen := h5
  rw [hl, req_len] at hlen
  refine ⟨?_, ?_, h4, by omega, by omega⟩
  · unfold putReqF
    rw [if_pos ⟨by omega, h1, h2, h3, hlen⟩, hl]
    rfl
  · cases hs : statF l with
    | none => rfl
    | some x => exact (never_both _ _ _ h hs).elim
theorem stat_facts {l r : List UInt8} {n st : Nat} (h : statF l = some (n, st, r)) : putStatF n st r = some l ∧ reqF l = none ∧ n ≤ 1 ∧ st ≤ 599 ∧ r.length ≤ 512 := by
  obtain ⟨hl, h1, h2, h3, h4, h5⟩ := (stat_iff _ _ _ _).1 h
  have hlen := h5
  rw [hl, stat_len] at hlen
  refine ⟨?_, ?_, h1, h3, by omega⟩
  · unfold putStatF
    rw [if_pos ⟨by omega, by omega, by omega, h4, hlen⟩, hl]
    rfl
  · cases hs : reqF l with
    | none => rfl
    | some x => exact (never_both _ _ _ hs h).elim

/-- PutRequest, and what reads its answer. -/
theorem ways1 (m t : ByteArray) (n : Int) (hm : m.size ≤ 140737488355328) (ht : t.size ≤ 140737488355328) (hn : I64 n) :
    (∃ A : ByteArray, A.size ≤ 512 ∧ Hid (∀ X : World, PowT X → Calls Tryd.prog 9 #[.string m, .string t, .int .i64 n] X fun e w' => e = .returned (.tuple #[.string A, .int .i64 0]) ∧ Below X.heap.size X w') ∧
      Hid (∀ X : World, PowT X → Calls Tryd.prog 7 #[.string A] X fun e w' => e = .returned (.tuple #[.string m, .string t, .int .i64 n, .int .i64 0]) ∧ Below X.heap.size X w') ∧
      Hid (∀ X : World, PowT X → Calls Tryd.prog 12 #[.string A] X fun e w' => e = .returned (.tuple #[.int .i64 0, .int .i64 0, .string ⟨#[]⟩, .int .i64 5]) ∧ Below X.heap.size X w') ∧
      Hid (∀ X : World, Calls Tryd.prog 18 #[.string m] X fun e w' => e = .returned (.bool true) ∧ Below X.heap.size X w')) ∨
    Hid (∀ X : World, PowT X → Calls Tryd.prog 9 #[.string m, .string t, .int .i64 n] X fun e w' => e = .returned (.tuple #[.string ⟨#[]⟩, .int .i64 1]) ∧ Below X.heap.size X w') := by
  cases hq : putReqF n (bl m) (bl t) with
  | none => exact .inr (Lib.hid (fun X hX => putreq_at m t n [] 1 (by rw [hq]; rfl) X hm ht hn hX))
  | some a =>
    obtain ⟨h1, h2, h3, h4, h5⟩ := put_facts hq
    refine .inl ⟨⟨a.toArray⟩, by rw [size_of]; exact h4, Lib.hid (fun X hX => putreq_at m t n a 0 (by rw [hq]; rfl) X hm ht hn hX), Lib.hid (fun X hX => ?_),
      Lib.hid (fun X hX => status_at ⟨a.toArray⟩ 0 0 [] 5 (by rw [bl_of, h2]; rfl) X (by rw [size_of]; omega) hX), Lib.hid (fun X => ?_)⟩
    · have := request_at ⟨a.toArray⟩ (bl m) (bl t) n 0 (by rw [bl_of, h1]; show (bl m, bl t, (n.toNat : Int), (0 : Int)) = _; rw [h5]) X (by rw [size_of]; omega) hX
      rw [mk_bl, mk_bl] at this
      exact this
    · have := ty_token m X
      rw [h3] at this
      exact this
/-- PutStatus, and what reads its answer. -/
theorem ways2 (n st : Int) (r : ByteArray) (hr : r.size ≤ 140737488355328) (hn : I64 n) :
    (∃ A : ByteArray, A.size ≤ 512 ∧ Hid (∀ X : World, PowT X → Calls Tryd.prog 14 #[.int .i64 n, .int .i64 st, .string r] X fun e w' => e = .returned (.tuple #[.string A, .int .i64 0]) ∧ Below X.heap.size X w') ∧
      Hid (∀ X : World, PowT X → Calls Tryd.prog 12 #[.string A] X fun e w' => e = .returned (.tuple #[.int .i64 n, .int .i64 st, .string r, .int .i64 0]) ∧ Below X.heap.size X w') ∧
      Hid (∀ X : World, Calls Tryd.prog 19 #[.string r] X fun e w' => e = .returned (.bool true) ∧ Below X.heap.size X w')) ∨
    Hid (∀ X : World, PowT X → Calls Tryd.prog 14 #[.int .i64 n, .int .i64 st, .string r] X fun e w' => e = .returned (.tuple #[.string ⟨#[]⟩, .int .i64 1]) ∧ Below X.heap.size X w') := by
  cases hq : putStatF n st (bl r) with
  | none => exact .inr (Lib.hid (fun X hX => putstat_at n st r [] 1 (by rw [hq]; rfl) X hr hn hX))
  | some a =>
    obtain ⟨h1, h2, h3, h4, h5⟩ := tell_facts hq
    refine .inl ⟨⟨a.toArray⟩, by rw [size_of]; exact h3, Lib.hid (fun X hX => putstat_at n st r a 0 (by rw [hq]; rfl) X hr hn hX), Lib.hid (fun X hX => ?_), Lib.hid (fun X => ?_)⟩
    · have := status_at ⟨a.toArray⟩ n st (bl r) 0 (by rw [bl_of, h1]; show ((n.toNat : Int), (st.toNat : Int), bl r, (0 : Int)) = _; rw [h4, h5]) X (by rw [size_of]; omega) hX
      rw [mk_bl] at this
      exact this
    · have := ty_visible r X
      rw [h2] at this
      exact this
/-- What is read of a line, and put again. -/
theorem ways3 (s : ByteArray) (hs : s.size ≤ 140737488355328) :
    (∃ (m t : ByteArray) (n : Int), Hid (∀ X : World, PowT X → Calls Tryd.prog 7 #[.string s] X fun e w' => e = .returned (.tuple #[.string m, .string t, .int .i64 n, .int .i64 0]) ∧ Below X.heap.size X w') ∧
      Hid (∀ X : World, PowT X → Calls Tryd.prog 9 #[.string m, .string t, .int .i64 n] X fun e w' => e = .returned (.tuple #[.string s, .int .i64 0]) ∧ Below X.heap.size X w') ∧
      Hid (∀ X : World, PowT X → Calls Tryd.prog 12 #[.string s] X fun e w' => e = .returned (.tuple #[.int .i64 0, .int .i64 0, .string ⟨#[]⟩, .int .i64 5]) ∧ Below X.heap.size X w')) ∨
    (∃ (n st : Int) (r : ByteArray), Hid (∀ X : World, PowT X → Calls Tryd.prog 7 #[.string s] X fun e w' => e = .returned (.tuple #[.string ⟨#[]⟩, .string ⟨#[]⟩, .int .i64 0, .int .i64 5]) ∧ Below X.heap.size X w') ∧
      Hid (∀ X : World, PowT X → Calls Tryd.prog 12 #[.string s] X fun e w' => e = .returned (.tuple #[.int .i64 n, .int .i64 st, .string r, .int .i64 0]) ∧ Below X.heap.size X w') ∧
      Hid (∀ X : World, PowT X → Calls Tryd.prog 14 #[.int .i64 n, .int .i64 st, .string r] X fun e w' => e = .returned (.tuple #[.string s, .int .i64 0]) ∧ Below X.heap.size X w')) ∨
    (Hid (∀ X : World, PowT X → Calls Tryd.prog 7 #[.string s] X fun e w' => e = .returned (.tuple #[.string ⟨#[]⟩, .string ⟨#[]⟩, .int .i64 0, .int .i64 5]) ∧ Below X.heap.size X w') ∧
      Hid (∀ X : World, PowT X → Calls Tryd.prog 12 #[.string s] X fun e w' => e = .returned (.tuple #[.int .i64 0, .int .i64 0, .string ⟨#[]⟩, .int .i64 5]) ∧ Below X.heap.size X w')) := by
  cases hq : reqF (bl s) with
  | some x =>
    obtain ⟨m, t, n⟩ := x
    obtain ⟨h1, h2, h3, h4, h5⟩ := req_facts hq
    refine .inl ⟨⟨m.toArray⟩, ⟨t.toArray⟩, (n : Int), Lib.hid (fun X hX => request_at s m t n 0 (by rw [hq]; rfl) X hs hX), Lib.hid (fun X hX => ?_), Lib.hid (fun X hX => status_at s 0 0 [] 5 (by rw [h2]; rfl) X hs hX)⟩
    have := putreq_at ⟨m.toArray⟩ ⟨t.toArray⟩ n (bl s) 0 (by rw [bl_of, bl_of, h1]; rfl) X (by rw [size_of]; omega) (by rw [size_of]; omega) ⟨by omega, by omega⟩ hX
    rw [mk_bl] at this
    exact this
  | none =>
    cases hr : statF (bl s) with
    | some x =>
      obtain ⟨n, st, r⟩ := x
      obtain ⟨h1, h2, h3, h4, h5⟩ := stat_facts hr
      refine .inr (.inl ⟨(n : Int), (st : Int), ⟨r.toArray⟩, Lib.hid (fun X hX => request_at s [] [] 0 5 (by rw [hq]; rfl) X hs hX), Lib.hid (fun X hX => status_at s n st r 0 (by rw [hr]; rfl) X hs hX), Lib.hid (fun X hX => ?_)⟩)
      have := putstat_at n st ⟨r.toArray⟩ (bl s) 0 (by rw [bl_of, h1]; rfl) X (by rw [size_of]; omega) ⟨by omega, by omega⟩ hX
      rw [mk_bl] at this
      exact this
    | none => exact .inr (.inr ⟨Lib.hid (fun X hX => request_at s [] [] 0 5 (by rw [hq]; rfl) X hs hX), Lib.hid (fun X hX => status_at s 0 0 [] 5 (by rw [hr]; rfl) X hs hX)⟩)

set_option maxHeartbeats 16000000 in
set_option maxRecDepth 100000 in
theorem back_true (s m t r : ByteArray) (n st : Int) (w : World) (hs : s.size ≤ 140737488355328) (hm : m.size ≤ 140737488355328) (ht : t.size ≤ 140737488355328) (hr : r.size ≤ 140737488355328) (hn : I64 n) (hp : PowT w) :
    Calls Tryd.prog 5 #[.string s, .string m, .string t, .string r, .int .i64 n, .int .i64 st] w fun e w' => e = .returned (.bool true) ∧ Below w.heap.size w w' := by
  have O1 := Lib.hid (ways1 m t n hm ht hn)
  have O2 := Lib.hid (ways2 n st r hr hn)
  have O3 := Lib.hid (ways3 s hs)
  have CW := Lib.hid (fun (X : World) (hX : PowT X) => wakes_any X hX)
  have HP := Lib.hid hp
  have B0 := Lib.hid (Below.refl w.heap.size w)
  clear hp hs hm ht hr hn
  go_enter Tryd.func5, Tryd.ntmps5
  go_wp2_with fail
  rcases O1.out with ⟨A1, hA1, P1, R1, S1, T1⟩ | P1
  all_goals clear O1
  ·
    refine (P1.out _ (HP.out.below B0.out)).mono ?_
    rintro e w1 ⟨rfl, b⟩
    have B1 := Lib.hid (B0.out.trans (b.mono B0.out.size))
    clear b B0
    go_wp2_with fail
    refine (R1.out _ (HP.out.below B1.out)).mono ?_
    rintro e w2 ⟨rfl, b⟩
    have B2 := Lib.hid (B1.out.trans (b.mono B1.out.size))
    clear b B1
    go_wp2_with fail
    refine (S1.out _ (HP.out.below B2.out)).mono ?_
    rintro e w3 ⟨rfl, b⟩
    have B3 := Lib.hid (B2.out.trans (b.mono B2.out.size))
    clear b B2
    go_wp2_with fail
    refine (T1.out _).mono ?_
    rintro e w4 ⟨rfl, b⟩
    have B4 := Lib.hid (B3.out.trans (b.mono B3.out.size))
    clear b B3
    go_wp2_with fail
    clear P1 R1 S1 T1
    rcases O2.out with ⟨A2, hA2, P2, S2, V2⟩ | P2
    all_goals clear O2
    ·
      refine (P2.out _ (HP.out.below B4.out)).mono ?_
      rintro e w5 ⟨rfl, b⟩
      have B5 := Lib.hid (B4.out.trans (b.mono B4.out.size))
      clear b B4
      go_wp2_with fail
      refine (S2.out _ (HP.out.below B5.out)).mono ?_
      rintro e w6 ⟨rfl, b⟩
      have B6 := Lib.hid (B5.out.trans (b.mono B5.out.size))
      clear b B5
      go_wp2_with fail
      refine (V2.out _).mono ?_
      rintro e w7 ⟨rfl, b⟩
      have B7 := Lib.hid (B6.out.trans (b.mono B6.out.size))
      clear b B6
      go_wp2_with fail
      clear P2 S2 V2
      rcases O3.out with ⟨M3, T3, n3, R3, Q3, S3⟩ | ⟨n3, st3, r3, R3, S3, Q3⟩ | ⟨R3, S3⟩
      all_goals clear O3
      ·
        refine (R3.out _ (HP.out.below B7.out)).mono ?_
        rintro e w8 ⟨rfl, b⟩
        have B8 := Lib.hid (B7.out.trans (b.mono B7.out.size))
        clear b B7
        go_wp2_with fail
        refine (Q3.out _ (HP.out.below B8.out)).mono ?_
        rintro e w9 ⟨rfl, b⟩
        have B9 := Lib.hid (B8.out.trans (b.mono B8.out.size))
        clear b B8
        go_wp2_with fail
        refine (S3.out _ (HP.out.below B9.out)).mono ?_
        rintro e w10 ⟨rfl, b⟩
        have B10 := Lib.hid (B9.out.trans (b.mono B9.out.size))
        clear b B9
        go_wp2_with fail
        refine (CW.out _ (HP.out.below B10.out)).mono ?_
        rintro e w11 ⟨rfl, b⟩
        have B11 := Lib.hid (B10.out.trans (b.mono B10.out.size))
        clear b B10
        go_wp2_with fail
        go_ret
        exact ⟨rfl, B11.out⟩
      ·
        refine (R3.out _ (HP.out.below B7.out)).mono ?_
        rintro e w8 ⟨rfl, b⟩
        have B8 := Lib.hid (B7.out.trans (b.mono B7.out.size))
        clear b B7
        go_wp2_with fail
        refine (S3.out _ (HP.out.below B8.out)).mono ?_
        rintro e w9 ⟨rfl, b⟩
        have B9 := Lib.hid (B8.out.trans (b.mono B8.out.size))
        clear b B8
        go_wp2_with fail
        refine (Q3.out _ (HP.out.below B9.out)).mono ?_
        rintro e w10 ⟨rfl, b⟩
        have B10 := Lib.hid (B9.out.trans (b.mono B9.out.size))
        clear b B9
        go_wp2_with fail
        refine (CW.out _ (HP.out.below B10.out)).mono ?_
        rintro e w11 ⟨rfl, b⟩
        have B11 := Lib.hid (B10.out.trans (b.mono B10.out.size))
        clear b B10
        go_wp2_with fail
        go_ret
        exact ⟨rfl, B11.out⟩
      ·
        refine (R3.out _ (HP.out.below B7.out)).mono ?_
        rintro e w8 ⟨rfl, b⟩
        have B8 := Lib.hid (B7.out.trans (b.mono B7.out.size))
        clear b B7
        go_wp2_with fail
        refine (S3.out _ (HP.out.below B8.out)).mono ?_
        rintro e w9 ⟨rfl, b⟩
        have B9 := Lib.hid (B8.out.trans (b.mono B8.out.size))
        clear b B8
        go_wp2_with fail
        refine (CW.out _ (HP.out.below B9.out)).mono ?_
        rintro e w10 ⟨rfl, b⟩
        have B10 := Lib.hid (B9.out.trans (b.mono B9.out.size))
        clear b B9
        go_wp2_with fail
        go_ret
        exact ⟨rfl, B10.out⟩
    ·
      refine (P2.out _ (HP.out.below B4.out)).mono ?_
      rintro e w5 ⟨rfl, b⟩
      have B5 := Lib.hid (B4.out.trans (b.mono B4.out.size))
      clear b B4
      go_wp2_with fail
      clear P2
      rcases O3.out with ⟨M3, T3, n3, R3, Q3, S3⟩ | ⟨n3, st3, r3, R3, S3, Q3⟩ | ⟨R3, S3⟩
      all_goals clear O3
      ·
        refine (R3.out _ (HP.out.below B5.out)).mono ?_
        rintro e w6 ⟨rfl, b⟩
        have B6 := Lib.hid (B5.out.trans (b.mono B5.out.size))
        clear b B5
        go_wp2_with fail
        refine (Q3.out _ (HP.out.below B6.out)).mono ?_
        rintro e w7 ⟨rfl, b⟩
        have B7 := Lib.hid (B6.out.trans (b.mono B6.out.size))
        clear b B6
        go_wp2_with fail
        refine (S3.out _ (HP.out.below B7.out)).mono ?_
        rintro e w8 ⟨rfl, b⟩
        have B8 := Lib.hid (B7.out.trans (b.mono B7.out.size))
        clear b B7
        go_wp2_with fail
        refine (CW.out _ (HP.out.below B8.out)).mono ?_
        rintro e w9 ⟨rfl, b⟩
        have B9 := Lib.hid (B8.out.trans (b.mono B8.out.size))
        clear b B8
        go_wp2_with fail
        go_ret
        exact ⟨rfl, B9.out⟩
      ·
        refine (R3.out _ (HP.out.below B5.out)).mono ?_
        rintro e w6 ⟨rfl, b⟩
        have B6 := Lib.hid (B5.out.trans (b.mono B5.out.size))
        clear b B5
        go_wp2_with fail
        refine (S3.out _ (HP.out.below B6.out)).mono ?_
        rintro e w7 ⟨rfl, b⟩
        have B7 := Lib.hid (B6.out.trans (b.mono B6.out.size))
        clear b B6
        go_wp2_with fail
        refine (Q3.out _ (HP.out.below B7.out)).mono ?_
        rintro e w8 ⟨rfl, b⟩
        have B8 := Lib.hid (B7.out.trans (b.mono B7.out.size))
        clear b B7
        go_wp2_with fail
        refine (CW.out _ (HP.out.below B8.out)).mono ?_
        rintro e w9 ⟨rfl, b⟩
        have B9 := Lib.hid (B8.out.trans (b.mono B8.out.size))
        clear b B8
        go_wp2_with fail
        go_ret
        exact ⟨rfl, B9.out⟩
      ·
        refine (R3.out _ (HP.out.below B5.out)).mono ?_
        rintro e w6 ⟨rfl, b⟩
        have B6 := Lib.hid (B5.out.trans (b.mono B5.out.size))
        clear b B5
        go_wp2_with fail
        refine (S3.out _ (HP.out.below B6.out)).mono ?_
        rintro e w7 ⟨rfl, b⟩
        have B7 := Lib.hid (B6.out.trans (b.mono B6.out.size))
        clear b B6
        go_wp2_with fail
        refine (CW.out _ (HP.out.below B7.out)).mono ?_
        rintro e w8 ⟨rfl, b⟩
        have B8 := Lib.hid (B7.out.trans (b.mono B7.out.size))
        clear b B7
        go_wp2_with fail
        go_ret
        exact ⟨rfl, B8.out⟩
  ·
    refine (P1.out _ (HP.out.below B0.out)).mono ?_
    rintro e w1 ⟨rfl, b⟩
    have B1 := Lib.hid (B0.out.trans (b.mono B0.out.size))
    clear b B0
    go_wp2_with fail
    clear P1
    rcases O2.out with ⟨A2, hA2, P2, S2, V2⟩ | P2
    all_goals clear O2
    ·
      refine (P2.out _ (HP.out.below B1.out)).mono ?_
      rintro e w2 ⟨rfl, b⟩
      have B2 := Lib.hid (B1.out.trans (b.mono B1.out.size))
      clear b B1
      go_wp2_with fail
      refine (S2.out _ (HP.out.below B2.out)).mono ?_
      rintro e w3 ⟨rfl, b⟩
      have B3 := Lib.hid (B2.out.trans (b.mono B2.out.size))
      clear b B2
      go_wp2_with fail
      refine (V2.out _).mono ?_
      rintro e w4 ⟨rfl, b⟩
      have B4 := Lib.hid (B3.out.trans (b.mono B3.out.size))
      clear b B3
      go_wp2_with fail
      clear P2 S2 V2
      rcases O3.out with ⟨M3, T3, n3, R3, Q3, S3⟩ | ⟨n3, st3, r3, R3, S3, Q3⟩ | ⟨R3, S3⟩
      all_goals clear O3
      ·
        refine (R3.out _ (HP.out.below B4.out)).mono ?_
        rintro e w5 ⟨rfl, b⟩
        have B5 := Lib.hid (B4.out.trans (b.mono B4.out.size))
        clear b B4
        go_wp2_with fail
        refine (Q3.out _ (HP.out.below B5.out)).mono ?_
        rintro e w6 ⟨rfl, b⟩
        have B6 := Lib.hid (B5.out.trans (b.mono B5.out.size))
        clear b B5
        go_wp2_with fail
        refine (S3.out _ (HP.out.below B6.out)).mono ?_
        rintro e w7 ⟨rfl, b⟩
        have B7 := Lib.hid (B6.out.trans (b.mono B6.out.size))
        clear b B6
        go_wp2_with fail
        refine (CW.out _ (HP.out.below B7.out)).mono ?_
        rintro e w8 ⟨rfl, b⟩
        have B8 := Lib.hid (B7.out.trans (b.mono B7.out.size))
        clear b B7
        go_wp2_with fail
        go_ret
        exact ⟨rfl, B8.out⟩
      ·
        refine (R3.out _ (HP.out.below B4.out)).mono ?_
        rintro e w5 ⟨rfl, b⟩
        have B5 := Lib.hid (B4.out.trans (b.mono B4.out.size))
        clear b B4
        go_wp2_with fail
        refine (S3.out _ (HP.out.below B5.out)).mono ?_
        rintro e w6 ⟨rfl, b⟩
        have B6 := Lib.hid (B5.out.trans (b.mono B5.out.size))
        clear b B5
        go_wp2_with fail
        refine (Q3.out _ (HP.out.below B6.out)).mono ?_
        rintro e w7 ⟨rfl, b⟩
        have B7 := Lib.hid (B6.out.trans (b.mono B6.out.size))
        clear b B6
        go_wp2_with fail
        refine (CW.out _ (HP.out.below B7.out)).mono ?_
        rintro e w8 ⟨rfl, b⟩
        have B8 := Lib.hid (B7.out.trans (b.mono B7.out.size))
        clear b B7
        go_wp2_with fail
        go_ret
        exact ⟨rfl, B8.out⟩
      ·
        refine (R3.out _ (HP.out.below B4.out)).mono ?_
        rintro e w5 ⟨rfl, b⟩
        have B5 := Lib.hid (B4.out.trans (b.mono B4.out.size))
        clear b B4
        go_wp2_with fail
        refine (S3.out _ (HP.out.below B5.out)).mono ?_
        rintro e w6 ⟨rfl, b⟩
        have B6 := Lib.hid (B5.out.trans (b.mono B5.out.size))
        clear b B5
        go_wp2_with fail
        refine (CW.out _ (HP.out.below B6.out)).mono ?_
        rintro e w7 ⟨rfl, b⟩
        have B7 := Lib.hid (B6.out.trans (b.mono B6.out.size))
        clear b B6
        go_wp2_with fail
        go_ret
        exact ⟨rfl, B7.out⟩
    ·
      refine (P2.out _ (HP.out.below B1.out)).mono ?_
      rintro e w2 ⟨rfl, b⟩
      have B2 := Lib.hid (B1.out.trans (b.mono B1.out.size))
      clear b B1
      go_wp2_with fail
      clear P2
      rcases O3.out with ⟨M3, T3, n3, R3, Q3, S3⟩ | ⟨n3, st3, r3, R3, S3, Q3⟩ | ⟨R3, S3⟩
      all_goals clear O3
      ·
        refine (R3.out _ (HP.out.below B2.out)).mono ?_
        rintro e w3 ⟨rfl, b⟩
        have B3 := Lib.hid (B2.out.trans (b.mono B2.out.size))
        clear b B2
        go_wp2_with fail
        refine (Q3.out _ (HP.out.below B3.out)).mono ?_
        rintro e w4 ⟨rfl, b⟩
        have B4 := Lib.hid (B3.out.trans (b.mono B3.out.size))
        clear b B3
        go_wp2_with fail
        refine (S3.out _ (HP.out.below B4.out)).mono ?_
        rintro e w5 ⟨rfl, b⟩
        have B5 := Lib.hid (B4.out.trans (b.mono B4.out.size))
        clear b B4
        go_wp2_with fail
        refine (CW.out _ (HP.out.below B5.out)).mono ?_
        rintro e w6 ⟨rfl, b⟩
        have B6 := Lib.hid (B5.out.trans (b.mono B5.out.size))
        clear b B5
        go_wp2_with fail
        go_ret
        exact ⟨rfl, B6.out⟩
      ·
        refine (R3.out _ (HP.out.below B2.out)).mono ?_
        rintro e w3 ⟨rfl, b⟩
        have B3 := Lib.hid (B2.out.trans (b.mono B2.out.size))
        clear b B2
        go_wp2_with fail
        refine (S3.out _ (HP.out.below B3.out)).mono ?_
        rintro e w4 ⟨rfl, b⟩
        have B4 := Lib.hid (B3.out.trans (b.mono B3.out.size))
        clear b B3
        go_wp2_with fail
        refine (Q3.out _ (HP.out.below B4.out)).mono ?_
        rintro e w5 ⟨rfl, b⟩
        have B5 := Lib.hid (B4.out.trans (b.mono B4.out.size))
        clear b B4
        go_wp2_with fail
        refine (CW.out _ (HP.out.below B5.out)).mono ?_
        rintro e w6 ⟨rfl, b⟩
        have B6 := Lib.hid (B5.out.trans (b.mono B5.out.size))
        clear b B5
        go_wp2_with fail
        go_ret
        exact ⟨rfl, B6.out⟩
      ·
        refine (R3.out _ (HP.out.below B2.out)).mono ?_
        rintro e w3 ⟨rfl, b⟩
        have B3 := Lib.hid (B2.out.trans (b.mono B2.out.size))
        clear b B2
        go_wp2_with fail
        refine (S3.out _ (HP.out.below B3.out)).mono ?_
        rintro e w4 ⟨rfl, b⟩
        have B4 := Lib.hid (B3.out.trans (b.mono B3.out.size))
        clear b B3
        go_wp2_with fail
        refine (CW.out _ (HP.out.below B4.out)).mono ?_
        rintro e w5 ⟨rfl, b⟩
        have B5 := Lib.hid (B4.out.trans (b.mono B4.out.size))
        clear b B4
        go_wp2_with fail
        go_ret
        exact ⟨rfl, B5.out⟩
end Go.Proofs.YteggdakbebnjfaaDoor
