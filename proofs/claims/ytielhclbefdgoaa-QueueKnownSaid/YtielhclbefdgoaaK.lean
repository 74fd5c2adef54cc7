/-
  What the law QueueKnown answers, as a call: true, and nothing that was there before has turned.
  Conditions: none.
-/
import Derived.Test.YtielhclbefdgoaaJ
namespace Go.Proofs.Ytielhclbefdgoaa
open Go.RowKit

theorem new_at (n : Int) (m : Nat) (hn : n = (m : Int)) (hm : m ≤ 16384) (w : World) : Calls Try.prog 7 #[.int .i64 n] w (Made m w) := by
  subst hn
  exact new_ok m hm w

theorem make_at (n : Int) (m : Nat) (hn : n = (m : Int)) (hm : m ≤ 16384) (w : World) : ∃ (w' : World) (bs : List UInt8), (Instr.makeSlice 31 (.int .i64 n) (.int .i64 n)).run Try.prog w = .ok (.slice (some ⟨w.heap.size, 0, none⟩) m m) w' ∧
    Is w' w.heap.size 5 (vals bs) ∧ bs.length = m ∧ Turn (fun _ => False) w w' := by
  subst hn
  obtain ⟨w', h1, h2, h3, _⟩ := run_make_bytes m hm w
  exact ⟨w', _, h1, h2, List.length_replicate, h3⟩

/-- Nothing but what lies at the two queues has turned, below B. -/
theorem Turn.step {B : Nat} {S : Nat → Prop} {a b c : World} (h : Below B a b) (h' : Turn S b c) (hB : B ≤ b.heap.size) (hs : ∀ k, S k → B ≤ k) : Below B a c :=
  h.trans ⟨h'.os, h'.tape, h'.output, h'.size, fun k hk => h'.block k (by omega) (fun hS => by have := hs k hS; omega)⟩

set_option maxRecDepth 100000 in
set_option maxHeartbeats 2000000 in
theorem known_true (w : World) : Calls Try.prog 5 #[] w fun e w' => e = .returned (.bool true) ∧ Below w.heap.size w w' := by
  go_enter Try.func5, Try.ntmps5
  go_wp2_with fail
  refine (new_bad (-1) (by omega) w).mono ?_
  rintro e w' ⟨rfl, rfl⟩
  go_wp2_with fail
  refine (new_bad 16385 (by omega) w).mono ?_
  rintro e w' ⟨rfl, rfl⟩
  go_wp2_with fail
  refine (new_at 16384 16384 rfl (by omega) w).mono ?_
  rintro e w1 ⟨rfl, q1, t1, s1⟩
  have S1 := Lib.hid s1
  clear s1
  go_wp2_with fail
  refine (new_at 0 0 rfl (by omega) w1).mono ?_
  rintro e w2 ⟨rfl, z2, t2, s2⟩
  have S2 := Lib.hid s2
  clear s2
  go_wp2_with fail
  refine (awake_true w2).mono ?_
  rintro e w3 ⟨rfl, b3⟩
  have q3 := (q1.kept t2 (fun h => h) (fun h => h)).kept (Turn.of_below (S := fun _ => False) b3) (fun h => h) (fun h => h)
  have z3 := z2.kept (Turn.of_below (S := fun _ => False) b3) (fun h => h) (fun h => h)
  have B3 := Lib.hid (Turn.step (((Turn.of_below (Turn.below t1 (fun _ _ h => h))).trans t2 (fun _ _ h => h)).below (fun _ _ h => h)) (Turn.of_below (S := fun _ => False) b3) (by have := S1.out; have := S2.out; omega) (fun _ h => h.elim))
  have hz : ∀ k : Nat, (k = w1.heap.size + 1 ∨ k = w1.heap.size) → w.heap.size ≤ k := by intro k h; have := S1.out; omega
  have HZ := Lib.hid hz
  have n1 : ¬ (w.heap.size + 1 = w1.heap.size + 1 ∨ w.heap.size + 1 = w1.heap.size) := by have := S1.out; omega
  have n2 : ¬ (w.heap.size = w1.heap.size + 1 ∨ w.heap.size = w1.heap.size) := by have := S1.out; omega
  have N1 := Lib.hid n1
  have N2 := Lib.hid n2
  clear hz n1 n2 b3 t1 t2 q1 z2
  go_wp2_with fail
  refine (push_ok w3 _ _ 0 [] [] z3 none 0 0 rfl (by simp) (by omega) (fun h => absurd h (by simp))).mono ?_
  rintro e w4 ⟨rfl, z4, t4, -⟩
  have q4 := q3.kept t4 N1.out N2.out
  have B4 := Lib.hid (Turn.step B3.out t4 (by have := B3.out.size; omega) HZ.out)
  go_wp2_with fail
  refine (push_lit_full w4 _ _ 0 _ z4 1 _ (by omega) _ (by simp)).mono ?_
  rintro e w5 ⟨rfl, z5, t5⟩
  have q5 := q4.kept t5 N1.out N2.out
  have B5 := Lib.hid (Turn.step B4.out t5 (by have := B4.out.size; omega) HZ.out)
  go_wp2_with fail
  refine (take_to w5 _ _ 0 _ z5 0 0 [] [] rfl rfl rfl).mono ?_
  rintro e w6 ⟨rfl, i6, z6, t6⟩
  have q6 := q5.kept t6 N1.out N2.out
  have B6 := Lib.hid (Turn.step B5.out t6 (by have := B5.out.size; omega) HZ.out)
  obtain ⟨w7, bs, hmk, i7, hbs, t7⟩ := make_at 16384 16384 rfl (by omega) w6
  have q7 := q6.kept t7 (fun h => h) (fun h => h)
  have B7 := Lib.hid (Turn.step B6.out t7 (by have := B6.out.size; omega) (fun _ h => h.elim))
  have HBS := Lib.hid hbs
  clear hbs
  go_wp2_with fail
  refine (push_ok w7 _ _ 16384 [] bs q7 _ 16384 16384 HBS.out (by simp) (by omega) (i7.src _ ⟨by have := q6.ltg; omega, by have := q6.ltr; omega⟩)).mono ?_
  rintro e w8 ⟨rfl, q8, t8, -⟩
  have B8 := Lib.hid (Turn.step B7.out t8 (by have := B7.out.size; omega) (by intro k h; omega))
  have L8 : (([] : List UInt8) ++ bs).length < 16385 := by have := HBS.out; simp; omega
  go_wp2_with fail
  refine (take_neg w8 _ _ 16384 _ q8 (-1) (by omega)).mono ?_
  rintro e w' ⟨rfl, rfl⟩
  go_wp2_with fail
  refine (take_short w8 _ _ 16384 _ q8 16385 (by omega)).mono ?_
  rintro e w' ⟨rfl, rfl⟩
  go_wp2_with fail
  refine (take_nil 0 w8).mono ?_
  rintro e w' ⟨rfl, rfl⟩
  go_wp2_with fail
  refine (push_nil _ w8).mono ?_
  rintro e w' ⟨rfl, rfl⟩
  go_wp2_with fail
  refine (len_nil w8).mono ?_
  rintro e w' ⟨rfl, rfl⟩
  go_wp2_with fail
  refine (room_nil w8).mono ?_
  rintro e w' ⟨rfl, rfl⟩
  go_wp2_with fail
  refine (bytes_nil w8).mono ?_
  rintro e w' ⟨rfl, rfl⟩
  go_wp2_with fail
  refine (copy_nil w8).mono ?_
  rintro e w' ⟨rfl, rfl⟩
  go_wp2_with fail
  refine (push_unmade w8.heap.size _ _ ?c0).mono ?_
  case c0 => go_simp
  rintro e w' ⟨rfl, rfl⟩
  go_wp2_with fail
  go_ret
  refine ⟨rfl, B8.out.alloc (by have := B8.out.size; omega) _⟩
end Go.Proofs.Ytielhclbefdgoaa
