/-
  What the law's own function awake answers: true. Bytes as texts; bytes.Equal.
  Conditions: none.
-/
import Derived.Test.YtielhclbefdgoaaI
import Derived.Lib.SlBytesConst
import Derived.Lib.BufferRead
namespace Go.Proofs.Ytielhclbefdgoaa
open Go.RowKit

/-- Push of a text that was just laid down. -/
theorem push_lit (W : World) (g r m : Nat) (xs bs : List UInt8) (h : Queue W g r m xs) (n : Nat) (hn : n = bs.length) (cs : Array Value) (hcs : cs = (vals bs).toArray) (fr : Nat × Nat) (hfit : xs.length + n ≤ m) :
    Calls Try.prog 9 #[.pointer (some ⟨g, 0, none⟩), .slice (some ⟨W.heap.size, 0, none⟩) n n] (W.alloc (.cells cs 5 fr)) fun e w' => e = .returned (.int .i64 0) ∧ Queue w' g r m (xs ++ bs) ∧ Turn (fun k => k = g ∨ k = r) W w' := by
  subst hcs
  have ht : Turn (fun _ => False) W (W.alloc (.cells (vals bs).toArray 5 fr)) := (Turn.refl _ _).alloc _
  have hgl := h.ltg
  have hrl := h.ltr
  have hm := h.most
  refine (push_ok _ g r m xs bs (h.kept ht (fun h => h) (fun h => h)) _ n n hn.symm hfit (Nat.le_refl _) ?_).mono ?_
  · intro _
    refine ⟨_, rfl, ⟨by show W.heap.size ≠ g; omega, by show W.heap.size ≠ r; omega⟩, by simp, fun i v hv => ?_⟩
    rw [add_at, Nat.zero_add, World.cell?_alloc_mark]
    simpa using hv
  · rintro e w' ⟨rfl, hq, ht', _⟩
    exact ⟨rfl, hq, (ht.mono (fun _ _ h => h.elim)).trans ht' (fun _ _ h => h)⟩

/-- .. of which there is no room. -/
theorem push_lit_full (W : World) (g r m : Nat) (xs : List UInt8) (h : Queue W g r m xs) (n : Nat) (A : Option Addr) (hn : n ≤ 1000000) (o : Obj) (hfit : m < xs.length + n) :
    Calls Try.prog 9 #[.pointer (some ⟨g, 0, none⟩), .slice A n n] (W.alloc o) fun e w' => e = .returned (.int .i64 7) ∧ Queue w' g r m xs ∧ Turn (fun k => k = g ∨ k = r) W w' := by
  have ht : Turn (fun _ => False) W (W.alloc o) := (Turn.refl _ _).alloc _
  refine (push_full _ g r m xs (h.kept ht (fun h => h) (fun h => h)) A n n hfit (by omega)).mono ?_
  rintro e w' ⟨rfl, k, rfl⟩
  exact ⟨rfl, (h.kept ht (fun h => h) (fun h => h)).drewN k, (ht.mono (fun _ _ h => h.elim)).drewN k⟩

/-- string(b). -/
theorem run_text {P : Nat → Prop} (w : World) (A : Option Addr) (bs : List UInt8) (n c : Nat) (hn : bs.length = n) (h : Src w P A bs) : (convert 31 9 (.slice A n c)).run Try.prog w = .ok (.string ⟨bs.toArray⟩) w := by
  subst hn
  cases A with
  | none =>
    have hb : bs = [] := by
      cases bs with
      | nil => rfl
      | cons b l => obtain ⟨ad, hA, _⟩ := h (by simp); cases hA
    subst hb
    exact Lib.run_convert_nil_bytes w 31 9 5 c Try.underlying31 Try.underlying5 Try.underlying9
  | some a =>
    refine run_convert_bytes_back w 31 9 5 a c bs Try.underlying31 Try.underlying5 Try.underlying9 fun j hj => ?_
    obtain ⟨ad, hA, _, _, hc⟩ := h (by omega)
    injection hA with hA
    subst hA
    refine hc j _ ?_
    rw [vals_get, List.getElem?_eq_getElem hj]
    rfl

theorem Is.src {w : World} {g : Nat} {bs : List UInt8} (h : Is w g 5 (vals bs)) (P : Nat → Prop) (hP : P g) : Src w P (some ⟨g, 0, none⟩) bs := by
  intro _
  refine ⟨_, rfl, hP, h.lt, fun i v hv => ?_⟩
  rw [add_at, Nat.zero_add, h.cell]
  exact hv

set_option maxHeartbeats 400000 in
theorem equal_any {P P' : Nat → Prop} (w : World) (A A' : Option Addr) (xs ys : List UInt8) (n n' c c' : Nat) (hn : xs.length = n) (hn' : ys.length = n') (h : Src w P A xs) (h' : Src w P' A' ys) :
    Calls Try.prog 13 #[.slice A n c, .slice A' n' c'] w fun e w' => e = .returned (.bool (xs == ys)) ∧ w = w' := by
  have r1 := run_text w A xs n c hn h
  have r2 := run_text w A' ys n' c' hn' h'
  clear hn hn'
  go_enter Try.func13, Try.ntmps13
  go_wp2_with fail
  go_ret
  exact ⟨rfl, rfl⟩

/-- Take, what it answers written out. -/
theorem take_to (w : World) (g r m : Nat) (xs : List UInt8) (h : Queue w g r m xs) (n k : Nat) (l rest : List UInt8) (hx : xs = l ++ rest) (hn : l.length = n) (hk : n = k) :
    Calls Try.prog 11 #[.pointer (some ⟨g, 0, none⟩), .int .i64 n] w fun e w' => e = .returned (.tuple #[.slice (some ⟨w.heap.size, 0, none⟩) k k, .int .i64 0]) ∧ Is w' w.heap.size 5 (vals l) ∧ Queue w' g r m rest ∧ Turn (fun k => k = g ∨ k = r) w w' := by
  subst hk hn hx
  refine (take_ok w g r m (l ++ rest) h l.length (by simp)).mono ?_
  rintro e w' ⟨he, h1, h2, h3, _⟩
  simp only [List.take_left, List.drop_left] at he h1 h2
  exact ⟨he, h1, h2, h3⟩

/-- Bytes, what it answers written out. -/
theorem bytes_to (w : World) (g r m : Nat) (xs : List UInt8) (h : Queue w g r m xs) (k : Nat) (hk : xs.length = k) :
    Calls Try.prog 15 #[.pointer (some ⟨g, 0, none⟩)] w fun e w' => e = .returned (.slice (some ⟨w.heap.size, 0, none⟩) k k) ∧ Is w' w.heap.size 5 (vals xs) ∧ Queue w' g r m xs ∧ Turn (fun _ => False) w w' := by
  subst hk
  refine (bytes_queue w g r m xs h).mono ?_
  rintro e w' ⟨he, h1, h2, _⟩
  exact ⟨he, h1, h.kept h2 (fun h => h) (fun h => h), h2⟩

set_option maxHeartbeats 1000000 in
theorem awake_true (w : World) : Calls Try.prog 6 #[] w fun e w' => e = .returned (.bool true) ∧ Below w.heap.size w w' := by
  have kc := fun (w : World) (C : Array Value) (n c : Nat) => Lib.run_convert_bytes_const (P := Try.prog) w 31 5 C n c Try.underlying31 Try.underlying5
  go_enter Try.func6, Try.ntmps6
  go_wp2_with fail
  refine (new_ok 4 (by omega) w).mono ?_
  rintro e w1 ⟨rfl, q1, t1, s1⟩
  have S1 := Lib.hid s1
  clear s1
  go_wp2_with fail
  refine (push_lit w1 _ _ 4 [] [97, 98, 99] q1 3 rfl _ rfl _ (by simp)).mono ?_
  rintro e w2 ⟨rfl, q2, t2⟩
  go_wp2_with fail
  refine (push_lit_full w2 _ _ 4 _ q2 2 _ (by omega) _ (by simp)).mono ?_
  rintro e w3 ⟨rfl, q3, t3⟩
  go_wp2_with fail
  refine (push_lit w3 _ _ 4 _ [100] q3 1 rfl _ rfl _ (by simp)).mono ?_
  rintro e w4 ⟨rfl, q4, t4⟩
  go_wp2_with fail
  refine (room_queue w4 _ _ 4 _ q4).mono ?_
  rintro e w5 ⟨rfl, hq5⟩
  have Q5 : Quiet w4 w5 := hq5
  have q5 := q4.kept Q5.turn (fun h => h) (fun h => h)
  clear hq5
  go_wp2_with fail
  refine (take_to w5 _ _ 4 _ q5 2 2 [97, 98] [99, 100] rfl rfl rfl).mono ?_
  rintro e w6 ⟨rfl, i6, q6, t6⟩
  have r6 := run_text w6 _ [97, 98] 2 2 rfl (i6.src (fun _ => True) trivial)
  go_wp2_with fail
  refine (push_lit w6 _ _ 4 _ [101, 102] q6 2 rfl _ rfl _ (by simp)).mono ?_
  rintro e w7 ⟨rfl, q7, t7⟩
  go_wp2_with fail
  refine (bytes_to w7 _ _ 4 _ q7 4 rfl).mono ?_
  rintro e w8 ⟨rfl, i8, q8, t8⟩
  have r8 := run_text w8 _ [99, 100, 101, 102] 4 4 rfl (i8.src (fun _ => True) trivial)
  go_wp2_with fail
  refine (len_queue w8 _ _ 4 _ q8).mono ?_
  rintro e w9 ⟨rfl, rfl⟩
  go_wp2_with fail
  go_ret
  refine ⟨rfl, Turn.below (S := fun k => k = w.heap.size + 1 ∨ k = w.heap.size) ?_ (by intro k hk; omega)⟩
  have u : ∀ {a b : World}, Turn (fun _ => False) a b → Turn (fun k => k = w.heap.size + 1 ∨ k = w.heap.size) a b := fun h => h.mono (fun _ _ h => h.elim)
  have c : ∀ {a b d : World}, Turn (fun k => k = w.heap.size + 1 ∨ k = w.heap.size) a b → Turn (fun k => k = w.heap.size + 1 ∨ k = w.heap.size) b d → Turn (fun k => k = w.heap.size + 1 ∨ k = w.heap.size) a d := fun h h' => h.trans h' (fun _ _ h => h)
  exact c (u t1) (c t2 (c t3 (c t4 (c (u Q5.turn) (c t6 (c t7 (u t8)))))))
end Go.Proofs.Ytielhclbefdgoaa
