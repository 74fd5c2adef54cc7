/-
  What Take and Push do as calls on a queue.
  Conditions: those that each theorem names.
-/
import Derived.Test.YtielhclbefdgoaaF
namespace Go.Proofs.Ytielhclbefdgoaa
open Go.RowKit

theorem after_turn (g m f n : Nat) (A : Option Addr) (hf : f ≤ m) (hn : n ≤ m) (hm : m ≤ 16384) (w : World) (h1 : w.cell? ⟨g, 1, none⟩ = some (.slice A m m)) (h2 : w.cell? ⟨g, 2, none⟩ = some (.int .i64 f)) :
    Calls Try.prog 20 #[.pointer (some ⟨g, 0, none⟩), .int .i64 n] w fun e w' => e = .returned (.int .i64 (turnTo m f n : Nat)) ∧ w = w' :=
  after_made g m f n A hf hn hm w h1 h2

/-- What Take of n answers: the bytes l in a new block; the queue has what is left. -/
def Takes (g r m : Nat) (l rest : List UInt8) (w : World) (e : Ending) (w' : World) : Prop :=
  e = .returned (.tuple #[.slice (some ⟨w.heap.size, 0, none⟩) l.length l.length, .int .i64 0]) ∧ Is w' w.heap.size 5 (vals l) ∧ Queue w' g r m rest ∧ Turn (fun k => k = g ∨ k = r) w w' ∧ w'.heap.size = w.heap.size + 1

set_option maxHeartbeats 400000 in
theorem take_nil (n : Int) (w : World) : Calls Try.prog 11 #[.pointer none, .int .i64 n] w fun e w' => e = .returned (.tuple #[.slice none 0 0, .int .i64 2]) ∧ w = w' := by
  go_enter Try.func11, Try.ntmps11
  go_wp2_with (go_at_call 18; refine (none_nil _).mono ?_; rintro e w' ⟨rfl, rfl⟩)
  go_ret2
  exact ⟨rfl, rfl⟩

set_option maxHeartbeats 400000 in
theorem take_neg (w : World) (g r m : Nat) (xs : List UInt8) (h : Queue w g r m xs) (n : Int) (hn : n < 0) : Calls Try.prog 11 #[.pointer (some ⟨g, 0, none⟩), .int .i64 n] w fun e w' => e = .returned (.tuple #[.slice none 0 0, .int .i64 1]) ∧ w = w' := by
  have c0 := h.c0
  go_enter Try.func11, Try.ntmps11
  go_wp2_with (go_at_call 18; refine (none_made g true _ c0).mono ?_; rintro e w' ⟨rfl, rfl⟩)
  go_ret2
  exact ⟨rfl, rfl⟩

set_option maxHeartbeats 400000 in
theorem take_short (w : World) (g r m : Nat) (xs : List UInt8) (h : Queue w g r m xs) (n : Int) (hn : (xs.length : Int) < n) : Calls Try.prog 11 #[.pointer (some ⟨g, 0, none⟩), .int .i64 n] w fun e w' => e = .returned (.tuple #[.slice none 0 0, .int .i64 4]) ∧ w = w' := by
  have c0 := h.c0
  have c3 := h.c3
  have h0 : 0 ≤ n := by omega
  go_enter Try.func11, Try.ntmps11
  go_wp2_with (go_at_call 18; refine (none_made g true _ c0).mono ?_; rintro e w' ⟨rfl, rfl⟩)
  go_ret2
  exact ⟨rfl, rfl⟩

theorem turnTo_first (m f n : Nat) (hf : f < m ∨ (m = 0 ∧ f = 0)) (hn : n ≤ m) : turnTo m f n < m ∨ (m = 0 ∧ turnTo m f n = 0) := by
  unfold turnTo; split <;> omega

theorem taken_queue {w w2 : World} {g r m f c n : Nat} {rs xs : List UInt8} (h : Ring w g r m f c rs) (hx : cont rs f c = xs) (hn : n ≤ c) (ht : Turn (fun _ => False) w w2) (y : Int) (hy : y = ((c - n : Nat) : Int)) :
    Queue ((w2.setCell ⟨g, 2, none⟩ (.int .i64 (turnTo m f n : Nat))).setCell ⟨g, 3, none⟩ (.int .i64 y)) g r m (xs.drop n) := by
  subst hy
  have hl : (xs.drop n).length = c - n := by rw [← hx, List.length_drop, cont_length _ _ _ (by have := h.len; have := h.count; omega)]
  have h2 := h.kept ht (fun h => h) (fun h => h)
  refine ⟨turnTo m f n, rs, ⟨?_, (h2.ring.far (p := ⟨g, 2, none⟩) h.ne.symm _).far (p := ⟨g, 3, none⟩) h.ne.symm _, h.len, h.most, turnTo_first m f n h.first (by have := h.count; omega), by rw [hl]; have := h.count; omega⟩, ?_⟩
  · rw [hl]
    exact (h2.head.set 2 _).set 3 _
  · rw [hl, ← hx, ← h.len]
    exact cont_after rs f c n (by rw [h.len]; exact h.first) (by rw [h.len]; exact h.count) hn

set_option maxHeartbeats 400000 in
theorem take_ok (w : World) (g r m : Nat) (xs : List UInt8) (h : Queue w g r m xs) (n : Nat) (hn : n ≤ xs.length) : Calls Try.prog 11 #[.pointer (some ⟨g, 0, none⟩), .int .i64 n] w (Takes g r m (xs.take n) (xs.drop n) w) := by
  have hcount := h.count
  obtain ⟨f, rs, h1, h2⟩ := h
  have c0 := h1.c0
  have c3 := h1.c3
  have hm := h1.most
  have hf := h1.first
  have hfm : f ≤ m := by omega
  have hlt := h1.head.lt
  have C := Lib.hid (front_any g r m f n rs w h1.c1 h1.c2 h1.head.lt h1.ring h1.len h1.most h1.first (by omega))
  rw [cont_take rs f xs.length n hn, h2] at C
  have H1 := Lib.hid h1
  have H2 := Lib.hid h2
  clear h1 h2 hf
  go_enter Try.func11, Try.ntmps11
  go_wp2_with fail
  refine (none_made g true _ c0).mono ?_
  rintro e w' ⟨rfl, rfl⟩
  go_wp2_with fail
  refine C.out.mono ?_
  rintro e w2 ⟨rfl, hb, ht, hs⟩
  have HS := Lib.hid hs
  clear hs
  have HR := Lib.hid (H1.out.kept ht (fun h => h) (fun h => h))
  have d1 := HR.out.c1
  have d2 := HR.out.c2
  have d3 := HR.out.c3
  have f2 := HR.out.head.free 2
  have f3 := HR.out.head.free 3
  have hlt2 := HR.out.head.lt
  go_wp2_with fail
  refine (after_turn g m f n _ hfm (by omega) hm w2 d1 d2).mono ?_
  rintro e w3 ⟨rfl, rfl⟩
  go_wp2_with fail
  go_ret2
  refine ⟨by rw [List.length_take, Nat.min_eq_left hn]; rfl, ?_, taken_queue H1.out H2.out hn ht _ (by omega), ?_, ?_⟩
  · have e : w.heap.size ≠ g := by omega
    exact (hb.far (p := ⟨g, 2, none⟩) e _).far (p := ⟨g, 3, none⟩) e _
  · exact ((ht.mono (fun _ _ h => h.elim)).setCell (p := ⟨g, 2, none⟩) (fun _ => .inl rfl) _).setCell (p := ⟨g, 3, none⟩) (fun _ => .inl rfl) _
  · simpa [World.setCell] using HS.out

end Go.Proofs.Ytielhclbefdgoaa
