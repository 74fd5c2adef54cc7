/-
  What New, Bytes, Take do as calls on a queue.
  Conditions: those that each theorem names.
-/
import Derived.Test.YtielhclbefdgoaaD
namespace Go.Proofs.Ytielhclbefdgoaa
open Go.RowKit

/-- A queue at block g, its ring at block r, of at most m bytes: its first byte at f, the ring's bytes rs, c bytes in it. -/
structure Ring (w : World) (g r m f c : Nat) (rs : List UInt8) : Prop where
  head : Is w g 51 [.bool true, .slice (some ⟨r, 0, none⟩) m m, .int .i64 f, .int .i64 c]
  ring : Is w r 5 (vals rs)
  len : rs.length = m
  most : m ≤ 16384
  first : f < m ∨ (m = 0 ∧ f = 0)
  count : c ≤ m

/-- A queue that has the bytes xs. -/
def Queue (w : World) (g r m : Nat) (xs : List UInt8) : Prop := ∃ f rs, Ring w g r m f xs.length rs ∧ cont rs f xs.length = xs

section
variable {w w' : World} {g r m f c : Nat} {rs xs : List UInt8}
theorem Ring.c0 (h : Ring w g r m f c rs) : w.cell? ⟨g, 0, none⟩ = some (.bool true) := h.head.cell 0
theorem Ring.c1 (h : Ring w g r m f c rs) : w.cell? ⟨g, 1, none⟩ = some (.slice (some ⟨r, 0, none⟩) m m) := h.head.cell 1
theorem Ring.c2 (h : Ring w g r m f c rs) : w.cell? ⟨g, 2, none⟩ = some (.int .i64 f) := h.head.cell 2
theorem Ring.c3 (h : Ring w g r m f c rs) : w.cell? ⟨g, 3, none⟩ = some (.int .i64 c) := h.head.cell 3
theorem Ring.ne (h : Ring w g r m f c rs) : g ≠ r := h.head.ne h.ring (by decide)
theorem Ring.kept (h : Ring w g r m f c rs) {S : Nat → Prop} (ht : Turn S w w') (hg : ¬ S g) (hr : ¬ S r) : Ring w' g r m f c rs :=
  ⟨h.head.kept ht hg, h.ring.kept ht hr, h.len, h.most, h.first, h.count⟩
theorem Queue.kept (h : Queue w g r m xs) {S : Nat → Prop} (ht : Turn S w w') (hg : ¬ S g) (hr : ¬ S r) : Queue w' g r m xs := by
  obtain ⟨f, rs, h1, h2⟩ := h
  exact ⟨f, rs, h1.kept ht hg hr, h2⟩
theorem Queue.drewN (h : Queue w g r m xs) (n : Nat) : Queue (w.drewN n) g r m xs := h.kept (S := fun _ => False) ((Turn.refl _ _).drewN n) (fun h => h) (fun h => h)
theorem Queue.ltg (h : Queue w g r m xs) : g < w.heap.size := by obtain ⟨f, rs, h1, _⟩ := h; exact h1.head.lt
theorem Queue.ltr (h : Queue w g r m xs) : r < w.heap.size := by obtain ⟨f, rs, h1, _⟩ := h; exact h1.ring.lt
theorem Queue.ne (h : Queue w g r m xs) : g ≠ r := by obtain ⟨f, rs, h1, _⟩ := h; exact h1.ne
theorem Queue.most (h : Queue w g r m xs) : m ≤ 16384 := by obtain ⟨f, rs, h1, _⟩ := h; exact h1.most
theorem Queue.count (h : Queue w g r m xs) : xs.length ≤ m := by obtain ⟨f, rs, h1, _⟩ := h; exact h1.count
theorem Queue.c0 (h : Queue w g r m xs) : w.cell? ⟨g, 0, none⟩ = some (.bool true) := by obtain ⟨f, rs, h1, _⟩ := h; exact h1.c0
theorem Queue.c1 (h : Queue w g r m xs) : w.cell? ⟨g, 1, none⟩ = some (.slice (some ⟨r, 0, none⟩) m m) := by obtain ⟨f, rs, h1, _⟩ := h; exact h1.c1
theorem Queue.c3 (h : Queue w g r m xs) : w.cell? ⟨g, 3, none⟩ = some (.int .i64 (xs.length : Nat)) := by obtain ⟨f, rs, h1, _⟩ := h; exact h1.c3
end

/-- Len and Room of a queue. -/
theorem len_queue (w : World) (g r m : Nat) (xs : List UInt8) (h : Queue w g r m xs) : Calls Try.prog 16 #[.pointer (some ⟨g, 0, none⟩)] w fun e w' => e = .returned (.int .i64 (xs.length : Nat)) ∧ w = w' :=
  len_made g _ w h.c0 h.c3
theorem room_queue (w : World) (g r m : Nat) (xs : List UInt8) (h : Queue w g r m xs) : Calls Try.prog 17 #[.pointer (some ⟨g, 0, none⟩)] w fun e w' => e = .returned (.int .i64 ((m - xs.length : Nat) : Int)) ∧ ∃ n, w' = w.drewN n :=
  room_made g m _ _ h.count h.most w h.c0 h.c1 h.c3

set_option maxHeartbeats 400000 in
theorem bytes_queue (w : World) (g r m : Nat) (xs : List UInt8) (h : Queue w g r m xs) : Calls Try.prog 15 #[.pointer (some ⟨g, 0, none⟩)] w (Fronts xs w) := by
  obtain ⟨f, rs, h1, h2⟩ := h
  have c0 := h1.c0
  have c3 := h1.c3
  have C0 := Lib.hid (none_made g true w c0)
  have C := Lib.hid (front_any g r m f xs.length rs w h1.c1 h1.c2 h1.head.lt h1.ring h1.len h1.most h1.first h1.count)
  rw [h2] at C
  have H1 := Lib.hid h1
  clear h1 h2
  go_enter Try.func15, Try.ntmps15
  go_wp2_with fail
  refine C0.out.mono ?_
  rintro e w' ⟨rfl, rfl⟩
  go_wp2_with fail
  refine C.out.mono ?_
  rintro e w2 ⟨rfl, h2, h3, h4⟩
  have H4 := Lib.hid h4
  clear h4
  go_wp2_with fail
  go_ret
  exact ⟨rfl, h2, h3, H4.out⟩

set_option maxHeartbeats 400000 in
theorem bytes_nil (w : World) : Calls Try.prog 15 #[.pointer none] w fun e w' => e = .returned (.slice none 0 0) ∧ w = w' := by
  go_enter Try.func15, Try.ntmps15
  go_wp2_with (go_at_call 18; refine (none_nil _).mono ?_; rintro e w' ⟨rfl, rfl⟩)
  go_ret
  exact ⟨rfl, rfl⟩

/-- What New makes. -/
def Made (m : Nat) (w : World) (e : Ending) (w' : World) : Prop :=
  e = .returned (.tuple #[.pointer (some ⟨w.heap.size + 1, 0, none⟩), .int .i64 0]) ∧ Queue w' (w.heap.size + 1) w.heap.size m [] ∧ Turn (fun _ => False) w w' ∧ w'.heap.size = w.heap.size + 2

theorem made_queue {w1 w : World} {m : Nat} (hm : m ≤ 16384) (hd : Is w1 w.heap.size 5 (vals (List.replicate m 0))) (hs : w1.heap.size = w.heap.size + 1) (c : Array Value)
    (hc : c = #[.bool true, .slice (some ⟨w.heap.size, 0, none⟩) m m, .int .i64 0, .int .i64 0]) :
    Queue (w1.alloc (.cells c 51)) (w.heap.size + 1) w.heap.size m [] := by
  subst hc
  refine ⟨0, List.replicate m 0, ⟨?_, hd.alloc _, by simp, hm, by omega, by simp⟩, by simp [cont]⟩
  rw [← hs]
  exact Is.made w1 51 [.bool true, .slice (some ⟨w.heap.size, 0, none⟩) m m, .int .i64 0, .int .i64 0]

set_option maxHeartbeats 400000 in
theorem new_ok (m : Nat) (hm : m ≤ 16384) (w : World) : Calls Try.prog 7 #[.int .i64 m] w (Made m w) := by
  obtain ⟨w1, hrun, hd, ht, hs⟩ := run_make_bytes m hm w
  have HT := Lib.hid ht
  have HS := Lib.hid hs
  clear ht hs
  go_enter Try.func7, Try.ntmps7
  go_wp2_with fail
  go_ret2
  refine ⟨?_, made_queue hm hd HS.out _ rfl, HT.out.alloc _, by simp [HS.out]⟩
  rw [HS.out]; rfl

set_option maxHeartbeats 400000 in
theorem new_bad (n : Int) (hn : n < 0 ∨ 16384 < n) (w : World) : Calls Try.prog 7 #[.int .i64 n] w fun e w' => e = .returned (.tuple #[.pointer none, .int .i64 1]) ∧ w = w' := by
  rcases hn with hn | hn
  · go_enter Try.func7, Try.ntmps7
    go_wp2_with fail
    go_ret2
    exact ⟨rfl, rfl⟩
  · go_enter Try.func7, Try.ntmps7
    go_wp2_with fail
    go_ret2
    exact ⟨rfl, rfl⟩
end Go.Proofs.Ytielhclbefdgoaa
