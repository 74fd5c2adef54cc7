/-
  The landed bucket's New and Copy, each as one call.
  Conditions: those that each theorem names.
-/
import Derived.Test.YtfkpihilcngbnaaIC
namespace Go.Proofs.Ytfkpihilcngbnaa.Buc
open Go.RowKit

theorem copy_nil (w : World) : Calls Try.prog 12 #[.pointer none] w fun e w' => e = .returned (.pointer none) ∧ w = w' := by
  go_enter Try.func12, Try.ntmps12
  go_wp2_with (go_at_call 17; refine (none_nil _).mono ?_; rintro e w' ⟨rfl, rfl⟩)
  go_ret
  exact ⟨rfl, rfl⟩

/-- A bucket of one's own is made. -/
def Made (x : Bk) (w : World) (e : Ending) (w' : World) : Prop :=
  e = .returned (.pointer (some ⟨w.heap.size, 0, none⟩)) ∧ At w' w.heap.size x ∧ Turn (fun _ => False) w w' ∧ w'.heap.size = w.heap.size + 1

theorem copy_any (g : Nat) (x : Bk) (hr : 1 ≤ x.r) (w : World) (hg : At w g x) : Calls Try.prog 12 #[.pointer (some ⟨g, 0, none⟩)] w (Made x w) := by
  have C0 := Lib.hid (none_made g x.r hr w hg.c0)
  have c0 := hg.c0
  have c1 := hg.c1
  have c2 := hg.c2
  have st := store_complex
  unfold Made
  go_enter Try.func12, Try.ntmps12
  go_wp2_with (go_at_call 17; refine C0.out.mono ?_; rintro e w' ⟨rfl, rfl⟩)
  go_ret
  exact ⟨rfl, Is.made w _ _, (Turn.refl _ _).alloc _, by simp⟩

/-- The bucket that New makes. -/
def fresh (r b now : Nat) : Bk := ⟨r, b, 1000 * b, now⟩
theorem fresh_ok {r b now : Nat} (r1 : 1 ≤ r) (r2 : r ≤ 1000) (b1 : 1 ≤ b) (b2 : b ≤ 1000) (hn : now ≤ 4503599627370496) : (fresh r b now).Ok := by
  constructor <;> simp only [fresh] <;> first | assumption | omega

/-- What New makes. -/
def New1 (x : Bk) (w : World) (e : Ending) (w' : World) : Prop :=
  e = .returned (.tuple #[.pointer (some ⟨w.heap.size, 0, none⟩), .int .i64 0]) ∧ At w' w.heap.size x ∧ Turn (fun _ => False) w w' ∧ w'.heap.size = w.heap.size + 1

theorem new_any (r b now : Nat) (r1 : 1 ≤ r) (r2 : r ≤ 1000) (b1 : 1 ≤ b) (b2 : b ≤ 1000) (hn : now ≤ 4503599627370496) (w : World) : Calls Try.prog 8 #[.int .i64 r, .int .i64 b, .int .u64 now] w (New1 (fresh r b now) w) := by
  have M1 := may_any r w
  have M2 := may_any b w
  have q1 : (decide (1 ≤ (r : Int)) && decide ((r : Int) ≤ 1000)) = true := by rw [decide_eq_true (by omega), decide_eq_true (by omega)]; rfl
  have q2 : (decide (1 ≤ (b : Int)) && decide ((b : Int) ≤ 1000)) = true := by rw [decide_eq_true (by omega), decide_eq_true (by omega)]; rfl
  rw [q1] at M1
  rw [q2] at M2
  have M1 := Lib.hid M1
  have M2 := Lib.hid M2
  have F := Lib.hid (full_made w.heap.size b b2 (w.alloc (.cells [Value.int .i64 r, .int .i64 b, .complex .f64 0 0].toArray 49)) (by exact Is.cell (Is.made w _ _) 1))
  have hf := fl_int now
  have st := store_complex
  unfold New1
  clear q1 q2
  go_enter Try.func8, Try.ntmps8
  go_wp2_with (first | (go_at_call 15; first | (with_reducible refine M1.out.mono ?_; rintro e w' ⟨rfl, rfl⟩) | (with_reducible refine M2.out.mono ?_; rintro e w' ⟨rfl, rfl⟩)) | (go_at_call 16; refine F.out.mono ?_; rintro e w' ⟨rfl, rfl⟩))
  go_ret2
  exact ⟨rfl, Is.made w _ _, (Turn.refl _ _).alloc _, by simp⟩

/-- Whether a number may be a rate or a burst. -/
def mayI (n : Int) : Bool := decide (1 ≤ n) && decide (n ≤ 1000)

theorem new_bad (r b : Int) (now : Nat) (h : (mayI r && mayI b && decide (now ≤ 4503599627370496)) = false) (w : World) : Calls Try.prog 8 #[.int .i64 r, .int .i64 b, .int .u64 now] w fun e w' => e = .returned (.tuple #[.pointer none, .int .i64 1]) ∧ w = w' := by
  have M1 : Calls Try.prog 15 #[.int .i64 r] w fun e w' => e = .returned (.bool (mayI r)) ∧ w = w' := may_any r w
  have M2 : Calls Try.prog 15 #[.int .i64 b] w fun e w' => e = .returned (.bool (mayI b)) ∧ w = w' := may_any b w
  generalize mayI r = p at *
  generalize mayI b = q at *
  have M1 := Lib.hid M1
  have M2 := Lib.hid M2
  cases p
  · go_enter Try.func8, Try.ntmps8
    go_wp2_with (go_at_call 15; with_reducible refine M1.out.mono ?_; rintro e w' ⟨rfl, rfl⟩)
    go_ret2
    exact ⟨rfl, rfl⟩
  · cases q
    · go_enter Try.func8, Try.ntmps8
      go_wp2_with (go_at_call 15; first | (with_reducible refine M1.out.mono ?_; rintro e w' ⟨rfl, rfl⟩) | (with_reducible refine M2.out.mono ?_; rintro e w' ⟨rfl, rfl⟩))
      go_ret2
      exact ⟨rfl, rfl⟩
    · have hn : ¬ now ≤ 4503599627370496 := by simpa using h
      clear h
      go_enter Try.func8, Try.ntmps8
      go_wp2_with (go_at_call 15; first | (with_reducible refine M1.out.mono ?_; rintro e w' ⟨rfl, rfl⟩) | (with_reducible refine M2.out.mono ?_; rintro e w' ⟨rfl, rfl⟩))
      go_ret2
      exact ⟨rfl, rfl⟩
end Go.Proofs.Ytfkpihilcngbnaa.Buc
