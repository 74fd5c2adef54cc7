/-
  The landed bucket's small functions, each as one call: may, none, full, look.
  Conditions: those that each theorem names.
-/
import Derived.Test.YtfkpihilcngbnaaWords
import Derived.Test.YtfkpihilcngbnaaIA
namespace Go.Proofs.Ytfkpihilcngbnaa.Buc
open Go.RowKit

/-- A bucket: its rate, its burst, its level, its time. -/
structure Bk where
  r : Nat
  b : Nat
  l : Nat
  t : Nat

structure Bk.Ok (x : Bk) : Prop where
  r1 : 1 ≤ x.r
  r2 : x.r ≤ 1000
  b1 : 1 ≤ x.b
  b2 : x.b ≤ 1000
  l2 : x.l ≤ 1000 * x.b
  t2 : x.t ≤ 4503599627370496

/-- It is looked at. -/
def Bk.look (x : Bk) (now : Nat) : Bk := if now ≤ x.t then x else { x with l := min (x.l + x.r * (now - x.t)) (1000 * x.b), t := now }

theorem Bk.Ok.look {x : Bk} (h : x.Ok) {now : Nat} (hn : now ≤ 4503599627370496) : (x.look now).Ok := by
  unfold Bk.look
  split
  · exact h
  · exact ⟨h.r1, h.r2, h.b1, h.b2, Nat.min_le_right _ _, hn⟩

/-- Its cells. -/
def Bk.cells (x : Bk) : List Value := [.int .i64 x.r, .int .i64 x.b, .complex .f64 (fl x.l) (fl x.t)]

/-- A bucket of the program's lies at block g. -/
def At (w : World) (g : Nat) (x : Bk) : Prop := Is w g 49 x.cells

theorem At.c0 {w : World} {g : Nat} {x : Bk} (h : At w g x) : w.cell? ⟨g, 0, none⟩ = some (.int .i64 x.r) := h.cell 0
theorem At.c1 {w : World} {g : Nat} {x : Bk} (h : At w g x) : w.cell? ⟨g, 1, none⟩ = some (.int .i64 x.b) := h.cell 1
theorem At.c2 {w : World} {g : Nat} {x : Bk} (h : At w g x) : w.cell? ⟨g, 2, none⟩ = some (.complex .f64 (fl x.l) (fl x.t)) := h.cell 2

theorem fl_int (n : Nat) : floatOfInt .f64 (n : Int) = fl n := by
  have h : decide ((n : Int) < 0) = false := decide_eq_false (by omega)
  unfold floatOfInt FloatKind.nearest FloatKind.encode
  rw [h, Int.natAbs_natCast]
  rfl

theorem may_any (n : Int) (w : World) : Calls Try.prog 15 #[.int .i64 n] w fun e w' => e = .returned (.bool (decide (1 ≤ n) && decide (n ≤ 1000))) ∧ w = w' := by
  go_enter Try.func15, Try.ntmps15
  by_cases h1 : 1 ≤ n
  · by_cases h2 : n ≤ 1000
    · go_wp2
      go_ret
      exact ⟨by rw [decide_eq_true (by omega : 1 ≤ n), decide_eq_true (by omega : n ≤ 1000)]; rfl, rfl⟩
    · go_wp2
      go_ret
      exact ⟨by rw [decide_eq_false (by omega : ¬ n ≤ 1000)]; rfl, rfl⟩
  · go_wp2
    go_ret
    exact ⟨by rw [decide_eq_false (by omega : ¬ 1 ≤ n), Bool.false_and]; rfl, rfl⟩

theorem none_nil (w : World) : Calls Try.prog 17 #[.pointer none] w fun e w' => e = .returned (.bool true) ∧ w = w' := by
  go_enter Try.func17, Try.ntmps17
  go_wp2
  go_ret
  exact ⟨rfl, rfl⟩

theorem none_made (g r : Nat) (hr : 1 ≤ r) (w : World) (h0 : w.cell? ⟨g, 0, none⟩ = some (.int .i64 r)) : Calls Try.prog 17 #[.pointer (some ⟨g, 0, none⟩)] w fun e w' => e = .returned (.bool false) ∧ w = w' := by
  have hr0 : ((r : Int) == 0) = false := beq_eq_false_iff_ne.2 (by omega)
  go_enter Try.func17, Try.ntmps17
  go_wp2
  go_ret
  exact ⟨rfl, rfl⟩

theorem full_made (g b : Nat) (hb : b ≤ 1000) (w : World) (h1 : w.cell? ⟨g, 1, none⟩ = some (.int .i64 b)) : Calls Try.prog 16 #[.pointer (some ⟨g, 0, none⟩)] w fun e w' => e = .returned (.float .f64 (fl (1000 * b))) ∧ w = w' := by
  have hf : floatOfInt .f64 (1000 * (b : Int)) = fl (1000 * b) := fl_int (1000 * b)
  go_enter Try.func16, Try.ntmps16
  go_wp2
  go_ret
  exact ⟨by rw [← hf]; rfl, rfl⟩

theorem order_of (x y : Nat) : FloatKind.f64.format.order x y = Ieee.double.order x y := rfl
theorem min_float (a b : Nat) (ha : a < 9007199254740992) (hb : b < 9007199254740992) (ts : Array TypeId) (t : TypeId) (w : World) : (Builtin.min_ ts t #[.float .f64 (fl a), .float .f64 (fl b)]).run Try.prog w = .ok (.float .f64 (fl (min a b))) w := by
  have ho := order_whole a b ha hb
  rcases Nat.lt_trichotomy a b with h | h | h
  · rw [Nat.compare_eq_lt.2 h] at ho
    simp [Builtin.min_, Builtin.min2, order_of, ho, Nat.min_eq_left (Nat.le_of_lt h)]
  · subst h
    rw [Nat.compare_eq_eq.2 rfl] at ho
    simp [Builtin.min_, Builtin.min2, order_of, ho]
  · rw [Nat.compare_eq_gt.2 h] at ho
    simp [Builtin.min_, Builtin.min2, order_of, ho, Nat.min_eq_right (Nat.le_of_lt h)]

theorem fl_zero : fl 0 = 0 := by decide

/-- What is passed is not above nought. -/
theorem passed_none (now t : Nat) (h : now ≤ t) (ht : t ≤ 4503599627370496) : ∃ x, floatBits .sub .f64 (fl now) (fl t) = some x ∧ (FloatKind.f64.format.order x 0 == some .lt || FloatKind.f64.format.order x 0 == some .eq) = true := by
  rcases Nat.lt_or_ge now t with h1 | h1
  · refine ⟨_, sub_under now t h1 (by omega), ?_⟩
    have := order_under (t - now) (by omega) (by omega)
    rw [fl_zero] at this
    rw [order_of, this]
    rfl
  · obtain rfl : now = t := by omega
    refine ⟨_, sub_whole now now (Nat.le_refl _) (by omega), ?_⟩
    have := order_whole (now - now) 0 (by omega) (by omega)
    rw [fl_zero] at this
    rw [order_of, this, Nat.sub_self]
    rfl

/-- look, where no time has passed. -/
theorem look_none (g now : Nat) (x : Bk) (hx : x.Ok) (h : now ≤ x.t) (w : World) (hg : At w g x) : Calls Try.prog 18 #[.pointer (some ⟨g, 0, none⟩), .int .u64 now] w fun e w' => e = .returned (.complex .f64 (fl x.l) (fl x.t)) ∧ w = w' := by
  have h2 := hg.c2
  obtain ⟨z, hz, ho⟩ := passed_none now x.t h hx.t2
  have hs : ∀ t w, (binOp .sub t (.float .f64 (fl now)) (.float .f64 (fl x.t))).run Try.prog w = .ok (.float .f64 z) w := fun t w => run_float_arith w .sub t .f64 _ _ _ hz
  have hn := fl_int now
  generalize fl x.l = L at *
  generalize fl x.t = T at *
  generalize fl now = N at *
  clear hx hz hg h
  go_enter Try.func18, Try.ntmps18
  go_wp2_with (simp only [hs])
  go_ret
  exact ⟨rfl, rfl⟩

/-- look, where time has passed. -/
theorem look_some (g now : Nat) (x : Bk) (hx : x.Ok) (h : x.t < now) (hn : now ≤ 4503599627370496) (w : World) (hg : At w g x) : Calls Try.prog 18 #[.pointer (some ⟨g, 0, none⟩), .int .u64 now] w fun e w' =>
    e = .returned (.complex .f64 (fl (min (x.l + x.r * min (now - x.t) (1000 * x.b)) (1000 * x.b))) (fl now)) ∧ w = w' := by
  have h0 := hg.c0
  have h2 := hg.c2
  have C := Lib.hid (full_made g x.b hx.b2 w hg.c1)
  have b2 := hx.b2
  have b3 : x.r * min (now - x.t) (1000 * x.b) ≤ 1000 * 1000000 := Nat.mul_le_mul hx.r2 (by omega)
  have l2 := hx.l2
  have r2 := hx.r2
  have hs : ∀ t w, (binOp .sub t (.float .f64 (fl now)) (.float .f64 (fl x.t))).run Try.prog w = .ok (.float .f64 (fl (now - x.t))) w := fun t w => run_float_arith w .sub t .f64 _ _ _ (sub_whole now x.t (by omega) (by omega))
  have hm1 := fun ts t w => min_float (now - x.t) (1000 * x.b) (by omega) (by omega) ts t w
  have hmu : ∀ t w, (binOp .mul t (.float .f64 (fl x.r)) (.float .f64 (fl (min (now - x.t) (1000 * x.b))))).run Try.prog w = .ok (.float .f64 (fl (x.r * min (now - x.t) (1000 * x.b)))) w := fun t w => run_float_arith w .mul t .f64 _ _ _ (mul_whole _ _ (by omega) (by omega) (by omega))
  have had : ∀ t w, (binOp .add t (.float .f64 (fl x.l)) (.float .f64 (fl (x.r * min (now - x.t) (1000 * x.b))))).run Try.prog w = .ok (.float .f64 (fl (x.l + x.r * min (now - x.t) (1000 * x.b)))) w := fun t w => run_float_arith w .add t .f64 _ _ _ (add_whole _ _ (by omega))
  have hm2 := fun ts t w => min_float (x.l + x.r * min (now - x.t) (1000 * x.b)) (1000 * x.b) (by omega) (by omega) ts t w
  have ho : (FloatKind.f64.format.order (fl (now - x.t)) 0 == some .lt || FloatKind.f64.format.order (fl (now - x.t)) 0 == some .eq) = false := by
    have := order_whole (now - x.t) 0 (by omega) (by omega)
    rw [fl_zero, Nat.compare_eq_gt.2 (by omega)] at this
    rw [order_of, this]
    rfl
  have hn := fl_int now
  have hr := fl_int x.r
  generalize fl (min (x.l + x.r * min (now - x.t) (1000 * x.b)) (1000 * x.b)) = F6 at *
  generalize fl (x.l + x.r * min (now - x.t) (1000 * x.b)) = F5 at *
  generalize fl (x.r * min (now - x.t) (1000 * x.b)) = F4 at *
  generalize fl (min (now - x.t) (1000 * x.b)) = F3 at *
  generalize fl (1000 * x.b) = F2 at *
  generalize fl (now - x.t) = F1 at *
  generalize fl x.l = L at *
  generalize fl x.t = T at *
  generalize fl x.r = R at *
  generalize fl now = N at *
  generalize x.r = r at *
  clear hx hg h b2 b3 l2 r2
  go_enter Try.func18, Try.ntmps18
  go_wp2_with (go_at_call 16; refine C.out.mono ?_; rintro e w' ⟨rfl, rfl⟩)
  go_ret
  exact ⟨rfl, rfl⟩
end Go.Proofs.Ytfkpihilcngbnaa.Buc
