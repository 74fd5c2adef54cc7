/-
  The landed bucket's calls, each as one call: look, Take, Left, Copy, New.
  Conditions: those that each theorem names.
-/
import Derived.Test.YtfkpihilcngbnaaIB
namespace Go.Proofs.Ytfkpihilcngbnaa.Buc
open Go.RowKit

theorem grown_eq (l r p full : Nat) (hr : 1 ≤ r) : min (l + r * min p full) full = min (l + r * p) full := by
  rcases Nat.le_total p full with h | h
  · rw [Nat.min_eq_left h]
  · rw [Nat.min_eq_right h]
    have h1 : 1 * full ≤ r * full := Nat.mul_le_mul_right _ hr
    have h2 : r * full ≤ r * p := Nat.mul_le_mul_left _ h
    omega

theorem look_any (g now : Nat) (x : Bk) (hx : x.Ok) (hn : now ≤ 4503599627370496) (w : World) (hg : At w g x) : Calls Try.prog 18 #[.pointer (some ⟨g, 0, none⟩), .int .u64 now] w fun e w' =>
    e = .returned (.complex .f64 (fl (x.look now).l) (fl (x.look now).t)) ∧ w = w' := by
  unfold Bk.look
  split
  · next h => exact look_none g now x hx h w hg
  · next h =>
    have := look_some g now x hx (by omega) hn w hg
    rw [grown_eq _ _ _ _ hx.r1] at this
    exact this

theorem At.look {w : World} {g : Nat} {x : Bk} (h : At w g x) (now : Nat) : At (w.setCell ⟨g, 2, none⟩ (.complex .f64 (fl (x.look now).l) (fl (x.look now).t))) g (x.look now) := by
  have e : (x.look now).cells = x.cells.set 2 (.complex .f64 (fl (x.look now).l) (fl (x.look now).t)) := by
    unfold Bk.look
    split <;> rfl
  unfold At
  rw [e]
  exact Is.set h 2 _

/-- A token is taken. -/
def Bk.less (x : Bk) : Bk := { x with l := x.l - 1000 }
/-- What Take tells, and leaves. -/
def Bk.has (x : Bk) (now : Nat) : Bool := decide (1000 ≤ (x.look now).l)
def Bk.take (x : Bk) (now : Nat) : Bk := if x.has now then (x.look now).less else x.look now
def Bk.left (x : Bk) (now : Nat) : Nat := (x.look now).l / 1000

theorem Bk.Ok.less {x : Bk} (h : x.Ok) : x.less.Ok := by
  obtain ⟨h1, h2, h3, h4, h5, h6⟩ := h
  cases x
  simp only [Bk.less] at *
  exact ⟨h1, h2, h3, h4, by simp only; omega, h6⟩
theorem Bk.Ok.take {x : Bk} (h : x.Ok) {now : Nat} (hn : now ≤ 4503599627370496) : (x.take now).Ok := by
  have h' := h.look hn
  unfold Bk.take
  split
  · exact h'.less
  · exact h'

theorem At.less {w : World} {g : Nat} {x : Bk} (h : At w g x) : At (w.setCell ⟨g, 2, none⟩ (.complex .f64 (fl (x.l - 1000)) (fl x.t))) g x.less := by
  have e : x.less.cells = x.cells.set 2 (.complex .f64 (fl (x.l - 1000)) (fl x.t)) := by simp only [Bk.less, Bk.cells, List.set]
  unfold At
  rw [e]
  exact Is.set h 2 _

theorem fl_token : fl 1000 = 4652007308841189376 := by decide +kernel

/-- What Take leaves. -/
def Took (g : Nat) (x : Bk) (now : Nat) (w : World) (e : Ending) (w' : World) : Prop :=
  e = .returned (.tuple #[.bool (x.has now), .int .i64 0]) ∧ At w' g (x.take now) ∧ Turn (· = g) w w' ∧ w'.heap.size = w.heap.size

theorem size_setCell (w : World) (p : Addr) (v : Value) : (w.setCell p v).heap.size = w.heap.size := by simp [World.setCell]

theorem store_complex (a : Addr) (k : FloatKind) (x y : Nat) (m : Mode) (w : World) : (store a (.complex k x y) m).run Try.prog w = stored Try.prog w a (.complex k x y) m := run_store Try.prog w a _ m rfl

theorem take_any (g now : Nat) (x : Bk) (hx : x.Ok) (hn : now ≤ 4503599627370496) (w : World) (hg : At w g x) : Calls Try.prog 13 #[.pointer (some ⟨g, 0, none⟩), .int .u64 now] w (Took g x now w) := by
  have st := store_complex
  have C0 := Lib.hid (none_made g x.r hx.r1 w hg.c0)
  have C1 := Lib.hid (look_any g now x hx hn w hg)
  have A1 := hg.look now
  have hy := hx.look hn
  have T1 : Turn (· = g) w (w.setCell ⟨g, 2, none⟩ (.complex .f64 (fl (x.look now).l) (fl (x.look now).t))) := (Turn.refl (· = g) w).setCell (p := ⟨g, 2, none⟩) (fun _ => rfl) _
  have c2 := hg.c2
  have f2 : w.frozen? ⟨g, 2, none⟩ = false := Is.free hg 2
  have z1 := size_setCell w ⟨g, 2, none⟩ (.complex .f64 (fl (x.look now).l) (fl (x.look now).t))
  unfold Took Bk.take Bk.has
  have l2 := hy.l2
  have b2 := hy.b2
  generalize x.look now = y at *
  generalize fl x.l = L at *
  generalize fl x.t = T at *
  by_cases h : 1000 ≤ y.l
  · have hq : decide (1000 ≤ y.l) = true := decide_eq_true h
    have ho : (FloatKind.f64.format.order (fl y.l) 4652007308841189376 == some .lt) = false := by
      rw [← fl_token, order_of, order_whole _ _ (by omega) (by omega)]
      rcases Nat.lt_or_ge 1000 y.l with h' | h'
      · rw [Nat.compare_eq_gt.2 h']; rfl
      · rw [Nat.compare_eq_eq.2 (by omega)]; rfl
    have hs : cSumBits .sub .f64 (fl y.l) (fl y.t) 4652007308841189376 0 = some (fl (y.l - 1000), fl y.t) := by
      have e1 : floatBits .sub .f64 (fl y.l) 4652007308841189376 = some (fl (y.l - 1000)) := by rw [← fl_token]; exact sub_whole y.l 1000 h (by omega)
      have e2 : floatBits .sub .f64 (fl y.t) 0 = some (fl y.t) := by
        have := sub_whole y.t 0 (by omega) (by have := hy.t2; omega)
        rw [Nat.sub_zero, fl_zero] at this
        exact this
      simp [cSumBits, e1, e2]
    have hcs : ∀ t w, (binOp .sub t (.complex .f64 (fl y.l) (fl y.t)) (.complex .f64 4652007308841189376 0)).run Try.prog w = .ok (.complex .f64 (fl (y.l - 1000)) (fl y.t)) w := fun t w => run_complex_sum w .sub (.inr rfl) t .f64 _ _ _ _ _ _ hs
    have A2 := A1.less
    have T2 := T1.setCell (p := ⟨g, 2, none⟩) (fun _ => rfl) (.complex .f64 (fl (y.l - 1000)) (fl y.t))
    have z2 := (size_setCell (w.setCell ⟨g, 2, none⟩ (.complex .f64 (fl y.l) (fl y.t))) ⟨g, 2, none⟩ (.complex .f64 (fl (y.l - 1000)) (fl y.t))).trans z1
    rw [hq, if_pos rfl]
    have G := Lib.hid (And.intro A2 (And.intro T2 z2))
    have cc := A1.c2
    have ff : (w.setCell ⟨g, 2, none⟩ (.complex .f64 (fl y.l) (fl y.t))).frozen? ⟨g, 2, none⟩ = false := Is.free A1 2
    clear A1 A2 T1 T2 z1 z2 hs hx hg hq l2 b2 hy h
    go_enter Try.func13, Try.ntmps13
    go_wp2_with (first | (go_at_call 17; refine C0.out.mono ?_; rintro e w' ⟨rfl, rfl⟩) | (go_at_call 18; refine C1.out.mono ?_; rintro e w' ⟨rfl, rfl⟩))
    go_ret2
    exact ⟨rfl, G.out⟩
  · have hq : decide (1000 ≤ y.l) = false := decide_eq_false h
    have ho : (FloatKind.f64.format.order (fl y.l) 4652007308841189376 == some .lt) = true := by
      rw [← fl_token, order_of, order_whole _ _ (by omega) (by omega), Nat.compare_eq_lt.2 (by omega)]
      rfl
    rw [hq, if_neg (by simp)]
    have G := Lib.hid (And.intro A1 (And.intro T1 z1))
    have cc := A1.c2
    clear A1 T1 z1 hx hg hq l2 b2 hy h
    go_enter Try.func13, Try.ntmps13
    go_wp2_with (first | (go_at_call 17; refine C0.out.mono ?_; rintro e w' ⟨rfl, rfl⟩) | (go_at_call 18; refine C1.out.mono ?_; rintro e w' ⟨rfl, rfl⟩))
    go_ret2
    exact ⟨rfl, G.out⟩

theorem take_late (g now r : Nat) (hr : 1 ≤ r) (hn : 4503599627370496 < now) (w : World) (hc : w.cell? ⟨g, 0, none⟩ = some (.int .i64 r)) : Calls Try.prog 13 #[.pointer (some ⟨g, 0, none⟩), .int .u64 now] w fun e w' => e = .returned (.tuple #[.bool false, .int .i64 1]) ∧ w = w' := by
  have C0 := Lib.hid (none_made g r hr w hc)
  clear hc hr
  go_enter Try.func13, Try.ntmps13
  go_wp2_with (go_at_call 17; refine C0.out.mono ?_; rintro e w' ⟨rfl, rfl⟩)
  go_ret2
  exact ⟨rfl, rfl⟩

theorem take_nil (now : Nat) (w : World) : Calls Try.prog 13 #[.pointer none, .int .u64 now] w fun e w' => e = .returned (.tuple #[.bool false, .int .i64 2]) ∧ w = w' := by
  go_enter Try.func13, Try.ntmps13
  go_wp2_with (go_at_call 17; refine (none_nil _).mono ?_; rintro e w' ⟨rfl, rfl⟩)
  go_ret2
  exact ⟨rfl, rfl⟩

theorem left_nil (now : Nat) (w : World) : Calls Try.prog 10 #[.pointer none, .int .u64 now] w fun e w' => e = .returned (.int .i64 0) ∧ w = w' := by
  go_enter Try.func10, Try.ntmps10
  go_wp2_with (go_at_call 17; refine (none_nil _).mono ?_; rintro e w' ⟨rfl, rfl⟩)
  go_ret
  exact ⟨rfl, rfl⟩

theorem left_late (g now r : Nat) (hr : 1 ≤ r) (hn : 4503599627370496 < now) (w : World) (hc : w.cell? ⟨g, 0, none⟩ = some (.int .i64 r)) : Calls Try.prog 10 #[.pointer (some ⟨g, 0, none⟩), .int .u64 now] w fun e w' => e = .returned (.int .i64 0) ∧ w = w' := by
  have C0 := Lib.hid (none_made g r hr w hc)
  clear hc hr
  go_enter Try.func10, Try.ntmps10
  go_wp2_with (go_at_call 17; refine C0.out.mono ?_; rintro e w' ⟨rfl, rfl⟩)
  go_ret
  exact ⟨rfl, rfl⟩

theorem toInt_fl (n : Nat) (h : n < 9007199254740992) : floatToIntVal .f64 (fl n) .i64 = some (n : Int) := by
  have e : (FloatKind.f64.decode (fl n)).toInt .zero = some (n : Int) := toInt_whole n h
  unfold floatToIntVal
  rw [e]
  have h1 : (IntKind.i64.min ≤ (n : Int) ∧ (n : Int) ≤ IntKind.i64.max) := by
    have a : IntKind.i64.min = -9223372036854775808 := by decide
    have b : IntKind.i64.max = 9223372036854775807 := by decide
    omega
  simp only [h1, and_self, if_true]

theorem left_any (g now : Nat) (x : Bk) (hx : x.Ok) (hn : now ≤ 4503599627370496) (w : World) (hg : At w g x) : Calls Try.prog 10 #[.pointer (some ⟨g, 0, none⟩), .int .u64 now] w fun e w' => e = .returned (.int .i64 ((x.left now : Nat) : Int)) ∧ w = w' := by
  have C0 := Lib.hid (none_made g x.r hx.r1 w hg.c0)
  have C1 := Lib.hid (look_any g now x hx hn w hg)
  have hy := hx.look hn
  unfold Bk.left
  have l2 := hy.l2
  have b2 := hy.b2
  generalize x.look now = y at *
  have hc : ∀ w, (convert 50 3 (.float .f64 (fl y.l))).run Try.prog w = .ok (.int .i64 y.l) w := fun w => run_convert_float_int w _ _ .f64 .i64 _ _ (by rw [Try.underlying50]; rfl) Try.underlying3 (toInt_fl _ (by omega))
  have hd : (y.l : Int).tdiv 1000 = ((y.l / 1000 : Nat) : Int) := rfl
  have D := Lib.hid hd
  generalize fl y.l = L at *
  generalize y.l = l at *
  clear hx hg hd hy
  go_enter Try.func10, Try.ntmps10
  go_wp2_with (first | (go_at_call 17; refine C0.out.mono ?_; rintro e w' ⟨rfl, rfl⟩) | (go_at_call 18; refine C1.out.mono ?_; rintro e w' ⟨rfl, rfl⟩))
  go_ret
  exact ⟨rfl, rfl⟩
end Go.Proofs.Ytfkpihilcngbnaa.Buc
