/-
  The reference's bucket: Look, Take, Left, New, each as one call.
  Conditions: those that each theorem names.
-/
import Derived.Test.YtfkpihilcngbnaaID
import Derived.Test.YtfkpihilcngbnaaIE
namespace Go.Proofs.Ytfkpihilcngbnaa.Buc
open Go.RowKit

theorem rlook_any (g now : Nat) (x : Bk) (hx : x.Ok) (hn : now ≤ 4503599627370496) (w : World) (hg : Rat w g x) : Calls Try.prog 19 #[.pointer (some ⟨g, 0, none⟩), .int .u64 now] w (Looked g x now w) := by
  by_cases h : now ≤ x.t
  · exact rlook_none g now x h w hg
  · exact rlook_some g now x hx (by omega) hn w hg

theorem Rat.less {w : World} {g : Nat} {x : Bk} (h : Rat w g x) : Rat (w.setCell ⟨g, 2, none⟩ (.int .u64 ((x.l - 1000 : Nat) : Int))) g x.less := by
  have e : x.less.rcells = x.rcells.set 2 (.int .u64 ((x.l - 1000 : Nat) : Int)) := by simp only [Bk.less, Bk.rcells, List.set]
  unfold Rat
  rw [e]
  exact Is.set h 2 _

/-- What Take leaves. -/
def RTook (g : Nat) (x : Bk) (now : Nat) (w : World) (e : Ending) (w' : World) : Prop :=
  e = .returned (.tuple #[.bool (x.has now), .int .i64 0]) ∧ Rat w' g (x.take now) ∧ Turn (· = g) w w' ∧ w'.heap.size = w.heap.size

set_option maxRecDepth 100000 in
theorem rtake_any (g now : Nat) (x : Bk) (hx : x.Ok) (hn : now ≤ 4503599627370496) (w : World) (hg : Rat w g x) : Calls Try.prog 14 #[.pointer (some ⟨g, 0, none⟩), .int .u64 now] w (RTook g x now w) := by
  have C := Lib.hid (rlook_any g now x hx hn w hg)
  have hy := hx.look hn
  have l2 := hy.l2
  have b2 := hy.b2
  unfold Looked at C
  unfold RTook Bk.take Bk.has
  generalize x.look now = y at *
  have hq : (decide (1000 ≤ y.l) = true → 1000 ≤ y.l) ∧ (decide (1000 ≤ y.l) = false → y.l < 1000) := ⟨of_decide_eq_true, fun h => Nat.lt_of_not_le (of_decide_eq_false h)⟩
  generalize decide (1000 ≤ y.l) = q at *
  clear hx hg hy
  cases q
  · have h := hq.2 rfl
    clear hq
    rw [if_neg (by simp)]
    go_enter Try.func14, Try.ntmps14
    go_wp2_with fail
    refine C.out.mono ?_
    rintro e w1 ⟨rfl, g1, t1, z1⟩
    have c2 := g1.c2
    have G := Lib.hid g1
    have T := Lib.hid t1
    have Z := Lib.hid z1
    clear g1 t1 z1 C l2 b2
    go_wp2_with fail
    go_ret2
    exact ⟨rfl, G.out, T.out, Z.out⟩
  · have h := hq.1 rfl
    clear hq
    rw [if_pos rfl]
    go_enter Try.func14, Try.ntmps14
    go_wp2_with fail
    refine C.out.mono ?_
    rintro e w1 ⟨rfl, g1, t1, z1⟩
    have c2 := g1.c2
    have f2 : w1.frozen? ⟨g, 2, none⟩ = false := Is.free g1 2
    have G := Lib.hid g1.less
    have T := Lib.hid (t1.setCell (p := ⟨g, 2, none⟩) (fun _ => rfl) (.int .u64 ((y.l - 1000 : Nat) : Int)))
    have Z := Lib.hid ((size_setCell w1 ⟨g, 2, none⟩ (.int .u64 ((y.l - 1000 : Nat) : Int))).trans z1)
    have e1 : (y.l : Int) - 1000 = ((y.l - 1000 : Nat) : Int) := by omega
    have wk : IntKind.u64.wrap ((y.l - 1000 : Nat) : Int) = ((y.l - 1000 : Nat) : Int) := by rw [IntKind.wrap_u64]; omega
    generalize y.l - 1000 = k at *
    clear g1 t1 z1 C l2 b2
    go_wp2_with fail
    go_ret2
    exact ⟨rfl, G.out, T.out, Z.out⟩

theorem rtake_late (g now : Nat) (hn : 4503599627370496 < now) (w : World) : Calls Try.prog 14 #[.pointer (some ⟨g, 0, none⟩), .int .u64 now] w fun e w' => e = .returned (.tuple #[.bool false, .int .i64 1]) ∧ w = w' := by
  go_enter Try.func14, Try.ntmps14
  go_wp2
  go_ret2
  exact ⟨rfl, rfl⟩

theorem rleft_late (g now : Nat) (hn : 4503599627370496 < now) (w : World) : Calls Try.prog 11 #[.pointer (some ⟨g, 0, none⟩), .int .u64 now] w fun e w' => e = .returned (.int .i64 0) ∧ Turn (fun _ => False) w w' := by
  go_enter Try.func11, Try.ntmps11
  go_wp2
  go_ret
  exact ⟨rfl, Turn.refl _ _⟩

theorem rleft_any (g now : Nat) (x : Bk) (hx : x.Ok) (hn : now ≤ 4503599627370496) (w : World) (hg : Rat w g x) : Calls Try.prog 11 #[.pointer (some ⟨g, 0, none⟩), .int .u64 now] w fun e w' => e = .returned (.int .i64 ((x.left now : Nat) : Int)) ∧ Turn (fun _ => False) w w' := by
  have c0 := hg.c0
  have c1 := hg.c1
  have c2 := hg.c2
  have c3 := hg.c3
  have C := Lib.hid (rlook_any w.heap.size now x hx hn (w.alloc (.cells x.rcells.toArray 53)).drew (Is.drew (Is.made w _ _)))
  have T0 := Lib.hid (((Turn.refl (fun _ => False) w).alloc (.cells x.rcells.toArray 53)).drew)
  have hy := hx.look hn
  have l2 := hy.l2
  have b2 := hy.b2
  unfold Looked at C
  unfold Bk.left
  generalize x.look now = y at *
  have wk : wrap64 ((y.l / 1000 : Nat) : Int) = ((y.l / 1000 : Nat) : Int) := by unfold wrap64; omega
  have wu : IntKind.u64.wrap ((y.l / 1000 : Nat) : Int) = ((y.l / 1000 : Nat) : Int) := by rw [IntKind.wrap_u64]; omega
  have hd : (y.l : Int).tdiv 1000 = ((y.l / 1000 : Nat) : Int) := rfl
  have hd2 : (y.l : Int) / 1000 = ((y.l / 1000 : Nat) : Int) := rfl
  generalize y.l / 1000 = k at *
  clear hx hg hy
  go_enter Try.func11, Try.ntmps11
  go_wp2_with fail
  go_still_tail 17, (by kernel_rfl)
  change wpList _ _ _ _ _ w.drew
  unfold Bk.rcells at C T0
  go_wp2_with fail
  refine C.out.mono ?_
  rintro e w1 ⟨rfl, g1, t1, z1⟩
  have c2 := g1.c2
  have T1 := Lib.hid (T0.out.trans (S := fun _ => False) t1 (fun k hk h => Nat.lt_irrefl k (by rw [h] at hk ⊢; exact hk)))
  clear g1 t1 z1 C T0
  go_wp2_with fail
  go_ret
  refine ⟨?_, T1.out⟩
  rfl

/-- What the reference's New makes. -/
def RNew (x : Bk) (w : World) (e : Ending) (w' : World) : Prop :=
  e = .returned (.tuple #[.pointer (some ⟨w.heap.size, 0, none⟩), .int .i64 0]) ∧ Rat w' w.heap.size x ∧ Turn (fun _ => False) w w' ∧ w'.heap.size = w.heap.size + 1

theorem rnew_any (r b now : Nat) (r1 : 1 ≤ r) (r2 : r ≤ 1000) (b1 : 1 ≤ b) (b2 : b ≤ 1000) (hn : now ≤ 4503599627370496) (w : World) : Calls Try.prog 9 #[.int .i64 r, .int .i64 b, .int .u64 now] w (RNew (fresh r b now) w) := by
  have wr : IntKind.u64.wrap (r : Int) = (r : Int) := by rw [IntKind.wrap_u64]; omega
  have wb : IntKind.u64.wrap (b : Int) = (b : Int) := by rw [IntKind.wrap_u64]; omega
  obtain ⟨F, hF⟩ : ∃ F, 1000 * b = F := ⟨_, rfl⟩
  have eF : (1000 : Int) * (b : Int) = (F : Int) := by omega
  have wF : IntKind.u64.wrap (F : Int) = (F : Int) := by rw [IntKind.wrap_u64]; omega
  unfold RNew fresh
  rw [hF]
  clear hF
  go_enter Try.func9, Try.ntmps9
  go_wp2
  go_ret2
  exact ⟨rfl, Is.made w _ _, (Turn.refl _ _).alloc _, by simp⟩

theorem rnew_bad (r b : Int) (now : Nat) (h : (mayI r && mayI b && decide (now ≤ 4503599627370496)) = false) (w : World) : Calls Try.prog 9 #[.int .i64 r, .int .i64 b, .int .u64 now] w fun e w' => e = .returned (.tuple #[.pointer none, .int .i64 1]) ∧ w = w' := by
  have hh : r < 1 ∨ 1000 < r ∨ b < 1 ∨ 1000 < b ∨ 4503599627370496 < now := by
    unfold mayI at h
    by_cases a1 : 1 ≤ r
    · by_cases a2 : r ≤ 1000
      · by_cases a3 : 1 ≤ b
        · by_cases a4 : b ≤ 1000
          · rw [decide_eq_true a1, decide_eq_true a2, decide_eq_true a3, decide_eq_true a4] at h
            have := of_decide_eq_false h
            omega
          · omega
        · omega
      · omega
    · omega
  clear h
  go_enter Try.func9, Try.ntmps9
  by_cases a1 : r < 1
  · clear hh
    go_wp2
    go_ret2
    exact ⟨rfl, rfl⟩
  · by_cases a2 : 1000 < r
    · clear hh
      go_wp2
      go_ret2
      exact ⟨rfl, rfl⟩
    · by_cases a3 : b < 1
      · clear hh
        go_wp2
        go_ret2
        exact ⟨rfl, rfl⟩
      · by_cases a4 : 1000 < b
        · clear hh
          go_wp2
          go_ret2
          exact ⟨rfl, rfl⟩
        · have a5 : 4503599627370496 < now := by omega
          clear hh
          go_wp2
          go_ret2
          exact ⟨rfl, rfl⟩
end Go.Proofs.Ytfkpihilcngbnaa.Buc
