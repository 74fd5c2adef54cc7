/-
  What places does as one call: the ring's places in two pieces.
  Conditions: those that the theorem names.
-/
import Derived.Test.YtielhclbefdgoaaA
namespace Go.Proofs.Ytielhclbefdgoaa
open Go.RowKit

set_option maxHeartbeats 400000 in
theorem places_zero (g r m t : Nat) (ht : t ≤ m) (hm : m ≤ 16384) (w : World) (h1 : w.cell? ⟨g, 1, none⟩ = some (.slice (some ⟨r, 0, none⟩) m m)) :
    Calls Try.prog 19 #[.pointer (some ⟨g, 0, none⟩), .int .i64 t, .int .i64 0] w fun e w' => e = .returned (.tuple #[.slice (some ⟨r, 0, none⟩) 0 0, .slice (some ⟨r, 0, none⟩) 0 0]) ∧ ∃ k, w' = w.drewN k := by
  have e0 : ((0 : Int) - (t - t)) = 0 := by omega
  go_enter Try.func19, Try.ntmps19
  go_wp2
  go_quiet (fail)
  go_wp2
  go_ret2
  exact ⟨rfl, _, rfl⟩

set_option maxHeartbeats 400000 in
theorem places_one (g r m t n : Nat) (h0 : 0 < n) (hn : t + n ≤ m) (hm : m ≤ 16384) (w : World) (h1 : w.cell? ⟨g, 1, none⟩ = some (.slice (some ⟨r, 0, none⟩) m m)) :
    Calls Try.prog 19 #[.pointer (some ⟨g, 0, none⟩), .int .i64 t, .int .i64 n] w fun e w' => e = .returned (.tuple #[.slice (some ⟨r, t, none⟩) (t + n - t) (t + n - t), .slice (some ⟨r, 0, none⟩) 0 0]) ∧ ∃ k, w' = w.drewN k := by
  have e0 : ((n : Int) - (t + n - t)) = 0 := by omega
  have e1 : (t + n = t) = False := by simp; omega
  go_enter Try.func19, Try.ntmps19
  go_wp2
  go_quiet (fail)
  go_wp2
  go_ret2
  exact ⟨rfl, _, rfl⟩

set_option maxHeartbeats 400000 in
theorem places_two (g r m t n : Nat) (ht : t < m) (hn : m < t + n) (hnm : n ≤ m) (hm : m ≤ 16384) (w : World) (h1 : w.cell? ⟨g, 1, none⟩ = some (.slice (some ⟨r, 0, none⟩) m m)) :
    Calls Try.prog 19 #[.pointer (some ⟨g, 0, none⟩), .int .i64 t, .int .i64 n] w fun e w' => e = .returned (.tuple #[.slice (some ⟨r, t, none⟩) (m - t) (m - t), .slice (some ⟨r, 0, none⟩) (n - (m - t)) (n - (m - t))]) ∧ ∃ k, w' = w.drewN k := by
  have e0 : ((n : Int) - (m - t)) = ((n - (m - t) : Nat) : Int) := by omega
  have e1 : (m = t) = False := by simp; omega
  have e2 : (n - (m - t) ≤ m) := by omega
  go_enter Try.func19, Try.ntmps19
  go_wp2
  go_quiet (fail)
  go_wp2
  go_ret2
  exact ⟨rfl, _, rfl⟩

/-- What places answers: two pieces of block r, the first from t on (min n (m - t) bytes), the second from the beginning on. -/
def Placed (r m t n : Nat) (w : World) (e : Ending) (w' : World) : Prop :=
  ∃ o k : Nat, k = min n (m - t) ∧ (0 < k → o = t) ∧ e = .returned (.tuple #[.slice (some ⟨r, o, none⟩) k k, .slice (some ⟨r, 0, none⟩) (n - k) (n - k)]) ∧ ∃ j, w' = w.drewN j

theorem places_any (g r m t n : Nat) (ht : t < m ∨ (m = 0 ∧ t = 0)) (hnm : n ≤ m) (hm : m ≤ 16384) (w : World) (h1 : w.cell? ⟨g, 1, none⟩ = some (.slice (some ⟨r, 0, none⟩) m m)) :
    Calls Try.prog 19 #[.pointer (some ⟨g, 0, none⟩), .int .i64 t, .int .i64 n] w (Placed r m t n w) := by
  by_cases h0 : n = 0
  · subst h0
    exact (places_zero g r m t (by omega) hm w h1).mono fun e w' ⟨he, hw⟩ => ⟨0, 0, by omega, by omega, he, hw⟩
  · by_cases h2 : t + n ≤ m
    · exact (places_one g r m t n (by omega) h2 hm w h1).mono fun e w' ⟨he, hw⟩ => ⟨t, n, by omega, fun _ => rfl, by rw [Nat.sub_self]; rw [Nat.add_sub_cancel_left] at he; exact he, hw⟩
    · exact (places_two g r m t n (by omega) (by omega) hnm hm w h1).mono fun e w' ⟨he, hw⟩ => ⟨t, m - t, by omega, fun _ => rfl, he, hw⟩
end Go.Proofs.Ytielhclbefdgoaa
