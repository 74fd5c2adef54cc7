/-
  What the queue's small functions do, each as one call: none, after, Len, Room.
  Conditions: those that each theorem names.
-/
import Derived.Test.YtielhclbefdgoaaRows
import Derived.WalkKit
import Derived.WalkSpells
import Derived.WalkLawsBesides
import Derived.Deep.QuietTactic
import Derived.BigQuiet
import Derived.Lib.Hide
namespace Go.Proofs.Ytielhclbefdgoaa
open Go.RowKit

set_option maxHeartbeats 400000 in
theorem none_nil (w : World) : Calls Try.prog 18 #[.pointer none] w fun e w' => e = .returned (.bool true) ∧ w = w' := by
  go_enter Try.func18, Try.ntmps18
  go_wp2
  go_ret
  exact ⟨rfl, rfl⟩

set_option maxHeartbeats 400000 in
theorem none_made (g : Nat) (b : Bool) (w : World) (h0 : w.cell? ⟨g, 0, none⟩ = some (.bool b)) : Calls Try.prog 18 #[.pointer (some ⟨g, 0, none⟩)] w fun e w' => e = .returned (.bool (!b)) ∧ w = w' := by
  go_enter Try.func18, Try.ntmps18
  go_wp2
  go_ret
  exact ⟨rfl, rfl⟩

set_option maxHeartbeats 400000 in
theorem len_made (g : Nat) (c : Int) (w : World) (h0 : w.cell? ⟨g, 0, none⟩ = some (.bool true)) (h3 : w.cell? ⟨g, 3, none⟩ = some (.int .i64 c)) :
    Calls Try.prog 16 #[.pointer (some ⟨g, 0, none⟩)] w fun e w' => e = .returned (.int .i64 c) ∧ w = w' := by
  go_enter Try.func16, Try.ntmps16
  go_wp2_with (go_at_call 18; refine (none_made g true _ h0).mono ?_; rintro e w' ⟨rfl, rfl⟩)
  go_ret
  exact ⟨rfl, rfl⟩

set_option maxHeartbeats 400000 in
theorem len_nil (w : World) : Calls Try.prog 16 #[.pointer none] w fun e w' => e = .returned (.int .i64 0) ∧ w = w' := by
  go_enter Try.func16, Try.ntmps16
  go_wp2_with (go_at_call 18; refine (none_nil _).mono ?_; rintro e w' ⟨rfl, rfl⟩)
  go_ret
  exact ⟨rfl, rfl⟩

set_option maxHeartbeats 400000 in
theorem room_nil (w : World) : Calls Try.prog 17 #[.pointer none] w fun e w' => e = .returned (.int .i64 0) ∧ w = w' := by
  go_enter Try.func17, Try.ntmps17
  go_wp2_with (go_at_call 18; refine (none_nil _).mono ?_; rintro e w' ⟨rfl, rfl⟩)
  go_ret
  exact ⟨rfl, rfl⟩

set_option maxHeartbeats 400000 in
theorem room_made (g m c : Nat) (A : Option Addr) (hc : c ≤ m) (hm : m ≤ 16384) (w : World) (h0 : w.cell? ⟨g, 0, none⟩ = some (.bool true)) (h1 : w.cell? ⟨g, 1, none⟩ = some (.slice A m m)) (h3 : w.cell? ⟨g, 3, none⟩ = some (.int .i64 c)) :
    Calls Try.prog 17 #[.pointer (some ⟨g, 0, none⟩)] w fun e w' => e = .returned (.int .i64 ((m - c : Nat) : Int)) ∧ ∃ n, w' = w.drewN n := by
  have e1 : ((m - c : Nat) : Int) = (m : Int) - c := by omega
  have E1 := Lib.hid e1
  clear e1
  go_enter Try.func17, Try.ntmps17
  go_wp2_with (go_at_call 18; refine (none_made g true _ h0).mono ?_; rintro e w' ⟨rfl, rfl⟩)
  go_quiet (fail)
  go_wp2
  go_ret
  exact ⟨by rw [E1.out]; rfl, _, rfl⟩

set_option maxHeartbeats 400000 in
theorem after_made (g m f n : Nat) (A : Option Addr) (hf : f ≤ m) (hn : n ≤ m) (hm : m ≤ 16384) (w : World) (h1 : w.cell? ⟨g, 1, none⟩ = some (.slice A m m)) (h2 : w.cell? ⟨g, 2, none⟩ = some (.int .i64 f)) :
    Calls Try.prog 20 #[.pointer (some ⟨g, 0, none⟩), .int .i64 n] w fun e w' => e = .returned (.int .i64 ((if m ≤ f + n then f + n - m else f + n : Nat) : Int)) ∧ w = w' := by
  by_cases h : m ≤ f + n
  · rw [if_pos h]
    have e1 : ((f + n - m : Nat) : Int) = (f : Int) + n - m := by omega
    have E1 := Lib.hid e1
    clear e1
    go_enter Try.func20, Try.ntmps20
    go_wp2
    go_ret
    exact ⟨by rw [E1.out]; rfl, rfl⟩
  · rw [if_neg h]
    go_enter Try.func20, Try.ntmps20
    go_wp2
    go_ret
    exact ⟨by simp, rfl⟩

end Go.Proofs.Ytielhclbefdgoaa
