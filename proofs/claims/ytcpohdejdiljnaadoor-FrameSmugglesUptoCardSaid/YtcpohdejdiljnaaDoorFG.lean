/-
  Package frame's mayHaveBody and Response.
  Conditions: those that each theorem names.
-/
import Derived.Test.YtcpohdejdiljnaaDoorFF
namespace Go.Proofs.YtcpohdejdiljnaaDoor
open Go.RowKit

theorem toList_bl (m : ByteArray) : m.toList = bl m := Lib.toList_data m

set_option maxHeartbeats 4000000 in
set_option maxRecDepth 100000 in
theorem body_any (status : Int) (m : ByteArray) (w : World) : Calls Tryd.prog 27 #[.int .i64 status, .string m] w fun e w' => e = .returned (.bool (bodyF status (bl m))) ∧ w = w' := by
  go_enter Tryd.func27, Tryd.ntmps27
  go_wp2_with fail
  all_goals
    go_ret
    refine ⟨ret_bool ?_, rfl⟩
    unfold bodyF
    rw [← toList_bl]
    simp_all
  all_goals omega

theorem tells3 {a b c : Int} {p : Kd} (h : (p.1 : Int) = a ∧ (p.2.1 : Int) = b ∧ (p.2.2 : Int) = c) : Ending.returned (.tuple #[.int .i64 a, .int .u64 b, .int .i64 c]) = Ending.returned (kdV p) := by
  obtain ⟨rfl, rfl, rfl⟩ := h
  rfl
set_option maxHeartbeats 4000000 in
set_option maxRecDepth 100000 in
theorem response_any {P : Nat → Prop} (status : Int) (m : ByteArray) (minor : Int) (w : World) (A : Option Addr) (ls : List Fld) (n c : Nat) (hn : ls.length = n) (h : SrcF w P A ls) (hf : Fit ls) :
    Calls Tryd.prog 10 #[.int .i64 status, .string m, .int .i64 minor, .slice A n c] w (Tells (resK status (bl m) (reqK minor ls)) w) := by
  have C := Lib.hid (request_any minor w A ls n c hn h hf)
  clear hn h hf
  generalize reqK minor ls = p at *
  obtain ⟨k, l, e⟩ := p
  have CB := Lib.hid (fun X : World => body_any status m X)
  have HR := Lib.hid (show resK status (bl m) (k, l, e) = if status < 100 ∨ 599 < status then (0, 0, 1) else if e = 1 ∨ e = 22 then (0, 0, e) else if bodyF status (bl m) = false then (0, 0, 0) else if e = 0 ∧ k = 0 then (3, 0, 0) else (k, l, e) from rfl)
  generalize bodyF status (bl m) = q at *
  unfold Tells kdV at C
  simp only at C
  go_enter Tryd.func10, Tryd.ntmps10
  go_wp2_with (first
    | (go_at_call 8
       refine C.out.mono ?_
       rintro x w1 ⟨rfl, b1⟩
       have B1 := Lib.hid b1
       clear b1)
    | (go_at_call 27
       refine (CB.out _).mono ?_
       rintro x w2 ⟨rfl, rfl⟩))
  all_goals
    go_ret3
    refine ⟨tells3 ?_, by first | exact B1.out | exact Below.refl _ _⟩
    rw [HR.out]
    clear C CB HR
    try simp only [beq_iff_eq, beq_eq_false_iff_ne, ne_eq, Bool.not_eq_true', Bool.not_eq_false'] at *
    repeat' split
  all_goals first | omega | (simp_all; done) | (simp_all; omega)
end Go.Proofs.YtcpohdejdiljnaaDoor
