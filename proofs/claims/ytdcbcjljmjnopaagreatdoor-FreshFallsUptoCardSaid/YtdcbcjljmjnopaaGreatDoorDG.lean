/-
  What package date's readDay and readClock answer.
  Conditions: those that each theorem names.
-/
import Derived.Test.YtdcbcjljmjnopaaGreatDoorDF
namespace Go.Proofs.YtdcbcjljmjnopaaGreatDoor
open Go.RowKit

/-- A value is told; nothing that was there at w has turned. -/
def SinceV (v : Value) (w : World) (e : Ending) (w' : World) : Prop := e = .returned v ∧ Below w.heap.size w w'
theorem since_tell {f : FuncId} {args : Array Value} {v : Value} {w X : World} (hX : Below w.heap.size w X) (h : Calls Tryz.prog f args X (Tell v X)) : Calls Tryz.prog f args X (SinceV v w) :=
  h.mono fun _ _ h => ⟨h.1, hX.trans (h.2.mono hX.size)⟩
theorem since_same {f : FuncId} {args : Array Value} {v : Value} {w X : World} (hX : Below w.heap.size w X) (h : Calls Tryz.prog f args X (Same v X)) : Calls Tryz.prog f args X (SinceV v w) :=
  h.mono fun _ _ h => ⟨h.1, h.2 ▸ hX⟩
theorem bl_ext (s : ByteArray) (k m : Nat) : bl (s.extract k m) = piece s k m := by rw [bl_extract, bl_mk]
theorem ext_size (s : ByteArray) (k m : Nat) : (s.extract k m).size ≤ m - k := by
  rw [← bl_length, bl_ext, piece, List.length_take]
  omega
theorem numbF_small (l : List UInt8) : ∀ w, l.length ≤ w → numbF l < 10 ^ w := by
  intro w hw
  have hp : 10 ^ l.length ≤ 10 ^ w := Nat.pow_le_pow_right (by omega) hw
  unfold numbF
  split
  · rename_i h
    have := (fixF_back l.length l rfl h.2).2
    omega
  · exact Nat.pow_pos (by omega)
theorem number_at (s : ByteArray) (k m : Nat) (h : m ≤ k + 8) (w : World) (ht : DTabs w) (X : World) (hX : Below w.heap.size w X) : Calls Tryz.prog 73 #[.string (s.extract k m)] X (SinceV (.int .u64 (numbF (piece s k m) : Int)) w) := by
  have := number_any (s.extract k m) (by have := ext_size s k m; omega) X (ht.syn.below hX)
  rw [bl_ext] at this
  exact since_tell hX this

/-- A clock's text, read. -/
def readClockF (s : ByteArray) : Nat := numbF (piece s 0 2) * 3600 + numbF (piece s 3 5) * 60 + numbF (piece s 6 8)
set_option maxHeartbeats 4000000 in
theorem read_clock (s : ByteArray) (hs : s.size = 8) (w : World) (ht : DTabs w) : Calls Tryz.prog 52 #[.string s] w (Tell (.int .u64 (readClockF s : Int)) w) := by
  have C1 := Lib.hid (number_at s 0 2 (by omega) w ht)
  have C2 := Lib.hid (number_at s 3 5 (by omega) w ht)
  have C3 := Lib.hid (number_at s 6 8 (by omega) w ht)
  have b1 := numbF_small (piece s 0 2) 2 (by simp [piece]; omega)
  have b2 := numbF_small (piece s 3 5) 2 (by simp [piece]; omega)
  have b3 := numbF_small (piece s 6 8) 2 (by simp [piece]; omega)
  have HR := Lib.hid (show readClockF s = numbF (piece s 0 2) * 3600 + numbF (piece s 3 5) * 60 + numbF (piece s 6 8) from rfl)
  have BD : Hid (Below w.heap.size w w.drew) := Lib.hid (below_drewN (Below.refl w.heap.size w) 1)
  generalize readClockF s = r at *
  generalize numbF (piece s 0 2) = x1 at *
  generalize numbF (piece s 3 5) = x2 at *
  generalize numbF (piece s 6 8) = x3 at *
  have w1 : IntKind.u64.wrap ((x1 : Int) * 3600) = (x1 : Int) * 3600 := wrap_u64 _ (by omega)
  have w2 : IntKind.u64.wrap ((x2 : Int) * 60) = (x2 : Int) * 60 := wrap_u64 _ (by omega)
  have w3 : IntKind.u64.wrap ((x1 : Int) * 3600 + (x2 : Int) * 60) = (x1 : Int) * 3600 + (x2 : Int) * 60 := wrap_u64 _ (by omega)
  have w4 : IntKind.u64.wrap ((x1 : Int) * 3600 + (x2 : Int) * 60 + (x3 : Int)) = (x1 : Int) * 3600 + (x2 : Int) * 60 + (x3 : Int) := wrap_u64 _ (by omega)
  clear ht
  go_enter Tryz.func52, Tryz.ntmps52
  go_wp2_with fail
  go_region_held3 (fun _ => True) (trivial)
    (first
      | (go_at_call 73; (with_reducible refine (C1.out w.drew BD.out).mono ?_); rintro e v5 ⟨rfl, b5⟩; have B5 := Lib.hid b5; clear b5)
      | (go_at_call 73; (with_reducible refine (C2.out _ B5.out).mono ?_); rintro e v6 ⟨rfl, b6⟩; have B6 := Lib.hid b6; clear b6)
      | (go_at_call 73; (with_reducible refine (C3.out _ B6.out).mono ?_); rintro e v7 ⟨rfl, b7⟩; have B7 := Lib.hid b7; clear b7))
  go_wp2_with fail
  go_ret
  exact ⟨ret_u64 (by rw [HR.out]; omega), B7.out⟩
end Go.Proofs.YtdcbcjljmjnopaaGreatDoor
