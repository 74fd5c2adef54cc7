/-
  AuthHolds: any text as a credential; whether any fields hold any token.
  Conditions: the fields' names and values hold no more than memory may; Go's table of powers of ten is as its text lays it.
-/
import Derived.Test.YtopanahgeeolbaaGreatDoorXK
namespace Go.Proofs.YtopanahgeeolbaaGreatDoor.Aut
open Go.RowKit Acl

set_option maxHeartbeats 4000000 in
set_option maxRecDepth 100000 in
theorem holds_law {P : Nat → Prop} (w : World) (tok : ByteArray) (A : Option Addr) (ls : List Fld) (n c : Nat) (hn : ls.length = n) (hmax : n * 32 ≤ 140737488351232) (h : SrcF w P A ls) (hs : Slim ls) (s : ByteArray) (hz : s.size ≤ 281474976710656) (hp : PowTab w) :
    Calls Tryz.prog 4 #[.string tok, .slice A n c, .string s] w fun e w' => e = .returned (.bool true) ∧ Below w.heap.size w w' := by
  have C1 := Lib.hid (cred_any s w hz)
  have C2 := Lib.hid (fun W : World => rcred_any s W hz)
  have C3 := Lib.hid (fun (W : World) (hB : Below w.heap.size w W) => holds_any tok W A ls n c hn (by omega) (h.below hB) hs.b)
  have C4 := Lib.hid (fun (W : World) (hB : Below w.heap.size w W) => rholds_any tok W A ls n c hn hmax (h.below hB) hs)
  have C5 := Lib.hid (fun (W : World) (hB : Below w.heap.size w W) => wakes_any W (hp.below hB))
  clear hn hmax h hs hz hp
  generalize holdsF (bl tok) ls = a at *
  obtain ⟨T, b, hc⟩ : ∃ (T : ByteArray) (b : Bool), credV (credF (bl s)) = .tuple #[.string T, .bool b] := by
    cases credF (bl s) with
    | none => exact ⟨_, _, rfl⟩
    | some t => exact ⟨_, _, rfl⟩
  rw [hc] at C1 C2
  clear hc
  go_enter Tryz.func4, Tryz.ntmps4
  go_wp2_with fail
  refine C1.out.mono ?_
  rintro e w1 ⟨rfl, b1⟩
  have B1 := Lib.hid b1
  clear b1
  go_wp2_with fail
  refine (C2.out _).mono ?_
  rintro e w2 ⟨rfl, b2⟩
  have B2 := Lib.hid (B1.out.trans (b2.mono B1.out.size))
  clear b2
  go_wp2_with fail
  refine (C3.out _ B2.out).mono ?_
  rintro e w3 ⟨rfl, b3⟩
  have B3 := Lib.hid (B2.out.trans (b3.mono B2.out.size))
  clear b3
  go_wp2_with fail
  refine (C4.out _ B3.out).mono ?_
  rintro e w4 ⟨rfl, b4⟩
  have B4 := Lib.hid (B3.out.trans (b4.mono B3.out.size))
  clear b4
  go_wp2_with fail
  refine (C5.out _ B4.out).mono ?_
  rintro e w5 ⟨rfl, b5⟩
  have B5 := Lib.hid (B4.out.trans (b5.mono B4.out.size))
  clear b5
  go_wp2_with fail
  go_ret
  exact ⟨rfl, B5.out⟩
end Go.Proofs.YtopanahgeeolbaaGreatDoor.Aut
