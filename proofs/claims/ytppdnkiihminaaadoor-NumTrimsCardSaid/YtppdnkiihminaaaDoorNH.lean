/-
  The laws NumReads, NumWrites, NumKnown: walks.
  Conditions: the two tables of Go's library that are read hold what its text lays.
-/
import Derived.Test.YtppdnkiihminaaaDoorNG
namespace Go.Proofs.YtppdnkiihminaaaDoor
open Go.RowKit

/-- The tables that are read. -/
def Tabs (w : World) : Prop := PowTab w ∧ ZeroTab w
theorem Tabs.below {w w' : World} (h : Tabs w) (hb : Below w.heap.size w w') : Tabs w' := ⟨h.1.below hb, h.2.below hb⟩

theorem dec_at (s : ByteArray) (a b : Int) (h : ((readF 10 (bl s)).1 : Int) = a ∧ ((readF 10 (bl s)).2 : Int) = b) (w : World) : Calls Tryd.prog 8 #[.string s] w fun e w' => e = .returned (.tuple #[.int .u64 a, .int .i64 b]) ∧ Below w.heap.size w w' := by
  rw [← h.1, ← h.2]
  exact decimal_any s w
theorem hex_at (s : ByteArray) (a b : Int) (h : ((readF 16 (bl s)).1 : Int) = a ∧ ((readF 16 (bl s)).2 : Int) = b) (w : World) : Calls Tryd.prog 10 #[.string s] w fun e w' => e = .returned (.tuple #[.int .u64 a, .int .i64 b]) ∧ Below w.heap.size w w' := by
  rw [← h.1, ← h.2]
  exact hex_any s w
theorem text_at (n : Int) (k : Nat) (hn : n = k) (s : ByteArray) (b : Int) (h : (⟨(writeF 10 k).1.toArray⟩ : ByteArray) = s ∧ ((writeF 10 k).2 : Int) = b) (w : World) (ht : Tabs w) : Calls Tryd.prog 13 #[.int .u64 n] w fun e w' => e = .returned (.tuple #[.string s, .int .i64 b]) ∧ Below w.heap.size w w' := by
  subst hn
  rw [← h.1, ← h.2]
  exact text_any k w ht.1
theorem hextext_at (n : Int) (k : Nat) (hn : n = k) (s : ByteArray) (b : Int) (h : (⟨(writeF 16 k).1.toArray⟩ : ByteArray) = s ∧ ((writeF 16 k).2 : Int) = b) (w : World) (ht : Tabs w) : Calls Tryd.prog 15 #[.int .u64 n] w fun e w' => e = .returned (.tuple #[.string s, .int .i64 b]) ∧ Below w.heap.size w w' := by
  subst hn
  rw [← h.1, ← h.2]
  exact hextext_any k w ht.2

set_option maxHeartbeats 1000000 in
theorem awake_any (w : World) (ht : Tabs w) : Calls Tryd.prog 12 #[] w fun e w' => e = .returned (.bool true) ∧ Below w.heap.size w w' := by
  have HT := Lib.hid ht
  clear ht
  go_enter Tryd.func12, Tryd.ntmps12
  go_wp2_with fail
  refine (dec_at _ 42 0 (by decide +kernel) _).mono ?_
  rintro e w1 ⟨rfl, b1⟩
  go_wp2_with fail
  refine (hex_at _ 255 0 (by decide +kernel) _).mono ?_
  rintro e w2 ⟨rfl, b2⟩
  have B2 := Lib.hid (b1.trans (b2.mono b1.size))
  clear b1 b2
  go_wp2_with fail
  refine (hextext_at 255 255 rfl ⟨#[102, 102]⟩ 0 (by decide +kernel) _ (HT.out.below B2.out)).mono ?_
  rintro e w3 ⟨rfl, b3⟩
  have B3 := Lib.hid (B2.out.trans (b3.mono B2.out.size))
  clear b3 B2
  go_wp2_with fail
  go_ret
  exact ⟨rfl, B3.out⟩

set_option maxHeartbeats 1000000 in
theorem reads_true (s : ByteArray) (w : World) (hs : s.size ≤ 140737488355328) (ht : Tabs w) : Calls Tryd.prog 3 #[.string s] w fun e w' => e = .returned (.bool true) ∧ Below w.heap.size w w' := by
  have HT := Lib.hid ht
  have HS := Lib.hid hs
  clear ht hs
  have C1 := Lib.hid (fun W : World => decimal_any s W)
  have C2 := Lib.hid (fun W : World => rdecimal_any s W HS.out)
  have C3 := Lib.hid (fun W : World => hex_any s W)
  have C4 := Lib.hid (fun W : World => rhex_any s W HS.out)
  generalize readF 10 (bl s) = p at *
  generalize readF 16 (bl s) = q at *
  go_enter Tryd.func3, Tryd.ntmps3
  go_wp2_with fail
  refine (C1.out _).mono ?_
  rintro e w1 ⟨rfl, b1⟩
  go_wp2_with fail
  refine (C2.out _).mono ?_
  rintro e w2 ⟨rfl, rfl⟩
  go_wp2_with fail
  refine (C3.out _).mono ?_
  rintro e w3 ⟨rfl, b3⟩
  have B3 := Lib.hid (b1.trans (b3.mono b1.size))
  clear b1 b3
  go_wp2_with fail
  refine (C4.out _).mono ?_
  rintro e w4 ⟨rfl, rfl⟩
  go_wp2_with fail
  refine (awake_any _ (HT.out.below B3.out)).mono ?_
  rintro e w5 ⟨rfl, b5⟩
  have B5 := Lib.hid (B3.out.trans (b5.mono B3.out.size))
  clear b5 B3
  go_wp2_with fail
  go_ret
  exact ⟨rfl, B5.out⟩

set_option maxHeartbeats 1000000 in
theorem writes_true (n : Nat) (w : World) (ht : Tabs w) : Calls Tryd.prog 4 #[.int .u64 (n : Int)] w fun e w' => e = .returned (.bool true) ∧ Below w.heap.size w w' := by
  have HT := Lib.hid ht
  clear ht
  have C1 := Lib.hid (fun (W : World) h => text_any n W h)
  have C2 := Lib.hid (fun W : World => rtext_any n W)
  have C3 := Lib.hid (fun (W : World) h => hextext_any n W h)
  have C4 := Lib.hid (fun W : World => rhextext_any n W)
  generalize writeF 10 n = p at *
  generalize writeF 16 n = q at *
  obtain ⟨p1, p2⟩ := p
  obtain ⟨q1, q2⟩ := q
  generalize (⟨p1.toArray⟩ : ByteArray) = ps at *
  go_enter Tryd.func4, Tryd.ntmps4
  go_wp2_with fail
  refine (C1.out _ HT.out.1).mono ?_
  rintro e w1 ⟨rfl, b1⟩
  have B1 := Lib.hid b1
  clear b1
  go_wp2_with fail
  refine (C2.out _).mono ?_
  rintro e w2 ⟨rfl, rfl⟩
  go_wp2_with fail
  refine (C3.out _ (HT.out.below B1.out).2).mono ?_
  rintro e w3 ⟨rfl, b3⟩
  have B3 := Lib.hid (B1.out.trans (b3.mono B1.out.size))
  clear B1 b3
  go_wp2_with fail
  refine (C4.out _).mono ?_
  rintro e w4 ⟨rfl, rfl⟩
  go_wp2_with fail
  refine (awake_any _ (HT.out.below B3.out)).mono ?_
  rintro e w5 ⟨rfl, b5⟩
  have B5 := Lib.hid (B3.out.trans (b5.mono B3.out.size))
  clear b5 B3
  go_wp2_with fail
  go_ret
  exact ⟨rfl, B5.out⟩

set_option maxHeartbeats 4000000 in
set_option maxRecDepth 100000 in
theorem num_known_true (w : World) (ht : Tabs w) : Calls Tryd.prog 7 #[] w fun e w' => e = .returned (.bool true) ∧ Below w.heap.size w w' := by
  have HT := Lib.hid ht
  clear ht
  go_enter Tryd.func7, Tryd.ntmps7
  go_wp2_with fail
  refine (dec_at _ 0 5 (by decide +kernel) _).mono ?_
  rintro e w1 ⟨rfl, b1⟩
  have B1 := Lib.hid b1
  clear b1
  go_wp2_with fail
  refine (dec_at _ 0 5 (by decide +kernel) _).mono ?_
  rintro e w2 ⟨rfl, b2⟩
  have B2 := Lib.hid (B1.out.trans (b2.mono B1.out.size))
  clear b2 B1
  go_wp2_with fail
  refine (dec_at _ 0 3 (by decide +kernel) _).mono ?_
  rintro e w3 ⟨rfl, b3⟩
  have B3 := Lib.hid (B2.out.trans (b3.mono B2.out.size))
  clear b3 B2
  go_wp2_with fail
  refine (dec_at _ 9007199254740991 0 (by decide +kernel) _).mono ?_
  rintro e w4 ⟨rfl, b4⟩
  have B4 := Lib.hid (B3.out.trans (b4.mono B3.out.size))
  clear b4 B3
  go_wp2_with fail
  refine (hex_at _ 0 5 (by decide +kernel) _).mono ?_
  rintro e w5 ⟨rfl, b5⟩
  have B5 := Lib.hid (B4.out.trans (b5.mono B4.out.size))
  clear b5 B4
  go_wp2_with fail
  refine (hex_at _ 0 3 (by decide +kernel) _).mono ?_
  rintro e w6 ⟨rfl, b6⟩
  have B6 := Lib.hid (B5.out.trans (b6.mono B5.out.size))
  clear b6 B5
  go_wp2_with fail
  refine (hex_at _ 9007199254740991 0 (by decide +kernel) _).mono ?_
  rintro e w7 ⟨rfl, b7⟩
  have B7 := Lib.hid (B6.out.trans (b7.mono B6.out.size))
  clear b7 B6
  go_wp2_with fail
  refine (text_at 0 0 rfl ⟨#[48]⟩ 0 (by decide +kernel) _ (HT.out.below B7.out)).mono ?_
  rintro e w8 ⟨rfl, b8⟩
  have B8 := Lib.hid (B7.out.trans (b8.mono B7.out.size))
  clear b8 B7
  go_wp2_with fail
  refine (text_at 9007199254740992 9007199254740992 rfl ⟨#[]⟩ 1 (by decide +kernel) _ (HT.out.below B8.out)).mono ?_
  rintro e w9 ⟨rfl, b9⟩
  have B9 := Lib.hid (B8.out.trans (b9.mono B8.out.size))
  clear b9 B8
  go_wp2_with fail
  refine (dec_at _ 0 3 (by decide +kernel) _).mono ?_
  rintro e w10 ⟨rfl, b10⟩
  have B10 := Lib.hid (B9.out.trans (b10.mono B9.out.size))
  clear b10 B9
  go_wp2_with fail
  refine (dec_at _ 0 5 (by decide +kernel) _).mono ?_
  rintro e w11 ⟨rfl, b11⟩
  have B11 := Lib.hid (B10.out.trans (b11.mono B10.out.size))
  clear b11 B10
  go_wp2_with fail
  refine (hex_at _ 0 5 (by decide +kernel) _).mono ?_
  rintro e w12 ⟨rfl, b12⟩
  have B12 := Lib.hid (B11.out.trans (b12.mono B11.out.size))
  clear b12 B11
  go_wp2_with fail
  refine (awake_any _ (HT.out.below B12.out)).mono ?_
  rintro e w13 ⟨rfl, b13⟩
  have B13 := Lib.hid (B12.out.trans (b13.mono B12.out.size))
  clear b13 B12
  go_wp2_with fail
  go_ret
  exact ⟨rfl, B13.out⟩
end Go.Proofs.YtppdnkiihminaaaDoor
