/-
  The contracts as values; wakes; the laws StartRequests and StartStatuses: walks.
  Conditions: those that each theorem names; Go's table of powers of ten is as its text lays it.
-/
import Derived.Test.YteggdakbebnjfaaDoorGF
import Derived.Test.YteggdakbebnjfaaDoorGC
namespace Go.Proofs.YteggdakbebnjfaaDoor
open Go.RowKit

/-- What is told of a request's line, of a response's line, of a line that was put. -/
def rqT : Option (List UInt8 × List UInt8 × Nat) → List UInt8 × List UInt8 × Int × Int
  | none => ([], [], 0, 5)
  | some (m, t, n) => (m, t, (n : Int), 0)
def rsT : Option (Nat × Nat × List UInt8) → Int × Int × List UInt8 × Int
  | none => (0, 0, [], 5)
  | some (n, s, r) => ((n : Int), (s : Int), r, 0)
def puT : Option (List UInt8) → List UInt8 × Int
  | none => ([], 1)
  | some l => (l, 0)
def rqV (x : List UInt8 × List UInt8 × Int × Int) : Value := .tuple #[.string ⟨x.1.toArray⟩, .string ⟨x.2.1.toArray⟩, .int .i64 x.2.2.1, .int .i64 x.2.2.2]
def rsV (x : Int × Int × List UInt8 × Int) : Value := .tuple #[.int .i64 x.1, .int .i64 x.2.1, .string ⟨x.2.2.1.toArray⟩, .int .i64 x.2.2.2]
def puV (x : List UInt8 × Int) : Value := .tuple #[.string ⟨x.1.toArray⟩, .int .i64 x.2]
def Tells (v : Value) (w : World) (e : Ending) (w' : World) : Prop := e = .returned v ∧ Below w.heap.size w w'
theorem ReqGot.tells {r : Option (List UInt8 × List UInt8 × Nat)} {w w' : World} {e : Ending} (h : ReqGot r w e w') : Tells (rqV (rqT r)) w e w' := by
  obtain ⟨b, h⟩ := h
  cases r with
  | none => exact ⟨h, b⟩
  | some x => exact ⟨h, b⟩
theorem StatGot.tells {r : Option (Nat × Nat × List UInt8)} {w w' : World} {e : Ending} (h : StatGot r w e w') : Tells (rsV (rsT r)) w e w' := by
  obtain ⟨b, h⟩ := h
  cases r with
  | none => exact ⟨h, b⟩
  | some x => exact ⟨h, b⟩
theorem PutGot.tells {r : Option (List UInt8)} {w w' : World} {e : Ending} (h : PutGot r w e w') : Tells (puV (puT r)) w e w' := by
  obtain ⟨b, h⟩ := h
  cases r with
  | none => exact ⟨h, b⟩
  | some x => exact ⟨h, b⟩

theorem request_at (s : ByteArray) (a b : List UInt8) (n k : Int) (h : rqT (reqF (bl s)) = (a, b, n, k)) (w : World) (hs : s.size ≤ 140737488355328) (hp : PowT w) :
    Calls Tryd.prog 7 #[.string s] w fun e w' => e = .returned (.tuple #[.string ⟨a.toArray⟩, .string ⟨b.toArray⟩, .int .i64 n, .int .i64 k]) ∧ Below w.heap.size w w' := by
  refine (request_any s w hs hp).mono fun e w' hg => ?_
  have := hg.tells
  rw [h] at this
  exact this
theorem status_at (s : ByteArray) (n st : Int) (r : List UInt8) (k : Int) (h : rsT (statF (bl s)) = (n, st, r, k)) (w : World) (hs : s.size ≤ 140737488355328) (hp : PowT w) :
    Calls Tryd.prog 12 #[.string s] w fun e w' => e = .returned (.tuple #[.int .i64 n, .int .i64 st, .string ⟨r.toArray⟩, .int .i64 k]) ∧ Below w.heap.size w w' := by
  refine (status_any s w hs hp).mono fun e w' hg => ?_
  have := hg.tells
  rw [h] at this
  exact this
theorem putreq_at (m t : ByteArray) (n : Int) (l : List UInt8) (k : Int) (h : puT (putReqF n (bl m) (bl t)) = (l, k)) (w : World) (hm : m.size ≤ 140737488355328) (ht : t.size ≤ 140737488355328) (hn : I64 n) (hp : PowT w) :
    Calls Tryd.prog 9 #[.string m, .string t, .int .i64 n] w fun e w' => e = .returned (.tuple #[.string ⟨l.toArray⟩, .int .i64 k]) ∧ Below w.heap.size w w' := by
  refine (putreq_any m t n w hm ht hn hp).mono fun e w' hg => ?_
  have := hg.tells
  rw [h] at this
  exact this
theorem putstat_at (n st : Int) (r : ByteArray) (l : List UInt8) (k : Int) (h : puT (putStatF n st (bl r)) = (l, k)) (w : World) (hr : r.size ≤ 140737488355328) (hn : I64 n) (hp : PowT w) :
    Calls Tryd.prog 14 #[.int .i64 n, .int .i64 st, .string r] w fun e w' => e = .returned (.tuple #[.string ⟨l.toArray⟩, .int .i64 k]) ∧ Below w.heap.size w w' := by
  refine (putstat_any n st r w hr hn hp).mono fun e w' hg => ?_
  have := hg.tells
  rw [h] at this
  exact this

set_option maxHeartbeats 4000000 in
theorem wakes_any (w : World) (hp : PowT w) : Calls Tryd.prog 11 #[] w fun e w' => e = .returned (.bool true) ∧ Below w.heap.size w w' := by
  have HP := Lib.hid hp
  clear hp
  go_enter Tryd.func11, Tryd.ntmps11
  go_wp2_with fail
  refine (request_at _ [71, 69, 84] [104, 116, 116, 112, 58, 47, 47, 97, 47] 1 0 (by decide +kernel) _ (by decide) HP.out).mono ?_
  rintro e w1 ⟨rfl, b1⟩
  go_wp2_with fail
  refine (request_at _ [] [] 0 5 (by decide +kernel) _ (by decide) (HP.out.below b1)).mono ?_
  rintro e w2 ⟨rfl, b2⟩
  have B2 := Lib.hid (b1.trans (b2.mono b1.size))
  clear b1 b2
  go_wp2_with fail
  refine (status_at _ 0 200 [79, 75] 0 (by decide +kernel) _ (by decide) (HP.out.below B2.out)).mono ?_
  rintro e w3 ⟨rfl, b3⟩
  have B3 := Lib.hid (B2.out.trans (b3.mono B2.out.size))
  clear b3 B2
  go_wp2_with fail
  refine (status_at _ 0 0 [] 5 (by decide +kernel) _ (by decide) (HP.out.below B3.out)).mono ?_
  rintro e w4 ⟨rfl, b4⟩
  have B4 := Lib.hid (B3.out.trans (b4.mono B3.out.size))
  clear b4 B3
  go_wp2_with fail
  refine (putstat_at 1 99 _ [] 1 (by decide +kernel) _ (by decide) ⟨by decide, by decide⟩ (HP.out.below B4.out)).mono ?_
  rintro e w5 ⟨rfl, b5⟩
  have B5 := Lib.hid (B4.out.trans (b5.mono B4.out.size))
  clear b5 B4
  go_wp2_with fail
  refine (reason_any 502 _ (by decide) (by decide)).mono ?_
  rintro e w6 ⟨rfl, b6⟩
  have B6 := Lib.hid (B5.out.trans (b6.mono B5.out.size))
  clear b6 B5
  rw [show reasonF 502 = [66, 97, 100, 32, 71, 97, 116, 101, 119, 97, 121] from rfl]
  go_wp2_with fail
  go_ret
  exact ⟨rfl, B6.out⟩

set_option maxHeartbeats 4000000 in
theorem requests_true (s m t : ByteArray) (n : Int) (w : World) (hs : s.size ≤ 1048576) (hm : m.size ≤ 1048576) (ht : t.size ≤ 1048576) (hn : I64 n) (hp : PowT w) :
    Calls Tryd.prog 3 #[.string s, .string m, .string t, .int .i64 n] w fun e w' => e = .returned (.bool true) ∧ Below w.heap.size w w' := by
  have C1 := Lib.hid (fun (X : World) (hX : PowT X) => (request_any s X (by omega) hX).mono (fun _ _ h => h.tells))
  have C2 := Lib.hid (fun (X : World) => (rreq_any s X (by omega)).mono (fun _ _ h => h.tells))
  have C3 := Lib.hid (fun (X : World) (hX : PowT X) => (putreq_any m t n X (by omega) (by omega) hn hX).mono (fun _ _ h => h.tells))
  have C4 := Lib.hid (fun (X : World) => (rputreq_any n m t X (by omega)).mono (fun _ _ h => h.tells))
  have CW := Lib.hid (fun (X : World) (hX : PowT X) => wakes_any X hX)
  generalize rqT (reqF (bl s)) = p at *
  generalize puT (putReqF n (bl m) (bl t)) = q at *
  obtain ⟨p1, p2, p3, p4⟩ := p
  obtain ⟨q1, q2⟩ := q
  have HP := Lib.hid hp
  clear hp hs hm ht hn
  unfold Tells rqV at C1 C2
  unfold Tells puV at C3 C4
  go_enter Tryd.func3, Tryd.ntmps3
  go_wp2_with fail
  refine (C1.out _ HP.out).mono ?_
  rintro e w1 ⟨rfl, b1⟩
  go_wp2_with fail
  refine (C2.out _).mono ?_
  rintro e w2 ⟨rfl, b2⟩
  have B2 := Lib.hid (b1.trans (b2.mono b1.size))
  clear b1 b2
  go_wp2_with fail
  refine (C3.out _ (HP.out.below B2.out)).mono ?_
  rintro e w3 ⟨rfl, b3⟩
  have B3 := Lib.hid (B2.out.trans (b3.mono B2.out.size))
  clear b3 B2
  go_wp2_with fail
  refine (C4.out _).mono ?_
  rintro e w4 ⟨rfl, b4⟩
  have B4 := Lib.hid (B3.out.trans (b4.mono B3.out.size))
  clear b4 B3
  go_wp2_with fail
  refine (CW.out _ (HP.out.below B4.out)).mono ?_
  rintro e w5 ⟨rfl, b5⟩
  have B5 := Lib.hid (B4.out.trans (b5.mono B4.out.size))
  clear b5 B4
  go_wp2_with fail
  go_ret
  exact ⟨rfl, B5.out⟩
set_option maxHeartbeats 4000000 in
theorem statuses_true (s : ByteArray) (n st : Int) (r : ByteArray) (w : World) (hs : s.size ≤ 140737488355328) (hr : r.size ≤ 140737488351232) (hn : I64 n) (hst : I64 st) (hp : PowT w) :
    Calls Tryd.prog 4 #[.string s, .int .i64 n, .int .i64 st, .string r] w fun e w' => e = .returned (.bool true) ∧ Below w.heap.size w w' := by
  have C1 := Lib.hid (fun (X : World) (hX : PowT X) => (status_any s X (by omega) hX).mono (fun _ _ h => h.tells))
  have C2 := Lib.hid (fun (X : World) => (rstat_any s X (by omega)).mono (fun _ _ h => h.tells))
  have C3 := Lib.hid (fun (X : World) (hX : PowT X) => (putstat_any n st r X (by omega) hn hX).mono (fun _ _ h => h.tells))
  have C4 := Lib.hid (fun (X : World) => (rputstat_any n st r X (by omega)).mono (fun _ _ h => h.tells))
  have C5 := Lib.hid (fun (X : World) => reason_any st X hst.1 hst.2)
  have C6 := Lib.hid (fun (X : World) => rreason st X)
  have CW := Lib.hid (fun (X : World) (hX : PowT X) => wakes_any X hX)
  generalize rsT (statF (bl s)) = p at *
  generalize puT (putStatF n st (bl r)) = q at *
  generalize reasonF st = R at *
  obtain ⟨p1, p2, p3, p4⟩ := p
  obtain ⟨q1, q2⟩ := q
  have HP := Lib.hid hp
  clear hp hs hr hn hst
  unfold Tells rsV at C1 C2
  unfold Tells puV at C3 C4
  go_enter Tryd.func4, Tryd.ntmps4
  go_wp2_with fail
  refine (C1.out _ HP.out).mono ?_
  rintro e w1 ⟨rfl, b1⟩
  go_wp2_with fail
  refine (C2.out _).mono ?_
  rintro e w2 ⟨rfl, b2⟩
  have B2 := Lib.hid (b1.trans (b2.mono b1.size))
  clear b1 b2
  go_wp2_with fail
  refine (C3.out _ (HP.out.below B2.out)).mono ?_
  rintro e w3 ⟨rfl, b3⟩
  have B3 := Lib.hid (B2.out.trans (b3.mono B2.out.size))
  clear b3 B2
  go_wp2_with fail
  refine (C4.out _).mono ?_
  rintro e w4 ⟨rfl, b4⟩
  have B4 := Lib.hid (B3.out.trans (b4.mono B3.out.size))
  clear b4 B3
  go_wp2_with fail
  refine (C5.out _).mono ?_
  rintro e w5 ⟨rfl, b5⟩
  have B5 := Lib.hid (B4.out.trans (b5.mono B4.out.size))
  clear b5 B4
  go_wp2_with fail
  refine (C6.out _).mono ?_
  rintro e w6 ⟨rfl, rfl⟩
  go_wp2_with fail
  refine (CW.out _ (HP.out.below B5.out)).mono ?_
  rintro e w7 ⟨rfl, b7⟩
  have B7 := Lib.hid (B5.out.trans (b7.mono B5.out.size))
  clear b7 B5
  go_wp2_with fail
  go_ret
  exact ⟨rfl, B7.out⟩
end Go.Proofs.YteggdakbebnjfaaDoor
