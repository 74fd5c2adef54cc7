/-
  The word of the landed code's contracts; the laws' awake over it.
  Conditions: those that each theorem names.
-/
import Derived.Test.YtemgfppclakdmaaGreatDoorMH
import Derived.Test.YtemgfppclakdmaaGreatDoorMI
import Derived.Test.YtemgfppclakdmaaGreatDoorCF
import Derived.Test.YtemgfppclakdmaaGreatDoorGD
namespace Go.Proofs.YtemgfppclakdmaaGreatDoor
open Go.RowKit

/-- What is put, as bytes that have room. -/
def PutGot9 (R : List UInt8 × Nat) (w : World) (e : Ending) (w' : World) : Prop := ∃ A c, e = .returned (.tuple #[.slice A R.1.length c, .int .i64 (R.2 : Int)]) ∧ R.1.length ≤ c ∧ Src w' (fun _ => True) A R.1 ∧ Below w.heap.size w w'
/-- The landed code's contracts, in the document's words. -/
structure MsgC : Prop where
  request : ∀ (w : World) (A : Option Addr) (bs : List UInt8) (n c : Nat), bs.length = n → n ≤ c → n ≤ 140737488351232 → Src w (fun _ => True) A bs → Sta.PowT w → Calls Tryz.prog 9 #[.slice A n c] w (RqGot9 (requestM bs) w)
  response : ∀ (w : World) (A : Option Addr) (bs : List UInt8) (n c : Nat) (m : ByteArray) (ended : Bool), bs.length = n → n ≤ c → n ≤ 140737488351232 → m.size ≤ 140737488351232 → Src w (fun _ => True) A bs → Sta.PowT w → Calls Tryz.prog 11 #[.slice A n c, .string m, .bool ended] w (RsGot9 (responseM bs (bl m) ended) w)
  putRequest : ∀ (w : World) (m t : ByteArray) (k : Int) (A D : Option Addr) (ls : List Fld) (bs : List UInt8) (n c l d : Nat), ls.length = n → bs.length = l → m.size ≤ 140737488351232 → t.size ≤ 140737488351232 → Sta.I64 k → bulkF ls ≤ 1000000000 → l ≤ 140737488351232 → SrcF w (fun _ => True) A ls → Src w (fun _ => True) D bs → Sta.PowT w →
    Calls Tryz.prog 19 #[.agg #[.string m, .string t, .int .i64 k, .slice A n c, .slice D l d]] w (PutGot9 (putReqM (bl m) (bl t) k ls bs) w)
  putResponse : ∀ (w : World) (st : Int) (r m : ByteArray) (k : Int) (A D : Option Addr) (ls : List Fld) (bs : List UInt8) (n c l d : Nat), ls.length = n → bs.length = l → r.size ≤ 140737488351232 → m.size ≤ 140737488351232 → Sta.I64 k → Sta.I64 st → bulkF ls ≤ 1000000000 → l ≤ 140737488351232 → SrcF w (fun _ => True) A ls → Src w (fun _ => True) D bs → Sta.PowT w →
    Calls Tryz.prog 20 #[.agg #[.int .i64 st, .string r, .int .i64 k, .slice A n c, .slice D l d], .string m] w (PutGot9 (putResM k st (bl r) ls bs (bl m)) w)
  sameRequest : ∀ (w : World) (s0 s0' s1 s1' : ByteArray) (i2 i2' : Int) (A A' D D' : Option Addr) (ls ls' : List Fld) (bs bs' : List UInt8) (n n' c c' m m' d d' : Nat), ls.length = n → ls'.length = n' → n ≤ 140737488351232 → bs.length = m → bs'.length = m' → SrcF w (fun _ => True) A ls → SrcF w (fun _ => True) A' ls' → Src w (fun _ => True) D bs → Src w (fun _ => True) D' bs' →
    Calls Tryz.prog 17 #[.agg #[.string s0, .string s1, .int .i64 i2, .slice A n c, .slice D m d], .agg #[.string s0', .string s1', .int .i64 i2', .slice A' n' c', .slice D' m' d']] w fun e w' => e = .returned (.bool (decide (bl s0 = bl s0' ∧ bl s1 = bl s1' ∧ i2 = i2' ∧ ls = ls' ∧ bs = bs'))) ∧ Below w.heap.size w w'
  sameResponse : ∀ (w : World) (i0 i0' : Int) (s1 s1' : ByteArray) (i2 i2' : Int) (A A' D D' : Option Addr) (ls ls' : List Fld) (bs bs' : List UInt8) (n n' c c' m m' d d' : Nat), ls.length = n → ls'.length = n' → n ≤ 140737488351232 → bs.length = m → bs'.length = m' → SrcF w (fun _ => True) A ls → SrcF w (fun _ => True) A' ls' → Src w (fun _ => True) D bs → Src w (fun _ => True) D' bs' →
    Calls Tryz.prog 18 #[.agg #[.int .i64 i0, .string s1, .int .i64 i2, .slice A n c, .slice D m d], .agg #[.int .i64 i0', .string s1', .int .i64 i2', .slice A' n' c', .slice D' m' d']] w fun e w' => e = .returned (.bool (decide (i0 = i0' ∧ bl s1 = bl s1' ∧ i2 = i2' ∧ ls = ls' ∧ bs = bs'))) ∧ Below w.heap.size w w'

/-- A request as its parts. -/
def RqTold (R : RqM × List Fld × List UInt8) (u f : Nat) (X : World) (e : Ending) (w' : World) : Prop := ∃ Af cf Ab cb, e = .returned (.tuple #[.agg #[.string ⟨R.1.1.toArray⟩, .string ⟨R.1.2.1.toArray⟩, .int .i64 (R.1.2.2 : Int), .slice Af R.2.1.length cf, .slice Ab R.2.2.length cb], .int .i64 (u : Int), .int .i64 (f : Int)]) ∧
  SrcF w' (fun _ => True) Af R.2.1 ∧ Src w' (fun _ => True) Ab R.2.2 ∧ Below X.heap.size X w'
def RsTold (R : RsM × List Fld × List UInt8) (u f : Nat) (X : World) (e : Ending) (w' : World) : Prop := ∃ Af cf Ab cb, e = .returned (.tuple #[.agg #[.int .i64 (R.1.2.1 : Int), .string ⟨R.1.2.2.toArray⟩, .int .i64 (R.1.1 : Int), .slice Af R.2.1.length cf, .slice Ab R.2.2.length cb], .int .i64 (u : Int), .int .i64 (f : Int)]) ∧
  SrcF w' (fun _ => True) Af R.2.1 ∧ Src w' (fun _ => True) Ab R.2.2 ∧ Below X.heap.size X w'
theorem RqGot9.told {R : Option (RqM × List Fld × List UInt8) × Nat × Nat} {w w' : World} {e : Ending} (h : RqGot9 R w e w') : RqTold (R.1.getD rqZ) R.2.1 R.2.2 w e w' := by
  obtain ⟨fv, fo, bv, bo, rfl, h1, h2, _, _, h5⟩ := h
  obtain ⟨A, c, rfl, s⟩ := h1.src (fun _ => True) (fun _ _ => trivial)
  obtain ⟨A', c', rfl, s'⟩ := h2.src (fun _ => True) (fun _ _ => trivial)
  exact ⟨A, c, A', c', rfl, s, s', h5⟩
theorem RsGot9.told {R : Option (RsM × List Fld × List UInt8) × Nat × Nat} {w w' : World} {e : Ending} (h : RsGot9 R w e w') : RsTold (R.1.getD rsZ) R.2.1 R.2.2 w e w' := by
  obtain ⟨fv, fo, bv, bo, rfl, h1, h2, _, _, h5⟩ := h
  obtain ⟨A, c, rfl, s⟩ := h1.src (fun _ => True) (fun _ _ => trivial)
  obtain ⟨A', c', rfl, s'⟩ := h2.src (fun _ => True) (fun _ _ => trivial)
  exact ⟨A, c, A', c', rfl, s, s', h5⟩
theorem req_lit (HC : MsgC) (bs : List UInt8) (a : RqM × List Fld × List UInt8) (u f : Nat) (hR : requestM bs = (some a, u, f) ∨ (requestM bs = (none, u, f) ∧ a = rqZ)) (cur : Array Value) (hc : (vals bs).toArray = cur) (n : Nat) (hn : bs.length = n) (hmax : n ≤ 100000) (X : World) (hp : Sta.PowT X) :
    Calls Tryz.prog 9 #[.slice (some ⟨X.heap.size, 0, none⟩) n n] (X.alloc (.cells cur 5 (n, n + 1))) (RqTold a u f X) := by
  have hb : Below X.heap.size X (X.alloc (.cells cur 5 (n, n + 1))) := (Below.refl _ _).alloc (Nat.le_refl _) _
  refine (HC.request _ _ bs n n hn (Nat.le_refl _) (by omega) (src_marked X bs cur hc _) (hp.below hb)).mono ?_
  intro e w' h
  obtain ⟨A, c, A', c', h1, h2, h3, h4⟩ := h.told
  rcases hR with hR | ⟨hR, rfl⟩
  · rw [hR] at h1 h2 h3
    exact ⟨A, c, A', c', h1, h2, h3, hb.trans (h4.mono hb.size)⟩
  · rw [hR] at h1 h2 h3
    exact ⟨A, c, A', c', h1, h2, h3, hb.trans (h4.mono hb.size)⟩
theorem res_lit (HC : MsgC) (bs : List UInt8) (m : ByteArray) (ended : Bool) (hm : m.size ≤ 100000) (a : RsM × List Fld × List UInt8) (u f : Nat) (hR : responseM bs (bl m) ended = (some a, u, f) ∨ (responseM bs (bl m) ended = (none, u, f) ∧ a = rsZ)) (cur : Array Value) (hc : (vals bs).toArray = cur) (n : Nat) (hn : bs.length = n) (hmax : n ≤ 100000) (X : World) (hp : Sta.PowT X) :
    Calls Tryz.prog 11 #[.slice (some ⟨X.heap.size, 0, none⟩) n n, .string m, .bool ended] (X.alloc (.cells cur 5 (n, n + 1))) (RsTold a u f X) := by
  have hb : Below X.heap.size X (X.alloc (.cells cur 5 (n, n + 1))) := (Below.refl _ _).alloc (Nat.le_refl _) _
  refine (HC.response _ _ bs n n m ended hn (Nat.le_refl _) (by omega) (by omega) (src_marked X bs cur hc _) (hp.below hb)).mono ?_
  intro e w' h
  obtain ⟨A, c, A', c', h1, h2, h3, h4⟩ := h.told
  rcases hR with hR | ⟨hR, rfl⟩
  · rw [hR] at h1 h2 h3
    exact ⟨A, c, A', c', h1, h2, h3, hb.trans (h4.mono hb.size)⟩
  · rw [hR] at h1 h2 h3
    exact ⟨A, c, A', c', h1, h2, h3, hb.trans (h4.mono hb.size)⟩
def wkA : List UInt8 := [80, 79, 83, 84, 32, 47, 32, 72, 84, 84, 80, 47, 49, 46, 49, 13, 10, 67, 111, 110, 116, 101, 110, 116, 45, 76, 101, 110, 103, 116, 104, 58, 32, 50, 13, 10, 13, 10, 97, 98, 99]
def wkB : List UInt8 := [72, 84, 84, 80, 47, 49, 46, 49, 32, 50, 48, 48, 32, 79, 75, 13, 10, 13, 10, 97, 98]
def wkC : List UInt8 := [71, 69, 84, 32, 47, 32, 72, 84, 84, 80, 47, 49, 46, 49, 13, 10, 72, 111, 115, 116, 58, 32, 120, 13, 10, 13, 10]
theorem msg_eq {α : Type} {R : Option (α × List Fld × List UInt8) × Nat × Nat} {a : α} {l : List Fld} {x : List UInt8} {u f : Nat} (h1 : R.1.map (fun y => y.1) = some a) (h2 : R.1.map (fun y => y.2.1) = some l) (h3 : R.1.map (fun y => y.2.2) = some x) (h4 : R.2 = (u, f)) : R = (some (a, l, x), u, f) := by
  obtain ⟨r, v⟩ := R
  simp only at h1 h2 h3 h4
  cases r with
  | none => cases h1
  | some y =>
    obtain ⟨y1, y2, y3⟩ := y
    simp only [Option.map_some, Option.some.injEq] at h1 h2 h3
    rw [h1, h2, h3, h4]
theorem msg_none {α : Type} {R : Option (α × List Fld × List UInt8) × Nat × Nat} {u f : Nat} (h1 : R.1.isNone = true) (h4 : R.2 = (u, f)) : R = (none, u, f) := by
  obtain ⟨r, v⟩ := R
  simp only at h1 h4
  rw [Option.isNone_iff_eq_none.1 h1, h4]
theorem wake9a : requestM wkA = (some (([80, 79, 83, 84], [47], 1), [(clN9, [50])], [97, 98]), 40, 0) := msg_eq (by decide +kernel) (by decide +kernel) (by decide +kernel) (by decide +kernel)
theorem wake9b : responseM wkB [71, 69, 84] true = (some ((1, 200, [79, 75]), [], [97, 98]), 21, 0) := msg_eq (by decide +kernel) (by decide +kernel) (by decide +kernel) (by decide +kernel)
theorem wake9c : responseM wkB [71, 69, 84] false = (none, 0, 8) := msg_none (by decide +kernel) (by decide +kernel)
theorem wake9d : putReqM [71, 69, 84] [47] 1 [([72, 111, 115, 116], [120])] [] = (wkC, 0) := by decide +kernel
end Go.Proofs.YtemgfppclakdmaaGreatDoor
