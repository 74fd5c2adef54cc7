/-
  AuthKnown: the chapter's rows, limits.
  Conditions: Go's table of powers of ten is as its text lays it.
-/
import Derived.Test.YtopanahgeeolbaaGreatDoorXR
import Derived.Great.BuildSlice
import Derived.Great.Walk
import Derived.Deep.WholeRow
import Derived.Deep.DeepMust
namespace Go.Proofs.YtopanahgeeolbaaGreatDoor.Aut
open Go.RowKit Acl

theorem run_one_x (w : World) (c : UInt8) (z : Int) (hz : z = (c.toNat : Int)) : (convert 47 9 (.slice (some ⟨w.heap.size, 0, none⟩) 1 1)).run Tryz.prog (w.alloc (.cells #[.int .u8 z] 5)) = .ok (.string ⟨#[c]⟩) (w.alloc (.cells #[.int .u8 z] 5)) := by
  subst hz
  exact run_text _ (some ⟨w.heap.size, 0, none⟩) [c] 1 1 rfl ((Is.made w 5 (vals [c])).src (fun _ => True) trivial)
/-- A tenant whose token is one small letter. -/
def letC (j : Nat) : UInt8 := UInt8.ofNat (97 + j)
def letT (j : Nat) : TeE := miniT ⟨#[letC j]⟩
def lets (k : Nat) : List TeE := (List.range k).map letT
theorem lets_len (k : Nat) : (lets k).length = k := by simp [lets]
theorem lets_succ (k : Nat) : lets k ++ [letT k] = lets (k + 1) := by simp [lets, List.range_succ]
theorem lets_ok (k : Nat) (w : World) : ∀ t ∈ lets k, t.Ok w := fun t ht => by
  obtain ⟨j, _, rfl⟩ := List.mem_map.1 ht
  exact mini_ok _ _ (show 1 ≤ _ by decide)
theorem letC_nat (j : Nat) (h : j < 8) : (97 : Int) + (j : Int) = ((letC j).toNat : Int) := by
  unfold letC
  rw [UInt8.toNat_ofNat']
  omega
theorem arrTen : (Tryz.prog.info? 27).map (·.size) = some 9 := by kernel_rfl
theorem run_at_ten (g k : Nat) (hk : k < 16) (W : World) : (Instr.indexAt 48 (.pointer (some ⟨g, 0, none⟩)) (.int .i64 (k : Int))).run Tryz.prog W = .ok (.pointer (some ⟨g, k * 9, none⟩)) W := by
  obtain ⟨i, hi, hs⟩ := Option.map_eq_some_iff.1 arrTen
  simp [Instr.indexAt, run_underlying Tryz.underlying48, asIntOf, hk, sizeOf, typeInfo, hi, hs, Instr.sureAddr, add_at]
def strLen : Value → Nat
  | .string s => s.size
  | _ => 0
def zeR : RuE := ⟨false, ⟨#[]⟩, 0, 0, none, 0, 0, []⟩
/-- The tenants that may not be, before one number of each is turned, and behind that. -/
def bad0 (T2 : ByteArray) : List TeE := [miniT ⟨#[]⟩, miniT T2, miniT ⟨#[97, 32, 98]⟩, miniT ⟨#[61, 61]⟩, miniT ⟨#[97]⟩, miniT ⟨#[97]⟩, miniT ⟨#[97]⟩, miniT ⟨#[97]⟩, miniT ⟨#[97]⟩, miniT ⟨#[97]⟩, miniT ⟨#[97]⟩, miniT ⟨#[97]⟩, miniT ⟨#[97]⟩, miniT ⟨#[97]⟩, miniT ⟨#[97]⟩, miniT ⟨#[97]⟩]
def bad0A (T2 : ByteArray) : Array Value := #[.string ⟨#[]⟩, .slice none 0 0, .int .i64 0, .int .i64 0, .int .i64 1, .int .i64 1, .int .i64 0, .int .i64 1, .int .i64 1, .string T2, .slice none 0 0, .int .i64 0, .int .i64 0, .int .i64 1, .int .i64 1, .int .i64 0, .int .i64 1, .int .i64 1, .string ⟨#[97, 32, 98]⟩, .slice none 0 0, .int .i64 0, .int .i64 0, .int .i64 1, .int .i64 1, .int .i64 0, .int .i64 1, .int .i64 1, .string ⟨#[61, 61]⟩, .slice none 0 0, .int .i64 0, .int .i64 0, .int .i64 1, .int .i64 1, .int .i64 0, .int .i64 1, .int .i64 1, .string ⟨#[97]⟩, .slice none 0 0, .int .i64 0, .int .i64 0, .int .i64 1, .int .i64 1, .int .i64 0, .int .i64 1, .int .i64 1, .string ⟨#[97]⟩, .slice none 0 0, .int .i64 0, .int .i64 0, .int .i64 1, .int .i64 1, .int .i64 0, .int .i64 1, .int .i64 1, .string ⟨#[97]⟩, .slice none 0 0, .int .i64 0, .int .i64 0, .int .i64 1, .int .i64 1, .int .i64 0, .int .i64 1, .int .i64 1, .string ⟨#[97]⟩, .slice none 0 0, .int .i64 0, .int .i64 0, .int .i64 1, .int .i64 1, .int .i64 0, .int .i64 1, .int .i64 1, .string ⟨#[97]⟩, .slice none 0 0, .int .i64 0, .int .i64 0, .int .i64 1, .int .i64 1, .int .i64 0, .int .i64 1, .int .i64 1, .string ⟨#[97]⟩, .slice none 0 0, .int .i64 0, .int .i64 0, .int .i64 1, .int .i64 1, .int .i64 0, .int .i64 1, .int .i64 1, .string ⟨#[97]⟩, .slice none 0 0, .int .i64 0, .int .i64 0, .int .i64 1, .int .i64 1, .int .i64 0, .int .i64 1, .int .i64 1, .string ⟨#[97]⟩, .slice none 0 0, .int .i64 0, .int .i64 0, .int .i64 1, .int .i64 1, .int .i64 0, .int .i64 1, .int .i64 1, .string ⟨#[97]⟩, .slice none 0 0, .int .i64 0, .int .i64 0, .int .i64 1, .int .i64 1, .int .i64 0, .int .i64 1, .int .i64 1, .string ⟨#[97]⟩, .slice none 0 0, .int .i64 0, .int .i64 0, .int .i64 1, .int .i64 1, .int .i64 0, .int .i64 1, .int .i64 1, .string ⟨#[97]⟩, .slice none 0 0, .int .i64 0, .int .i64 0, .int .i64 1, .int .i64 1, .int .i64 0, .int .i64 1, .int .i64 1, .string ⟨#[97]⟩, .slice none 0 0, .int .i64 0, .int .i64 0, .int .i64 1, .int .i64 1, .int .i64 0, .int .i64 1, .int .i64 1]
def zero16 : Array Value := #[.string ⟨#[]⟩, .slice none 0 0, .int .i64 0, .int .i64 0, .int .i64 0, .int .i64 0, .int .i64 0, .int .i64 0, .int .i64 0, .string ⟨#[]⟩, .slice none 0 0, .int .i64 0, .int .i64 0, .int .i64 0, .int .i64 0, .int .i64 0, .int .i64 0, .int .i64 0, .string ⟨#[]⟩, .slice none 0 0, .int .i64 0, .int .i64 0, .int .i64 0, .int .i64 0, .int .i64 0, .int .i64 0, .int .i64 0, .string ⟨#[]⟩, .slice none 0 0, .int .i64 0, .int .i64 0, .int .i64 0, .int .i64 0, .int .i64 0, .int .i64 0, .int .i64 0, .string ⟨#[]⟩, .slice none 0 0, .int .i64 0, .int .i64 0, .int .i64 0, .int .i64 0, .int .i64 0, .int .i64 0, .int .i64 0, .string ⟨#[]⟩, .slice none 0 0, .int .i64 0, .int .i64 0, .int .i64 0, .int .i64 0, .int .i64 0, .int .i64 0, .int .i64 0, .string ⟨#[]⟩, .slice none 0 0, .int .i64 0, .int .i64 0, .int .i64 0, .int .i64 0, .int .i64 0, .int .i64 0, .int .i64 0, .string ⟨#[]⟩, .slice none 0 0, .int .i64 0, .int .i64 0, .int .i64 0, .int .i64 0, .int .i64 0, .int .i64 0, .int .i64 0, .string ⟨#[]⟩, .slice none 0 0, .int .i64 0, .int .i64 0, .int .i64 0, .int .i64 0, .int .i64 0, .int .i64 0, .int .i64 0, .string ⟨#[]⟩, .slice none 0 0, .int .i64 0, .int .i64 0, .int .i64 0, .int .i64 0, .int .i64 0, .int .i64 0, .int .i64 0, .string ⟨#[]⟩, .slice none 0 0, .int .i64 0, .int .i64 0, .int .i64 0, .int .i64 0, .int .i64 0, .int .i64 0, .int .i64 0, .string ⟨#[]⟩, .slice none 0 0, .int .i64 0, .int .i64 0, .int .i64 0, .int .i64 0, .int .i64 0, .int .i64 0, .int .i64 0, .string ⟨#[]⟩, .slice none 0 0, .int .i64 0, .int .i64 0, .int .i64 0, .int .i64 0, .int .i64 0, .int .i64 0, .int .i64 0, .string ⟨#[]⟩, .slice none 0 0, .int .i64 0, .int .i64 0, .int .i64 0, .int .i64 0, .int .i64 0, .int .i64 0, .int .i64 0, .string ⟨#[]⟩, .slice none 0 0, .int .i64 0, .int .i64 0, .int .i64 0, .int .i64 0, .int .i64 0, .int .i64 0, .int .i64 0, .string ⟨#[]⟩, .slice none 0 0, .int .i64 0, .int .i64 0, .int .i64 0, .int .i64 0, .int .i64 0, .int .i64 0, .int .i64 0]
def badF (T2 : ByteArray) (g22 : Nat) : List TeE := [⟨⟨#[]⟩, none, 0, 0, [], 0, 0, 1, 1, 0, 1, 1⟩, ⟨T2, none, 0, 0, [], 0, 0, 1, 1, 0, 1, 1⟩, ⟨⟨#[97, 32, 98]⟩, none, 0, 0, [], 0, 0, 1, 1, 0, 1, 1⟩, ⟨⟨#[61, 61]⟩, none, 0, 0, [], 0, 0, 1, 1, 0, 1, 1⟩, ⟨⟨#[97]⟩, none, 0, 0, [], (-1), 0, 1, 1, 0, 1, 1⟩, ⟨⟨#[97]⟩, none, 0, 0, [], 262145, 0, 1, 1, 0, 1, 1⟩, ⟨⟨#[97]⟩, none, 0, 0, [], 0, 65, 1, 1, 0, 1, 1⟩, ⟨⟨#[97]⟩, none, 0, 0, [], 0, 0, 0, 1, 0, 1, 1⟩, ⟨⟨#[97]⟩, none, 0, 0, [], 0, 0, 17, 1, 0, 1, 1⟩, ⟨⟨#[97]⟩, none, 0, 0, [], 0, 0, 1, 0, 0, 1, 1⟩, ⟨⟨#[97]⟩, none, 0, 0, [], 0, 0, 1, 9, 0, 1, 1⟩, ⟨⟨#[97]⟩, none, 0, 0, [], 0, 0, 1, 1, 17, 1, 1⟩, ⟨⟨#[97]⟩, none, 0, 0, [], 0, 0, 1, 1, 0, 0, 1⟩, ⟨⟨#[97]⟩, none, 0, 0, [], 0, 0, 1, 1, 0, 1001, 1⟩, ⟨⟨#[97]⟩, none, 0, 0, [], 0, 0, 1, 1, 0, 1, 1001⟩, ⟨⟨#[97]⟩, some ⟨g22, 0, none⟩, 1, 1, [zeR], 0, 0, 1, 1, 0, 1, 1⟩]
def turnL (l : List Value) : List Value := (((((((((((l.set 38 (.int .i64 (-1))).set 47 (.int .i64 262145)).set 57 (.int .i64 65)).set 67 (.int .i64 0)).set 76 (.int .i64 17)).set 86 (.int .i64 0)).set 95 (.int .i64 9)).set 105 (.int .i64 17)).set 115 (.int .i64 0)).set 124 (.int .i64 1001)).set 134 (.int .i64 1001))
set_option maxRecDepth 100000 in
theorem turn_is (T2 : ByteArray) (g22 : Nat) : (turnL (tes (bad0 T2))).set 136 (.slice (some ⟨g22, 0, none⟩) 1 1) = tes (badF T2 g22) := rfl
theorem badF_no (T2 : ByteArray) (g22 : Nat) (h : mayT (bl T2) = false) : ∀ t ∈ badF T2 g22, tenF t = false := by
  intro t ht
  simp only [badF, List.mem_cons, List.not_mem_nil, or_false] at ht
  rcases ht with rfl | rfl | rfl | rfl | rfl | rfl | rfl | rfl | rfl | rfl | rfl | rfl | rfl | rfl | rfl | rfl
  · decide +kernel
  · unfold tenF
    rw [h]
    rfl
  iterate 13 decide +kernel
  show (mayT [97] && (allF [zeR] && _)) = false
  rw [show allF [zeR] = false by decide +kernel, Bool.false_and, Bool.and_false]
theorem badF_ok (T2 : ByteArray) (g22 : Nat) (h : T2.size ≤ 1000) (w : World) (hi : Is w g22 51 zeR.cells) : ∀ t ∈ badF T2 g22, t.Ok w := by
  intro t ht
  simp only [badF, List.mem_cons, List.not_mem_nil, or_false] at ht
  rcases ht with rfl | rfl | rfl | rfl | rfl | rfl | rfl | rfl | rfl | rfl | rfl | rfl | rfl | rfl | rfl | rfl
  · exact ⟨rfl, Nat.zero_le _, fun h => absurd h (by simp), fun _ h => (by cases h), by decide⟩
  · exact ⟨rfl, Nat.zero_le _, fun h => absurd h (by simp), fun _ h => (by cases h), by show T2.size ≤ _; omega⟩
  iterate 13 exact ⟨rfl, Nat.zero_le _, fun h => absurd h (by simp), fun _ h => (by cases h), by decide⟩
  exact ⟨rfl, (show 1 ≤ _ by decide), srcu_is hi, fun r hr => by
    simp only [List.mem_singleton] at hr
    subst hr
    exact ⟨rfl, Nat.zero_le _, srcs_nil _ _ _⟩, (show 1 ≤ 140737488351232 by decide)⟩
def fullT (T1 : ByteArray) : TeE := ⟨T1, none, 0, 0, [], 262144, 64, 16, 8, 16, 1000, 1000⟩
/-- A configuration at a call: what it answers. -/
theorem conf_call (W : World) (A : Option Addr) (L : List TeE) (n c : Nat) (st ti : Int) (b : Bool) (hn : L.length = n) (h9 : n ≤ 9) (hs : SrcT W (fun _ => True) A L) (hok : ∀ t ∈ L, t.Ok W) (hp : PowTab W) (hb : confF L st ti = b) :
    Calls Tryz.prog 9 #[.agg #[.slice A n c, .int .i64 st, .int .i64 ti]] W fun e w' => e = .returned (.bool b) ∧ Below W.heap.size W w' := by
  have := config_any W A L n c st ti hn (by omega) hs hok hp
  rwa [hb] at this
theorem lets_conf : confF (lets 8) 16 1099511627776 = true ∧ confF (lets 8) 0 0 = false ∧ confF (lets 8) 0 1099511627777 = false ∧ confF (lets 8) 17 1 = false ∧ confF (lets 8) (-1) 1 = false ∧ confF (lets 8 ++ [miniT ⟨#[122]⟩]) 0 1 = false ∧ confF [miniT ⟨#[97]⟩, miniT ⟨#[97]⟩] 0 1 = false ∧ confF [] 0 1 = false := by decide +kernel

theorem full_conf {T1 : ByteArray} (h : mayT (bl T1) = true) : confF [fullT T1] 0 1 = true := by
  have ht : tenF (fullT T1) = true := by
    unfold tenF
    rw [show bl (fullT T1).tok = bl T1 from rfl, h]
    rfl
  unfold confF
  rw [show [fullT T1].all tenF = true by simp [ht], show unlF [fullT T1] = true by simp [unlF]]
  rfl
theorem full_ok (T1 : ByteArray) (w : World) (h : T1.size ≤ 1000) : (fullT T1).Ok w := ⟨rfl, Nat.zero_le _, fun h => absurd h (by simp [fullT]), fun _ h => (by cases h), by show T1.size ≤ _; omega⟩
theorem nine_ok (w : World) : ∀ t ∈ lets 8 ++ [miniT ⟨#[122]⟩], t.Ok w := fun t ht => by
  rcases List.mem_append.1 ht with h | h
  · exact lets_ok 8 w t h
  · rw [List.mem_singleton.1 h]; exact mini_ok _ _ (by decide)
theorem two_ok (w : World) : ∀ t ∈ [miniT ⟨#[97]⟩, miniT ⟨#[97]⟩], t.Ok w := fun t ht => by
  simp only [List.mem_cons, List.not_mem_nil, or_false, or_self] at ht
  subst ht
  exact mini_ok _ _ (by decide)
/-- What is laid ahead of the last line. -/
structure KN (g2 g7 g8 gb : Nat) (A8 : Option Addr) (c8 : Nat) (o8 : Option Nat) (A9 : Option Addr) (c9 : Nat) (o9 : Option Nat) (T1 : ByteArray) (w : World) : Prop where
  i : Is w g2 27 (fullT T1).cells
  o : OwnT w (.slice A8 8 c8) o8 (lets 8)
  j : Is w g7 24 [.slice A9 9 c9, .int .i64 0, .int .i64 1]
  p : OwnT w (.slice A9 9 c9) o9 (lets 8 ++ [miniT ⟨#[122]⟩])
  k : Is w g8 24 [.slice (some ⟨gb, 0, none⟩) 2 2, .int .i64 0, .int .i64 1]
  q : SrcT w (fun _ => True) (some ⟨gb, 0, none⟩) [miniT ⟨#[97]⟩, miniT ⟨#[97]⟩]
theorem KN.below {g2 g7 g8 gb : Nat} {A8 A9 : Option Addr} {c8 c9 : Nat} {o8 o9 : Option Nat} {T1 : ByteArray} {w w' : World} (h : KN g2 g7 g8 gb A8 c8 o8 A9 c9 o9 T1 w) (hb : Below w.heap.size w w') : KN g2 g7 g8 gb A8 c8 o8 A9 c9 o9 T1 w' :=
  ⟨is_below h.i hb, h.o.below hb, is_below h.j hb, h.p.below hb, is_below h.k hb, h.q.below hb⟩
set_option maxHeartbeats 16000000 in
set_option maxRecDepth 100000 in
theorem known_law (w : World) (hp : PowTab w) : Calls Tryz.prog 8 #[] w fun e w' => e = .returned (.bool true) ∧ Below w.heap.size w w' := by
  have HP := Lib.hid hp
  clear hp
  have hal : ∀ (f : Operand → Value) (o : Oper), o.op = .alloc 48 → ∀ W : World, (execOp f o).run Tryz.prog W = .ok (.value (.pointer (some ⟨W.heap.size, 0, none⟩))) (W.alloc (.cells zero16 48)) := by
    intro f o ho W
    unfold execOp
    rw [ho]
    kernel_rfl
  have HAL := Lib.hid hal
  clear hal
  go_enter Tryz.func8, Tryz.ntmps8
  go_wp2_with fail
  go_loopw [1] (fun v wx => ∃ s : ByteArray, v = .string s ∧ s.size ≤ 63 ∧ Hid (bl s = List.replicate s.size 97) ∧ w = wx) (fun v _ => 63 - strLen v)
  case atStart => exact ⟨⟨#[]⟩, rfl, by decide, Lib.hid rfl, rfl⟩
  case round =>
    obtain ⟨s, rfl, hs, HS, rfl⟩ := hrel
    by_cases hls : s.size < 63
    · have hls' : (s.size : Int) < 63 := by omega
      have hadd : ∀ W : World, (Op.stringOp .add s ⟨#[97]⟩).run Tryz.prog W = .ok (.string (s ++ ⟨#[97]⟩)) W := fun W => run_string_add W s _ (by omega) (by decide)
      have hsz : (s ++ ⟨#[97]⟩).size = s.size + 1 := by rw [ByteArray.size_append]; rfl
      have HS2 := Lib.hid (show bl (s ++ ⟨#[97]⟩) = List.replicate (s ++ ⟨#[97]⟩).size 97 by
        rw [hsz, List.replicate_succ', ← HS.out]
        unfold bl
        simp [ByteArray.data_append])
      go_wp2_with fail
      go_roundw
      case rel => exact ⟨_, rfl, by omega, HS2, trivial⟩
      case measure => simp only [strLen]; omega
    · have hs63 : s.size = 63 := by omega
      have hls' : ¬ (s.size : Int) < 63 := by omega
      have hb := HS.out
      rw [hs63] at hb
      obtain ⟨T1, hT1⟩ : ∃ x, s ++ (⟨#[61]⟩ : ByteArray) = x := ⟨_, rfl⟩
      obtain ⟨T2, hT2⟩ : ∃ x, s ++ (⟨#[97, 97]⟩ : ByteArray) = x := ⟨_, rfl⟩
      have hadd1 : ∀ W : World, (Op.stringOp .add s ⟨#[61]⟩).run Tryz.prog W = .ok (.string T1) W := fun W => by rw [← hT1]; exact run_string_add W s _ (by omega) (by decide)
      have hadd2 : ∀ W : World, (Op.stringOp .add s ⟨#[97, 97]⟩).run Tryz.prog W = .ok (.string T2) W := fun W => by rw [← hT2]; exact run_string_add W s _ (by omega) (by decide)
      have HA2 := Lib.hid hadd2
      have HM1 := Lib.hid (show mayT (bl T1) = true by rw [← hT1]; unfold bl; rw [ByteArray.data_append, Array.toList_append]; show mayT (bl s ++ [61]) = true; rw [hb]; decide +kernel)
      have HM2 := Lib.hid (show mayT (bl T2) = false by rw [← hT2]; unfold bl; rw [ByteArray.data_append, Array.toList_append]; show mayT (bl s ++ [97, 97]) = false; rw [hb]; decide +kernel)
      have HZ1 := Lib.hid (show T1.size ≤ 1000 by rw [← hT1, ByteArray.size_append, hs63]; decide)
      have HZ2 := Lib.hid (show T2.size ≤ 1000 by rw [← hT2, ByteArray.size_append, hs63]; decide)
      clear hT1 hT2 hb hadd2
      have hs1 : ¬ s.size < 63 := by omega
      have I2 := Lib.hid (Is.made w 27 (fullT T1).cells)
      have B1 : Hid (Below w.heap.size w (w.alloc (.cells #[.string T1, .slice none 0 0, .int .i64 262144, .int .i64 64, .int .i64 16, .int .i64 8, .int .i64 16, .int .i64 1000, .int .i64 1000] 27))) := Lib.hid ((Below.refl _ _).alloc (Nat.le_refl _) _)
      have I2' : Hid (Is (w.alloc (.cells #[.string T1, .slice none 0 0, .int .i64 262144, .int .i64 64, .int .i64 16, .int .i64 8, .int .i64 16, .int .i64 1000, .int .i64 1000] 27)) w.heap.size 27 (fullT T1).cells) := I2
      clear I2
      obtain ⟨g2, hg2⟩ : ∃ g, w.heap.size = g := ⟨_, rfl⟩
      have HG2 := Lib.hid hg2
      go_wp2_with fail
      generalize w.alloc (.cells #[.string T1, .slice none 0 0, .int .i64 262144, .int .i64 64, .int .i64 16, .int .i64 8, .int .i64 16, .int .i64 1000, .int .i64 1000] 27) = w1 at *
      rw [hg2] at I2'
      clear hg2
      go_loopw [3, 4] (fun v vi wr => ∃ (i : Nat) (o : Option Nat), vi = .int .i64 (i : Int) ∧ i ≤ 8 ∧ Hid (OwnT wr v o (lets i)) ∧ Hid (∀ b, o = some b → w1.heap.size ≤ b) ∧ Hid (Below w1.heap.size w1 wr)) (fun _ vi _ => 8 - (intOf vi).toNat)
      case atStart => exact ⟨0, none, rfl, Nat.zero_le _, Lib.hid (OwnT.nil _), Lib.hid (fun _ h => by cases h), Lib.hid (Below.refl _ _)⟩
      case round =>
        obtain ⟨i, o, rfl, hi, HO, HGE, HB⟩ := hrel
        by_cases hlt : i < 8
        · have hc := letC_nat i hlt
          have hrun := run_one_x wr (letC i) ((97 : Int) + (i : Int)) hc
          have wr8 : IntKind.u8.wrap ((97 : Int) + (i : Int)) = 97 + (i : Int) := by rw [IntKind.wrap_u8]; omega
          have wr64 : IntKind.i64.wrap ((97 : Int) + (i : Int)) = 97 + (i : Int) := by rw [IntKind.wrap_i64]; omega
          have MI := Lib.hid (fun W : World => mini_any ⟨#[letC i]⟩ W)
          have HB2 := Lib.hid (HB.out.alloc HB.out.size (.cells #[.int .u8 ((97 : Int) + (i : Int))] 5))
          have HO2 := Lib.hid (HO.out.kept ((Turn.refl (fun _ => False) wr).alloc (.cells #[.int .u8 ((97 : Int) + (i : Int))] 5)) (fun _ _ h => h))
          clear hc HB HO
          go_wp2_with fail
          refine (MI.out _).mono ?_
          rintro e v1 ⟨rfl, b1⟩
          have HB3 := Lib.hid (HB2.out.trans (b1.mono HB2.out.size))
          have HO3 := HO2.out.below b1
          have hbt := HB3.out.alloc HB3.out.size (.cells #[.string ⟨#[letC i]⟩, .slice none 0 0, .int .i64 0, .int .i64 0, .int .i64 1, .int .i64 1, .int .i64 0, .int .i64 1, .int .i64 1] 27)
          obtain ⟨u2, v2, o2, r2, own2, t2, ho2⟩ := run_append_tes (v1.alloc (.cells #[.string ⟨#[letC i]⟩, .slice none 0 0, .int .i64 0, .int .i64 0, .int .i64 1, .int .i64 1, .int .i64 0, .int .i64 1, .int .i64 1] 27)) _ o (lets i) [letT i] (HO3.kept ((Turn.refl (fun _ => False) v1).alloc _) (fun _ _ h => h)) (some ⟨v1.heap.size, 0, none⟩) 1 1 rfl (srct_is (t := 27) (TeE.box (w := v1) (t := letT i))) (by rw [lets_len, List.length_singleton]; omega)
          rw [lets_succ] at own2
          have HB4 := Lib.hid (own_turn hbt HGE.out t2 (o' := none) (fun _ h => by cases h)).1
          have HGE2 := Lib.hid (show ∀ b, o2 = some b → w1.heap.size ≤ b from fun b hb => by
            rcases ho2 b hb with h | h
            · exact HGE.out b h
            · exact Nat.le_trans hbt.size h)
          have HO4 := Lib.hid own2
          have HR := Lib.hid r2
          clear own2 t2 ho2 r2 HO3 HO2 b1 HB2 hrun hbt
          go_wp2_with (at_builtin; refine append_by_x rfl (.tmp 27) (.tmp 34) 22 rfl _ (.slice (some ⟨v1.heap.size, 0, none⟩) 1 1) u2 v2 rfl rfl HR.out ?_)
          go_roundw
          case rel => exact ⟨i + 1, o2, by go_num, hlt, HO4, HGE2, HB4⟩
          case measure => simp [intOf]; omega
        · obtain rfl : i = 8 := by omega
          obtain ⟨A8, c8, hv8, hle8, _⟩ := HO.out.src (fun _ => True) (fun _ _ => trivial)
          rw [lets_len] at hv8
          subst hv8
          have BA := Lib.hid (B1.out.trans (HB.out.mono B1.out.size))
          have IA := Lib.hid (is_below I2'.out HB.out)
          have OA := HO
          clear HB HGE HO I2' B1 hlt hle8
          have HA3 := HA2.out
          go_wp2_with fail
          refine (mini_any ⟨#[]⟩ _).mono ?_
          rintro e v1 ⟨rfl, b1⟩
          have B1 := Lib.hid (BA.out.trans (b1.mono BA.out.size))
          have I1 := Lib.hid (is_below IA.out b1)
          have O1 := Lib.hid (OA.out.below b1)
          clear b1
          go_wp2_with fail
          refine (mini_any T2 _).mono ?_
          rintro e v2 ⟨rfl, b2⟩
          have B2 := Lib.hid (B1.out.trans (b2.mono B1.out.size))
          have I2 := Lib.hid (is_below I1.out b2)
          have O2 := Lib.hid (O1.out.below b2)
          clear b2
          go_wp2_with fail
          refine (mini_any ⟨#[97, 32, 98]⟩ _).mono ?_
          rintro e v3 ⟨rfl, b3⟩
          have B3 := Lib.hid (B2.out.trans (b3.mono B2.out.size))
          have I3 := Lib.hid (is_below I2.out b3)
          have O3 := Lib.hid (O2.out.below b3)
          clear b3
          go_wp2_with fail
          refine (mini_any ⟨#[61, 61]⟩ _).mono ?_
          rintro e v4 ⟨rfl, b4⟩
          have B4 := Lib.hid (B3.out.trans (b4.mono B3.out.size))
          have I4 := Lib.hid (is_below I3.out b4)
          have O4 := Lib.hid (O3.out.below b4)
          clear b4
          go_wp2_with fail
          refine (mini_any ⟨#[97]⟩ _).mono ?_
          rintro e v5 ⟨rfl, b5⟩
          have B5 := Lib.hid (B4.out.trans (b5.mono B4.out.size))
          have I5 := Lib.hid (is_below I4.out b5)
          have O5 := Lib.hid (O4.out.below b5)
          clear b5
          go_wp2_with fail
          refine (mini_any ⟨#[97]⟩ _).mono ?_
          rintro e v6 ⟨rfl, b6⟩
          have B6 := Lib.hid (B5.out.trans (b6.mono B5.out.size))
          have I6 := Lib.hid (is_below I5.out b6)
          have O6 := Lib.hid (O5.out.below b6)
          clear b6
          go_wp2_with fail
          refine (mini_any ⟨#[97]⟩ _).mono ?_
          rintro e v7 ⟨rfl, b7⟩
          have B7 := Lib.hid (B6.out.trans (b7.mono B6.out.size))
          have I7 := Lib.hid (is_below I6.out b7)
          have O7 := Lib.hid (O6.out.below b7)
          clear b7
          go_wp2_with fail
          refine (mini_any ⟨#[97]⟩ _).mono ?_
          rintro e v8 ⟨rfl, b8⟩
          have B8 := Lib.hid (B7.out.trans (b8.mono B7.out.size))
          have I8 := Lib.hid (is_below I7.out b8)
          have O8 := Lib.hid (O7.out.below b8)
          clear b8
          go_wp2_with fail
          refine (mini_any ⟨#[97]⟩ _).mono ?_
          rintro e v9 ⟨rfl, b9⟩
          have B9 := Lib.hid (B8.out.trans (b9.mono B8.out.size))
          have I9 := Lib.hid (is_below I8.out b9)
          have O9 := Lib.hid (O8.out.below b9)
          clear b9
          go_wp2_with fail
          refine (mini_any ⟨#[97]⟩ _).mono ?_
          rintro e v10 ⟨rfl, b10⟩
          have B10 := Lib.hid (B9.out.trans (b10.mono B9.out.size))
          have I10 := Lib.hid (is_below I9.out b10)
          have O10 := Lib.hid (O9.out.below b10)
          clear b10
          go_wp2_with fail
          refine (mini_any ⟨#[97]⟩ _).mono ?_
          rintro e v11 ⟨rfl, b11⟩
          have B11 := Lib.hid (B10.out.trans (b11.mono B10.out.size))
          have I11 := Lib.hid (is_below I10.out b11)
          have O11 := Lib.hid (O10.out.below b11)
          clear b11
          go_wp2_with fail
          refine (mini_any ⟨#[97]⟩ _).mono ?_
          rintro e v12 ⟨rfl, b12⟩
          have B12 := Lib.hid (B11.out.trans (b12.mono B11.out.size))
          have I12 := Lib.hid (is_below I11.out b12)
          have O12 := Lib.hid (O11.out.below b12)
          clear b12
          go_wp2_with fail
          refine (mini_any ⟨#[97]⟩ _).mono ?_
          rintro e v13 ⟨rfl, b13⟩
          have B13 := Lib.hid (B12.out.trans (b13.mono B12.out.size))
          have I13 := Lib.hid (is_below I12.out b13)
          have O13 := Lib.hid (O12.out.below b13)
          clear b13
          go_wp2_with fail
          refine (mini_any ⟨#[97]⟩ _).mono ?_
          rintro e v14 ⟨rfl, b14⟩
          have B14 := Lib.hid (B13.out.trans (b14.mono B13.out.size))
          have I14 := Lib.hid (is_below I13.out b14)
          have O14 := Lib.hid (O13.out.below b14)
          clear b14
          go_wp2_with fail
          refine (mini_any ⟨#[97]⟩ _).mono ?_
          rintro e v15 ⟨rfl, b15⟩
          have B15 := Lib.hid (B14.out.trans (b15.mono B14.out.size))
          have I15 := Lib.hid (is_below I14.out b15)
          have O15 := Lib.hid (O14.out.below b15)
          clear b15
          go_wp2_with fail
          refine (mini_any ⟨#[97]⟩ _).mono ?_
          rintro e v16 ⟨rfl, b16⟩
          have B16 := Lib.hid (B15.out.trans (b16.mono B15.out.size))
          have I16 := Lib.hid (is_below I15.out b16)
          have O16 := Lib.hid (O15.out.below b16)
          clear b16
          have bA := (Below.refl v16.heap.size v16).alloc (Nat.le_refl _) (.cells (bad0A T2) 48)
          have ia : Is (v16.alloc (.cells (bad0A T2) 48)) v16.heap.size 48 (tes (bad0 T2)) := Is.made v16 48 (tes (bad0 T2))
          have JA := Lib.hid ia
          clear ia HA3
          have BB := Lib.hid bA
          clear bA
          go_upto_region 11 with (first
            | (refine wpList_buildTo rfl _ _ rfl (some 54) rfl (bad0A T2) (by as_aux_lemma => kernel_rfl) ?_)
            | (refine Great.wpList_allocTo rfl (some 5) rfl _ (.cells zero16 48) (HAL.out _ _ rfl _) ?_; refine wpList_store_rowTo rfl _ (.tmp 5) (.tmp 54) rfl rfl _ (bad0A T2) rfl rfl _ _ (heap_alloc_last _ _) (by as_aux_lemma => kernel_rfl) (by as_aux_lemma => kernel_rfl) (by as_aux_lemma => kernel_rfl) ?_; rw [World.setRow_alloc_new]))
          have HB0 := Lib.hid (B16.out.trans (BB.out.mono B16.out.size))
          have HI0 := Lib.hid (is_below I16.out BB.out)
          have HO0 := Lib.hid (O16.out.below BB.out)
          have LG5 := Lib.hid (show w.heap.size ≤ v16.heap.size from B16.out.size)
          have L25 := Lib.hid (show g2 < v16.heap.size from I16.out.lt)
          have LO5 := Lib.hid (fun k hk => O16.out.lt k hk)
          generalize v16.alloc (.cells (bad0A T2) 48) = y0 at *
          obtain ⟨g5, hg5⟩ : ∃ g, v16.heap.size = g := ⟨_, rfl⟩
          rw [hg5] at JA LG5 L25 LO5 BB ⊢
          clear hg5 BB
          have TT0 := Lib.hid (Turn.refl (fun k => k = g5) y0)
          have J0 := JA
          clear JA
          have hat : ∀ W : World, (Instr.indexAt 48 (.pointer (some ⟨g5, 0, none⟩)) (.int .i64 4)).run Tryz.prog W = .ok (.pointer (some ⟨g5, 36, none⟩)) W := fun W => run_at_ten g5 4 (by decide) W
          have c0 : y0.cell? ⟨g5, 38, none⟩ = some (.int .i64 0) := (J0.out.cell 38).trans rfl
          have f0 : y0.frozen? ⟨g5, 38, none⟩ = false := J0.out.free 38
          have J1 := Lib.hid (J0.out.set 38 (.int .i64 (-1)))
          have TT1 := Lib.hid (TT0.out.setCell (p := ⟨g5, 38, none⟩) (fun _ => rfl) (.int .i64 (-1)))
          go_upto_region 12 with fail
          clear hat c0 f0 J0 TT0
          generalize y0.setCell ⟨g5, 38, none⟩ (.int .i64 (-1)) = y1 at *
          have hat : ∀ W : World, (Instr.indexAt 48 (.pointer (some ⟨g5, 0, none⟩)) (.int .i64 5)).run Tryz.prog W = .ok (.pointer (some ⟨g5, 45, none⟩)) W := fun W => run_at_ten g5 5 (by decide) W
          have c0 : y1.cell? ⟨g5, 47, none⟩ = some (.int .i64 0) := (J1.out.cell 47).trans rfl
          have f0 : y1.frozen? ⟨g5, 47, none⟩ = false := J1.out.free 47
          have J2 := Lib.hid (J1.out.set 47 (.int .i64 262145))
          have TT2 := Lib.hid (TT1.out.setCell (p := ⟨g5, 47, none⟩) (fun _ => rfl) (.int .i64 262145))
          go_upto_region 13 with fail
          clear hat c0 f0 J1 TT1
          generalize y1.setCell ⟨g5, 47, none⟩ (.int .i64 262145) = y2 at *
          have hat : ∀ W : World, (Instr.indexAt 48 (.pointer (some ⟨g5, 0, none⟩)) (.int .i64 6)).run Tryz.prog W = .ok (.pointer (some ⟨g5, 54, none⟩)) W := fun W => run_at_ten g5 6 (by decide) W
          have c0 : y2.cell? ⟨g5, 57, none⟩ = some (.int .i64 0) := (J2.out.cell 57).trans rfl
          have f0 : y2.frozen? ⟨g5, 57, none⟩ = false := J2.out.free 57
          have J3 := Lib.hid (J2.out.set 57 (.int .i64 65))
          have TT3 := Lib.hid (TT2.out.setCell (p := ⟨g5, 57, none⟩) (fun _ => rfl) (.int .i64 65))
          go_upto_region 14 with fail
          clear hat c0 f0 J2 TT2
          generalize y2.setCell ⟨g5, 57, none⟩ (.int .i64 65) = y3 at *
          have hat : ∀ W : World, (Instr.indexAt 48 (.pointer (some ⟨g5, 0, none⟩)) (.int .i64 7)).run Tryz.prog W = .ok (.pointer (some ⟨g5, 63, none⟩)) W := fun W => run_at_ten g5 7 (by decide) W
          have c0 : y3.cell? ⟨g5, 67, none⟩ = some (.int .i64 1) := (J3.out.cell 67).trans rfl
          have f0 : y3.frozen? ⟨g5, 67, none⟩ = false := J3.out.free 67
          have J4 := Lib.hid (J3.out.set 67 (.int .i64 0))
          have TT4 := Lib.hid (TT3.out.setCell (p := ⟨g5, 67, none⟩) (fun _ => rfl) (.int .i64 0))
          go_upto_region 15 with fail
          clear hat c0 f0 J3 TT3
          generalize y3.setCell ⟨g5, 67, none⟩ (.int .i64 0) = y4 at *
          have hat : ∀ W : World, (Instr.indexAt 48 (.pointer (some ⟨g5, 0, none⟩)) (.int .i64 8)).run Tryz.prog W = .ok (.pointer (some ⟨g5, 72, none⟩)) W := fun W => run_at_ten g5 8 (by decide) W
          have c0 : y4.cell? ⟨g5, 76, none⟩ = some (.int .i64 1) := (J4.out.cell 76).trans rfl
          have f0 : y4.frozen? ⟨g5, 76, none⟩ = false := J4.out.free 76
          have J5 := Lib.hid (J4.out.set 76 (.int .i64 17))
          have TT5 := Lib.hid (TT4.out.setCell (p := ⟨g5, 76, none⟩) (fun _ => rfl) (.int .i64 17))
          go_upto_region 16 with fail
          clear hat c0 f0 J4 TT4
          generalize y4.setCell ⟨g5, 76, none⟩ (.int .i64 17) = y5 at *
          have hat : ∀ W : World, (Instr.indexAt 48 (.pointer (some ⟨g5, 0, none⟩)) (.int .i64 9)).run Tryz.prog W = .ok (.pointer (some ⟨g5, 81, none⟩)) W := fun W => run_at_ten g5 9 (by decide) W
          have c0 : y5.cell? ⟨g5, 86, none⟩ = some (.int .i64 1) := (J5.out.cell 86).trans rfl
          have f0 : y5.frozen? ⟨g5, 86, none⟩ = false := J5.out.free 86
          have J6 := Lib.hid (J5.out.set 86 (.int .i64 0))
          have TT6 := Lib.hid (TT5.out.setCell (p := ⟨g5, 86, none⟩) (fun _ => rfl) (.int .i64 0))
          go_upto_region 17 with fail
          clear hat c0 f0 J5 TT5
          generalize y5.setCell ⟨g5, 86, none⟩ (.int .i64 0) = y6 at *
          have hat : ∀ W : World, (Instr.indexAt 48 (.pointer (some ⟨g5, 0, none⟩)) (.int .i64 10)).run Tryz.prog W = .ok (.pointer (some ⟨g5, 90, none⟩)) W := fun W => run_at_ten g5 10 (by decide) W
          have c0 : y6.cell? ⟨g5, 95, none⟩ = some (.int .i64 1) := (J6.out.cell 95).trans rfl
          have f0 : y6.frozen? ⟨g5, 95, none⟩ = false := J6.out.free 95
          have J7 := Lib.hid (J6.out.set 95 (.int .i64 9))
          have TT7 := Lib.hid (TT6.out.setCell (p := ⟨g5, 95, none⟩) (fun _ => rfl) (.int .i64 9))
          go_upto_region 18 with fail
          clear hat c0 f0 J6 TT6
          generalize y6.setCell ⟨g5, 95, none⟩ (.int .i64 9) = y7 at *
          have hat : ∀ W : World, (Instr.indexAt 48 (.pointer (some ⟨g5, 0, none⟩)) (.int .i64 11)).run Tryz.prog W = .ok (.pointer (some ⟨g5, 99, none⟩)) W := fun W => run_at_ten g5 11 (by decide) W
          have c0 : y7.cell? ⟨g5, 105, none⟩ = some (.int .i64 0) := (J7.out.cell 105).trans rfl
          have f0 : y7.frozen? ⟨g5, 105, none⟩ = false := J7.out.free 105
          have J8 := Lib.hid (J7.out.set 105 (.int .i64 17))
          have TT8 := Lib.hid (TT7.out.setCell (p := ⟨g5, 105, none⟩) (fun _ => rfl) (.int .i64 17))
          go_upto_region 19 with fail
          clear hat c0 f0 J7 TT7
          generalize y7.setCell ⟨g5, 105, none⟩ (.int .i64 17) = y8 at *
          have hat : ∀ W : World, (Instr.indexAt 48 (.pointer (some ⟨g5, 0, none⟩)) (.int .i64 12)).run Tryz.prog W = .ok (.pointer (some ⟨g5, 108, none⟩)) W := fun W => run_at_ten g5 12 (by decide) W
          have c0 : y8.cell? ⟨g5, 115, none⟩ = some (.int .i64 1) := (J8.out.cell 115).trans rfl
          have f0 : y8.frozen? ⟨g5, 115, none⟩ = false := J8.out.free 115
          have J9 := Lib.hid (J8.out.set 115 (.int .i64 0))
          have TT9 := Lib.hid (TT8.out.setCell (p := ⟨g5, 115, none⟩) (fun _ => rfl) (.int .i64 0))
          go_upto_region 20 with fail
          clear hat c0 f0 J8 TT8
          generalize y8.setCell ⟨g5, 115, none⟩ (.int .i64 0) = y9 at *
          have hat : ∀ W : World, (Instr.indexAt 48 (.pointer (some ⟨g5, 0, none⟩)) (.int .i64 13)).run Tryz.prog W = .ok (.pointer (some ⟨g5, 117, none⟩)) W := fun W => run_at_ten g5 13 (by decide) W
          have c0 : y9.cell? ⟨g5, 124, none⟩ = some (.int .i64 1) := (J9.out.cell 124).trans rfl
          have f0 : y9.frozen? ⟨g5, 124, none⟩ = false := J9.out.free 124
          have J10 := Lib.hid (J9.out.set 124 (.int .i64 1001))
          have TT10 := Lib.hid (TT9.out.setCell (p := ⟨g5, 124, none⟩) (fun _ => rfl) (.int .i64 1001))
          go_upto_region 21 with fail
          clear hat c0 f0 J9 TT9
          generalize y9.setCell ⟨g5, 124, none⟩ (.int .i64 1001) = y10 at *
          have hat : ∀ W : World, (Instr.indexAt 48 (.pointer (some ⟨g5, 0, none⟩)) (.int .i64 14)).run Tryz.prog W = .ok (.pointer (some ⟨g5, 126, none⟩)) W := fun W => run_at_ten g5 14 (by decide) W
          have c0 : y10.cell? ⟨g5, 134, none⟩ = some (.int .i64 1) := (J10.out.cell 134).trans rfl
          have f0 : y10.frozen? ⟨g5, 134, none⟩ = false := J10.out.free 134
          have J11 := Lib.hid (J10.out.set 134 (.int .i64 1001))
          have TT11 := Lib.hid (TT10.out.setCell (p := ⟨g5, 134, none⟩) (fun _ => rfl) (.int .i64 1001))
          go_upto_region 22 with fail
          clear hat c0 f0 J10 TT10
          generalize y10.setCell ⟨g5, 134, none⟩ (.int .i64 1001) = y11 at *
          have hat : ∀ W : World, (Instr.indexAt 48 (.pointer (some ⟨g5, 0, none⟩)) (.int .i64 15)).run Tryz.prog W = .ok (.pointer (some ⟨g5, 135, none⟩)) W := fun W => run_at_ten g5 15 (by decide) W
          have ja := J11.out.alloc (.cells #[.bool false, .string ⟨#[]⟩, .int .i64 0, .int .i64 0, .slice none 0 0] 51)
          have c0 : (y11.alloc (.cells #[.bool false, .string ⟨#[]⟩, .int .i64 0, .int .i64 0, .slice none 0 0] 51)).cell? ⟨g5, 136, none⟩ = some (.slice none 0 0) := (ja.cell 136).trans rfl
          have f0 : (y11.alloc (.cells #[.bool false, .string ⟨#[]⟩, .int .i64 0, .int .i64 0, .slice none 0 0] 51)).frozen? ⟨g5, 136, none⟩ = false := ja.free 136
          have JF := Lib.hid (ja.set 136 (.slice (some ⟨y11.heap.size, 0, none⟩) 1 1))
          have hne : ¬ y11.heap.size = g5 := fun e => by have := J11.out.lt; omega
          have IZ := Lib.hid ((Is.made y11 51 zeR.cells).far (p := ⟨g5, 136, none⟩) hne (.slice (some ⟨y11.heap.size, 0, none⟩) 1 1))
          have TF := Lib.hid ((TT11.out.alloc (.cells #[.bool false, .string ⟨#[]⟩, .int .i64 0, .int .i64 0, .slice none 0 0] 51)).setCell (p := ⟨g5, 136, none⟩) (fun _ => rfl) (.slice (some ⟨y11.heap.size, 0, none⟩) 1 1))
          have JF' : Hid (Is ((y11.alloc (.cells #[.bool false, .string ⟨#[]⟩, .int .i64 0, .int .i64 0, .slice none 0 0] 51)).setCell ⟨g5, 136, none⟩ (.slice (some ⟨y11.heap.size, 0, none⟩) 1 1)) g5 48 ((turnL (tes (bad0 T2))).set 136 (.slice (some ⟨y11.heap.size, 0, none⟩) 1 1))) := JF
          rw [turn_is] at JF'
          have IZ' : Hid (Is ((y11.alloc (.cells #[.bool false, .string ⟨#[]⟩, .int .i64 0, .int .i64 0, .slice none 0 0] 51)).setCell ⟨g5, 136, none⟩ (.slice (some ⟨y11.heap.size, 0, none⟩) 1 1)) y11.heap.size 51 zeR.cells) := IZ
          clear JF IZ ja
          go_upto_region 23 with fail
          clear hat c0 f0 hne J11 TT11
          generalize (y11.alloc (.cells #[.bool false, .string ⟨#[]⟩, .int .i64 0, .int .i64 0, .slice none 0 0] 51)).setCell ⟨g5, 136, none⟩ (.slice (some ⟨y11.heap.size, 0, none⟩) 1 1) = z at *
          obtain ⟨g22, hg22⟩ : ∃ g, y11.heap.size = g := ⟨_, rfl⟩
          rw [hg22] at JF' IZ'
          clear hg22
          have HB1 := Lib.hid (show Below w.heap.size w z from HB0.out.trans ⟨TF.out.os, TF.out.tape, TF.out.output, TF.out.size, fun b hb => TF.out.block b (by have := HB0.out.size; omega) (by have := LG5.out; omega)⟩)
          have HI1 := Lib.hid (HI0.out.kept TF.out (by have := L25.out; omega))
          have HO1 := Lib.hid (HO0.out.kept TF.out (fun k hk e => by have := LO5.out k hk; omega))
          clear HB0 HI0 HO0 TF LG5 L25 LO5
          go_wp2_with fail
          go_loopw [6] (fun vi wr => ∃ k : Nat, vi = .int .i64 (k : Int) ∧ k ≤ 16 ∧ Hid (Below z.heap.size z wr)) (fun vi _ => 16 - (intOf vi).toNat)
          case atStart => exact ⟨0, rfl, Nat.zero_le _, Lib.hid (Below.refl _ _)⟩
          case round =>
            obtain ⟨k, rfl, hk, HB⟩ := hrel
            have BR := Lib.hid (HB1.out.trans (HB.out.mono HB1.out.size))
            by_cases hlt : k < 16
            · obtain ⟨t, ht⟩ : ∃ t, (badF T2 g22)[k]? = some t := ⟨(badF T2 g22)[k]'hlt, List.getElem?_eq_getElem _⟩
              have hin := List.mem_of_getElem? ht
              have hno := badF_no T2 g22 HM2.out t hin
              have hat := run_at_ten g5 k hlt
              have HC := Lib.hid (fun (W : World) (hW : Below z.heap.size z W) (j : Nat) (v : Value) (hv : t.cells[j]? = some v) => (((is_below JF'.out hW).cell (k * 9 + j)).trans (tes_get (badF T2 g22) k t ht j v hv) : W.cell? ⟨g5, k * 9 + j, none⟩ = some v))
              have HOK := Lib.hid (fun (W : World) (hW : Below z.heap.size z W) => badF_ok T2 g22 HZ2.out W (is_below IZ'.out hW) t hin)
              have CT := tenant_any t wr (HOK.out wr HB.out) (HP.out.below BR.out)
              rw [hno] at CT
              have CT := Lib.hid CT
              have hcf : confF [t] 0 1 = false := by unfold confF; rw [show [t].all tenF = false by simp [hno]]; simp
              have CCF := Lib.hid (fun (W : World) (hW : Below z.heap.size z W) => (conf_call (W.alloc (.cells #[.string t.tok, .slice t.A t.n t.c, .int .i64 t.nb, .int .i64 t.ne, .int .i64 t.ns, .int .i64 t.nc, .int .i64 t.nw, .int .i64 t.nr, .int .i64 t.nu] 27)) (some ⟨W.heap.size, 0, none⟩) [t] 1 1 0 1 false rfl (by decide) (srct_is (t := 27) (TeE.box (w := W) (t := t))) (fun x hx => by rw [List.mem_singleton.1 hx]; exact HOK.out _ (hW.alloc hW.size _)) (HP.out.below ((HB1.out.trans (hW.mono HB1.out.size)).alloc (by have := HB1.out.size; have := hW.size; omega) _)) hcf))
              have y0 := HC.out wr HB.out 0 _ rfl
              have y1 := HC.out wr HB.out 1 _ rfl
              have y2 := HC.out wr HB.out 2 _ rfl
              have y3 := HC.out wr HB.out 3 _ rfl
              have y4 := HC.out wr HB.out 4 _ rfl
              have y5 := HC.out wr HB.out 5 _ rfl
              have y6 := HC.out wr HB.out 6 _ rfl
              have y7 := HC.out wr HB.out 7 _ rfl
              have y8 := HC.out wr HB.out 8 _ rfl
              rw [Nat.add_zero] at y0
              clear ht hin hno hcf
              go_wp2_with fail
              refine CT.out.mono ?_
              rintro e v1 ⟨rfl, b1⟩
              have HB2 := Lib.hid (HB.out.trans (b1.mono HB.out.size))
              have z0 := HC.out v1 HB2.out 0 _ rfl
              have z1 := HC.out v1 HB2.out 1 _ rfl
              have z2 := HC.out v1 HB2.out 2 _ rfl
              have z3 := HC.out v1 HB2.out 3 _ rfl
              have z4 := HC.out v1 HB2.out 4 _ rfl
              have z5 := HC.out v1 HB2.out 5 _ rfl
              have z6 := HC.out v1 HB2.out 6 _ rfl
              have z7 := HC.out v1 HB2.out 7 _ rfl
              have z8 := HC.out v1 HB2.out 8 _ rfl
              rw [Nat.add_zero] at z0
              clear b1 y0 y1 y2 y3 y4 y5 y6 y7 y8
              have C2 := Lib.hid (CCF.out v1 HB2.out)
              go_wp2_with fail
              refine C2.out.mono ?_
              rintro e v2 ⟨rfl, b2⟩
              have hb3 := HB2.out.alloc HB2.out.size (.cells #[.string t.tok, .slice t.A t.n t.c, .int .i64 t.nb, .int .i64 t.ne, .int .i64 t.ns, .int .i64 t.nc, .int .i64 t.nw, .int .i64 t.nr, .int .i64 t.nu] 27)
              have HB3 := Lib.hid (hb3.trans (b2.mono hb3.size))
              clear b2 hb3
              go_wp2_with fail
              go_roundw
              case rel => exact ⟨k + 1, by go_num, hlt, HB3⟩
              case measure => simp [intOf]; omega
            · have BQ := BR
              have IQ := Lib.hid (is_below HI1.out HB.out)
              have OQ := Lib.hid (HO1.out.below HB.out)
              clear HB BR JF' IZ' HI1 HO1 HB1
              generalize wr = x0 at *
              have hr9 := run_append_tes x0 (.slice none 0 0) none [] (lets 8) (OwnT.nil _) A8 8 c8 (lets_len 8) (ownt_at OQ.out) (by rw [lets_len]; decide)
              obtain ⟨u9, v9, o9, r9, own9, t9, ho9⟩ := hr9
              rw [List.nil_append] at own9
              have hb9 : Below x0.heap.size x0 v9 := t9.below (fun k hk h => by cases h)
              have g9 : ∀ b, o9 = some b → x0.heap.size ≤ b := fun b hb => by rcases ho9 b hb with h | h; (cases h); exact h
              have HR9 := Lib.hid r9
              have OW9 := Lib.hid own9
              have G9 := Lib.hid g9
              have BX0 := Lib.hid hb9
              have O9 := Lib.hid (OQ.out.below hb9)
              have I9 := Lib.hid (is_below IQ.out hb9)
              clear r9 own9 t9 ho9 hb9 g9
              go_wp2_with (at_builtin; refine append_by_x rfl (.const (.slice none 0 0)) (.tmp 97) 22 rfl _ _ u9 v9 rfl rfl HR9.out ?_)
              refine (mini_any ⟨#[122]⟩ _).mono ?_
              rintro e v10 ⟨rfl, b10⟩
              have BX1 := Lib.hid (BX0.out.trans (b10.mono BX0.out.size))
              have O10 := Lib.hid (O9.out.below b10)
              have I10 := Lib.hid (is_below I9.out b10)
              have OW10 := Lib.hid (OW9.out.below b10)
              clear b10 HR9 O9 I9 OW9
              have hbz := (Below.refl v10.heap.size v10).alloc (Nat.le_refl _) (.cells #[.string ⟨#[122]⟩, .slice none 0 0, .int .i64 0, .int .i64 0, .int .i64 1, .int .i64 1, .int .i64 0, .int .i64 1, .int .i64 1] 27)
              obtain ⟨u11, v11, o11, r11, own11, t11, ho11⟩ := run_append_tes (v10.alloc (.cells #[.string ⟨#[122]⟩, .slice none 0 0, .int .i64 0, .int .i64 0, .int .i64 1, .int .i64 1, .int .i64 0, .int .i64 1, .int .i64 1] 27)) u9 o9 (lets 8) [miniT ⟨#[122]⟩] (OW10.out.below hbz) (some ⟨v10.heap.size, 0, none⟩) 1 1 rfl (srct_is (t := 27) (TeE.box (w := v10) (t := miniT ⟨#[122]⟩))) (by rw [lets_len]; decide)
              have BX2 := Lib.hid (own_turn (BX1.out.trans (hbz.mono BX1.out.size)) G9.out t11 (o' := none) (fun _ h => by cases h)).1
              have hn8 : ∀ k, o = some k → k < x0.heap.size := fun k hk => OQ.out.lt k hk
              have O11 := Lib.hid ((O10.out.below hbz).kept t11 (fun k hk e => by have := hn8 k hk; have := G9.out k e; omega))
              have hn2 : g2 < x0.heap.size := IQ.out.lt
              have I11 := Lib.hid ((is_below I10.out hbz).kept t11 (fun e => by have := G9.out _ e; omega))
              obtain ⟨A9, c9, hv9, _⟩ := own11.src (fun _ => True) (fun _ _ => trivial)
              rw [show (lets 8 ++ [miniT ⟨#[122]⟩]).length = 9 by rw [List.length_append, lets_len]; rfl] at hv9
              subst hv9
              have HR11 := Lib.hid r11
              have OW11 := Lib.hid own11
              clear r11 own11 t11 ho11 hbz hn8 hn2 O10 I10 OW10 BX1 BX0 G9
              go_wp2_with (at_builtin; refine append_by_x rfl (.tmp 98) (.tmp 100) 22 rfl _ _ (.slice A9 9 c9) v11 rfl rfl HR11.out ?_)
              have hbc := (Below.refl v11.heap.size v11).alloc (Nat.le_refl _) (.cells #[.slice A9 9 c9, .int .i64 0, .int .i64 1] 24)
              have J12 := Lib.hid (Is.made v11 24 [.slice A9 9 c9, .int .i64 0, .int .i64 1])
              have O12 := Lib.hid (O11.out.below hbc)
              have I12 := Lib.hid (is_below I11.out hbc)
              have P12 := Lib.hid (OW11.out.below hbc)
              have BX3 := Lib.hid (BX2.out.trans (hbc.mono BX2.out.size))
              clear hbc O11 I11 OW11 BX2 HR11
              refine (mini_any ⟨#[97]⟩ _).mono ?_
              rintro e v13 ⟨rfl, b13⟩
              have J13 := Lib.hid (is_below J12.out b13)
              have O13 := Lib.hid (O12.out.below b13)
              have I13 := Lib.hid (is_below I12.out b13)
              have P13 := Lib.hid (P12.out.below b13)
              have BX4 := Lib.hid (BX3.out.trans (b13.mono BX3.out.size))
              clear b13 J12 O12 I12 P12
              go_wp2_with fail
              refine (mini_any ⟨#[97]⟩ _).mono ?_
              rintro e v14 ⟨rfl, b14⟩
              have J14 := Lib.hid (is_below J13.out b14)
              have O14 := Lib.hid (O13.out.below b14)
              have I14 := Lib.hid (is_below I13.out b14)
              have P14 := Lib.hid (P13.out.below b14)
              have BX5 := Lib.hid (BX4.out.trans (b14.mono BX4.out.size))
              clear b14 J13 O13 I13 P13
              go_wp2_with fail
              have hba := (Below.refl v14.heap.size v14).alloc (Nat.le_refl _) (.cells #[.string ⟨#[97]⟩, .slice none 0 0, .int .i64 0, .int .i64 0, .int .i64 1, .int .i64 1, .int .i64 0, .int .i64 1, .int .i64 1, .string ⟨#[97]⟩, .slice none 0 0, .int .i64 0, .int .i64 0, .int .i64 1, .int .i64 1, .int .i64 0, .int .i64 1, .int .i64 1] 27)
              have hbb : Below v14.heap.size v14 ((v14.alloc (.cells #[.string ⟨#[97]⟩, .slice none 0 0, .int .i64 0, .int .i64 0, .int .i64 1, .int .i64 1, .int .i64 0, .int .i64 1, .int .i64 1, .string ⟨#[97]⟩, .slice none 0 0, .int .i64 0, .int .i64 0, .int .i64 1, .int .i64 1, .int .i64 0, .int .i64 1, .int .i64 1] 27)).alloc (.cells #[.slice (some ⟨v14.heap.size, 0, none⟩) 2 2, .int .i64 0, .int .i64 1] 24)) := hba.alloc hba.size _
              have i8 := Is.made (v14.alloc (.cells #[.string ⟨#[97]⟩, .slice none 0 0, .int .i64 0, .int .i64 0, .int .i64 1, .int .i64 1, .int .i64 0, .int .i64 1, .int .i64 1, .string ⟨#[97]⟩, .slice none 0 0, .int .i64 0, .int .i64 0, .int .i64 1, .int .i64 1, .int .i64 0, .int .i64 1, .int .i64 1] 27)) 24 [.slice (some ⟨v14.heap.size, 0, none⟩) 2 2, .int .i64 0, .int .i64 1]
              rw [show (v14.alloc (.cells #[.string ⟨#[97]⟩, .slice none 0 0, .int .i64 0, .int .i64 0, .int .i64 1, .int .i64 1, .int .i64 0, .int .i64 1, .int .i64 1, .string ⟨#[97]⟩, .slice none 0 0, .int .i64 0, .int .i64 0, .int .i64 1, .int .i64 1, .int .i64 0, .int .i64 1, .int .i64 1] 27)).heap.size = v14.heap.size + 1 by simp] at i8
              have q8 : SrcT ((v14.alloc (.cells #[.string ⟨#[97]⟩, .slice none 0 0, .int .i64 0, .int .i64 0, .int .i64 1, .int .i64 1, .int .i64 0, .int .i64 1, .int .i64 1, .string ⟨#[97]⟩, .slice none 0 0, .int .i64 0, .int .i64 0, .int .i64 1, .int .i64 1, .int .i64 0, .int .i64 1, .int .i64 1] 27)).alloc (.cells #[.slice (some ⟨v14.heap.size, 0, none⟩) 2 2, .int .i64 0, .int .i64 1] 24)) (fun _ => True) (some ⟨v14.heap.size, 0, none⟩) [miniT ⟨#[97]⟩, miniT ⟨#[97]⟩] := srct_is ((Is.made v14 27 (tes [miniT ⟨#[97]⟩, miniT ⟨#[97]⟩])).alloc _)
              have KN0 := Lib.hid (KN.mk (o8 := o) (is_below I14.out hbb) (O14.out.below hbb) (is_below J14.out hbb) (P14.out.below hbb) i8 q8 : KN g2 v11.heap.size (v14.heap.size + 1) v14.heap.size A8 c8 o A9 c9 o11 T1 ((v14.alloc (.cells #[.string ⟨#[97]⟩, .slice none 0 0, .int .i64 0, .int .i64 0, .int .i64 1, .int .i64 1, .int .i64 0, .int .i64 1, .int .i64 1, .string ⟨#[97]⟩, .slice none 0 0, .int .i64 0, .int .i64 0, .int .i64 1, .int .i64 1, .int .i64 0, .int .i64 1, .int .i64 1] 27)).alloc (.cells #[.slice (some ⟨v14.heap.size, 0, none⟩) 2 2, .int .i64 0, .int .i64 1] 24)))
              have HW0 := Lib.hid (BQ.out.trans ((BX5.out.trans (hbb.mono BX5.out.size)).mono BQ.out.size))
              generalize ((v14.alloc (.cells #[.string ⟨#[97]⟩, .slice none 0 0, .int .i64 0, .int .i64 0, .int .i64 1, .int .i64 1, .int .i64 0, .int .i64 1, .int .i64 1, .string ⟨#[97]⟩, .slice none 0 0, .int .i64 0, .int .i64 0, .int .i64 1, .int .i64 1, .int .i64 0, .int .i64 1, .int .i64 1] 27)).alloc (.cells #[.slice (some ⟨v14.heap.size, 0, none⟩) 2 2, .int .i64 0, .int .i64 1] 24)) = p0 at *
              clear hba hbb i8 q8 I14 O14 J14 P14 BX5 BX4 BX3 OQ IQ BQ
              generalize v11.heap.size = g7 at *
              generalize v14.heap.size = gb at *
              have cc := cred_any ⟨#[66, 101, 97, 114, 101, 114]⟩ p0 (by decide)
              rw [show credF (bl ⟨#[66, 101, 97, 114, 101, 114]⟩) = none by decide +kernel] at cc
              have CC := Lib.hid cc
              clear cc
              unfold credV at CC
              refine (CC.out).mono ?_
              rintro e p1 ⟨rfl, b1⟩
              have KN1 := Lib.hid (KN0.out.below b1)
              have HW1 := Lib.hid (HW0.out.trans (b1.mono HW0.out.size))
              clear b1 KN0
              clear CC
              have cc := cred_any ⟨#[66, 101, 97, 114, 101, 114, 32, 120, 32, 121]⟩ p1 (by decide)
              rw [show credF (bl ⟨#[66, 101, 97, 114, 101, 114, 32, 120, 32, 121]⟩) = none by decide +kernel] at cc
              have CC := Lib.hid cc
              clear cc
              unfold credV at CC
              go_wp2_with fail
              refine (CC.out).mono ?_
              rintro e p2 ⟨rfl, b2⟩
              have KN2 := Lib.hid (KN1.out.below b2)
              have HW2 := Lib.hid (HW1.out.trans (b2.mono HW1.out.size))
              clear b2 KN1
              clear CC
              have cc := cred_any ⟨#[66, 101, 97, 114, 101, 114, 9, 120]⟩ p2 (by decide)
              rw [show credF (bl ⟨#[66, 101, 97, 114, 101, 114, 9, 120]⟩) = none by decide +kernel] at cc
              have CC := Lib.hid cc
              clear cc
              unfold credV at CC
              go_wp2_with fail
              refine (CC.out).mono ?_
              rintro e p3 ⟨rfl, b3⟩
              have KN3 := Lib.hid (KN2.out.below b3)
              have HW3 := Lib.hid (HW2.out.trans (b3.mono HW2.out.size))
              clear b3 KN2
              clear CC
              go_wp2_with fail
              refine (conf_call p3 A8 (lets 8) 8 c8 16 1099511627776 true (lets_len 8) (by decide) (ownt_at KN3.out.o) (lets_ok 8 _) (HP.out.below HW3.out) lets_conf.1).mono ?_
              rintro e p4 ⟨rfl, b4⟩
              have KN4 := Lib.hid (KN3.out.below b4)
              have HW4 := Lib.hid (HW3.out.trans (b4.mono HW3.out.size))
              clear b4 KN3
              have y0 := KN4.out.i.cell 0
              have y1 := KN4.out.i.cell 1
              have y2 := KN4.out.i.cell 2
              have y3 := KN4.out.i.cell 3
              have y4 := KN4.out.i.cell 4
              have y5 := KN4.out.i.cell 5
              have y6 := KN4.out.i.cell 6
              have y7 := KN4.out.i.cell 7
              have y8 := KN4.out.i.cell 8
              simp only [TeE.cells, fullT, List.getElem?_cons_zero, List.getElem?_cons_succ] at y0 y1 y2 y3 y4 y5 y6 y7 y8
              go_wp2_with fail
              have hbf := (Below.refl p4.heap.size p4).alloc (Nat.le_refl _) (.cells #[.string T1, .slice none 0 0, .int .i64 262144, .int .i64 64, .int .i64 16, .int .i64 8, .int .i64 16, .int .i64 1000, .int .i64 1000] 27)
              clear y0 y1 y2 y3 y4 y5 y6 y7 y8
              refine (conf_call (p4.alloc (.cells #[.string T1, .slice none 0 0, .int .i64 262144, .int .i64 64, .int .i64 16, .int .i64 8, .int .i64 16, .int .i64 1000, .int .i64 1000] 27)) (some ⟨p4.heap.size, 0, none⟩) [fullT T1] 1 1 0 1 true rfl (by decide) (srct_is (t := 27) (TeE.box (w := p4) (t := fullT T1))) (fun x hx => by rw [List.mem_singleton.1 hx]; exact full_ok T1 _ HZ1.out) (HP.out.below (HW4.out.trans (hbf.mono HW4.out.size))) (full_conf HM1.out)).mono ?_
              rintro e p5 ⟨rfl, b5⟩
              have KN5 := Lib.hid (KN4.out.below (hbf.trans (b5.mono hbf.size)))
              have HW5 := Lib.hid (HW4.out.trans ((hbf.trans (b5.mono hbf.size)).mono HW4.out.size))
              clear b5 KN4 hbf
              have y0 := KN5.out.j.cell 0
              have y1 := KN5.out.j.cell 1
              have y2 := KN5.out.j.cell 2
              simp only [List.getElem?_cons_zero, List.getElem?_cons_succ] at y0 y1 y2
              go_wp2_with fail
              clear y0 y1 y2
              refine (conf_call p5 A9 (lets 8 ++ [miniT ⟨#[122]⟩]) 9 c9 0 1 false (by rw [List.length_append, lets_len]; rfl) (by decide) (ownt_at KN5.out.p) (nine_ok _) (HP.out.below HW5.out) lets_conf.2.2.2.2.2.1).mono ?_
              rintro e p6 ⟨rfl, b6⟩
              have KN6 := Lib.hid (KN5.out.below b6)
              have HW6 := Lib.hid (HW5.out.trans (b6.mono HW5.out.size))
              clear b6 KN5
              have y0 := KN6.out.k.cell 0
              have y1 := KN6.out.k.cell 1
              have y2 := KN6.out.k.cell 2
              simp only [List.getElem?_cons_zero, List.getElem?_cons_succ] at y0 y1 y2
              go_wp2_with fail
              clear y0 y1 y2
              refine (conf_call p6 (some ⟨gb, 0, none⟩) [miniT ⟨#[97]⟩, miniT ⟨#[97]⟩] 2 2 0 1 false rfl (by decide) KN6.out.q (two_ok _) (HP.out.below HW6.out) lets_conf.2.2.2.2.2.2.1).mono ?_
              rintro e p7 ⟨rfl, b7⟩
              have KN7 := Lib.hid (KN6.out.below b7)
              have HW7 := Lib.hid (HW6.out.trans (b7.mono HW6.out.size))
              clear b7 KN6
              go_wp2_with fail
              refine (conf_call p7 none [] 0 0 0 1 false rfl (by decide) (fun h => absurd h (by simp)) (fun _ h => by cases h) (HP.out.below HW7.out) lets_conf.2.2.2.2.2.2.2).mono ?_
              rintro e p8 ⟨rfl, b8⟩
              have KN8 := Lib.hid (KN7.out.below b8)
              have HW8 := Lib.hid (HW7.out.trans (b8.mono HW7.out.size))
              clear b8 KN7
              go_wp2_with fail
              refine (conf_call p8 A8 (lets 8) 8 c8 0 0 false (lets_len 8) (by decide) (ownt_at KN8.out.o) (lets_ok 8 _) (HP.out.below HW8.out) lets_conf.2.1).mono ?_
              rintro e p9 ⟨rfl, b9⟩
              have KN9 := Lib.hid (KN8.out.below b9)
              have HW9 := Lib.hid (HW8.out.trans (b9.mono HW8.out.size))
              clear b9 KN8
              go_wp2_with fail
              refine (conf_call p9 A8 (lets 8) 8 c8 0 1099511627777 false (lets_len 8) (by decide) (ownt_at KN9.out.o) (lets_ok 8 _) (HP.out.below HW9.out) lets_conf.2.2.1).mono ?_
              rintro e p10 ⟨rfl, b10⟩
              have KN10 := Lib.hid (KN9.out.below b10)
              have HW10 := Lib.hid (HW9.out.trans (b10.mono HW9.out.size))
              clear b10 KN9
              go_wp2_with fail
              refine (conf_call p10 A8 (lets 8) 8 c8 17 1 false (lets_len 8) (by decide) (ownt_at KN10.out.o) (lets_ok 8 _) (HP.out.below HW10.out) lets_conf.2.2.2.1).mono ?_
              rintro e p11 ⟨rfl, b11⟩
              have KN11 := Lib.hid (KN10.out.below b11)
              have HW11 := Lib.hid (HW10.out.trans (b11.mono HW10.out.size))
              clear b11 KN10
              go_wp2_with fail
              refine (conf_call p11 A8 (lets 8) 8 c8 (-1) 1 false (lets_len 8) (by decide) (ownt_at KN11.out.o) (lets_ok 8 _) (HP.out.below HW11.out) lets_conf.2.2.2.2.1).mono ?_
              rintro e p12 ⟨rfl, b12⟩
              have KN12 := Lib.hid (KN11.out.below b12)
              have HW12 := Lib.hid (HW11.out.trans (b12.mono HW11.out.size))
              clear b12 KN11
              go_wp2_with fail
              refine (wakes_any p12 (HP.out.below HW12.out)).mono ?_
              rintro e p13 ⟨rfl, b13⟩
              have KN13 := Lib.hid (KN12.out.below b13)
              have HW13 := Lib.hid (HW12.out.trans (b13.mono HW12.out.size))
              clear b13 KN12
              go_wp2_with fail
              go_ret
              exact ⟨rfl, HW13.out⟩
end Go.Proofs.YtopanahgeeolbaaGreatDoor.Aut
