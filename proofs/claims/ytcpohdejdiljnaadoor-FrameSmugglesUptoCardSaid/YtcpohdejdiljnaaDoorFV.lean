/-
  The laws' awake: the document's examples.
  Conditions: none.
-/
import Derived.Test.YtcpohdejdiljnaaDoorFM
namespace Go.Proofs.YtcpohdejdiljnaaDoor
open Go.RowKit

/-- Fields that a block holds. -/
theorem srcf_made (w : World) (ls : List Fld) (cur : Array Value) (h : (flds ls).toArray = cur) : SrcF (w.alloc (.cells cur 34)) (fun _ => True) (some ⟨w.heap.size, 0, none⟩) ls := fun _ => by
  subst h
  have hi := Is.made w 34 (flds ls)
  refine ⟨_, rfl, trivial, by simp, fun i g hg => ?_⟩
  obtain ⟨g0, g1⟩ := flds_get ls i g hg
  constructor
  · rw [add_at]; exact (hi.cell (0 + i * 2)).trans (by rw [Nat.zero_add]; exact g0)
  · rw [add_at]; exact (hi.cell (0 + (i * 2 + 1))).trans (by rw [Nat.zero_add]; exact g1)
def clN : List UInt8 := [67, 111, 110, 116, 101, 110, 116, 45, 76, 101, 110, 103, 116, 104]
def teN : List UInt8 := [84, 114, 97, 110, 115, 102, 101, 114, 45, 69, 110, 99, 111, 100, 105, 110, 103]

theorem awake1 : reqK 1 [(lenN, [53, 44, 32, 48, 53])] = (1, 5, 0) := by decide +kernel
theorem awake2 : reqK 1 [(teN, [67, 104, 117, 110, 107, 101, 100])] = (2, 0, 0) := by decide +kernel
theorem awake3 : reqK 1 [(clN, [53]), (clN, [54])] = (0, 0, 22) := by decide +kernel
theorem awake4 : resK 200 [71, 69, 84] (reqK 1 []) = (3, 0, 0) := by decide +kernel
/-- A request of fields that a block holds. -/
theorem req_made (minor : Int) (ls : List Fld) (p : Kd) (hp : reqK minor ls = p) (hb : bulkF ls ≤ 1000000000) (cur : Array Value) (h : (flds ls).toArray = cur) (n c : Nat) (hn : ls.length = n) (w : World) :
    Calls Tryd.prog 8 #[.int .i64 minor, .slice (some ⟨w.heap.size, 0, none⟩) n c] (w.alloc (.cells cur 34)) (Tells p (w.alloc (.cells cur 34))) := by
  rw [← hp]
  exact request_any minor _ _ ls n c hn (srcf_made w ls cur h) (Meek.small hb).fit

set_option maxHeartbeats 4000000 in
set_option maxRecDepth 100000 in
theorem awake_any (w : World) : Calls Tryd.prog 12 #[] w fun e w' => e = .returned (.bool true) ∧ Below w.heap.size w w' := by
  have C1 := Lib.hid (req_made 1 _ _ awake1 (by decide) _ rfl 1 1 rfl)
  have C2 := Lib.hid (req_made 1 _ _ awake2 (by decide) _ rfl 1 1 rfl)
  have C3 := Lib.hid (req_made 1 _ _ awake3 (by decide) _ rfl 2 2 rfl)
  have C4 := Lib.hid (fun X : World => response_any (P := fun _ => True) 200 ⟨#[71, 69, 84]⟩ 1 X none [] 0 0 rfl (fun h => absurd h (by simp)) (Meek.small (by decide)).fit)
  rw [show bl ⟨#[71, 69, 84]⟩ = [71, 69, 84] from rfl, awake4] at C4
  unfold Tells kdV at C1 C2 C3 C4
  simp only at C1 C2 C3 C4
  go_enter Tryd.func12, Tryd.ntmps12
  go_wp2_with fail
  refine (C1.out _).mono ?_
  rintro e w1 ⟨rfl, b1⟩
  have B1 := Lib.hid (((Below.refl w.heap.size w).alloc (Nat.le_refl _) _).trans (b1.mono (by simp)))
  clear b1
  go_wp2_with fail
  refine (C2.out _).mono ?_
  rintro e w2 ⟨rfl, b2⟩
  have B2 := Lib.hid ((B1.out.alloc B1.out.size _).trans (b2.mono (by have := B1.out.size; simp; omega)))
  clear b2
  go_wp2_with fail
  refine (C3.out _).mono ?_
  rintro e w3 ⟨rfl, b3⟩
  have B3 := Lib.hid ((B2.out.alloc B2.out.size _).trans (b3.mono (by have := B2.out.size; simp; omega)))
  clear b3
  go_wp2_with fail
  refine (C4.out _).mono ?_
  rintro e w4 ⟨rfl, b4⟩
  have B4 := Lib.hid (B3.out.trans (b4.mono B3.out.size))
  clear b4
  go_wp2_with fail
  go_ret
  exact ⟨rfl, B4.out⟩
end Go.Proofs.YtcpohdejdiljnaaDoor
