/-
  What is told of messages, in parts: bounds; what stays.
  Conditions: those that each theorem names.
-/
import Derived.Test.YtemgfppclakdmaaGreatDoorMJ
namespace Go.Proofs.YtemgfppclakdmaaGreatDoor
open Go.RowKit

theorem srcf_one (X : World) (a b : List UInt8) (cur : Array Value) (hc : #[.string ⟨a.toArray⟩, .string ⟨b.toArray⟩] = cur) : SrcF (X.alloc (.cells cur 58)) (fun _ => True) (some ⟨X.heap.size, 0, none⟩) [(a, b)] := fun _ => by
  subst hc
  have hi := Is.made X 58 [.string ⟨a.toArray⟩, .string ⟨b.toArray⟩]
  refine ⟨_, rfl, trivial, by simp, fun i f hf => ?_⟩
  have h0 : i < 1 := (List.getElem?_eq_some_iff.1 hf).1
  obtain rfl : i = 0 := by omega
  obtain rfl : (a, b) = f := by simpa using hf
  rw [add_at, add_at]
  exact ⟨hi.cell 0, hi.cell 1⟩
set_option maxHeartbeats 16000000 in
set_option maxRecDepth 100000 in
theorem awake9_any (HC : MsgC) (w : World) (hp : Sta.PowT w) : Calls Tryz.prog 15 #[] w fun e w' => e = .returned (.bool true) ∧ Below w.heap.size w w' := by
  have T1 := Lib.hid (fun (X : World) (h : Sta.PowT X) => req_lit HC wkA _ 40 0 (.inl wake9a) #[.int .u8 80, .int .u8 79, .int .u8 83, .int .u8 84, .int .u8 32, .int .u8 47, .int .u8 32, .int .u8 72, .int .u8 84, .int .u8 84, .int .u8 80, .int .u8 47, .int .u8 49, .int .u8 46, .int .u8 49, .int .u8 13, .int .u8 10, .int .u8 67, .int .u8 111, .int .u8 110, .int .u8 116, .int .u8 101, .int .u8 110, .int .u8 116, .int .u8 45, .int .u8 76, .int .u8 101, .int .u8 110, .int .u8 103, .int .u8 116, .int .u8 104, .int .u8 58, .int .u8 32, .int .u8 50, .int .u8 13, .int .u8 10, .int .u8 13, .int .u8 10, .int .u8 97, .int .u8 98, .int .u8 99] rfl 41 rfl (by omega) X h)
  have T2 := Lib.hid (fun (X : World) (h : Sta.PowT X) => res_lit HC wkB ⟨#[71, 69, 84]⟩ true (by decide) _ 21 0 (.inl wake9b) #[.int .u8 72, .int .u8 84, .int .u8 84, .int .u8 80, .int .u8 47, .int .u8 49, .int .u8 46, .int .u8 49, .int .u8 32, .int .u8 50, .int .u8 48, .int .u8 48, .int .u8 32, .int .u8 79, .int .u8 75, .int .u8 13, .int .u8 10, .int .u8 13, .int .u8 10, .int .u8 97, .int .u8 98] rfl 21 rfl (by omega) X h)
  have T3 := Lib.hid (fun (X : World) (h : Sta.PowT X) => res_lit HC wkB ⟨#[71, 69, 84]⟩ false (by decide) rsZ 0 8 (.inr ⟨wake9c, rfl⟩) #[.int .u8 72, .int .u8 84, .int .u8 84, .int .u8 80, .int .u8 47, .int .u8 49, .int .u8 46, .int .u8 49, .int .u8 32, .int .u8 50, .int .u8 48, .int .u8 48, .int .u8 32, .int .u8 79, .int .u8 75, .int .u8 13, .int .u8 10, .int .u8 13, .int .u8 10, .int .u8 97, .int .u8 98] rfl 21 rfl (by omega) X h)
  unfold RqTold at T1
  unfold RsTold rsZ at T3
  unfold RsTold at T2
  simp only [List.length_cons, List.length_nil, Nat.zero_add, Nat.reduceAdd] at T1 T2 T3
  have HP := Lib.hid hp
  have K1 := const_any #[.int .u8 80, .int .u8 79, .int .u8 83, .int .u8 84, .int .u8 32, .int .u8 47, .int .u8 32, .int .u8 72, .int .u8 84, .int .u8 84, .int .u8 80, .int .u8 47, .int .u8 49, .int .u8 46, .int .u8 49, .int .u8 13, .int .u8 10, .int .u8 67, .int .u8 111, .int .u8 110, .int .u8 116, .int .u8 101, .int .u8 110, .int .u8 116, .int .u8 45, .int .u8 76, .int .u8 101, .int .u8 110, .int .u8 103, .int .u8 116, .int .u8 104, .int .u8 58, .int .u8 32, .int .u8 50, .int .u8 13, .int .u8 10, .int .u8 13, .int .u8 10, .int .u8 97, .int .u8 98, .int .u8 99] 41 rfl w _ rfl
  clear hp
  go_enter Tryz.func15, Tryz.ntmps15
  go_wp2_with fail
  refine (T1.out w HP.out).mono ?_
  rintro e w1 ⟨Af1, cf1, Ab1, cb1, rfl, _, sb1, b1⟩
  have I1 := Lib.hid (Is.made w1 25 [.string ⟨#[80, 79, 83, 84]⟩, .string ⟨#[47]⟩, .int .i64 1, .slice Af1 1 cf1, .slice Ab1 2 cb1])
  have B1 := Lib.hid (b1.alloc b1.size (.cells #[.string ⟨#[80, 79, 83, 84]⟩, .string ⟨#[47]⟩, .int .i64 1, .slice Af1 1 cf1, .slice Ab1 2 cb1] 25))
  have S1 := Lib.hid (sb1.kept (Turn.of_below (S := fun _ => False) ((Below.refl w1.heap.size w1).alloc (Nat.le_refl _) (.cells #[.string ⟨#[80, 79, 83, 84]⟩, .string ⟨#[47]⟩, .int .i64 1, .slice Af1 1 cf1, .slice Ab1 2 cb1] 25))) (fun _ _ h => h))
  clear b1 sb1 K1 T1
  go_upto_region 2 with fail
  generalize w1.alloc _ = X1 at *
  generalize w1.heap.size = g1 at *
  have K2 := const_any #[.int .u8 72, .int .u8 84, .int .u8 84, .int .u8 80, .int .u8 47, .int .u8 49, .int .u8 46, .int .u8 49, .int .u8 32, .int .u8 50, .int .u8 48, .int .u8 48, .int .u8 32, .int .u8 79, .int .u8 75, .int .u8 13, .int .u8 10, .int .u8 13, .int .u8 10, .int .u8 97, .int .u8 98] 21 rfl X1 _ rfl
  go_wp2_with fail
  refine (T2.out X1 (HP.out.below B1.out)).mono ?_
  rintro e w2 ⟨Af2, cf2, Ab2, cb2, rfl, _, sb2, b2⟩
  have I2 := Lib.hid (Is.made w2 32 [.int .i64 200, .string ⟨#[79, 75]⟩, .int .i64 1, .slice Af2 0 cf2, .slice Ab2 2 cb2])
  have b2' := b2.alloc b2.size (.cells #[.int .i64 200, .string ⟨#[79, 75]⟩, .int .i64 1, .slice Af2 0 cf2, .slice Ab2 2 cb2] 32)
  have S2 := Lib.hid (sb2.kept (Turn.of_below (S := fun _ => False) ((Below.refl w2.heap.size w2).alloc (Nat.le_refl _) (.cells #[.int .i64 200, .string ⟨#[79, 75]⟩, .int .i64 1, .slice Af2 0 cf2, .slice Ab2 2 cb2] 32))) (fun _ _ h => h))
  have B2 := Lib.hid (B1.out.trans (b2'.mono B1.out.size))
  have S12 := Lib.hid (S1.out.kept (Turn.of_below (S := fun _ => False) b2') (fun _ _ h => h))
  have I12 := Lib.hid (I1.out.kept (Turn.of_below (S := fun _ => False) b2') (fun h => h))
  clear b2 b2' sb2 K2 T2 I1 S1
  go_upto_region 3 with fail
  generalize w2.alloc _ = X2 at *
  generalize w2.heap.size = g2 at *
  have K3 := const_any #[.int .u8 72, .int .u8 84, .int .u8 84, .int .u8 80, .int .u8 47, .int .u8 49, .int .u8 46, .int .u8 49, .int .u8 32, .int .u8 50, .int .u8 48, .int .u8 48, .int .u8 32, .int .u8 79, .int .u8 75, .int .u8 13, .int .u8 10, .int .u8 13, .int .u8 10, .int .u8 97, .int .u8 98] 21 rfl X2 _ rfl
  go_wp2_with fail
  refine (T3.out X2 (HP.out.below B2.out)).mono ?_
  rintro e w3 ⟨Af3, cf3, Ab3, cb3, rfl, _, _, b3⟩
  have b3' := b3.alloc b3.size (.cells #[.int .i64 0, .string ⟨#[]⟩, .int .i64 0, .slice Af3 0 cf3, .slice Ab3 0 cb3] 32)
  have B3 := Lib.hid (B2.out.trans (b3'.mono B2.out.size))
  have S13 := Lib.hid (S12.out.kept (Turn.of_below (S := fun _ => False) b3') (fun _ _ h => h))
  have I13 := Lib.hid (I12.out.kept (Turn.of_below (S := fun _ => False) b3') (fun h => h))
  have S23 := Lib.hid (S2.out.kept (Turn.of_below (S := fun _ => False) b3') (fun _ _ h => h))
  have I23 := Lib.hid (I2.out.kept (Turn.of_below (S := fun _ => False) b3') (fun h => h))
  clear b3 b3' K3 T3 S12 I12 S2 I2
  go_upto_region 4 with fail
  generalize w3.alloc _ = X3 at *
  generalize w3.heap.size = g3 at *
  have B4 := Lib.hid (B3.out.alloc B3.out.size (.cells #[.string ⟨#[72, 111, 115, 116]⟩, .string ⟨#[120]⟩] 58))
  have bx : Below X3.heap.size X3 (X3.alloc (.cells #[.string ⟨#[72, 111, 115, 116]⟩, .string ⟨#[120]⟩] 58)) := (Below.refl _ _).alloc (Nat.le_refl _) _
  have S14 := Lib.hid (S13.out.kept (Turn.of_below (S := fun _ => False) bx) (fun _ _ h => h))
  have I14 := Lib.hid (I13.out.kept (Turn.of_below (S := fun _ => False) bx) (fun h => h))
  have S24 := Lib.hid (S23.out.kept (Turn.of_below (S := fun _ => False) bx) (fun _ _ h => h))
  have I24 := Lib.hid (I23.out.kept (Turn.of_below (S := fun _ => False) bx) (fun h => h))
  have CP := Lib.hid (HC.putRequest (X3.alloc (.cells #[.string ⟨#[72, 111, 115, 116]⟩, .string ⟨#[120]⟩] 58)) ⟨#[71, 69, 84]⟩ ⟨#[47]⟩ 1 (some ⟨X3.heap.size, 0, none⟩) none [([72, 111, 115, 116], [120])] [] 1 1 0 0 rfl rfl (by decide) (by decide) ⟨by decide, by decide⟩ (by decide) (by omega) (srcf_one X3 _ _ _ rfl) (fun h => absurd h (by simp)) (HP.out.below B4.out))
  rw [show bl ⟨#[71, 69, 84]⟩ = [71, 69, 84] from rfl, show bl ⟨#[47]⟩ = [47] from rfl, wake9d] at CP
  unfold PutGot9 at CP
  simp only at CP
  clear bx S13 I13 S23 I23
  go_wp2_with fail
  refine CP.out.mono ?_
  rintro e w4 ⟨A4, c4, rfl, _, s4, b4⟩
  have B5 := Lib.hid (B4.out.trans (b4.mono B4.out.size))
  have J1 := Lib.hid (I14.out.kept (Turn.of_below (S := fun _ => False) b4) (fun h => h))
  have J2 := Lib.hid (I24.out.kept (Turn.of_below (S := fun _ => False) b4) (fun h => h))
  have x0 : w4.cell? ⟨g1, 0, none⟩ = some (.string ⟨#[80, 79, 83, 84]⟩) := J1.out.cell 0
  have x4 : w4.cell? ⟨g1, 4, none⟩ = some (.slice Ab1 2 cb1) := J1.out.cell 4
  have y4 : w4.cell? ⟨g2, 4, none⟩ = some (.slice Ab2 2 cb2) := J2.out.cell 4
  have r1 : (convert 22 9 (.slice Ab1 2 cb1)).run Tryz.prog w4 = .ok (.string ⟨#[97, 98]⟩) w4 := run_text w4 Ab1 [97, 98] 2 cb1 rfl (S14.out.kept (Turn.of_below (S := fun _ => False) b4) (fun _ _ h => h))
  have r2 : (convert 22 9 (.slice Ab2 2 cb2)).run Tryz.prog w4 = .ok (.string ⟨#[97, 98]⟩) w4 := run_text w4 Ab2 [97, 98] 2 cb2 rfl (S24.out.kept (Turn.of_below (S := fun _ => False) b4) (fun _ _ h => h))
  have r3 : (convert 22 9 (.slice A4 27 c4)).run Tryz.prog w4 = .ok (.string ⟨#[71, 69, 84, 32, 47, 32, 72, 84, 84, 80, 47, 49, 46, 49, 13, 10, 72, 111, 115, 116, 58, 32, 120, 13, 10, 13, 10]⟩) w4 := run_text w4 A4 wkC 27 c4 rfl s4
  rw [show wkC.length = 27 from rfl]
  clear s4 b4 S14 I14 S24 I24 CP
  go_wp2_with fail
  go_ret
  exact ⟨rfl, B5.out⟩
end Go.Proofs.YtemgfppclakdmaaGreatDoor

namespace Go.Proofs.YtemgfppclakdmaaGreatDoor
open Go.RowKit

theorem msgM_bulk {α : Type} (begin : List UInt8 → Option α) (kind : α → List Fld → Kd) (ended : Bool) (b : List UInt8) (a : α) (l : List Fld) (x : List UInt8) (h : (msgM begin kind ended b).1 = some (a, l, x)) : bulkF l ≤ 1000000 := by
  unfold msgM lineM at h
  split at h
  · cases h
  · split at h
    · cases h
    · unfold restM at h
      split at h
      · cases h
      · split at h
        · cases h
        · unfold doneM at h
          split at h
          · cases h
          · simp only [Option.some.injEq, Prod.mk.injEq] at h
            rw [← h.2.1]
            exact fieldsM_bulk b _
theorem bulk_len (ls : List Fld) : ls.length ≤ bulkF ls := by
  induction ls with
  | nil => exact Nat.le_refl _
  | cons f r ih =>
    rw [bulkF_cons, List.length_cons]
    omega
/-- A request that is told, in parts. -/
theorem req_parts (b : List UInt8) : ∃ (am at_ : List UInt8) (an : Nat) (fl : List Fld) (x : List UInt8) (u f : Nat), (requestM b).1.getD rqZ = ((am, at_, an), fl, x) ∧ (requestM b).2 = (u, f) ∧ x.length ≤ 4096 ∧ u ≤ b.length ∧ (f ≠ 0 → u = 0) ∧ fl.length ≤ 1000000 := by
  rcases request_range b with ⟨⟨am, at_, an⟩, fl, x, h1, h2, h3, h4⟩ | ⟨h1, h2, h3⟩
  · refine ⟨am, at_, an, fl, x, (requestM b).2.1, (requestM b).2.2, by rw [h1]; rfl, rfl, h3, h4, fun h => absurd h2 h, ?_⟩
    exact Nat.le_trans (bulk_len fl) (msgM_bulk _ _ _ b _ fl x h1)
  · exact ⟨[], [], 0, [], [], (requestM b).2.1, (requestM b).2.2, by rw [h2]; rfl, rfl, by simp, by omega, fun _ => h3, by simp⟩
theorem res_parts (b m : List UInt8) (ended : Bool) : ∃ (ar : List UInt8) (an as_ : Nat) (fl : List Fld) (x : List UInt8) (u f : Nat), (responseM b m ended).1.getD rsZ = ((an, as_, ar), fl, x) ∧ (responseM b m ended).2 = (u, f) ∧ x.length ≤ 4096 ∧ u ≤ b.length ∧ (f ≠ 0 → u = 0) ∧ fl.length ≤ 1000000 := by
  rcases response_range b m ended with ⟨⟨an, as_, ar⟩, fl, x, h1, h2, h3, h4⟩ | ⟨h1, h2, h3⟩
  · refine ⟨ar, an, as_, fl, x, (responseM b m ended).2.1, (responseM b m ended).2.2, by rw [h1]; rfl, rfl, h3, h4, fun h => absurd h2 h, ?_⟩
    exact Nat.le_trans (bulk_len fl) (msgM_bulk _ _ _ b _ fl x h1)
  · exact ⟨[], 0, 0, [], [], (responseM b m ended).2.1, (responseM b m ended).2.2, by rw [h2]; rfl, rfl, by simp, by omega, fun _ => h3, by simp⟩
end Go.Proofs.YtemgfppclakdmaaGreatDoor
