/-
  The law StartKnown: walk.
  Conditions: Go's table of powers of ten is as its text lays it.
-/
import Derived.Test.YteggdakbebnjfaaDoorGH
namespace Go.Proofs.YteggdakbebnjfaaDoor
open Go.RowKit

theorem bl_app (a b : ByteArray) : bl (a ++ b) = bl a ++ bl b := by simp [bl, ByteArray.data_append]
theorem size_app (a b : ByteArray) : (a ++ b).size = a.size + b.size := by rw [← bl_length, bl_app, List.length_append, bl_length, bl_length]
def aOf (k : Nat) : List UInt8 := List.replicate k 97
theorem aOf_length (k : Nat) : (aOf k).length = k := by simp [aOf]
theorem aOf_succ (k : Nat) : aOf k ++ [97] = aOf (k + 1) := by simp [aOf, List.replicate_succ']
theorem of_pu {r : Option (List UInt8)} {k : Int} {n : Nat} (h : (puT r).2 = k ∧ (puT r).1.length = n) : ∃ l, puT r = (l, k) ∧ l.length = n := ⟨(puT r).1, by rw [← h.1], h.2⟩
theorem kn_a : (puT (putReqF 1 [71, 69, 84] (aOf 498 ++ [97]))).2 = 0 ∧ (puT (putReqF 1 [71, 69, 84] (aOf 498 ++ [97]))).1.length = 512 := by decide +kernel
theorem kn_b : puT (putReqF 1 [71, 69, 84] (aOf 498 ++ [97, 97])) = ([], 1) := by decide +kernel
theorem kn_c : (puT (putStatF 0 100 (aOf 498 ++ [97]))).2 = 0 ∧ (puT (putStatF 0 100 (aOf 498 ++ [97]))).1.length = 512 := by decide +kernel
theorem kn_d : puT (putStatF 0 599 (aOf 498 ++ [97, 97])) = ([], 1) := by decide +kernel
/-- Texts that are no request's line, no response's line, in an array. -/
def NoReqs (W : World) (g n : Nat) : Prop := ∀ j, j < n → ∃ s : ByteArray, W.cell? ⟨g, j, none⟩ = some (.string s) ∧ rqT (reqF (bl s)) = ([], [], 0, 5) ∧ s.size ≤ 100
def NoStats (W : World) (g n : Nat) : Prop := ∀ j, j < n → ∃ s : ByteArray, W.cell? ⟨g, j, none⟩ = some (.string s) ∧ rsT (statF (bl s)) = (0, 0, [], 5) ∧ s.size ≤ 100

set_option maxHeartbeats 16000000 in
set_option maxRecDepth 100000 in
theorem known_law (w : World) (hp : PowT w) : Calls Tryd.prog 6 #[] w fun e w' => e = .returned (.bool true) ∧ Below w.heap.size w w' := by
  have HP := Lib.hid hp
  clear hp
  go_enter Tryd.func6, Tryd.ntmps6
  go_wp2_with fail
  generalize hW : World.alloc w _ = W0
  have HB0 : Hid (Below w.heap.size w W0) := Lib.hid (by rw [← hW]; exact (Below.refl _ _).alloc (Nat.le_refl _) _)
  have HBAD : Hid (NoReqs W0 w.heap.size 14) := Lib.hid (by
    intro j hj
    rw [← hW, World.cell?_alloc_new]
    rcases (show j = 0 ∨ j = 1 ∨ j = 2 ∨ j = 3 ∨ j = 4 ∨ j = 5 ∨ j = 6 ∨ j = 7 ∨ j = 8 ∨ j = 9 ∨ j = 10 ∨ j = 11 ∨ j = 12 ∨ j = 13 by omega) with rfl | rfl | rfl | rfl | rfl | rfl | rfl | rfl | rfl | rfl | rfl | rfl | rfl | rfl
    all_goals exact ⟨_, rfl, by decide +kernel, by decide⟩)
  clear hW
  generalize Value.agg _ = ag
  go_loopw [2] (fun vi wr => ∃ k : Nat, vi = .int .i64 (k : Int) ∧ k ≤ 14 ∧ Hid (Below W0.heap.size W0 wr)) (fun vi _ => 14 - (intOf vi).toNat)
  case atStart => exact ⟨0, rfl, Nat.zero_le _, Lib.hid (Below.refl _ _)⟩
  case round =>
    obtain ⟨k, rfl, hk, HB⟩ := hrel
    by_cases hlt : k < 14
    · obtain ⟨s, hc0, hpr, hsz⟩ := HBAD.out k hlt
      have hc : wr.cell? ⟨w.heap.size, k, none⟩ = some (.string s) := (HB.out.cell (Lib.lt_of_cell hc0)).trans hc0
      have CP := Lib.hid (request_at s [] [] 0 5 hpr wr (by omega) ((HP.out.below HB0.out).below HB.out))
      have i1 : (0 : Int) ≤ (k : Int) := by omega
      have i2 : (k : Int) < 14 := by omega
      clear hc0 hpr
      go_wp2_with fail
      refine CP.out.mono ?_
      rintro e v0 ⟨rfl, b0⟩
      have BR : Hid (Below W0.heap.size W0 v0) := Lib.hid (HB.out.trans (b0.mono HB.out.size))
      clear b0 HB CP
      go_wp2_with fail
      go_roundw
      case rel => exact ⟨k + 1, by go_num, hlt, BR⟩
      case measure => simp [intOf]; omega
    · obtain rfl : k = 14 := by omega
      have B1 := Lib.hid (HB0.out.trans (HB.out.mono HB0.out.size))
      clear HB HBAD HB0 hk hlt
      obtain ⟨wo, rfl⟩ : ∃ wo, wo = wr := ⟨_, rfl⟩
      go_wp2_with fail
      generalize hW : World.alloc wo _ = W1
      have HB1 : Hid (Below w.heap.size w W1) := Lib.hid (by rw [← hW]; exact B1.out.alloc B1.out.size _)
      have HMORE : Hid (NoStats W1 wo.heap.size 11) := Lib.hid (by
        intro j hj
        rw [← hW, World.cell?_alloc_new]
        rcases (show j = 0 ∨ j = 1 ∨ j = 2 ∨ j = 3 ∨ j = 4 ∨ j = 5 ∨ j = 6 ∨ j = 7 ∨ j = 8 ∨ j = 9 ∨ j = 10 by omega) with rfl | rfl | rfl | rfl | rfl | rfl | rfl | rfl | rfl | rfl | rfl
        all_goals exact ⟨_, rfl, by decide +kernel, by decide⟩)
      clear hW B1
      generalize Value.agg _ = ag2
      rw [show ((14 : Nat) : Int) = 14 from rfl]
      go_loopw [8] (fun vi wr => ∃ k : Nat, vi = .int .i64 (k : Int) ∧ k ≤ 11 ∧ Hid (Below W1.heap.size W1 wr)) (fun vi _ => 11 - (intOf vi).toNat)
      case atStart => exact ⟨0, rfl, Nat.zero_le _, Lib.hid (Below.refl _ _)⟩
      case round =>
        obtain ⟨k, rfl, hk, HB⟩ := hrel
        by_cases hlt : k < 11
        · obtain ⟨s, hc0, hpr, hsz⟩ := HMORE.out k hlt
          have hc : wr.cell? ⟨wo.heap.size, k, none⟩ = some (.string s) := (HB.out.cell (Lib.lt_of_cell hc0)).trans hc0
          have CP := Lib.hid (status_at s 0 0 [] 5 hpr wr (by omega) ((HP.out.below HB1.out).below HB.out))
          have i1 : (0 : Int) ≤ (k : Int) := by omega
          have i2 : (k : Int) < 11 := by omega
          clear hc0 hpr
          go_wp2_with fail
          refine CP.out.mono ?_
          rintro e v0 ⟨rfl, b0⟩
          have BR : Hid (Below W1.heap.size W1 v0) := Lib.hid (HB.out.trans (b0.mono HB.out.size))
          clear b0 HB CP
          go_wp2_with fail
          go_roundw
          case rel => exact ⟨k + 1, by go_num, hlt, BR⟩
          case measure => simp [intOf]; omega
        · obtain rfl : k = 11 := by omega
          have B1 := Lib.hid (HB1.out.trans (HB.out.mono HB1.out.size))
          clear HB HMORE HB1 hk hlt
          have HBW := B1
          clear B1
          obtain ⟨wp, rfl⟩ : ∃ wp, wp = wr := ⟨_, rfl⟩
          go_wp2_with fail
          rw [show ((11 : Nat) : Int) = 11 from rfl]
          go_loopw [13] (fun vs wr => ∃ k : Nat, vs = .string ⟨(aOf k).toArray⟩ ∧ k ≤ 498 ∧ wr = wp) (fun vs _ => 600 - (match vs with | .string s => s.size | _ => 0))
          case atStart => refine ⟨0, ?_, Nat.zero_le _, ?_⟩ <;> rfl
          case round =>
            obtain ⟨k, rfl, hk, rfl⟩ := hrel
            have hl := aOf_length k
            by_cases hlt : k < 498
            · have z1 : ¬ 9223372036854775807 < (aOf k).length + 1 := by omega
              have i1 : ((aOf k).length : Int) < 498 := by omega
              go_wp2_with fail
              refine ⟨⟨k + 1, ?_, by omega, trivial⟩, ?_⟩
              · rw [show (⟨#[97]⟩ : ByteArray) = ⟨[97].toArray⟩ from rfl, mk_append, aOf_succ]
              · show 600 - (_ : ByteArray).size < 600 - (_ : ByteArray).size
                rw [size_app]
                have e1 : (⟨(aOf k).toArray⟩ : ByteArray).size = k := by rw [← bl_length, bl_mk, hl]
                have e2 : (⟨#[97]⟩ : ByteArray).size = 1 := rfl
                omega
            · obtain rfl : k = 498 := by omega
              clear hk hlt
              generalize hLB : (⟨(aOf 498).toArray⟩ : ByteArray) = LB
              have hz : LB.size = 498 := by rw [← hLB, ← bl_length, bl_mk, hl]
              have hb : bl LB = aOf 498 := by rw [← hLB, bl_mk]
              have i1 : ¬ ((LB.size : Int)) < 498 := by omega
              clear hLB hl
              have hb1 : bl (LB ++ ⟨#[97]⟩) = aOf 498 ++ [97] := by rw [bl_app, hb]; rfl
              have hb2 : bl (LB ++ ⟨#[97, 97]⟩) = aOf 498 ++ [97, 97] := by rw [bl_app, hb]; rfl
              have hz1 : (LB ++ ⟨#[97]⟩).size ≤ 140737488355328 := by rw [size_app, hz]; decide
              have hz2 : (LB ++ ⟨#[97, 97]⟩).size ≤ 140737488355328 := by rw [size_app, hz]; decide
              obtain ⟨la, ha, na⟩ := of_pu kn_a
              obtain ⟨lc, hc, nc⟩ := of_pu kn_c
              have PA := Lib.hid (fun (X : World) (hX : PowT X) => putreq_at ⟨#[71, 69, 84]⟩ (LB ++ ⟨#[97]⟩) 1 la 0 (by rw [hb1]; exact ha) X (by decide) hz1 ⟨by decide, by decide⟩ hX)
              have PB := Lib.hid (fun (X : World) (hX : PowT X) => putreq_at ⟨#[71, 69, 84]⟩ (LB ++ ⟨#[97, 97]⟩) 1 [] 1 (by rw [hb2]; exact kn_b) X (by decide) hz2 ⟨by decide, by decide⟩ hX)
              have PC := Lib.hid (fun (X : World) (hX : PowT X) => putstat_at 0 100 (LB ++ ⟨#[97]⟩) lc 0 (by rw [hb1]; exact hc) X hz1 ⟨by decide, by decide⟩ hX)
              have PD := Lib.hid (fun (X : World) (hX : PowT X) => putstat_at 0 599 (LB ++ ⟨#[97, 97]⟩) [] 1 (by rw [hb2]; exact kn_d) X hz2 ⟨by decide, by decide⟩ hX)
              have HQ := Lib.hid (HP.out.below HBW.out)
              have B0 := HBW
              clear hb hb1 hb2 hz1 hz2 ha hc HBW
              go_wp2_with fail
              refine (PA.out _ (HP.out.below B0.out)).mono ?_
              rintro e w1 ⟨rfl, b⟩
              have B1 := Lib.hid (B0.out.trans (b.mono B0.out.size))
              clear b B0 PA
              go_wp2_with fail
              refine (PB.out _ (HP.out.below B1.out)).mono ?_
              rintro e w2 ⟨rfl, b⟩
              have B2 := Lib.hid (B1.out.trans (b.mono B1.out.size))
              clear b B1 PB
              go_wp2_with fail
              refine (putreq_at _ _ 0 (reqL [65, 66, 67, 68, 69, 70, 71, 72, 73, 74, 75, 76, 77, 78, 79, 80, 81, 82, 83, 84, 85, 86, 87, 88, 89, 90, 65, 66, 67, 68, 69, 70] [42] 0) 0 (by decide +kernel) _ (by decide) (by decide) ⟨by decide, by decide⟩ (HP.out.below B2.out)).mono ?_
              rintro e w3 ⟨rfl, b⟩
              have B3 := Lib.hid (B2.out.trans (b.mono B2.out.size))
              clear b B2
              generalize reqL _ _ 0 = lr
              go_wp2_with fail
              refine (putreq_at _ _ 0 [] 1 (by decide +kernel) _ (by decide) (by decide) ⟨by decide, by decide⟩ (HP.out.below B3.out)).mono ?_
              rintro e w4 ⟨rfl, b⟩
              have B4 := Lib.hid (B3.out.trans (b.mono B3.out.size))
              clear b B3
              go_wp2_with fail
              refine (PC.out _ (HP.out.below B4.out)).mono ?_
              rintro e w5 ⟨rfl, b⟩
              have B5 := Lib.hid (B4.out.trans (b.mono B4.out.size))
              clear b B4 PC
              go_wp2_with fail
              refine (PD.out _ (HP.out.below B5.out)).mono ?_
              rintro e w6 ⟨rfl, b⟩
              have B6 := Lib.hid (B5.out.trans (b.mono B5.out.size))
              clear b B5 PD
              go_wp2_with fail
              refine (status_at _ 1 204 [] 0 (by decide +kernel) _ (by decide) (HP.out.below B6.out)).mono ?_
              rintro e w7 ⟨rfl, b⟩
              have B7 := Lib.hid (B6.out.trans (b.mono B6.out.size))
              clear b B6
              go_wp2_with fail
              refine (reason_any 204 _ (by decide) (by decide)).mono ?_
              rintro e w8 ⟨rfl, b⟩
              have B8 := Lib.hid (B7.out.trans (b.mono B7.out.size))
              clear b B7
              rw [show reasonF 204 = [] from rfl]
              go_wp2_with fail
              refine (wakes_any _ (HP.out.below B8.out)).mono ?_
              rintro e w9 ⟨rfl, b⟩
              have B9 := Lib.hid (B8.out.trans (b.mono B8.out.size))
              clear b B8
              go_wp2_with fail
              go_ret
              exact ⟨rfl, B9.out⟩
end Go.Proofs.YteggdakbebnjfaaDoor
