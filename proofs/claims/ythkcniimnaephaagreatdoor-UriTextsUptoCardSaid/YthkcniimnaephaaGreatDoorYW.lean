/-
  What the reference's Text and Host of package uri answer.
  Conditions: those that each theorem names.
-/
import Derived.Test.YthkcniimnaephaaGreatDoorYVA
namespace Go.Proofs.YthkcniimnaephaaGreatDoor.Uri
open Go.RowKit

set_option maxHeartbeats 8000000 in
theorem rtext_any (h q : ByteArray) (p : Int) (w : World) (hh : h.size ≤ 4000000) (hq : q.size ≤ 140737488351232) : Calls Tryz.prog 11 #[.agg #[.string h, .int .i64 p, .string q]] w fun e w' => e = .returned (.string ⟨(textI (bl h) p (bl q)).toArray⟩) ∧ Below w.heap.size w w' := by
  have b0 : Below w.heap.size w (w.alloc (.cells #[.string h, .int .i64 p, .string q] 23)) := (Below.refl _ w).alloc (Nat.le_refl _) _
  have I0 := Lib.hid (Is.made w 23 [.string h, .int .i64 p, .string q])
  have B0 := Lib.hid b0
  have CM := rmay_any h q p (w.alloc (.cells #[.string h, .int .i64 p, .string q] 23)) hh hq
  have HS := Lib.hid (show textI (bl h) p (bl q) = if mayF (bl h) p (bl q) = true then textF (bl h) p (bl q) else [] from rfl)
  clear b0
  cases hm : mayF (bl h) p (bl q) with
  | false =>
    rw [hm] at CM HS
    have C1 := Lib.hid CM
    have HR := Lib.hid (show textI (bl h) p (bl q) = [] by rw [HS.out]; rfl)
    clear HS hm CM
    go_enter Tryz.func11, Tryz.ntmps11
    go_wp2_with fail
    refine C1.out.mono ?_
    rintro e w1 ⟨rfl, b1⟩
    have B1 := Lib.hid (B0.out.trans (b1.mono B0.out.size))
    clear b1
    go_wp2_with fail
    go_ret
    exact ⟨by rw [HR.out]; rfl, B1.out⟩
  | true =>
    rw [hm] at CM HS
    obtain ⟨n, rfl, hn1, hn2⟩ := may_nat hm
    have C1 := Lib.hid CM
    have CA := Lib.hid (fun X : World => rauthority_any h q n X (by omega) (by omega))
    have hD := auth_len (bl h) (n : Int)
    rw [bl_length] at hD
    have HT := Lib.hid (show textF (bl h) (n : Int) (bl q) = httpL ++ authF (bl h) (n : Int) ++ bl q from rfl)
    have HR := Lib.hid (show textI (bl h) (n : Int) (bl q) = textF (bl h) (n : Int) (bl q) by rw [HS.out]; rfl)
    clear HS hm CM
    generalize authF (bl h) (n : Int) = D at *
    have z1 : ¬ 9223372036854775807 < 7 + D.length := by omega
    have z2 : ¬ 9223372036854775807 < 7 + D.length + q.size := by omega
    go_enter Tryz.func11, Tryz.ntmps11
    go_wp2_with fail
    refine C1.out.mono ?_
    rintro e w1 ⟨rfl, b1⟩
    have I1 := Lib.hid (I0.out.kept (Turn.of_below (S := fun _ => False) b1) (fun h => h))
    have B1 := Lib.hid (B0.out.trans (b1.mono B0.out.size))
    have KE := Lib.hid (fun (X : World) (hX : Below w1.drew.heap.size w1.drew X) => (show X.cell? ⟨w.heap.size, 0, none⟩ = some (.string h) ∧ X.cell? ⟨w.heap.size, 1, none⟩ = some (.int .i64 (n : Int)) ∧ X.cell? ⟨w.heap.size, 2, none⟩ = some (.string q) from by
      have i1 := I1.out.drew.kept (Turn.of_below (S := fun _ => False) hX) (fun h => h)
      exact ⟨i1.cell 0, i1.cell 1, i1.cell 2⟩))
    have k0 := KE.out _ (Below.refl _ _)
    have HD := Lib.hid (show Below w.heap.size w w1.drew from below_drewN B1.out 1)
    clear b1
    go_wp2_with fail
    go_region_held3 (fun w' => w'.cell? ⟨w.heap.size, 0, none⟩ = some (.string h) ∧ w'.cell? ⟨w.heap.size, 1, none⟩ = some (.int .i64 (n : Int)) ∧ w'.cell? ⟨w.heap.size, 2, none⟩ = some (.string q)) (first | exact k0 | exact k5 | go_keep)
      (first
        | (go_at_call 28; (with_reducible refine (CA.out w1.drew).mono ?_); rintro e w5 ⟨rfl, b5⟩; have k5 := KE.out w5 b5; have B5 := Lib.hid (HD.out.trans (b5.mono HD.out.size))))
    go_wp2_with fail
    go_ret
    refine ⟨?_, B5.out⟩
    rw [HR.out, HT.out, ← mk_bl ((⟨#[104, 116, 116, 112, 58, 47, 47]⟩ : ByteArray) ++ ⟨D.toArray⟩ ++ q)]
    simp [bl, httpL]

set_option maxHeartbeats 8000000 in
theorem rhost_any (h q : ByteArray) (p : Int) (w : World) (hh : h.size ≤ 4000000) (hq : q.size ≤ 140737488351232) : Calls Tryz.prog 13 #[.agg #[.string h, .int .i64 p, .string q]] w fun e w' => e = .returned (.string ⟨(hostI (bl h) p (bl q)).toArray⟩) ∧ Below w.heap.size w w' := by
  have b0 : Below w.heap.size w (w.alloc (.cells #[.string h, .int .i64 p, .string q] 23)) := (Below.refl _ w).alloc (Nat.le_refl _) _
  have I0 := Lib.hid (Is.made w 23 [.string h, .int .i64 p, .string q])
  have B0 := Lib.hid b0
  have CM := rmay_any h q p (w.alloc (.cells #[.string h, .int .i64 p, .string q] 23)) hh hq
  have HS := Lib.hid (show hostI (bl h) p (bl q) = if mayF (bl h) p (bl q) = true then authF (bl h) p else [] from rfl)
  clear b0
  cases hm : mayF (bl h) p (bl q) with
  | false =>
    rw [hm] at CM HS
    have C1 := Lib.hid CM
    have HR := Lib.hid (show hostI (bl h) p (bl q) = [] by rw [HS.out]; rfl)
    clear HS hm CM
    go_enter Tryz.func13, Tryz.ntmps13
    go_wp2_with fail
    refine C1.out.mono ?_
    rintro e w1 ⟨rfl, b1⟩
    have B1 := Lib.hid (B0.out.trans (b1.mono B0.out.size))
    clear b1
    go_wp2_with fail
    go_ret
    exact ⟨by rw [HR.out]; rfl, B1.out⟩
  | true =>
    rw [hm] at CM HS
    obtain ⟨n, rfl, hn1, hn2⟩ := may_nat hm
    have C1 := Lib.hid CM
    have CA := Lib.hid (fun X : World => rauthority_any h q n X (by omega) (by omega))
    have hD := auth_len (bl h) (n : Int)
    rw [bl_length] at hD
    have HR := Lib.hid (show hostI (bl h) (n : Int) (bl q) = authF (bl h) (n : Int) by rw [HS.out]; rfl)
    clear HS hm CM
    generalize authF (bl h) (n : Int) = D at *
    have z1 : ¬ 9223372036854775807 < 7 + D.length := by omega
    have z2 : ¬ 9223372036854775807 < 7 + D.length + q.size := by omega
    go_enter Tryz.func13, Tryz.ntmps13
    go_wp2_with fail
    refine C1.out.mono ?_
    rintro e w1 ⟨rfl, b1⟩
    have I1 := Lib.hid (I0.out.kept (Turn.of_below (S := fun _ => False) b1) (fun h => h))
    have B1 := Lib.hid (B0.out.trans (b1.mono B0.out.size))
    have y0 : w1.cell? ⟨w.heap.size, 0, none⟩ = some (.string h) := I1.out.cell 0
    have y1 : w1.cell? ⟨w.heap.size, 1, none⟩ = some (.int .i64 (n : Int)) := I1.out.cell 1
    have y2 : w1.cell? ⟨w.heap.size, 2, none⟩ = some (.string q) := I1.out.cell 2
    clear b1
    go_wp2_with fail
    refine (CA.out w1).mono ?_
    rintro e w5 ⟨rfl, b5⟩
    have B5 := Lib.hid (B1.out.trans (b5.mono B1.out.size))
    clear b5
    go_wp2_with fail
    go_ret
    exact ⟨by rw [HR.out]; rfl, B5.out⟩
end Go.Proofs.YthkcniimnaephaaGreatDoor.Uri
