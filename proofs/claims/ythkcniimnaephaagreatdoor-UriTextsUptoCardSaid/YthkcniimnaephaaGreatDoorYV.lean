/-
  What the reference's authority and May of package uri answer.
  Conditions: those that each theorem names.
-/
import Derived.Test.YthkcniimnaephaaGreatDoorYX
import Derived.Test.YthkcniimnaephaaGreatDoorYL
namespace Go.Proofs.YthkcniimnaephaaGreatDoor.Uri
open Go.RowKit

set_option maxHeartbeats 4000000 in
theorem rauthority_any (h q : ByteArray) (n : Nat) (w : World) (hh : h.size ≤ 1125899906842624) (hn : n ≤ 65535) : Calls Tryz.prog 28 #[.agg #[.string h, .int .i64 (n : Int), .string q]] w fun e w' => e = .returned (.string ⟨(authF (bl h) (n : Int)).toArray⟩) ∧ Below w.heap.size w w' := by
  have hb : Below w.heap.size w (w.alloc (.cells #[.string h, .int .i64 (n : Int), .string q] 23)) := (Below.refl _ w).alloc (Nat.le_refl _) _
  have HB := Lib.hid hb
  have i0 := Is.made w 23 [.string h, .int .i64 (n : Int), .string q]
  have HA := Lib.hid (show authF (bl h) (n : Int) = if (n : Int) = 80 then bl h else bl h ++ 58 :: portL (n : Int) from rfl)
  by_cases h8 : (n : Int) = 80
  · have HR := Lib.hid (show authF (bl h) (n : Int) = bl h by rw [HA.out, if_pos h8])
    have e8 : ((n : Int) == 80) = true := beq_iff_eq.2 h8
    clear HA h8 hb i0
    go_enter Tryz.func28, Tryz.ntmps28
    go_wp2_with fail
    go_ret
    exact ⟨by rw [HR.out, mk_bl]; rfl, HB.out⟩
  · have e8 : ((n : Int) == 80) = false := beq_eq_false_iff_ne.2 h8
    have hD := port_len (n : Int)
    have CT := fun X : World => rdecimal_any n X hn
    rw [← port_nat n hn] at CT
    have HR := Lib.hid (show authF (bl h) (n : Int) = bl h ++ 58 :: portL (n : Int) by rw [HA.out, if_neg h8])
    generalize portL (n : Int) = D at *
    have C := Lib.hid CT
    have HD := Lib.hid (show Below w.heap.size w (w.alloc (.cells #[.string h, .int .i64 (n : Int), .string q] 23)).drew from below_drewN hb 1)
    have hkeep : ∀ X : World, Below (w.alloc (.cells #[.string h, .int .i64 (n : Int), .string q] 23)).drew.heap.size (w.alloc (.cells #[.string h, .int .i64 (n : Int), .string q] 23)).drew X → (X.cell? ⟨w.heap.size, 0, none⟩ = some (.string h) ∧ X.cell? ⟨w.heap.size, 1, none⟩ = some (.int .i64 (n : Int))) := fun X hX => by
      have i1 := i0.drew.kept (Turn.of_below (S := fun _ => False) hX) (fun h => h)
      exact ⟨i1.cell 0, i1.cell 1⟩
    have k0 := hkeep _ (Below.refl _ _)
    have KE := Lib.hid hkeep
    have z1 : ¬ 9223372036854775807 < h.size + 1 := by omega
    have z2 : ¬ 9223372036854775807 < h.size + 1 + D.length := by omega
    clear hkeep HA h8 hb i0 CT hD
    go_enter Tryz.func28, Tryz.ntmps28
    go_wp2_with fail
    go_region_held3 (fun w' => w'.cell? ⟨w.heap.size, 0, none⟩ = some (.string h) ∧ w'.cell? ⟨w.heap.size, 1, none⟩ = some (.int .i64 (n : Int))) (first | exact k0 | exact k5 | go_keep)
      (first
        | (go_at_call 51; (with_reducible refine (C.out (w.alloc (.cells #[.string h, .int .i64 (n : Int), .string q] 23)).drew).mono ?_); rintro e w5 ⟨rfl, b5⟩; have k5 := KE.out w5 b5; have B5 := Lib.hid (HD.out.trans (b5.mono HD.out.size))))
    go_wp2_with fail
    go_ret
    refine ⟨?_, B5.out⟩
    rw [HR.out, ← mk_bl (h ++ (⟨#[58]⟩ : ByteArray) ++ ⟨D.toArray⟩)]
    simp [bl]

set_option maxHeartbeats 8000000 in
theorem rmay_any (h q : ByteArray) (p : Int) (w : World) (hh : h.size ≤ 4000000) (hq : q.size ≤ 140737488351232) : Calls Tryz.prog 9 #[.agg #[.string h, .int .i64 p, .string q]] w fun e w' => e = .returned (.bool (mayF (bl h) p (bl q))) ∧ Below w.heap.size w w' := by
  have b0 : Below w.heap.size w (w.alloc (.cells #[.string h, .int .i64 p, .string q] 23)) := (Below.refl _ w).alloc (Nat.le_refl _) _
  have I0 := Lib.hid (Is.made w 23 [.string h, .int .i64 p, .string q])
  have B0 := Lib.hid b0
  have C1 := rnamed_any h (w.alloc (.cells #[.string h, .int .i64 p, .string q] 23)) hh
  have C2 := Lib.hid (fun X : World => rpath_any q X (by omega))
  have HM := Lib.hid (show mayF (bl h) p (bl q) = (namedF (bl h) && (decide (1 ≤ p) && (decide (p ≤ 65535) && ((decide ((bl q).take 1 = [47]) && pathF (bl q)) && decide ((textF (bl h) p (bl q)).length ≤ 384))))) from rfl)
  generalize namedF (bl h) = nm at *
  generalize (decide ((bl q).take 1 = [47]) && pathF (bl q)) = pt at *
  have C1 := Lib.hid C1
  clear b0
  cases nm with
  | false =>
    have HR := Lib.hid (show mayF (bl h) p (bl q) = false by rw [HM.out]; rfl)
    clear HM
    go_enter Tryz.func9, Tryz.ntmps9
    go_wp2_with fail
    refine C1.out.mono ?_
    rintro e w1 ⟨rfl, b1⟩
    go_wp2_with fail
    go_ret
    exact ⟨ret_bool HR.out.symm, B0.out.trans (b1.mono B0.out.size)⟩
  | true =>
    by_cases h1 : p < 1
    · have HR := Lib.hid (show mayF (bl h) p (bl q) = false by rw [HM.out, decide_eq_false (by omega : ¬ 1 ≤ p)]; rfl)
      clear HM
      go_enter Tryz.func9, Tryz.ntmps9
      go_wp2_with fail
      refine C1.out.mono ?_
      rintro e w1 ⟨rfl, b1⟩
      have I1 := Lib.hid (I0.out.kept (Turn.of_below (S := fun _ => False) b1) (fun h => h))
      have B1 := Lib.hid (B0.out.trans (b1.mono B0.out.size))
      have y0 : w1.cell? ⟨w.heap.size, 0, none⟩ = some (.string h) := I1.out.cell 0
      have y1 : w1.cell? ⟨w.heap.size, 1, none⟩ = some (.int .i64 p) := I1.out.cell 1
      have y2 : w1.cell? ⟨w.heap.size, 2, none⟩ = some (.string q) := I1.out.cell 2
      clear b1
      go_wp2_with fail
      go_ret
      exact ⟨ret_bool HR.out.symm, B1.out⟩
    · by_cases h2 : 65535 < p
      · have HR := Lib.hid (show mayF (bl h) p (bl q) = false by rw [HM.out, decide_eq_false (by omega : ¬ p ≤ 65535)]; simp)
        clear HM
        go_enter Tryz.func9, Tryz.ntmps9
        go_wp2_with fail
        refine C1.out.mono ?_
        rintro e w1 ⟨rfl, b1⟩
        have I1 := Lib.hid (I0.out.kept (Turn.of_below (S := fun _ => False) b1) (fun h => h))
        have B1 := Lib.hid (B0.out.trans (b1.mono B0.out.size))
        have y0 : w1.cell? ⟨w.heap.size, 0, none⟩ = some (.string h) := I1.out.cell 0
        have y1 : w1.cell? ⟨w.heap.size, 1, none⟩ = some (.int .i64 p) := I1.out.cell 1
        have y2 : w1.cell? ⟨w.heap.size, 2, none⟩ = some (.string q) := I1.out.cell 2
        clear b1
        go_wp2_with fail
        go_ret
        exact ⟨ret_bool HR.out.symm, B1.out⟩
      · cases pt with
        | false =>
          have HR := Lib.hid (show mayF (bl h) p (bl q) = false by rw [HM.out]; simp)
          clear HM
          go_enter Tryz.func9, Tryz.ntmps9
          go_wp2_with fail
          refine C1.out.mono ?_
          rintro e w1 ⟨rfl, b1⟩
          have I1 := Lib.hid (I0.out.kept (Turn.of_below (S := fun _ => False) b1) (fun h => h))
          have B1 := Lib.hid (B0.out.trans (b1.mono B0.out.size))
          have y0 : w1.cell? ⟨w.heap.size, 0, none⟩ = some (.string h) := I1.out.cell 0
          have y1 : w1.cell? ⟨w.heap.size, 1, none⟩ = some (.int .i64 p) := I1.out.cell 1
          have y2 : w1.cell? ⟨w.heap.size, 2, none⟩ = some (.string q) := I1.out.cell 2
          clear b1
          go_wp2_with fail
          refine (C2.out w1).mono ?_
          rintro e w2 ⟨rfl, rfl⟩
          go_wp2_with fail
          go_ret
          exact ⟨ret_bool HR.out.symm, B1.out⟩
        | true =>
          have HR := Lib.hid (show mayF (bl h) p (bl q) = decide ((textF (bl h) p (bl q)).length ≤ 384) by rw [HM.out, decide_eq_true (by omega : 1 ≤ p), decide_eq_true (by omega : p ≤ 65535)]; rfl)
          clear HM
          obtain ⟨n, rfl⟩ : ∃ n : Nat, p = (n : Int) := ⟨p.toNat, by omega⟩
          have CA := Lib.hid (fun X : World => rauthority_any h q n X (by omega) (by omega))
          have hT : (textF (bl h) (n : Int) (bl q)).length = 7 + (authF (bl h) (n : Int)).length + q.size := by
            unfold textF
            rw [List.length_append, List.length_append, bl_length]
            rfl
          have hD := auth_len (bl h) (n : Int)
          rw [bl_length] at hD
          rw [hT] at HR
          clear hT
          generalize authF (bl h) (n : Int) = D at *
          go_enter Tryz.func9, Tryz.ntmps9
          go_wp2_with fail
          refine C1.out.mono ?_
          rintro e w1 ⟨rfl, b1⟩
          have I1 := Lib.hid (I0.out.kept (Turn.of_below (S := fun _ => False) b1) (fun h => h))
          have B1 := Lib.hid (B0.out.trans (b1.mono B0.out.size))
          have y0 : w1.cell? ⟨w.heap.size, 0, none⟩ = some (.string h) := I1.out.cell 0
          have y1 : w1.cell? ⟨w.heap.size, 1, none⟩ = some (.int .i64 (n : Int)) := I1.out.cell 1
          have y2 : w1.cell? ⟨w.heap.size, 2, none⟩ = some (.string q) := I1.out.cell 2
          clear b1
          have KE := Lib.hid (fun (X : World) (hX : Below w1.drew.heap.size w1.drew X) => (show X.cell? ⟨w.heap.size, 0, none⟩ = some (.string h) ∧ X.cell? ⟨w.heap.size, 1, none⟩ = some (.int .i64 (n : Int)) ∧ X.cell? ⟨w.heap.size, 2, none⟩ = some (.string q) from by
            have i1 := I1.out.drew.kept (Turn.of_below (S := fun _ => False) hX) (fun h => h)
            exact ⟨i1.cell 0, i1.cell 1, i1.cell 2⟩))
          have k0 := KE.out _ (Below.refl _ _)
          have HD := Lib.hid (show Below w.heap.size w w1.drew from below_drewN B1.out 1)
          go_wp2_with fail
          refine (C2.out w1).mono ?_
          rintro e w2 ⟨rfl, rfl⟩
          go_wp2_with fail
          go_region_held3 (fun w' => w'.cell? ⟨w.heap.size, 0, none⟩ = some (.string h) ∧ w'.cell? ⟨w.heap.size, 1, none⟩ = some (.int .i64 (n : Int)) ∧ w'.cell? ⟨w.heap.size, 2, none⟩ = some (.string q)) (first | exact k0 | exact k5 | go_keep)
            (first
              | (go_at_call 28; (with_reducible refine (CA.out w1.drew).mono ?_); rintro e w5 ⟨rfl, b5⟩; have k5 := KE.out w5 b5; have B5 := Lib.hid (HD.out.trans (b5.mono HD.out.size))))
          go_wp2_with fail
          go_ret
          have e1 : IntKind.i64.wrap (7 + (D.length : Int)) = 7 + (D.length : Int) := IntWalk.i64_in _ (by omega)
          have e2 : IntKind.i64.wrap (7 + (D.length : Int) + (q.size : Int)) = 7 + (D.length : Int) + (q.size : Int) := IntWalk.i64_in _ (by omega)
          exact ⟨ret_bool (by rw [HR.out]; simp; rw [e1, e2]; omega), B5.out⟩
end Go.Proofs.YthkcniimnaephaaGreatDoor.Uri
