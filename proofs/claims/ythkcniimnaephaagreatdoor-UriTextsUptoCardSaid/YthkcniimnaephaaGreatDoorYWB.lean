/-
  The law UriTexts, for texts of no more than 2000000 bytes each.
  Conditions: Go's table of powers of ten is as its text lays it.
-/
import Derived.Test.YthkcniimnaephaaGreatDoorYWA
import Derived.Test.YthkcniimnaephaaGreatDoorYM
import Derived.Deep.RegionHeld3
namespace Go.Proofs.YthkcniimnaephaaGreatDoor.Uri
open Go.RowKit

/-- Nine cells of three blocks. -/
def Nine (X : World) (g a b : Nat) (h q : ByteArray) (p : Int) (x1 x3 : ByteArray) (x2 : Int) : Prop :=
  (X.cell? ⟨g, 0, none⟩ = some (.string h) ∧ X.cell? ⟨g, 1, none⟩ = some (.int .i64 p) ∧ X.cell? ⟨g, 2, none⟩ = some (.string q)) ∧
  (X.cell? ⟨a, 0, none⟩ = some (.string x1) ∧ X.cell? ⟨a, 1, none⟩ = some (.int .i64 x2) ∧ X.cell? ⟨a, 2, none⟩ = some (.string x3)) ∧
  (X.cell? ⟨b, 0, none⟩ = some (.string x1) ∧ X.cell? ⟨b, 1, none⟩ = some (.int .i64 x2) ∧ X.cell? ⟨b, 2, none⟩ = some (.string x3))

set_option maxHeartbeats 16000000 in
set_option maxRecDepth 100000 in
theorem texts_true (h q ref : ByteArray) (p : Int) (w : World) (hh : h.size ≤ 2000000) (hq : q.size ≤ 2000000) (hr : ref.size ≤ 2000000) (hi : I64 p) (hp : PowTab w) : Calls Tryz.prog 3 #[.agg #[.string h, .int .i64 p, .string q], .string ref] w fun e w' => e = .returned (.bool true) ∧ Below w.heap.size w w' := by
  have HP := Lib.hid hp
  have B0 := Lib.hid ((Below.refl w.heap.size w).alloc (Nat.le_refl _) (.cells #[.string h, .int .i64 p, .string q] 23))
  have I0 := Lib.hid (Is.made w 23 [.string h, .int .i64 p, .string q])
  have CA := fun (X : World) (hX : PowTab X) => join_any h q ref p X (by omega) (by omega) (by omega) hi hX
  have CB := fun X : World => rjoin_any h q ref p X (by omega) (by omega) hr
  unfold UrlGot at CA CB
  have D1 := fun (X : World) (hX : PowTab X) => named_any h X hX
  have D2 := fun X : World => rnamed_any h X (by omega)
  have D3 := fun (X : World) (hX : PowTab X) => may_any h q p X (by omega) (by omega) hi hX
  have D4 := fun X : World => rmay_any h q p X (by omega) (by omega)
  have D5 := fun (X : World) (hX : PowTab X) => text_of h q p X (by omega) (by omega) hi hX
  have D6 := fun X : World => rtext_any h q p X (by omega) (by omega)
  have D7 := fun (X : World) (hX : PowTab X) => host_of h q p X (by omega) (by omega) hi hX
  have D8 := fun X : World => rhost_any h q p X (by omega) (by omega)
  have C9 := Lib.hid (fun (X : World) (hX : PowTab X) => wakes_any X hX)
  generalize urlT (joinF (bl h) p (bl q) (bl ref)) = x at *
  generalize namedF (bl h) = nm at *
  generalize mayF (bl h) p (bl q) = ma at *
  generalize textI (bl h) p (bl q) = tx at *
  generalize hostI (bl h) p (bl q) = ho at *
  obtain ⟨x1, x2, x3, x4⟩ := x
  simp only at CA CB
  generalize (⟨x1.toArray⟩ : ByteArray) = X1 at *
  generalize (⟨x3.toArray⟩ : ByteArray) = X3 at *
  generalize (⟨tx.toArray⟩ : ByteArray) = TX at *
  generalize (⟨ho.toArray⟩ : ByteArray) = HO at *
  have CJ1 := Lib.hid CA
  have CJ2 := Lib.hid CB
  have C1 := Lib.hid D1
  have C2 := Lib.hid D2
  have C3 := Lib.hid D3
  have C4 := Lib.hid D4
  have C5 := Lib.hid D5
  have C6 := Lib.hid D6
  have C7 := Lib.hid D7
  have C8 := Lib.hid D8
  have hgd := urlGuard
  have hcmp := cmp_self X1 X3 x2
  clear CA CB D1 D2 D3 D4 D5 D6 D7 D8 hp hh hq hr hi
  go_enter Tryz.func3, Tryz.ntmps3
  go_upto_region 1 with fail
  generalize w.alloc _ = w1 at *
  have yu0 : w1.cell? ⟨w.heap.size, 0, none⟩ = some (.string h) := I0.out.cell 0
  have yu1 : w1.cell? ⟨w.heap.size, 1, none⟩ = some (.int .i64 p) := I0.out.cell 1
  have yu2 : w1.cell? ⟨w.heap.size, 2, none⟩ = some (.string q) := I0.out.cell 2
  go_wp2_with fail
  clear yu0 yu1 yu2
  refine (CJ1.out _ (HP.out.below B0.out)).mono ?_
  rintro e w2 ⟨rfl, b⟩
  have Iu2 := Lib.hid (I0.out.kept (Turn.of_below (S := fun _ => False) b) (fun h => h))
  have B2 := Lib.hid (B0.out.trans (b.mono B0.out.size))
  clear b I0 B0
  have Iu3 := Lib.hid (Iu2.out.alloc (.cells #[.string X1, .int .i64 x2, .string X3] 23))
  have B3 := Lib.hid (B2.out.alloc B2.out.size (.cells #[.string X1, .int .i64 x2, .string X3] 23))
  have Ia3 := Lib.hid (Is.made w2 23 [.string X1, .int .i64 x2, .string X3])
  clear Iu2 B2
  go_upto_region 2 with fail
  generalize w2.alloc _ = w3 at *
  have yu0 : w3.cell? ⟨w.heap.size, 0, none⟩ = some (.string h) := Iu3.out.cell 0
  have yu1 : w3.cell? ⟨w.heap.size, 1, none⟩ = some (.int .i64 p) := Iu3.out.cell 1
  have yu2 : w3.cell? ⟨w.heap.size, 2, none⟩ = some (.string q) := Iu3.out.cell 2
  go_wp2_with fail
  clear yu0 yu1 yu2
  refine (CJ2.out _).mono ?_
  rintro e w4 ⟨rfl, b⟩
  have Iu4 := Lib.hid (Iu3.out.kept (Turn.of_below (S := fun _ => False) b) (fun h => h))
  have Ia4 := Lib.hid (Ia3.out.kept (Turn.of_below (S := fun _ => False) b) (fun h => h))
  have B4 := Lib.hid (B3.out.trans (b.mono B3.out.size))
  clear b Iu3 Ia3 B3
  have Iu5 := Lib.hid (Iu4.out.alloc (.cells #[.string X1, .int .i64 x2, .string X3] 23))
  have Ia5 := Lib.hid (Ia4.out.alloc (.cells #[.string X1, .int .i64 x2, .string X3] 23))
  have B5 := Lib.hid (B4.out.alloc B4.out.size (.cells #[.string X1, .int .i64 x2, .string X3] 23))
  have Ib5 := Lib.hid (Is.made w4 23 [.string X1, .int .i64 x2, .string X3])
  clear Iu4 Ia4 B4
  go_upto_region 3 with fail
  generalize w4.alloc _ = w5 at *
  have KB := fun (X : World) (hX : Below w5.heap.size w5 X) => (show ((X.cell? ⟨w.heap.size, 0, none⟩ = some (.string h) ∧ X.cell? ⟨w.heap.size, 1, none⟩ = some (.int .i64 p) ∧ X.cell? ⟨w.heap.size, 2, none⟩ = some (.string q)) ∧ (X.cell? ⟨w2.heap.size, 0, none⟩ = some (.string X1) ∧ X.cell? ⟨w2.heap.size, 1, none⟩ = some (.int .i64 x2) ∧ X.cell? ⟨w2.heap.size, 2, none⟩ = some (.string X3)) ∧ (X.cell? ⟨w4.heap.size, 0, none⟩ = some (.string X1) ∧ X.cell? ⟨w4.heap.size, 1, none⟩ = some (.int .i64 x2) ∧ X.cell? ⟨w4.heap.size, 2, none⟩ = some (.string X3))) from by
    have i1 := Iu5.out.kept (Turn.of_below (S := fun _ => False) hX) (fun h => h)
    have j1 := Ia5.out.kept (Turn.of_below (S := fun _ => False) hX) (fun h => h)
    have l1 := Ib5.out.kept (Turn.of_below (S := fun _ => False) hX) (fun h => h)
    exact ⟨⟨i1.cell 0, i1.cell 1, i1.cell 2⟩, ⟨j1.cell 0, j1.cell 1, j1.cell 2⟩, l1.cell 0, l1.cell 1, l1.cell 2⟩)
  have HPY := HP.out.below B5.out
  have PB := Lib.hid (fun (X : World) (hX : Below w5.heap.size w5 X) => HPY.below hX)
  have BD := Lib.hid (show Below w5.heap.size w5 w5.drew from below_drewN (Below.refl _ _) 1)
  have k0 := KB _ BD.out
  have HKB := Lib.hid KB
  clear KB HPY
  go_region_held3 (fun w' => ((w'.cell? ⟨w.heap.size, 0, none⟩ = some (.string h) ∧ w'.cell? ⟨w.heap.size, 1, none⟩ = some (.int .i64 p) ∧ w'.cell? ⟨w.heap.size, 2, none⟩ = some (.string q)) ∧ (w'.cell? ⟨w2.heap.size, 0, none⟩ = some (.string X1) ∧ w'.cell? ⟨w2.heap.size, 1, none⟩ = some (.int .i64 x2) ∧ w'.cell? ⟨w2.heap.size, 2, none⟩ = some (.string X3)) ∧ (w'.cell? ⟨w4.heap.size, 0, none⟩ = some (.string X1) ∧ w'.cell? ⟨w4.heap.size, 1, none⟩ = some (.int .i64 x2) ∧ w'.cell? ⟨w4.heap.size, 2, none⟩ = some (.string X3)))) (first | exact k0 | exact k1 | exact k2 | exact k3 | exact k4 | exact k5 | exact k6 | exact k7 | exact k8 | exact k9 | go_keep)
    (first
      | (go_at_call 6; (with_reducible refine (C1.out w5.drew (PB.out _ BD.out)).mono ?_); rintro e v1 ⟨rfl, b⟩; have E1 := Lib.hid (BD.out.trans (b.mono BD.out.size)); have k1 := HKB.out _ E1.out; clear b)
      | (go_at_call 7; (with_reducible refine (C2.out v1).mono ?_); rintro e v2 ⟨rfl, b⟩; have E2 := Lib.hid (E1.out.trans (b.mono E1.out.size)); have k2 := HKB.out _ E2.out; clear b)
      | (go_at_call 8; (with_reducible refine (C3.out v2 (PB.out _ E2.out)).mono ?_); rintro e v3 ⟨rfl, b⟩; have E3 := Lib.hid (E2.out.trans (b.mono E2.out.size)); have k3 := HKB.out _ E3.out; clear b)
      | (go_at_call 9; (with_reducible refine (C4.out v3).mono ?_); rintro e v4 ⟨rfl, b⟩; have E4 := Lib.hid (E3.out.trans (b.mono E3.out.size)); have k4 := HKB.out _ E4.out; clear b)
      | (go_at_call 10; (with_reducible refine (C5.out v4 (PB.out _ E4.out)).mono ?_); rintro e v5 ⟨rfl, b⟩; have E5 := Lib.hid (E4.out.trans (b.mono E4.out.size)); have k5 := HKB.out _ E5.out; clear b)
      | (go_at_call 11; (with_reducible refine (C6.out v5).mono ?_); rintro e v6 ⟨rfl, b⟩; have E6 := Lib.hid (E5.out.trans (b.mono E5.out.size)); have k6 := HKB.out _ E6.out; clear b)
      | (go_at_call 12; (with_reducible refine (C7.out v6 (PB.out _ E6.out)).mono ?_); rintro e v7 ⟨rfl, b⟩; have E7 := Lib.hid (E6.out.trans (b.mono E6.out.size)); have k7 := HKB.out _ E7.out; clear b)
      | (go_at_call 13; (with_reducible refine (C8.out v7).mono ?_); rintro e v8 ⟨rfl, b⟩; have E8 := Lib.hid (E7.out.trans (b.mono E7.out.size)); have k8 := HKB.out _ E8.out; clear b)
      | (go_at_call 14; (with_reducible refine (C9.out v8 (PB.out _ E8.out)).mono ?_); rintro e v9 ⟨rfl, b⟩; have E9 := Lib.hid (E8.out.trans (b.mono E8.out.size)); have k9 := HKB.out _ E9.out; clear b))
  go_wp2_with fail
  go_ret
  exact ⟨rfl, B5.out.trans (E9.out.mono B5.out.size)⟩
end Go.Proofs.YthkcniimnaephaaGreatDoor.Uri
