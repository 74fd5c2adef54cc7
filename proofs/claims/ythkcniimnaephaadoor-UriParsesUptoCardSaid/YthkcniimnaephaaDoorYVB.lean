/-
  The law UriParses, for texts of no more than 2000000 bytes.
  Conditions: Go's table of powers of ten is as its text lays it.
-/
import Derived.Test.YthkcniimnaephaaDoorYVA
import Derived.Test.YthkcniimnaephaaDoorYM
namespace Go.Proofs.YthkcniimnaephaaDoor.Uri
open Go.RowKit

set_option maxHeartbeats 8000000 in
set_option maxRecDepth 100000 in
theorem parses_true (s : ByteArray) (w : World) (hs : s.size ≤ 2000000) (hp : PowTab w) : Calls Tryd.prog 3 #[.string s] w fun e w' => e = .returned (.bool true) ∧ Below w.heap.size w w' := by
  have HP := Lib.hid hp
  have B0 := Lib.hid (Below.refl w.heap.size w)
  have CA := fun (X : World) (hX : PowTab X) => parse_any s X (by omega) hX
  have CB := fun X : World => rparse_any s X hs
  have CC := fun (X : World) (hX : PowTab X) => authority_any s X (by omega) hX
  have CD := fun X : World => rau_any s X hs
  unfold UrlGot at CA CB
  unfold AuGot at CC CD
  generalize urlT (parseF (bl s)) = x at *
  generalize auV (authorityF (bl s)) = y at *
  obtain ⟨x1, x2, x3, x4⟩ := x
  obtain ⟨y1, y2, y3⟩ := y
  simp only at CA CB CC CD
  have C1 := Lib.hid CA
  have C2 := Lib.hid CB
  have C3 := Lib.hid CC
  have C4 := Lib.hid CD
  have hgd := urlGuard
  clear CA CB CC CD hp
  generalize (⟨x1.toArray⟩ : ByteArray) = X1 at *
  generalize (⟨x3.toArray⟩ : ByteArray) = X3 at *
  generalize (⟨y1.toArray⟩ : ByteArray) = Y1 at *
  have hcmp := cmp_self X1 X3 x2
  go_enter Tryd.func3, Tryd.ntmps3
  go_wp2_with fail
  refine (C1.out _ (HP.out.below B0.out)).mono ?_
  rintro e w1 ⟨rfl, b⟩
  have B1 := Lib.hid (B0.out.trans (b.mono B0.out.size))
  clear b B0
  have B2 := Lib.hid (B1.out.alloc B1.out.size (.cells #[.string X1, .int .i64 x2, .string X3] 23))
  have Ia2 := Lib.hid (Is.made w1 23 [.string X1, .int .i64 x2, .string X3])
  clear B1
  go_upto_region 2 with fail
  generalize w1.alloc _ = w2 at *
  go_wp2_with fail
  refine (C2.out _).mono ?_
  rintro e w3 ⟨rfl, b⟩
  have Ia3 := Lib.hid (Ia2.out.kept (Turn.of_below (S := fun _ => False) b) (fun h => h))
  have B3 := Lib.hid (B2.out.trans (b.mono B2.out.size))
  clear b Ia2 B2
  have Ia4 := Lib.hid (Ia3.out.alloc (.cells #[.string X1, .int .i64 x2, .string X3] 23))
  have B4 := Lib.hid (B3.out.alloc B3.out.size (.cells #[.string X1, .int .i64 x2, .string X3] 23))
  have Ib4 := Lib.hid (Is.made w3 23 [.string X1, .int .i64 x2, .string X3])
  clear Ia3 B3
  go_upto_region 3 with fail
  generalize w3.alloc _ = w4 at *
  go_wp2_with fail
  refine (C3.out _ (HP.out.below B4.out)).mono ?_
  rintro e w5 ⟨rfl, b⟩
  have Ia5 := Lib.hid (Ia4.out.kept (Turn.of_below (S := fun _ => False) b) (fun h => h))
  have Ib5 := Lib.hid (Ib4.out.kept (Turn.of_below (S := fun _ => False) b) (fun h => h))
  have B5 := Lib.hid (B4.out.trans (b.mono B4.out.size))
  clear b Ia4 Ib4 B4
  go_wp2_with fail
  refine (C4.out _).mono ?_
  rintro e w6 ⟨rfl, b⟩
  have Ia6 := Lib.hid (Ia5.out.kept (Turn.of_below (S := fun _ => False) b) (fun h => h))
  have Ib6 := Lib.hid (Ib5.out.kept (Turn.of_below (S := fun _ => False) b) (fun h => h))
  have B6 := Lib.hid (B5.out.trans (b.mono B5.out.size))
  clear b Ia5 Ib5 B5
  have ya0 : w6.cell? ⟨w1.heap.size, 0, none⟩ = some (.string X1) := Ia6.out.cell 0
  have ya1 : w6.cell? ⟨w1.heap.size, 1, none⟩ = some (.int .i64 x2) := Ia6.out.cell 1
  have ya2 : w6.cell? ⟨w1.heap.size, 2, none⟩ = some (.string X3) := Ia6.out.cell 2
  have yb0 : w6.cell? ⟨w3.heap.size, 0, none⟩ = some (.string X1) := Ib6.out.cell 0
  have yb1 : w6.cell? ⟨w3.heap.size, 1, none⟩ = some (.int .i64 x2) := Ib6.out.cell 1
  have yb2 : w6.cell? ⟨w3.heap.size, 2, none⟩ = some (.string X3) := Ib6.out.cell 2
  go_wp2_with fail
  clear ya0 ya1 ya2
  clear yb0 yb1 yb2
  clear Ia6
  clear Ib6
  refine (wakes_any _ (HP.out.below B6.out)).mono ?_
  rintro e w7 ⟨rfl, b⟩
  have B7 := Lib.hid (B6.out.trans (b.mono B6.out.size))
  clear b B6
  go_wp2_with fail
  go_ret
  exact ⟨rfl, B7.out⟩
end Go.Proofs.YthkcniimnaephaaDoor.Uri
