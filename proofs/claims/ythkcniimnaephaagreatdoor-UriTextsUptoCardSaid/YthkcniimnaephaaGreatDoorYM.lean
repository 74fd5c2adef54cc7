/-
  Package uri's functions at texts that are known; that the laws' wakes is true.
  Conditions: those that each theorem names; Go's table of powers of ten is as its text lays it.
-/
import Derived.Test.YthkcniimnaephaaGreatDoorYL
namespace Go.Proofs.YthkcniimnaephaaGreatDoor.Uri
open Go.RowKit

theorem parse_at (s h q : ByteArray) (p k : Int) (hx : urlT (parseF (bl s)) = (bl h, p, bl q, k)) (w : World) (hs : s.size ≤ 281474976710000) (hp : PowTab w) :
    Calls Tryz.prog 16 #[.string s] w fun e w' => e = .returned (.tuple #[.agg #[.string h, .int .i64 p, .string q], .int .i64 k]) ∧ Below w.heap.size w w' := by
  have := parse_any s w hs hp
  unfold UrlGot at this
  rw [hx] at this
  simp only [mk_bl] at this
  exact this
theorem join_at (h q ref h' q' : ByteArray) (p p' k : Int) (hx : urlT (joinF (bl h) p (bl q) (bl ref)) = (bl h', p', bl q', k)) (w : World) (hh : h.size ≤ 140737488351232) (hq : q.size ≤ 140737488351232) (hr : ref.size ≤ 140737488351232) (hp : I64 p) (ht : PowTab w) :
    Calls Tryz.prog 4 #[.agg #[.string h, .int .i64 p, .string q], .string ref] w fun e w' => e = .returned (.tuple #[.agg #[.string h', .int .i64 p', .string q'], .int .i64 k]) ∧ Below w.heap.size w w' := by
  have := join_any h q ref p w hh hq hr hp ht
  unfold UrlGot at this
  rw [hx] at this
  simp only [mk_bl] at this
  exact this
theorem authority_at (s h : ByteArray) (p k : Int) (hx : auV (authorityF (bl s)) = (bl h, p, k)) (w : World) (hs : s.size ≤ 1125899906842624) (hp : PowTab w) :
    Calls Tryz.prog 31 #[.string s] w fun e w' => e = .returned (.tuple #[.string h, .int .i64 p, .int .i64 k]) ∧ Below w.heap.size w w' := by
  have := authority_any s w hs hp
  unfold AuGot at this
  rw [hx] at this
  simp only [mk_bl] at this
  exact this
theorem text_at (h q t : ByteArray) (p : Int) (hx : textI (bl h) p (bl q) = bl t) (w : World) (hh : h.size ≤ 140737488351232) (hq : q.size ≤ 140737488351232) (hp : I64 p) (ht : PowTab w) :
    Calls Tryz.prog 10 #[.agg #[.string h, .int .i64 p, .string q]] w fun e w' => e = .returned (.string t) ∧ Below w.heap.size w w' := by
  have := text_of h q p w hh hq hp ht
  rw [hx, mk_bl] at this
  exact this
theorem host_at (h q t : ByteArray) (p : Int) (hx : hostI (bl h) p (bl q) = bl t) (w : World) (hh : h.size ≤ 140737488351232) (hq : q.size ≤ 140737488351232) (hp : I64 p) (ht : PowTab w) :
    Calls Tryz.prog 12 #[.agg #[.string h, .int .i64 p, .string q]] w fun e w' => e = .returned (.string t) ∧ Below w.heap.size w w' := by
  have := host_of h q p w hh hq hp ht
  rw [hx, mk_bl] at this
  exact this
theorem named_at (s : ByteArray) (b : Bool) (hx : namedF (bl s) = b) (w : World) (hp : PowTab w) : Calls Tryz.prog 6 #[.string s] w fun e w' => e = .returned (.bool b) ∧ Below w.heap.size w w' := by
  have := named_any s w hp
  rw [hx] at this
  exact this
theorem eqU_self (a b : ByteArray) (m : Int) : eqU a b m a b m = true := by simp [eqU]
theorem cmp_self (a b : ByteArray) (m : Int) (W : World) : (binOp .eql 23 (.agg #[.string a, .int .i64 m, .string b]) (.agg #[.string a, .int .i64 m, .string b])).run Tryz.prog W = .ok (.bool true) W := by
  rw [run_eql_url, eqU_self]
theorem ncmp_self (a b : ByteArray) (m : Int) (W : World) : (binOp .neq 23 (.agg #[.string a, .int .i64 m, .string b]) (.agg #[.string a, .int .i64 m, .string b])).run Tryz.prog W = .ok (.bool false) W := by
  rw [run_neq_url, eqU_self]
  rfl

set_option maxHeartbeats 8000000 in
set_option maxRecDepth 100000 in
theorem wakes_any (w : World) (hp : PowTab w) : Calls Tryz.prog 14 #[] w fun e w' => e = .returned (.bool true) ∧ Below w.heap.size w w' := by
  have HP := Lib.hid hp
  have B0 := Lib.hid (Below.refl w.heap.size w)
  have hgd := urlGuard
  have hcmp := cmp_self ⟨#[97, 46, 98]⟩ ⟨#[47, 120, 63, 121]⟩ 8080
  clear hp
  go_enter Tryz.func14, Tryz.ntmps14
  go_wp2_with fail
  refine (parse_at ⟨#[104, 116, 116, 112, 58, 47, 47, 65, 46, 98, 58, 56, 48, 56, 48, 47, 120, 63, 121]⟩ ⟨#[97, 46, 98]⟩ ⟨#[47, 120, 63, 121]⟩ 8080 0 (by decide +kernel) _ (by decide) (HP.out.below B0.out)).mono ?_
  rintro e w1 ⟨rfl, b⟩
  have B1 := Lib.hid (B0.out.trans (b.mono B0.out.size))
  clear b B0
  have B2 := Lib.hid (B1.out.alloc B1.out.size (.cells #[.string ⟨#[97, 46, 98]⟩, .int .i64 8080, .string ⟨#[47, 120, 63, 121]⟩] 23))
  have Iu2 := Lib.hid (Is.made w1 23 [.string ⟨#[97, 46, 98]⟩, .int .i64 8080, .string ⟨#[47, 120, 63, 121]⟩])
  clear B1
  go_upto_region 2 with fail
  generalize w1.alloc _ = w2 at *
  go_wp2_with fail
  refine (parse_at ⟨#[104, 116, 116, 112, 58, 47, 47, 97, 58, 56, 48, 63, 113]⟩ ⟨#[97]⟩ ⟨#[47, 63, 113]⟩ 80 0 (by decide +kernel) _ (by decide) (HP.out.below B2.out)).mono ?_
  rintro e w3 ⟨rfl, b⟩
  have Iu3 := Lib.hid (Iu2.out.kept (Turn.of_below (S := fun _ => False) b) (fun h => h))
  have B3 := Lib.hid (B2.out.trans (b.mono B2.out.size))
  clear b Iu2 B2
  have Iu4 := Lib.hid (Iu3.out.alloc (.cells #[.string ⟨#[97]⟩, .int .i64 80, .string ⟨#[47, 63, 113]⟩] 23))
  have B4 := Lib.hid (B3.out.alloc B3.out.size (.cells #[.string ⟨#[97]⟩, .int .i64 80, .string ⟨#[47, 63, 113]⟩] 23))
  have Iv4 := Lib.hid (Is.made w3 23 [.string ⟨#[97]⟩, .int .i64 80, .string ⟨#[47, 63, 113]⟩])
  clear Iu3 B3
  go_upto_region 3 with fail
  generalize w3.alloc _ = w4 at *
  go_wp2_with fail
  refine (parse_at ⟨#[104, 116, 116, 112, 58, 47, 47, 97, 58, 48, 56, 48, 47]⟩ ⟨#[]⟩ ⟨#[]⟩ 0 23 (by decide +kernel) _ (by decide) (HP.out.below B4.out)).mono ?_
  rintro e w5 ⟨rfl, b⟩
  have Iu5 := Lib.hid (Iu4.out.kept (Turn.of_below (S := fun _ => False) b) (fun h => h))
  have Iv5 := Lib.hid (Iv4.out.kept (Turn.of_below (S := fun _ => False) b) (fun h => h))
  have B5 := Lib.hid (B4.out.trans (b.mono B4.out.size))
  clear b Iu4 Iv4 B4
  have Iu6 := Lib.hid (Iu5.out.alloc (.cells #[.string ⟨#[]⟩, .int .i64 0, .string ⟨#[]⟩] 23))
  have Iv6 := Lib.hid (Iv5.out.alloc (.cells #[.string ⟨#[]⟩, .int .i64 0, .string ⟨#[]⟩] 23))
  have B6 := Lib.hid (B5.out.alloc B5.out.size (.cells #[.string ⟨#[]⟩, .int .i64 0, .string ⟨#[]⟩] 23))
  have Iz6 := Lib.hid (Is.made w5 23 [.string ⟨#[]⟩, .int .i64 0, .string ⟨#[]⟩])
  clear Iu5 Iv5 B5
  go_upto_region 4 with fail
  generalize w5.alloc _ = w6 at *
  clear Iz6
  go_wp2_with fail
  refine (authority_at ⟨#[65, 58, 52, 52, 51]⟩ ⟨#[97]⟩ 443 0 (by decide +kernel) _ (by decide) (HP.out.below B6.out)).mono ?_
  rintro e w7 ⟨rfl, b⟩
  have Iu7 := Lib.hid (Iu6.out.kept (Turn.of_below (S := fun _ => False) b) (fun h => h))
  have Iv7 := Lib.hid (Iv6.out.kept (Turn.of_below (S := fun _ => False) b) (fun h => h))
  have B7 := Lib.hid (B6.out.trans (b.mono B6.out.size))
  clear b Iu6 Iv6 B6
  have yu0 : w7.cell? ⟨w1.heap.size, 0, none⟩ = some (.string ⟨#[97, 46, 98]⟩) := Iu7.out.cell 0
  have yu1 : w7.cell? ⟨w1.heap.size, 1, none⟩ = some (.int .i64 8080) := Iu7.out.cell 1
  have yu2 : w7.cell? ⟨w1.heap.size, 2, none⟩ = some (.string ⟨#[47, 120, 63, 121]⟩) := Iu7.out.cell 2
  go_wp2_with fail
  clear yu0 yu1 yu2
  refine (join_at ⟨#[97, 46, 98]⟩ ⟨#[47, 120, 63, 121]⟩ ⟨#[47, 122]⟩ ⟨#[97, 46, 98]⟩ ⟨#[47, 122]⟩ 8080 8080 0 (by decide +kernel) _ (by decide) (by decide) (by decide) ⟨by decide, by decide⟩ (HP.out.below B7.out)).mono ?_
  rintro e w8 ⟨rfl, b⟩
  have Iu8 := Lib.hid (Iu7.out.kept (Turn.of_below (S := fun _ => False) b) (fun h => h))
  have Iv8 := Lib.hid (Iv7.out.kept (Turn.of_below (S := fun _ => False) b) (fun h => h))
  have B8 := Lib.hid (B7.out.trans (b.mono B7.out.size))
  clear b Iu7 Iv7 B7
  have Iu9 := Lib.hid (Iu8.out.alloc (.cells #[.string ⟨#[97, 46, 98]⟩, .int .i64 8080, .string ⟨#[47, 122]⟩] 23))
  have Iv9 := Lib.hid (Iv8.out.alloc (.cells #[.string ⟨#[97, 46, 98]⟩, .int .i64 8080, .string ⟨#[47, 122]⟩] 23))
  have B9 := Lib.hid (B8.out.alloc B8.out.size (.cells #[.string ⟨#[97, 46, 98]⟩, .int .i64 8080, .string ⟨#[47, 122]⟩] 23))
  have Ij9 := Lib.hid (Is.made w8 23 [.string ⟨#[97, 46, 98]⟩, .int .i64 8080, .string ⟨#[47, 122]⟩])
  clear Iu8 Iv8 B8
  go_upto_region 6 with fail
  generalize w8.alloc _ = w9 at *
  have yu0 : w9.cell? ⟨w1.heap.size, 0, none⟩ = some (.string ⟨#[97, 46, 98]⟩) := Iu9.out.cell 0
  have yu1 : w9.cell? ⟨w1.heap.size, 1, none⟩ = some (.int .i64 8080) := Iu9.out.cell 1
  have yu2 : w9.cell? ⟨w1.heap.size, 2, none⟩ = some (.string ⟨#[47, 120, 63, 121]⟩) := Iu9.out.cell 2
  go_wp2_with fail
  clear yu0 yu1 yu2
  refine (join_at ⟨#[97, 46, 98]⟩ ⟨#[47, 120, 63, 121]⟩ ⟨#[122]⟩ ⟨#[]⟩ ⟨#[]⟩ 8080 0 23 (by decide +kernel) _ (by decide) (by decide) (by decide) ⟨by decide, by decide⟩ (HP.out.below B9.out)).mono ?_
  rintro e w10 ⟨rfl, b⟩
  have Iu10 := Lib.hid (Iu9.out.kept (Turn.of_below (S := fun _ => False) b) (fun h => h))
  have Iv10 := Lib.hid (Iv9.out.kept (Turn.of_below (S := fun _ => False) b) (fun h => h))
  have Ij10 := Lib.hid (Ij9.out.kept (Turn.of_below (S := fun _ => False) b) (fun h => h))
  have B10 := Lib.hid (B9.out.trans (b.mono B9.out.size))
  clear b Iu9 Iv9 Ij9 B9
  have Iu11 := Lib.hid (Iu10.out.alloc (.cells #[.string ⟨#[]⟩, .int .i64 0, .string ⟨#[]⟩] 23))
  have Iv11 := Lib.hid (Iv10.out.alloc (.cells #[.string ⟨#[]⟩, .int .i64 0, .string ⟨#[]⟩] 23))
  have Ij11 := Lib.hid (Ij10.out.alloc (.cells #[.string ⟨#[]⟩, .int .i64 0, .string ⟨#[]⟩] 23))
  have B11 := Lib.hid (B10.out.alloc B10.out.size (.cells #[.string ⟨#[]⟩, .int .i64 0, .string ⟨#[]⟩] 23))
  have Iz11 := Lib.hid (Is.made w10 23 [.string ⟨#[]⟩, .int .i64 0, .string ⟨#[]⟩])
  clear Iu10 Iv10 Ij10 B10
  go_upto_region 7 with fail
  generalize w10.alloc _ = w11 at *
  clear Iz11
  have yu0 : w11.cell? ⟨w1.heap.size, 0, none⟩ = some (.string ⟨#[97, 46, 98]⟩) := Iu11.out.cell 0
  have yu1 : w11.cell? ⟨w1.heap.size, 1, none⟩ = some (.int .i64 8080) := Iu11.out.cell 1
  have yu2 : w11.cell? ⟨w1.heap.size, 2, none⟩ = some (.string ⟨#[47, 120, 63, 121]⟩) := Iu11.out.cell 2
  go_wp2_with fail
  clear yu0 yu1 yu2
  refine (text_at ⟨#[97, 46, 98]⟩ ⟨#[47, 120, 63, 121]⟩ ⟨#[104, 116, 116, 112, 58, 47, 47, 97, 46, 98, 58, 56, 48, 56, 48, 47, 120, 63, 121]⟩ 8080 (by decide +kernel) _ (by decide) (by decide) ⟨by decide, by decide⟩ (HP.out.below B11.out)).mono ?_
  rintro e w12 ⟨rfl, b⟩
  have Iu12 := Lib.hid (Iu11.out.kept (Turn.of_below (S := fun _ => False) b) (fun h => h))
  have Iv12 := Lib.hid (Iv11.out.kept (Turn.of_below (S := fun _ => False) b) (fun h => h))
  have Ij12 := Lib.hid (Ij11.out.kept (Turn.of_below (S := fun _ => False) b) (fun h => h))
  have B12 := Lib.hid (B11.out.trans (b.mono B11.out.size))
  clear b Iu11 Iv11 Ij11 B11
  have yv0 : w12.cell? ⟨w3.heap.size, 0, none⟩ = some (.string ⟨#[97]⟩) := Iv12.out.cell 0
  have yv1 : w12.cell? ⟨w3.heap.size, 1, none⟩ = some (.int .i64 80) := Iv12.out.cell 1
  have yv2 : w12.cell? ⟨w3.heap.size, 2, none⟩ = some (.string ⟨#[47, 63, 113]⟩) := Iv12.out.cell 2
  go_wp2_with fail
  clear yv0 yv1 yv2
  refine (host_at ⟨#[97]⟩ ⟨#[47, 63, 113]⟩ ⟨#[97]⟩ 80 (by decide +kernel) _ (by decide) (by decide) ⟨by decide, by decide⟩ (HP.out.below B12.out)).mono ?_
  rintro e w13 ⟨rfl, b⟩
  have Iu13 := Lib.hid (Iu12.out.kept (Turn.of_below (S := fun _ => False) b) (fun h => h))
  have Iv13 := Lib.hid (Iv12.out.kept (Turn.of_below (S := fun _ => False) b) (fun h => h))
  have Ij13 := Lib.hid (Ij12.out.kept (Turn.of_below (S := fun _ => False) b) (fun h => h))
  have B13 := Lib.hid (B12.out.trans (b.mono B12.out.size))
  clear b Iu12 Iv12 Ij12 B12
  have yj0 : w13.cell? ⟨w8.heap.size, 0, none⟩ = some (.string ⟨#[97, 46, 98]⟩) := Ij13.out.cell 0
  have yj1 : w13.cell? ⟨w8.heap.size, 1, none⟩ = some (.int .i64 8080) := Ij13.out.cell 1
  have yj2 : w13.cell? ⟨w8.heap.size, 2, none⟩ = some (.string ⟨#[47, 122]⟩) := Ij13.out.cell 2
  go_wp2_with fail
  go_ret
  exact ⟨rfl, B13.out⟩
end Go.Proofs.YthkcniimnaephaaGreatDoor.Uri
