/-
  The law UriJoins.
  Conditions: those that each theorem names; Go's table of powers of ten is as its text lays it.
-/
import Derived.Test.YthkcniimnaephaaDoorYM
import Derived.Deep.RegionHeld3
import Derived.Deep.CutRange
namespace Go.Proofs.YthkcniimnaephaaDoor.Uri
open Go.RowKit

theorem put3_belowY {Y X : World} {g : Nat} (hB : Below Y.heap.size Y X) (hg : Y.heap.size ≤ g) (a b c : Value) : Below Y.heap.size Y (put3 X g a b c) := put3_below hB hg a b c
/-- Six cells of two blocks. -/
def Six (X : World) (g g' : Nat) (h0 q0 : ByteArray) (p0 : Int) (h1 q1 : ByteArray) (p1 : Int) : Prop :=
  (X.cell? ⟨g, 0, none⟩ = some (.string h0) ∧ X.cell? ⟨g, 1, none⟩ = some (.int .i64 p0) ∧ X.cell? ⟨g, 2, none⟩ = some (.string q0)) ∧ (X.cell? ⟨g', 0, none⟩ = some (.string h1) ∧ X.cell? ⟨g', 1, none⟩ = some (.int .i64 p1) ∧ X.cell? ⟨g', 2, none⟩ = some (.string q1))
theorem join_may_t {h q ref : List UInt8} {p : Int} : (joinF h p q ref = none ∧ urlT (joinF h p q ref) = ([], 0, [], 23)) ∨ ∃ h' p' q', joinF h p q ref = some (h', p', q') ∧ urlT (joinF h p q ref) = (h', (p' : Int), q', 0) ∧ mayF h' (p' : Int) q' = true ∧ p' ≤ 65535 ∧ h'.length ≤ 384 ∧ q'.length ≤ 384 := by
  cases hj : joinF h p q ref with
  | none => exact .inl ⟨rfl, rfl⟩
  | some x =>
    obtain ⟨h', p', q'⟩ := x
    have hm := join_may hj
    obtain ⟨_, _, m3, _, _, m6⟩ := may_parts hm
    refine .inr ⟨h', p', q', rfl, rfl, hm, by omega, ?_, ?_⟩
    · have := (named_parts (may_parts hm).1).1
      omega
    · have := text_size h' q' (p' : Int)
      omega
theorem may_zero : mayF [] 0 [] = false := by decide
theorem may_size {h q : ByteArray} {p : Int} (hm : mayF (bl h) p (bl q) = true) : h.size ≤ 384 ∧ q.size ≤ 384 := by
  obtain ⟨m1, _, _, _, _, m6⟩ := may_parts hm
  have h1 := (named_parts m1).1
  have h2 := text_size (bl h) (bl q) p
  rw [bl_length] at h1 h2
  omega
theorem take_two (q : ByteArray) (h1 : (bl q).take 1 = [47]) : (bl q).take 2 ≠ [47, 47] ↔ (q.size < 2 ∨ ∃ h : 1 < q.size, q[1] ≠ 47) := by
  by_cases h2 : 1 < q.size
  · have e : (bl q).take 2 = ([47, q[1]] : List UInt8) := by
      rw [show (2 : Nat) = 1 + 1 from rfl, bl_take q 1 h2, h1]
      rfl
    rw [e]
    constructor
    · intro h
      exact .inr ⟨h2, fun e => h (by rw [e])⟩
    · rintro (h | ⟨_, h⟩)
      · omega
      · intro e
        exact h (by simpa using e)
  · constructor
    · intro _
      left; omega
    · intro _ e
      have := congrArg List.length e
      rw [List.length_take, bl_length] at this
      simp at this
      omega

theorem mayat_any (h q : ByteArray) (p : Int) (b : Bool) (hx : mayF (bl h) p (bl q) = b) (w : World) (hh : h.size ≤ 140737488351232) (hq : q.size ≤ 140737488351232) (hp : I64 p) (ht : PowTab w) : Calls Tryd.prog 14 #[.agg #[.string h, .int .i64 p, .string q]] w fun e w' => e = .returned (.bool b) ∧ Below w.heap.size w w' := by
  have := may_any h q p w hh hq hp ht
  rw [hx] at this
  exact this

set_option maxHeartbeats 16000000 in
set_option maxRecDepth 100000 in
theorem joins_true (h0 q0 h1 q1 ref : ByteArray) (p0 p1 : Int) (w : World) (hh0 : h0.size ≤ 140737488351232) (hq0 : q0.size ≤ 140737488351232) (hh1 : h1.size ≤ 140737488351232) (hq1 : q1.size ≤ 140737488351232) (hr : ref.size ≤ 140737488351232) (hp0 : I64 p0) (hp1 : I64 p1) (hp : PowTab w) :
    Calls Tryd.prog 5 #[.agg #[.string h0, .int .i64 p0, .string q0], .agg #[.string h1, .int .i64 p1, .string q1], .string ref] w fun e w' => e = .returned (.bool true) ∧ Below w.heap.size w w' := by
  have hb0 : Below w.heap.size w (w.alloc (.cells #[.string h0, .int .i64 p0, .string q0] 23)) := (Below.refl _ w).alloc (Nat.le_refl _) _
  have hb1 : Below w.heap.size w ((w.alloc (.cells #[.string h0, .int .i64 p0, .string q0] 23)).alloc (.cells #[.string h1, .int .i64 p1, .string q1] 23)) := hb0.alloc hb0.size _
  have i0 := (Is.made w 23 [.string h0, .int .i64 p0, .string q0]).alloc (.cells #[.string h1, .int .i64 p1, .string q1] 23)
  have j0 := Is.made (w.alloc (.cells #[.string h0, .int .i64 p0, .string q0] 23)) 23 [.string h1, .int .i64 p1, .string q1]
  rw [show (w.alloc (.cells #[.string h0, .int .i64 p0, .string q0] 23)).heap.size = w.heap.size + 1 from by simp] at j0
  have IB := Lib.hid i0
  have IU := Lib.hid j0
  have BW := Lib.hid hb1
  have HP := Lib.hid hp
  have hPY := Lib.hid (hp.below hb1)
  clear hb0 hb1 i0 j0
  have CT := Lib.hid (fun (X : World) (hX : PowTab X) => text_of h1 q1 p1 X hh1 hq1 hp1 hX)
  have hT : (textI (bl h1) p1 (bl q1)).length ≤ 384 := by
    unfold textI
    split
    · rename_i hm; exact (may_parts hm).2.2.2.2.2
    · simp
  generalize hTT : textI (bl h1) p1 (bl q1) = T at *
  have CJ := fun (X : World) (hX : PowTab X) => join_any h0 q0 ⟨T.toArray⟩ p0 X hh0 hq0 (by rw [size_mk]; omega) hp0 hX
  unfold UrlGot at CJ
  rw [show bl (⟨T.toArray⟩ : ByteArray) = T from bl_mk T] at CJ
  generalize hX : urlT (joinF (bl h0) p0 (bl q0) T) = x at *
  obtain ⟨x1, x2, x3, x4⟩ := x
  have CJ1 := Lib.hid CJ
  clear CJ
  have HTT := Lib.hid hTT
  have HX := Lib.hid hX
  clear hTT hX
  have HMB := Lib.hid (fun (X : World) (hX : PowTab X) => may_any h0 q0 p0 X hh0 hq0 hp0 hX)
  have HMU := Lib.hid (fun (X : World) (hX : PowTab X) => may_any h1 q1 p1 X hh1 hq1 hp1 hX)
  have CZ0 := fun (X : World) (hX : PowTab X) => join_any h0 q0 ref p0 X hh0 hq0 hr hp0 hX
  unfold UrlGot at CZ0
  have CZ := Lib.hid CZ0
  have CP0 := fun (X : World) (hX : PowTab X) => join_any h0 q0 q1 p0 X hh0 hq0 hq1 hp0 hX
  unfold UrlGot at CP0
  have CPA := Lib.hid CP0
  have CWA := Lib.hid (fun (X : World) (hX : PowTab X) => may_any h0 q1 p0 X hh0 hq1 hp0 hX)
  clear CZ0 CP0
  have HZ := Lib.hid (join_may_t (h := bl h0) (q := bl q0) (ref := bl ref) (p := p0))
  generalize joinF (bl h0) p0 (bl q0) (bl ref) = zz at *
  go_enter Tryd.func5, Tryd.ntmps5
  go_upto_region 1 with fail
  generalize (w.alloc _).alloc _ = Y1 at *
  have KB : ∀ X : World, Below Y1.heap.size Y1 X → ((X.cell? ⟨w.heap.size, 0, none⟩ = some (.string h0) ∧ X.cell? ⟨w.heap.size, 1, none⟩ = some (.int .i64 p0) ∧ X.cell? ⟨w.heap.size, 2, none⟩ = some (.string q0)) ∧ (X.cell? ⟨w.heap.size + 1, 0, none⟩ = some (.string h1) ∧ X.cell? ⟨w.heap.size + 1, 1, none⟩ = some (.int .i64 p1) ∧ X.cell? ⟨w.heap.size + 1, 2, none⟩ = some (.string q1))) := fun X hX => by
    have i1 := IB.out.kept (Turn.of_below (S := fun _ => False) hX) (fun h => h)
    have j1 := IU.out.kept (Turn.of_below (S := fun _ => False) hX) (fun h => h)
    exact ⟨⟨i1.cell 0, i1.cell 1, i1.cell 2⟩, j1.cell 0, j1.cell 1, j1.cell 2⟩
  have PB : ∀ X : World, Below Y1.heap.size Y1 X → PowTab X := fun X hX => hPY.out.below hX
  have BD : Below Y1.heap.size Y1 Y1.drew := below_drewN (Below.refl _ _) 1
  have BE : Below Y1.heap.size Y1 (Y1.alloc (.cells #[.string ⟨#[]⟩, .int .i64 0, .string ⟨#[]⟩] 23)).drew := below_drewN ((Below.refl _ _).alloc (Nat.le_refl _) _) 1
  have IE : Is (Y1.alloc (.cells #[.string ⟨#[]⟩, .int .i64 0, .string ⟨#[]⟩] 23)).drew Y1.heap.size 23 [.string ⟨#[]⟩, .int .i64 0, .string ⟨#[]⟩] := (Is.made Y1 23 [.string ⟨#[]⟩, .int .i64 0, .string ⟨#[]⟩]).drew
  have kD := KB _ BD
  have kE := KB _ BE
  have HKB := Lib.hid KB
  clear KB
  go_cut [7, 8] from 14 to 20 (fun s7 s8 wx => ∃ g7 : Nat, s7 = .pointer (some ⟨g7, 0, none⟩) ∧ s8 = .int .i64 x4 ∧ Hid (Y1.heap.size ≤ g7) ∧ Hid (Below Y1.heap.size Y1 wx) ∧ Hid (Is wx g7 23 [.string ⟨x1.toArray⟩, .int .i64 x2, .string ⟨x3.toArray⟩]))
  case first =>
    have KB := HKB.out
    go_region_held3 (fun w' => ((w'.cell? ⟨w.heap.size, 0, none⟩ = some (.string h0) ∧ w'.cell? ⟨w.heap.size, 1, none⟩ = some (.int .i64 p0) ∧ w'.cell? ⟨w.heap.size, 2, none⟩ = some (.string q0)) ∧ (w'.cell? ⟨w.heap.size + 1, 0, none⟩ = some (.string h1) ∧ w'.cell? ⟨w.heap.size + 1, 1, none⟩ = some (.int .i64 p1) ∧ w'.cell? ⟨w.heap.size + 1, 2, none⟩ = some (.string q1)))) (first | exact kD | exact kE | exact k5 | exact k5a | exact k6 | exact v5 | exact v6 | exact u5 | exact u6 | exact vS _ _ _ | exact uS _ _ _ | exact kL _ | go_keep)
      (first
        | (go_at_call 13
           (with_reducible refine (CT.out Y1.drew (PB _ BD)).mono ?_)
           rintro e w5 ⟨rfl, b5⟩
           have B5 : Below Y1.heap.size Y1 w5 := BD.trans (b5.mono BD.size)
           have k5 := KB _ B5
           have B5a : Below Y1.heap.size Y1 (w5.alloc (.cells #[.string ⟨#[]⟩, .int .i64 0, .string ⟨#[]⟩] 23)) := B5.alloc B5.size _
           have k5a := KB _ B5a
           have I5a : Is (w5.alloc (.cells #[.string ⟨#[]⟩, .int .i64 0, .string ⟨#[]⟩] 23)) w5.heap.size 23 [.string ⟨#[]⟩, .int .i64 0, .string ⟨#[]⟩] := Is.made w5 23 [.string ⟨#[]⟩, .int .i64 0, .string ⟨#[]⟩])
        | (go_at_call 13
           (with_reducible refine (CT.out (Y1.alloc (.cells #[.string ⟨#[]⟩, .int .i64 0, .string ⟨#[]⟩] 23)).drew (PB _ BE)).mono ?_)
           rintro e v5w ⟨rfl, b5⟩
           have B5 : Below Y1.heap.size Y1 v5w := BE.trans (b5.mono BE.size)
           have v5 := KB _ B5
           have I5 := IE.kept (Turn.of_below (S := fun _ => False) b5) (fun h => h))
        | (go_at_call 17
           (with_reducible refine (CJ1.out w5 (PB _ B5)).mono ?_)
           rintro e w6 ⟨rfl, b6⟩
           have B6 : Below Y1.heap.size Y1 w6 := B5.trans (b6.mono B5.size)
           have k6 := KB _ B6
           have kL : ∀ o, (((w6.alloc o).cell? ⟨w.heap.size, 0, none⟩ = some (.string h0) ∧ (w6.alloc o).cell? ⟨w.heap.size, 1, none⟩ = some (.int .i64 p0) ∧ (w6.alloc o).cell? ⟨w.heap.size, 2, none⟩ = some (.string q0)) ∧ ((w6.alloc o).cell? ⟨w.heap.size + 1, 0, none⟩ = some (.string h1) ∧ (w6.alloc o).cell? ⟨w.heap.size + 1, 1, none⟩ = some (.int .i64 p1) ∧ (w6.alloc o).cell? ⟨w.heap.size + 1, 2, none⟩ = some (.string q1))) := fun o => KB _ (B6.alloc B6.size o))
        | (go_at_call 17
           (with_reducible refine (CJ1.out (w5.alloc (.cells #[.string ⟨#[]⟩, .int .i64 0, .string ⟨#[]⟩] 23)) (PB _ B5a)).mono ?_)
           rintro e u6w ⟨rfl, b6⟩
           have B6 : Below Y1.heap.size Y1 u6w := B5a.trans (b6.mono B5a.size)
           have u6 := KB _ B6
           have I6 := I5a.kept (Turn.of_below (S := fun _ => False) b6) (fun h => h)
           have z0u6w : u6w.cell? ⟨w5.heap.size, 0, none⟩ = some (.string ⟨#[]⟩) := I6.cell 0
           have zf0u6w : u6w.frozen? ⟨w5.heap.size, 0, none⟩ = false := I6.free 0
           have z1u6w : u6w.cell? ⟨w5.heap.size, 1, none⟩ = some (.int .i64 0) := I6.cell 1
           have zf1u6w : u6w.frozen? ⟨w5.heap.size, 1, none⟩ = false := I6.free 1
           have z2u6w : u6w.cell? ⟨w5.heap.size, 2, none⟩ = some (.string ⟨#[]⟩) := I6.cell 2
           have zf2u6w : u6w.frozen? ⟨w5.heap.size, 2, none⟩ = false := I6.free 2
           have uS : ∀ a b c, (((put3 u6w w5.heap.size a b c).cell? ⟨w.heap.size, 0, none⟩ = some (.string h0) ∧ (put3 u6w w5.heap.size a b c).cell? ⟨w.heap.size, 1, none⟩ = some (.int .i64 p0) ∧ (put3 u6w w5.heap.size a b c).cell? ⟨w.heap.size, 2, none⟩ = some (.string q0)) ∧ ((put3 u6w w5.heap.size a b c).cell? ⟨w.heap.size + 1, 0, none⟩ = some (.string h1) ∧ (put3 u6w w5.heap.size a b c).cell? ⟨w.heap.size + 1, 1, none⟩ = some (.int .i64 p1) ∧ (put3 u6w w5.heap.size a b c).cell? ⟨w.heap.size + 1, 2, none⟩ = some (.string q1))) := fun a b c => KB _ (put3_belowY B6 B5.size a b c)
           unfold put3 at uS)
        | (go_at_call 17
           (with_reducible refine (CJ1.out v5w (PB _ B5)).mono ?_)
           rintro e v6w ⟨rfl, b6⟩
           have B6 : Below Y1.heap.size Y1 v6w := B5.trans (b6.mono B5.size)
           have v6 := KB _ B6
           have I6 := I5.kept (Turn.of_below (S := fun _ => False) b6) (fun h => h)
           have z0v6w : v6w.cell? ⟨Y1.heap.size, 0, none⟩ = some (.string ⟨#[]⟩) := I6.cell 0
           have zf0v6w : v6w.frozen? ⟨Y1.heap.size, 0, none⟩ = false := I6.free 0
           have z1v6w : v6w.cell? ⟨Y1.heap.size, 1, none⟩ = some (.int .i64 0) := I6.cell 1
           have zf1v6w : v6w.frozen? ⟨Y1.heap.size, 1, none⟩ = false := I6.free 1
           have z2v6w : v6w.cell? ⟨Y1.heap.size, 2, none⟩ = some (.string ⟨#[]⟩) := I6.cell 2
           have zf2v6w : v6w.frozen? ⟨Y1.heap.size, 2, none⟩ = false := I6.free 2
           have vS : ∀ a b c, (((put3 v6w Y1.heap.size a b c).cell? ⟨w.heap.size, 0, none⟩ = some (.string h0) ∧ (put3 v6w Y1.heap.size a b c).cell? ⟨w.heap.size, 1, none⟩ = some (.int .i64 p0) ∧ (put3 v6w Y1.heap.size a b c).cell? ⟨w.heap.size, 2, none⟩ = some (.string q0)) ∧ ((put3 v6w Y1.heap.size a b c).cell? ⟨w.heap.size + 1, 0, none⟩ = some (.string h1) ∧ (put3 v6w Y1.heap.size a b c).cell? ⟨w.heap.size + 1, 1, none⟩ = some (.int .i64 p1) ∧ (put3 v6w Y1.heap.size a b c).cell? ⟨w.heap.size + 1, 2, none⟩ = some (.string q1))) := fun a b c => KB _ (put3_belowY B6 (Nat.le_refl _) a b c)
           unfold put3 at vS))
    all_goals
      go_wp2_with fail
      go_meet
      first
        | (exact ⟨w6.heap.size, rfl, rfl, Lib.hid B6.size, Lib.hid (B6.alloc B6.size _), Lib.hid (Is.made w6 23 [.string ⟨x1.toArray⟩, .int .i64 x2, .string ⟨x3.toArray⟩])⟩)
        | (exact ⟨w5.heap.size, rfl, rfl, Lib.hid B5.size, Lib.hid (put3_belowY B6 B5.size (.string ⟨x1.toArray⟩) (.int .i64 x2) (.string ⟨x3.toArray⟩)), Lib.hid (put3_is I6 (.string ⟨x1.toArray⟩) (.int .i64 x2) (.string ⟨x3.toArray⟩))⟩)
        | (exact ⟨Y1.heap.size, rfl, rfl, Lib.hid (Nat.le_refl _), Lib.hid (put3_belowY B6 (Nat.le_refl _) (.string ⟨x1.toArray⟩) (.int .i64 x2) (.string ⟨x3.toArray⟩)), Lib.hid (put3_is I6 (.string ⟨x1.toArray⟩) (.int .i64 x2) (.string ⟨x3.toArray⟩))⟩)
  case rest =>
    obtain ⟨g7, rfl, rfl, HG7, BY, IX0⟩ := hcut
    have B0 := Lib.hid (BW.out.trans (BY.out.mono BW.out.size))
    have IB0 := Lib.hid (IB.out.kept (Turn.of_below (S := fun _ => False) BY.out) (fun h => h))
    have IU0 := Lib.hid (IU.out.kept (Turn.of_below (S := fun _ => False) BY.out) (fun h => h))
    clear PB BD BE IE kD kE HKB IB IU BW hPY BY HG7 CT CJ1
    cases hmb : mayF (bl h0) p0 (bl q0) with
    | false =>
      rw [hmb] at HMB
      have hx : (([], 0, [], 23) : List UInt8 × Int × List UInt8 × Int) = (x1, x2, x3, x4) := by rw [← HX.out, join_no _ _ _ _ hmb]; rfl
      simp only [Prod.mk.injEq] at hx
      obtain ⟨rfl, rfl, rfl, rfl⟩ := hx
      clear hmb HX HTT hT CPA CWA HMU
      clear IX0
      clear IU0
      have yb0 : wc.cell? ⟨w.heap.size, 0, none⟩ = some (.string h0) := IB0.out.cell 0
      have yb1 : wc.cell? ⟨w.heap.size, 1, none⟩ = some (.int .i64 p0) := IB0.out.cell 1
      have yb2 : wc.cell? ⟨w.heap.size, 2, none⟩ = some (.string q0) := IB0.out.cell 2
      go_wp2_with fail
      clear yb0 yb1 yb2
      refine (HMB.out _ (HP.out.below B0.out)).mono ?_
      rintro e w1 ⟨rfl, b⟩
      have Ib1 := Lib.hid (IB0.out.kept (Turn.of_below (S := fun _ => False) b) (fun h => h))
      have B1 := Lib.hid (B0.out.trans (b.mono B0.out.size))
      clear b IB0 B0
      have yb0 : w1.cell? ⟨w.heap.size, 0, none⟩ = some (.string h0) := Ib1.out.cell 0
      have yb1 : w1.cell? ⟨w.heap.size, 1, none⟩ = some (.int .i64 p0) := Ib1.out.cell 1
      have yb2 : w1.cell? ⟨w.heap.size, 2, none⟩ = some (.string q0) := Ib1.out.cell 2
      go_wp2_with fail
      clear yb0 yb1 yb2
      refine (HMB.out _ (HP.out.below B1.out)).mono ?_
      rintro e w2 ⟨rfl, b⟩
      have Ib2 := Lib.hid (Ib1.out.kept (Turn.of_below (S := fun _ => False) b) (fun h => h))
      have B2 := Lib.hid (B1.out.trans (b.mono B1.out.size))
      clear b Ib1 B1
      have yb0 : w2.cell? ⟨w.heap.size, 0, none⟩ = some (.string h0) := Ib2.out.cell 0
      have yb1 : w2.cell? ⟨w.heap.size, 1, none⟩ = some (.int .i64 p0) := Ib2.out.cell 1
      have yb2 : w2.cell? ⟨w.heap.size, 2, none⟩ = some (.string q0) := Ib2.out.cell 2
      go_wp2_with fail
      clear yb0 yb1 yb2
      rcases HZ.out with ⟨hz0, hz1⟩ | ⟨h', p', q', hz0, hz1, hzm, hzp, hzh, hzq⟩
      · rw [hz1] at CZ
        clear hz0 hz1 HZ
        refine (CZ.out _ (HP.out.below B2.out)).mono ?_
        rintro e w3 ⟨rfl, b⟩
        have Ib3 := Lib.hid (Ib2.out.kept (Turn.of_below (S := fun _ => False) b) (fun h => h))
        have B3 := Lib.hid (B2.out.trans (b.mono B2.out.size))
        clear b Ib2 B2
        clear Ib3
        have B4 := Lib.hid (B3.out.alloc B3.out.size (.cells #[.string ⟨#[]⟩, .int .i64 0, .string ⟨#[]⟩] 23))
        have Iz4 := Lib.hid (Is.made w3 23 [.string ⟨#[]⟩, .int .i64 0, .string ⟨#[]⟩])
        clear B3
        go_upto_region 10 with fail
        generalize w3.alloc _ = w4 at *
        have yz0 : w4.cell? ⟨w3.heap.size, 0, none⟩ = some (.string ⟨#[]⟩) := Iz4.out.cell 0
        have yz1 : w4.cell? ⟨w3.heap.size, 1, none⟩ = some (.int .i64 0) := Iz4.out.cell 1
        have yz2 : w4.cell? ⟨w3.heap.size, 2, none⟩ = some (.string ⟨#[]⟩) := Iz4.out.cell 2
        go_wp2_with fail
        have hcz := cmp_self ⟨#[]⟩ ⟨#[]⟩ 0
        have hgz := urlGuard
        refine (mayat_any ⟨#[]⟩ ⟨#[]⟩ 0 false may_zero _ (by decide) (by decide) ⟨by decide, by decide⟩ (HP.out.below B4.out)).mono ?_
        rintro e w5 ⟨rfl, b⟩
        have Iz5 := Lib.hid (Iz4.out.kept (Turn.of_below (S := fun _ => False) b) (fun h => h))
        have B5 := Lib.hid (B4.out.trans (b.mono B4.out.size))
        clear b Iz4 B4
        clear yz0 yz1 yz2
        have yz0 : w5.cell? ⟨w3.heap.size, 0, none⟩ = some (.string ⟨#[]⟩) := Iz5.out.cell 0
        have yz1 : w5.cell? ⟨w3.heap.size, 1, none⟩ = some (.int .i64 0) := Iz5.out.cell 1
        have yz2 : w5.cell? ⟨w3.heap.size, 2, none⟩ = some (.string ⟨#[]⟩) := Iz5.out.cell 2
        go_wp2_with fail
        refine (wakes_any _ (HP.out.below B5.out)).mono ?_
        rintro e w6 ⟨rfl, b⟩
        have Iz6 := Lib.hid (Iz5.out.kept (Turn.of_below (S := fun _ => False) b) (fun h => h))
        have B6 := Lib.hid (B5.out.trans (b.mono B5.out.size))
        clear b Iz5 B5
        go_wp2_with fail
        go_ret
        exact ⟨rfl, B6.out⟩

      · rw [hz1] at CZ
        clear hz0 hz1 HZ
        refine (CZ.out _ (HP.out.below B2.out)).mono ?_
        rintro e w3 ⟨rfl, b⟩
        have Ib3 := Lib.hid (Ib2.out.kept (Turn.of_below (S := fun _ => False) b) (fun h => h))
        have B3 := Lib.hid (B2.out.trans (b.mono B2.out.size))
        clear b Ib2 B2
        clear Ib3
        have B4 := Lib.hid (B3.out.alloc B3.out.size (.cells #[.string ⟨h'.toArray⟩, .int .i64 (p' : Int), .string ⟨q'.toArray⟩] 23))
        have Iz4 := Lib.hid (Is.made w3 23 [.string ⟨h'.toArray⟩, .int .i64 (p' : Int), .string ⟨q'.toArray⟩])
        clear B3
        go_upto_region 10 with fail
        generalize w3.alloc _ = w4 at *
        have yz0 : w4.cell? ⟨w3.heap.size, 0, none⟩ = some (.string ⟨h'.toArray⟩) := Iz4.out.cell 0
        have yz1 : w4.cell? ⟨w3.heap.size, 1, none⟩ = some (.int .i64 (p' : Int)) := Iz4.out.cell 1
        have yz2 : w4.cell? ⟨w3.heap.size, 2, none⟩ = some (.string ⟨q'.toArray⟩) := Iz4.out.cell 2
        go_wp2_with fail
        refine (mayat_any ⟨h'.toArray⟩ ⟨q'.toArray⟩ (p' : Int) true (by rw [bl_mk, bl_mk]; exact hzm) _ (by rw [size_mk]; omega) (by rw [size_mk]; omega) ⟨by omega, by omega⟩ (HP.out.below B4.out)).mono ?_
        rintro e w5 ⟨rfl, b⟩
        have Iz5 := Lib.hid (Iz4.out.kept (Turn.of_below (S := fun _ => False) b) (fun h => h))
        have B5 := Lib.hid (B4.out.trans (b.mono B4.out.size))
        clear b Iz4 B4
        clear yz0 yz1 yz2
        have yz0 : w5.cell? ⟨w3.heap.size, 0, none⟩ = some (.string ⟨h'.toArray⟩) := Iz5.out.cell 0
        have yz1 : w5.cell? ⟨w3.heap.size, 1, none⟩ = some (.int .i64 (p' : Int)) := Iz5.out.cell 1
        have yz2 : w5.cell? ⟨w3.heap.size, 2, none⟩ = some (.string ⟨q'.toArray⟩) := Iz5.out.cell 2
        go_wp2_with fail
        refine (wakes_any _ (HP.out.below B5.out)).mono ?_
        rintro e w6 ⟨rfl, b⟩
        have Iz6 := Lib.hid (Iz5.out.kept (Turn.of_below (S := fun _ => False) b) (fun h => h))
        have B6 := Lib.hid (B5.out.trans (b.mono B5.out.size))
        clear b Iz5 B5
        go_wp2_with fail
        go_ret
        exact ⟨rfl, B6.out⟩

    | true =>
      rw [hmb] at HMB
      cases hmu : mayF (bl h1) p1 (bl q1) with
      | false =>
        rw [hmu] at HMU
        have hx : (([], 0, [], 23) : List UInt8 × Int × List UInt8 × Int) = (x1, x2, x3, x4) := by
          rw [← HX.out, ← HTT.out]
          unfold textI
          rw [hmu, if_neg Bool.false_ne_true]
          unfold joinF
          rw [if_pos hmb, if_neg (by simp), parse_nil]
          rfl
        simp only [Prod.mk.injEq] at hx
        obtain ⟨rfl, rfl, rfl, rfl⟩ := hx
        clear hmb hmu HX HTT hT CPA CWA
        clear IX0
        have yb0 : wc.cell? ⟨w.heap.size, 0, none⟩ = some (.string h0) := IB0.out.cell 0
        have yb1 : wc.cell? ⟨w.heap.size, 1, none⟩ = some (.int .i64 p0) := IB0.out.cell 1
        have yb2 : wc.cell? ⟨w.heap.size, 2, none⟩ = some (.string q0) := IB0.out.cell 2
        go_wp2_with fail
        clear yb0 yb1 yb2
        refine (HMB.out _ (HP.out.below B0.out)).mono ?_
        rintro e w1 ⟨rfl, b⟩
        have Ib1 := Lib.hid (IB0.out.kept (Turn.of_below (S := fun _ => False) b) (fun h => h))
        have Iu1 := Lib.hid (IU0.out.kept (Turn.of_below (S := fun _ => False) b) (fun h => h))
        have B1 := Lib.hid (B0.out.trans (b.mono B0.out.size))
        clear b IB0 IU0 B0
        have yu0 : w1.cell? ⟨w.heap.size + 1, 0, none⟩ = some (.string h1) := Iu1.out.cell 0
        have yu1 : w1.cell? ⟨w.heap.size + 1, 1, none⟩ = some (.int .i64 p1) := Iu1.out.cell 1
        have yu2 : w1.cell? ⟨w.heap.size + 1, 2, none⟩ = some (.string q1) := Iu1.out.cell 2
        go_wp2_with fail
        clear yu0 yu1 yu2
        refine (HMU.out _ (HP.out.below B1.out)).mono ?_
        rintro e w2 ⟨rfl, b⟩
        have Ib2 := Lib.hid (Ib1.out.kept (Turn.of_below (S := fun _ => False) b) (fun h => h))
        have Iu2 := Lib.hid (Iu1.out.kept (Turn.of_below (S := fun _ => False) b) (fun h => h))
        have B2 := Lib.hid (B1.out.trans (b.mono B1.out.size))
        clear b Ib1 Iu1 B1
        have yb0 : w2.cell? ⟨w.heap.size, 0, none⟩ = some (.string h0) := Ib2.out.cell 0
        have yb1 : w2.cell? ⟨w.heap.size, 1, none⟩ = some (.int .i64 p0) := Ib2.out.cell 1
        have yb2 : w2.cell? ⟨w.heap.size, 2, none⟩ = some (.string q0) := Ib2.out.cell 2
        go_wp2_with fail
        clear yb0 yb1 yb2
        refine (HMB.out _ (HP.out.below B2.out)).mono ?_
        rintro e w3 ⟨rfl, b⟩
        have Ib3 := Lib.hid (Ib2.out.kept (Turn.of_below (S := fun _ => False) b) (fun h => h))
        have Iu3 := Lib.hid (Iu2.out.kept (Turn.of_below (S := fun _ => False) b) (fun h => h))
        have B3 := Lib.hid (B2.out.trans (b.mono B2.out.size))
        clear b Ib2 Iu2 B2
        have yu0 : w3.cell? ⟨w.heap.size + 1, 0, none⟩ = some (.string h1) := Iu3.out.cell 0
        have yu1 : w3.cell? ⟨w.heap.size + 1, 1, none⟩ = some (.int .i64 p1) := Iu3.out.cell 1
        have yu2 : w3.cell? ⟨w.heap.size + 1, 2, none⟩ = some (.string q1) := Iu3.out.cell 2
        go_wp2_with fail
        clear yu0 yu1 yu2
        refine (HMU.out _ (HP.out.below B3.out)).mono ?_
        rintro e w4 ⟨rfl, b⟩
        have Ib4 := Lib.hid (Ib3.out.kept (Turn.of_below (S := fun _ => False) b) (fun h => h))
        have Iu4 := Lib.hid (Iu3.out.kept (Turn.of_below (S := fun _ => False) b) (fun h => h))
        have B4 := Lib.hid (B3.out.trans (b.mono B3.out.size))
        clear b Ib3 Iu3 B3
        clear Iu4
        have yb0 : w4.cell? ⟨w.heap.size, 0, none⟩ = some (.string h0) := Ib4.out.cell 0
        have yb1 : w4.cell? ⟨w.heap.size, 1, none⟩ = some (.int .i64 p0) := Ib4.out.cell 1
        have yb2 : w4.cell? ⟨w.heap.size, 2, none⟩ = some (.string q0) := Ib4.out.cell 2
        go_wp2_with fail
        clear yb0 yb1 yb2
        rcases HZ.out with ⟨hz0, hz1⟩ | ⟨h', p', q', hz0, hz1, hzm, hzp, hzh, hzq⟩
        · rw [hz1] at CZ
          clear hz0 hz1 HZ
          refine (CZ.out _ (HP.out.below B4.out)).mono ?_
          rintro e w5 ⟨rfl, b⟩
          have Ib5 := Lib.hid (Ib4.out.kept (Turn.of_below (S := fun _ => False) b) (fun h => h))
          have B5 := Lib.hid (B4.out.trans (b.mono B4.out.size))
          clear b Ib4 B4
          clear Ib5
          have B6 := Lib.hid (B5.out.alloc B5.out.size (.cells #[.string ⟨#[]⟩, .int .i64 0, .string ⟨#[]⟩] 23))
          have Iz6 := Lib.hid (Is.made w5 23 [.string ⟨#[]⟩, .int .i64 0, .string ⟨#[]⟩])
          clear B5
          go_upto_region 10 with fail
          generalize w5.alloc _ = w6 at *
          have yz0 : w6.cell? ⟨w5.heap.size, 0, none⟩ = some (.string ⟨#[]⟩) := Iz6.out.cell 0
          have yz1 : w6.cell? ⟨w5.heap.size, 1, none⟩ = some (.int .i64 0) := Iz6.out.cell 1
          have yz2 : w6.cell? ⟨w5.heap.size, 2, none⟩ = some (.string ⟨#[]⟩) := Iz6.out.cell 2
          go_wp2_with fail
          have hcz := cmp_self ⟨#[]⟩ ⟨#[]⟩ 0
          have hgz := urlGuard
          refine (mayat_any ⟨#[]⟩ ⟨#[]⟩ 0 false may_zero _ (by decide) (by decide) ⟨by decide, by decide⟩ (HP.out.below B6.out)).mono ?_
          rintro e w7 ⟨rfl, b⟩
          have Iz7 := Lib.hid (Iz6.out.kept (Turn.of_below (S := fun _ => False) b) (fun h => h))
          have B7 := Lib.hid (B6.out.trans (b.mono B6.out.size))
          clear b Iz6 B6
          clear yz0 yz1 yz2
          have yz0 : w7.cell? ⟨w5.heap.size, 0, none⟩ = some (.string ⟨#[]⟩) := Iz7.out.cell 0
          have yz1 : w7.cell? ⟨w5.heap.size, 1, none⟩ = some (.int .i64 0) := Iz7.out.cell 1
          have yz2 : w7.cell? ⟨w5.heap.size, 2, none⟩ = some (.string ⟨#[]⟩) := Iz7.out.cell 2
          go_wp2_with fail
          refine (wakes_any _ (HP.out.below B7.out)).mono ?_
          rintro e w8 ⟨rfl, b⟩
          have Iz8 := Lib.hid (Iz7.out.kept (Turn.of_below (S := fun _ => False) b) (fun h => h))
          have B8 := Lib.hid (B7.out.trans (b.mono B7.out.size))
          clear b Iz7 B7
          go_wp2_with fail
          go_ret
          exact ⟨rfl, B8.out⟩

        · rw [hz1] at CZ
          clear hz0 hz1 HZ
          refine (CZ.out _ (HP.out.below B4.out)).mono ?_
          rintro e w5 ⟨rfl, b⟩
          have Ib5 := Lib.hid (Ib4.out.kept (Turn.of_below (S := fun _ => False) b) (fun h => h))
          have B5 := Lib.hid (B4.out.trans (b.mono B4.out.size))
          clear b Ib4 B4
          clear Ib5
          have B6 := Lib.hid (B5.out.alloc B5.out.size (.cells #[.string ⟨h'.toArray⟩, .int .i64 (p' : Int), .string ⟨q'.toArray⟩] 23))
          have Iz6 := Lib.hid (Is.made w5 23 [.string ⟨h'.toArray⟩, .int .i64 (p' : Int), .string ⟨q'.toArray⟩])
          clear B5
          go_upto_region 10 with fail
          generalize w5.alloc _ = w6 at *
          have yz0 : w6.cell? ⟨w5.heap.size, 0, none⟩ = some (.string ⟨h'.toArray⟩) := Iz6.out.cell 0
          have yz1 : w6.cell? ⟨w5.heap.size, 1, none⟩ = some (.int .i64 (p' : Int)) := Iz6.out.cell 1
          have yz2 : w6.cell? ⟨w5.heap.size, 2, none⟩ = some (.string ⟨q'.toArray⟩) := Iz6.out.cell 2
          go_wp2_with fail
          refine (mayat_any ⟨h'.toArray⟩ ⟨q'.toArray⟩ (p' : Int) true (by rw [bl_mk, bl_mk]; exact hzm) _ (by rw [size_mk]; omega) (by rw [size_mk]; omega) ⟨by omega, by omega⟩ (HP.out.below B6.out)).mono ?_
          rintro e w7 ⟨rfl, b⟩
          have Iz7 := Lib.hid (Iz6.out.kept (Turn.of_below (S := fun _ => False) b) (fun h => h))
          have B7 := Lib.hid (B6.out.trans (b.mono B6.out.size))
          clear b Iz6 B6
          clear yz0 yz1 yz2
          have yz0 : w7.cell? ⟨w5.heap.size, 0, none⟩ = some (.string ⟨h'.toArray⟩) := Iz7.out.cell 0
          have yz1 : w7.cell? ⟨w5.heap.size, 1, none⟩ = some (.int .i64 (p' : Int)) := Iz7.out.cell 1
          have yz2 : w7.cell? ⟨w5.heap.size, 2, none⟩ = some (.string ⟨q'.toArray⟩) := Iz7.out.cell 2
          go_wp2_with fail
          refine (wakes_any _ (HP.out.below B7.out)).mono ?_
          rintro e w8 ⟨rfl, b⟩
          have Iz8 := Lib.hid (Iz7.out.kept (Turn.of_below (S := fun _ => False) b) (fun h => h))
          have B8 := Lib.hid (B7.out.trans (b.mono B7.out.size))
          clear b Iz7 B7
          go_wp2_with fail
          go_ret
          exact ⟨rfl, B8.out⟩

      | true =>
        rw [hmu] at HMU
        obtain ⟨n1, rfl, _, _⟩ := may_nat hmu
        have hx : (bl h1, (n1 : Int), bl q1, (0 : Int)) = (x1, x2, x3, x4) := by
          rw [← HX.out, ← HTT.out, join_text _ _ _ _ _ _ hmb, if_pos hmu]
          rfl
        simp only [Prod.mk.injEq] at hx
        obtain ⟨rfl, rfl, rfl, rfl⟩ := hx
        have hq47 : (bl q1).take 1 = [47] := (may_parts hmu).2.2.2.1
        have htwo := take_two q1 hq47
        rw [mk_bl, mk_bl] at IX0
        have hcx := ncmp_self h1 q1 (n1 : Int)
        have hgd := urlGuard
        clear HX HTT hT
        have yb0 : wc.cell? ⟨w.heap.size, 0, none⟩ = some (.string h0) := IB0.out.cell 0
        have yb1 : wc.cell? ⟨w.heap.size, 1, none⟩ = some (.int .i64 p0) := IB0.out.cell 1
        have yb2 : wc.cell? ⟨w.heap.size, 2, none⟩ = some (.string q0) := IB0.out.cell 2
        go_wp2_with fail
        clear yb0 yb1 yb2
        refine (HMB.out _ (HP.out.below B0.out)).mono ?_
        rintro e w1 ⟨rfl, b⟩
        have Ib1 := Lib.hid (IB0.out.kept (Turn.of_below (S := fun _ => False) b) (fun h => h))
        have Iu1 := Lib.hid (IU0.out.kept (Turn.of_below (S := fun _ => False) b) (fun h => h))
        have Ix1 := Lib.hid (IX0.out.kept (Turn.of_below (S := fun _ => False) b) (fun h => h))
        have B1 := Lib.hid (B0.out.trans (b.mono B0.out.size))
        clear b IB0 IU0 IX0 B0
        have yu0 : w1.cell? ⟨w.heap.size + 1, 0, none⟩ = some (.string h1) := Iu1.out.cell 0
        have yu1 : w1.cell? ⟨w.heap.size + 1, 1, none⟩ = some (.int .i64 (n1 : Int)) := Iu1.out.cell 1
        have yu2 : w1.cell? ⟨w.heap.size + 1, 2, none⟩ = some (.string q1) := Iu1.out.cell 2
        go_wp2_with fail
        clear yu0 yu1 yu2
        refine (HMU.out _ (HP.out.below B1.out)).mono ?_
        rintro e w2 ⟨rfl, b⟩
        have Ib2 := Lib.hid (Ib1.out.kept (Turn.of_below (S := fun _ => False) b) (fun h => h))
        have Iu2 := Lib.hid (Iu1.out.kept (Turn.of_below (S := fun _ => False) b) (fun h => h))
        have Ix2 := Lib.hid (Ix1.out.kept (Turn.of_below (S := fun _ => False) b) (fun h => h))
        have B2 := Lib.hid (B1.out.trans (b.mono B1.out.size))
        clear b Ib1 Iu1 Ix1 B1
        have yx0 : w2.cell? ⟨g7, 0, none⟩ = some (.string h1) := Ix2.out.cell 0
        have yx1 : w2.cell? ⟨g7, 1, none⟩ = some (.int .i64 (n1 : Int)) := Ix2.out.cell 1
        have yx2 : w2.cell? ⟨g7, 2, none⟩ = some (.string q1) := Ix2.out.cell 2
        have yu0 : w2.cell? ⟨w.heap.size + 1, 0, none⟩ = some (.string h1) := Iu2.out.cell 0
        have yu1 : w2.cell? ⟨w.heap.size + 1, 1, none⟩ = some (.int .i64 (n1 : Int)) := Iu2.out.cell 1
        have yu2 : w2.cell? ⟨w.heap.size + 1, 2, none⟩ = some (.string q1) := Iu2.out.cell 2
        have yb0 : w2.cell? ⟨w.heap.size, 0, none⟩ = some (.string h0) := Ib2.out.cell 0
        have yb1 : w2.cell? ⟨w.heap.size, 1, none⟩ = some (.int .i64 p0) := Ib2.out.cell 1
        have yb2 : w2.cell? ⟨w.heap.size, 2, none⟩ = some (.string q0) := Ib2.out.cell 2
        go_wp2_with fail
        clear yb0 yb1 yb2
        clear yx0 yx1 yx2
        clear yu0 yu1 yu2
        refine (HMB.out _ (HP.out.below B2.out)).mono ?_
        rintro e w3 ⟨rfl, b⟩
        have Ib3 := Lib.hid (Ib2.out.kept (Turn.of_below (S := fun _ => False) b) (fun h => h))
        have Iu3 := Lib.hid (Iu2.out.kept (Turn.of_below (S := fun _ => False) b) (fun h => h))
        have Ix3 := Lib.hid (Ix2.out.kept (Turn.of_below (S := fun _ => False) b) (fun h => h))
        have B3 := Lib.hid (B2.out.trans (b.mono B2.out.size))
        clear b Ib2 Iu2 Ix2 B2
        clear Ix3
        have yu0 : w3.cell? ⟨w.heap.size + 1, 0, none⟩ = some (.string h1) := Iu3.out.cell 0
        have yu1 : w3.cell? ⟨w.heap.size + 1, 1, none⟩ = some (.int .i64 (n1 : Int)) := Iu3.out.cell 1
        have yu2 : w3.cell? ⟨w.heap.size + 1, 2, none⟩ = some (.string q1) := Iu3.out.cell 2
        go_wp2_with fail
        clear yu0 yu1 yu2
        refine (HMU.out _ (HP.out.below B3.out)).mono ?_
        rintro e w4 ⟨rfl, b⟩
        have Ib4 := Lib.hid (Ib3.out.kept (Turn.of_below (S := fun _ => False) b) (fun h => h))
        have Iu4 := Lib.hid (Iu3.out.kept (Turn.of_below (S := fun _ => False) b) (fun h => h))
        have B4 := Lib.hid (B3.out.trans (b.mono B3.out.size))
        clear b Ib3 Iu3 B3
        by_cases hgo : q1.size < 2 ∨ ∃ h : 1 < q1.size, q1[1] ≠ 47
        · have hj := join_path (bl h0) (bl q0) p0 (bl q1) hmb hq47 (htwo.2 hgo)
          obtain ⟨n0, rfl, _, _⟩ := may_nat hmb
          rw [Int.toNat_natCast] at hj
          have HGO := Lib.hid hgo
          clear hgo htwo
          cases hmw : mayF (bl h0) (n0 : Int) (bl q1)
          · rw [hmw] at hj CWA
            rw [if_neg Bool.false_ne_true] at hj
            rw [hj] at CPA
            simp only [urlT] at CPA
            clear hmw hj hmb hmu
            rcases HGO.out with hgo | ⟨hgo, hne⟩
            · have e1 : (q1.size : Int) < 2 := by omega
              have yu0 : w4.cell? ⟨w.heap.size + 1, 0, none⟩ = some (.string h1) := Iu4.out.cell 0
              have yu1 : w4.cell? ⟨w.heap.size + 1, 1, none⟩ = some (.int .i64 (n1 : Int)) := Iu4.out.cell 1
              have yu2 : w4.cell? ⟨w.heap.size + 1, 2, none⟩ = some (.string q1) := Iu4.out.cell 2
              have yb0 : w4.cell? ⟨w.heap.size, 0, none⟩ = some (.string h0) := Ib4.out.cell 0
              have yb1 : w4.cell? ⟨w.heap.size, 1, none⟩ = some (.int .i64 (n0 : Int)) := Ib4.out.cell 1
              have yb2 : w4.cell? ⟨w.heap.size, 2, none⟩ = some (.string q0) := Ib4.out.cell 2
              go_wp2_with fail
              clear yu0 yu1 yu2
              clear yb0 yb1 yb2
              refine (CPA.out _ (HP.out.below B4.out)).mono ?_
              rintro e w5 ⟨rfl, b⟩
              have Ib5 := Lib.hid (Ib4.out.kept (Turn.of_below (S := fun _ => False) b) (fun h => h))
              have Iu5 := Lib.hid (Iu4.out.kept (Turn.of_below (S := fun _ => False) b) (fun h => h))
              have B5 := Lib.hid (B4.out.trans (b.mono B4.out.size))
              clear b Ib4 Iu4 B4
              have Ib6 := Lib.hid (Ib5.out.alloc (.cells #[.string ⟨#[]⟩, .int .i64 0, .string ⟨#[]⟩] 23))
              have Iu6 := Lib.hid (Iu5.out.alloc (.cells #[.string ⟨#[]⟩, .int .i64 0, .string ⟨#[]⟩] 23))
              have B6 := Lib.hid (B5.out.alloc B5.out.size (.cells #[.string ⟨#[]⟩, .int .i64 0, .string ⟨#[]⟩] 23))
              have Iy6 := Lib.hid (Is.made w5 23 [.string ⟨#[]⟩, .int .i64 0, .string ⟨#[]⟩])
              clear Ib5 Iu5 B5
              go_upto_region 6 with fail
              generalize w5.alloc _ = w6 at *
              have yu0 : w6.cell? ⟨w.heap.size + 1, 0, none⟩ = some (.string h1) := Iu6.out.cell 0
              have yu1 : w6.cell? ⟨w.heap.size + 1, 1, none⟩ = some (.int .i64 (n1 : Int)) := Iu6.out.cell 1
              have yu2 : w6.cell? ⟨w.heap.size + 1, 2, none⟩ = some (.string q1) := Iu6.out.cell 2
              have yb0 : w6.cell? ⟨w.heap.size, 0, none⟩ = some (.string h0) := Ib6.out.cell 0
              have yb1 : w6.cell? ⟨w.heap.size, 1, none⟩ = some (.int .i64 (n0 : Int)) := Ib6.out.cell 1
              have yb2 : w6.cell? ⟨w.heap.size, 2, none⟩ = some (.string q0) := Ib6.out.cell 2
              have Ib7 := Lib.hid (Ib6.out.alloc (.cells #[.string h0, .int .i64 (n0 : Int), .string q1] 23))
              have Iu7 := Lib.hid (Iu6.out.alloc (.cells #[.string h0, .int .i64 (n0 : Int), .string q1] 23))
              have Iy7 := Lib.hid (Iy6.out.alloc (.cells #[.string h0, .int .i64 (n0 : Int), .string q1] 23))
              have B7 := Lib.hid (B6.out.alloc B6.out.size (.cells #[.string h0, .int .i64 (n0 : Int), .string q1] 23))
              have It7 := Lib.hid (Is.made w6 23 [.string h0, .int .i64 (n0 : Int), .string q1])
              clear Ib6 Iu6 Iy6 B6
              go_upto_region 7 with fail
              generalize w6.alloc _ = w7 at *
              clear yu0 yu1 yu2 yb0 yb1 yb2
              clear Iu7
              have yt0 : w7.cell? ⟨w6.heap.size, 0, none⟩ = some (.string h0) := It7.out.cell 0
              have yt1 : w7.cell? ⟨w6.heap.size, 1, none⟩ = some (.int .i64 (n0 : Int)) := It7.out.cell 1
              have yt2 : w7.cell? ⟨w6.heap.size, 2, none⟩ = some (.string q1) := It7.out.cell 2
              go_wp2_with fail
              clear yt0 yt1 yt2
              refine (CWA.out _ (HP.out.below B7.out)).mono ?_
              rintro e w8 ⟨rfl, b⟩
              have Ib8 := Lib.hid (Ib7.out.kept (Turn.of_below (S := fun _ => False) b) (fun h => h))
              have Iy8 := Lib.hid (Iy7.out.kept (Turn.of_below (S := fun _ => False) b) (fun h => h))
              have It8 := Lib.hid (It7.out.kept (Turn.of_below (S := fun _ => False) b) (fun h => h))
              have B8 := Lib.hid (B7.out.trans (b.mono B7.out.size))
              clear b Ib7 Iy7 It7 B7
              clear Iy8
              clear It8
              have yb0 : w8.cell? ⟨w.heap.size, 0, none⟩ = some (.string h0) := Ib8.out.cell 0
              have yb1 : w8.cell? ⟨w.heap.size, 1, none⟩ = some (.int .i64 (n0 : Int)) := Ib8.out.cell 1
              have yb2 : w8.cell? ⟨w.heap.size, 2, none⟩ = some (.string q0) := Ib8.out.cell 2
              go_wp2_with fail
              clear yb0 yb1 yb2
              rcases HZ.out with ⟨hz0, hz1⟩ | ⟨h', p', q', hz0, hz1, hzm, hzp, hzh, hzq⟩
              · rw [hz1] at CZ
                clear hz0 hz1 HZ
                refine (CZ.out _ (HP.out.below B8.out)).mono ?_
                rintro e w9 ⟨rfl, b⟩
                have Ib9 := Lib.hid (Ib8.out.kept (Turn.of_below (S := fun _ => False) b) (fun h => h))
                have B9 := Lib.hid (B8.out.trans (b.mono B8.out.size))
                clear b Ib8 B8
                clear Ib9
                have B10 := Lib.hid (B9.out.alloc B9.out.size (.cells #[.string ⟨#[]⟩, .int .i64 0, .string ⟨#[]⟩] 23))
                have Iz10 := Lib.hid (Is.made w9 23 [.string ⟨#[]⟩, .int .i64 0, .string ⟨#[]⟩])
                clear B9
                go_upto_region 10 with fail
                generalize w9.alloc _ = w10 at *
                have yz0 : w10.cell? ⟨w9.heap.size, 0, none⟩ = some (.string ⟨#[]⟩) := Iz10.out.cell 0
                have yz1 : w10.cell? ⟨w9.heap.size, 1, none⟩ = some (.int .i64 0) := Iz10.out.cell 1
                have yz2 : w10.cell? ⟨w9.heap.size, 2, none⟩ = some (.string ⟨#[]⟩) := Iz10.out.cell 2
                go_wp2_with fail
                have hcz := cmp_self ⟨#[]⟩ ⟨#[]⟩ 0
                have hgz := urlGuard
                refine (mayat_any ⟨#[]⟩ ⟨#[]⟩ 0 false may_zero _ (by decide) (by decide) ⟨by decide, by decide⟩ (HP.out.below B10.out)).mono ?_
                rintro e w11 ⟨rfl, b⟩
                have Iz11 := Lib.hid (Iz10.out.kept (Turn.of_below (S := fun _ => False) b) (fun h => h))
                have B11 := Lib.hid (B10.out.trans (b.mono B10.out.size))
                clear b Iz10 B10
                clear yz0 yz1 yz2
                have yz0 : w11.cell? ⟨w9.heap.size, 0, none⟩ = some (.string ⟨#[]⟩) := Iz11.out.cell 0
                have yz1 : w11.cell? ⟨w9.heap.size, 1, none⟩ = some (.int .i64 0) := Iz11.out.cell 1
                have yz2 : w11.cell? ⟨w9.heap.size, 2, none⟩ = some (.string ⟨#[]⟩) := Iz11.out.cell 2
                go_wp2_with fail
                refine (wakes_any _ (HP.out.below B11.out)).mono ?_
                rintro e w12 ⟨rfl, b⟩
                have Iz12 := Lib.hid (Iz11.out.kept (Turn.of_below (S := fun _ => False) b) (fun h => h))
                have B12 := Lib.hid (B11.out.trans (b.mono B11.out.size))
                clear b Iz11 B11
                go_wp2_with fail
                go_ret
                exact ⟨rfl, B12.out⟩

              · rw [hz1] at CZ
                clear hz0 hz1 HZ
                refine (CZ.out _ (HP.out.below B8.out)).mono ?_
                rintro e w9 ⟨rfl, b⟩
                have Ib9 := Lib.hid (Ib8.out.kept (Turn.of_below (S := fun _ => False) b) (fun h => h))
                have B9 := Lib.hid (B8.out.trans (b.mono B8.out.size))
                clear b Ib8 B8
                clear Ib9
                have B10 := Lib.hid (B9.out.alloc B9.out.size (.cells #[.string ⟨h'.toArray⟩, .int .i64 (p' : Int), .string ⟨q'.toArray⟩] 23))
                have Iz10 := Lib.hid (Is.made w9 23 [.string ⟨h'.toArray⟩, .int .i64 (p' : Int), .string ⟨q'.toArray⟩])
                clear B9
                go_upto_region 10 with fail
                generalize w9.alloc _ = w10 at *
                have yz0 : w10.cell? ⟨w9.heap.size, 0, none⟩ = some (.string ⟨h'.toArray⟩) := Iz10.out.cell 0
                have yz1 : w10.cell? ⟨w9.heap.size, 1, none⟩ = some (.int .i64 (p' : Int)) := Iz10.out.cell 1
                have yz2 : w10.cell? ⟨w9.heap.size, 2, none⟩ = some (.string ⟨q'.toArray⟩) := Iz10.out.cell 2
                go_wp2_with fail
                refine (mayat_any ⟨h'.toArray⟩ ⟨q'.toArray⟩ (p' : Int) true (by rw [bl_mk, bl_mk]; exact hzm) _ (by rw [size_mk]; omega) (by rw [size_mk]; omega) ⟨by omega, by omega⟩ (HP.out.below B10.out)).mono ?_
                rintro e w11 ⟨rfl, b⟩
                have Iz11 := Lib.hid (Iz10.out.kept (Turn.of_below (S := fun _ => False) b) (fun h => h))
                have B11 := Lib.hid (B10.out.trans (b.mono B10.out.size))
                clear b Iz10 B10
                clear yz0 yz1 yz2
                have yz0 : w11.cell? ⟨w9.heap.size, 0, none⟩ = some (.string ⟨h'.toArray⟩) := Iz11.out.cell 0
                have yz1 : w11.cell? ⟨w9.heap.size, 1, none⟩ = some (.int .i64 (p' : Int)) := Iz11.out.cell 1
                have yz2 : w11.cell? ⟨w9.heap.size, 2, none⟩ = some (.string ⟨q'.toArray⟩) := Iz11.out.cell 2
                go_wp2_with fail
                refine (wakes_any _ (HP.out.below B11.out)).mono ?_
                rintro e w12 ⟨rfl, b⟩
                have Iz12 := Lib.hid (Iz11.out.kept (Turn.of_below (S := fun _ => False) b) (fun h => h))
                have B12 := Lib.hid (B11.out.trans (b.mono B11.out.size))
                clear b Iz11 B11
                go_wp2_with fail
                go_ret
                exact ⟨rfl, B12.out⟩

            · have e1 : ¬ (q1.size : Int) < 2 := by omega
              have e2 : (1 : Int) < (q1.size : Int) := by omega
              have e3 : (((q1[1]'hgo).toNat : Int) != 47) = true := by
                rw [bne_iff_ne]
                intro e
                refine hne (UInt8.toNat_inj.1 ?_)
                show _ = 47
                omega
              clear hne
              have yu0 : w4.cell? ⟨w.heap.size + 1, 0, none⟩ = some (.string h1) := Iu4.out.cell 0
              have yu1 : w4.cell? ⟨w.heap.size + 1, 1, none⟩ = some (.int .i64 (n1 : Int)) := Iu4.out.cell 1
              have yu2 : w4.cell? ⟨w.heap.size + 1, 2, none⟩ = some (.string q1) := Iu4.out.cell 2
              have yb0 : w4.cell? ⟨w.heap.size, 0, none⟩ = some (.string h0) := Ib4.out.cell 0
              have yb1 : w4.cell? ⟨w.heap.size, 1, none⟩ = some (.int .i64 (n0 : Int)) := Ib4.out.cell 1
              have yb2 : w4.cell? ⟨w.heap.size, 2, none⟩ = some (.string q0) := Ib4.out.cell 2
              go_wp2_with fail
              clear yu0 yu1 yu2
              clear yb0 yb1 yb2
              refine (CPA.out _ (HP.out.below B4.out)).mono ?_
              rintro e w5 ⟨rfl, b⟩
              have Ib5 := Lib.hid (Ib4.out.kept (Turn.of_below (S := fun _ => False) b) (fun h => h))
              have Iu5 := Lib.hid (Iu4.out.kept (Turn.of_below (S := fun _ => False) b) (fun h => h))
              have B5 := Lib.hid (B4.out.trans (b.mono B4.out.size))
              clear b Ib4 Iu4 B4
              have Ib6 := Lib.hid (Ib5.out.alloc (.cells #[.string ⟨#[]⟩, .int .i64 0, .string ⟨#[]⟩] 23))
              have Iu6 := Lib.hid (Iu5.out.alloc (.cells #[.string ⟨#[]⟩, .int .i64 0, .string ⟨#[]⟩] 23))
              have B6 := Lib.hid (B5.out.alloc B5.out.size (.cells #[.string ⟨#[]⟩, .int .i64 0, .string ⟨#[]⟩] 23))
              have Iy6 := Lib.hid (Is.made w5 23 [.string ⟨#[]⟩, .int .i64 0, .string ⟨#[]⟩])
              clear Ib5 Iu5 B5
              go_upto_region 6 with fail
              generalize w5.alloc _ = w6 at *
              have yu0 : w6.cell? ⟨w.heap.size + 1, 0, none⟩ = some (.string h1) := Iu6.out.cell 0
              have yu1 : w6.cell? ⟨w.heap.size + 1, 1, none⟩ = some (.int .i64 (n1 : Int)) := Iu6.out.cell 1
              have yu2 : w6.cell? ⟨w.heap.size + 1, 2, none⟩ = some (.string q1) := Iu6.out.cell 2
              have yb0 : w6.cell? ⟨w.heap.size, 0, none⟩ = some (.string h0) := Ib6.out.cell 0
              have yb1 : w6.cell? ⟨w.heap.size, 1, none⟩ = some (.int .i64 (n0 : Int)) := Ib6.out.cell 1
              have yb2 : w6.cell? ⟨w.heap.size, 2, none⟩ = some (.string q0) := Ib6.out.cell 2
              have Ib7 := Lib.hid (Ib6.out.alloc (.cells #[.string h0, .int .i64 (n0 : Int), .string q1] 23))
              have Iu7 := Lib.hid (Iu6.out.alloc (.cells #[.string h0, .int .i64 (n0 : Int), .string q1] 23))
              have Iy7 := Lib.hid (Iy6.out.alloc (.cells #[.string h0, .int .i64 (n0 : Int), .string q1] 23))
              have B7 := Lib.hid (B6.out.alloc B6.out.size (.cells #[.string h0, .int .i64 (n0 : Int), .string q1] 23))
              have It7 := Lib.hid (Is.made w6 23 [.string h0, .int .i64 (n0 : Int), .string q1])
              clear Ib6 Iu6 Iy6 B6
              go_upto_region 7 with fail
              generalize w6.alloc _ = w7 at *
              clear yu0 yu1 yu2 yb0 yb1 yb2
              clear Iu7
              have yt0 : w7.cell? ⟨w6.heap.size, 0, none⟩ = some (.string h0) := It7.out.cell 0
              have yt1 : w7.cell? ⟨w6.heap.size, 1, none⟩ = some (.int .i64 (n0 : Int)) := It7.out.cell 1
              have yt2 : w7.cell? ⟨w6.heap.size, 2, none⟩ = some (.string q1) := It7.out.cell 2
              go_wp2_with fail
              clear yt0 yt1 yt2
              refine (CWA.out _ (HP.out.below B7.out)).mono ?_
              rintro e w8 ⟨rfl, b⟩
              have Ib8 := Lib.hid (Ib7.out.kept (Turn.of_below (S := fun _ => False) b) (fun h => h))
              have Iy8 := Lib.hid (Iy7.out.kept (Turn.of_below (S := fun _ => False) b) (fun h => h))
              have It8 := Lib.hid (It7.out.kept (Turn.of_below (S := fun _ => False) b) (fun h => h))
              have B8 := Lib.hid (B7.out.trans (b.mono B7.out.size))
              clear b Ib7 Iy7 It7 B7
              clear Iy8
              clear It8
              have yb0 : w8.cell? ⟨w.heap.size, 0, none⟩ = some (.string h0) := Ib8.out.cell 0
              have yb1 : w8.cell? ⟨w.heap.size, 1, none⟩ = some (.int .i64 (n0 : Int)) := Ib8.out.cell 1
              have yb2 : w8.cell? ⟨w.heap.size, 2, none⟩ = some (.string q0) := Ib8.out.cell 2
              go_wp2_with fail
              clear yb0 yb1 yb2
              rcases HZ.out with ⟨hz0, hz1⟩ | ⟨h', p', q', hz0, hz1, hzm, hzp, hzh, hzq⟩
              · rw [hz1] at CZ
                clear hz0 hz1 HZ
                refine (CZ.out _ (HP.out.below B8.out)).mono ?_
                rintro e w9 ⟨rfl, b⟩
                have Ib9 := Lib.hid (Ib8.out.kept (Turn.of_below (S := fun _ => False) b) (fun h => h))
                have B9 := Lib.hid (B8.out.trans (b.mono B8.out.size))
                clear b Ib8 B8
                clear Ib9
                have B10 := Lib.hid (B9.out.alloc B9.out.size (.cells #[.string ⟨#[]⟩, .int .i64 0, .string ⟨#[]⟩] 23))
                have Iz10 := Lib.hid (Is.made w9 23 [.string ⟨#[]⟩, .int .i64 0, .string ⟨#[]⟩])
                clear B9
                go_upto_region 10 with fail
                generalize w9.alloc _ = w10 at *
                have yz0 : w10.cell? ⟨w9.heap.size, 0, none⟩ = some (.string ⟨#[]⟩) := Iz10.out.cell 0
                have yz1 : w10.cell? ⟨w9.heap.size, 1, none⟩ = some (.int .i64 0) := Iz10.out.cell 1
                have yz2 : w10.cell? ⟨w9.heap.size, 2, none⟩ = some (.string ⟨#[]⟩) := Iz10.out.cell 2
                go_wp2_with fail
                have hcz := cmp_self ⟨#[]⟩ ⟨#[]⟩ 0
                have hgz := urlGuard
                refine (mayat_any ⟨#[]⟩ ⟨#[]⟩ 0 false may_zero _ (by decide) (by decide) ⟨by decide, by decide⟩ (HP.out.below B10.out)).mono ?_
                rintro e w11 ⟨rfl, b⟩
                have Iz11 := Lib.hid (Iz10.out.kept (Turn.of_below (S := fun _ => False) b) (fun h => h))
                have B11 := Lib.hid (B10.out.trans (b.mono B10.out.size))
                clear b Iz10 B10
                clear yz0 yz1 yz2
                have yz0 : w11.cell? ⟨w9.heap.size, 0, none⟩ = some (.string ⟨#[]⟩) := Iz11.out.cell 0
                have yz1 : w11.cell? ⟨w9.heap.size, 1, none⟩ = some (.int .i64 0) := Iz11.out.cell 1
                have yz2 : w11.cell? ⟨w9.heap.size, 2, none⟩ = some (.string ⟨#[]⟩) := Iz11.out.cell 2
                go_wp2_with fail
                refine (wakes_any _ (HP.out.below B11.out)).mono ?_
                rintro e w12 ⟨rfl, b⟩
                have Iz12 := Lib.hid (Iz11.out.kept (Turn.of_below (S := fun _ => False) b) (fun h => h))
                have B12 := Lib.hid (B11.out.trans (b.mono B11.out.size))
                clear b Iz11 B11
                go_wp2_with fail
                go_ret
                exact ⟨rfl, B12.out⟩

              · rw [hz1] at CZ
                clear hz0 hz1 HZ
                refine (CZ.out _ (HP.out.below B8.out)).mono ?_
                rintro e w9 ⟨rfl, b⟩
                have Ib9 := Lib.hid (Ib8.out.kept (Turn.of_below (S := fun _ => False) b) (fun h => h))
                have B9 := Lib.hid (B8.out.trans (b.mono B8.out.size))
                clear b Ib8 B8
                clear Ib9
                have B10 := Lib.hid (B9.out.alloc B9.out.size (.cells #[.string ⟨h'.toArray⟩, .int .i64 (p' : Int), .string ⟨q'.toArray⟩] 23))
                have Iz10 := Lib.hid (Is.made w9 23 [.string ⟨h'.toArray⟩, .int .i64 (p' : Int), .string ⟨q'.toArray⟩])
                clear B9
                go_upto_region 10 with fail
                generalize w9.alloc _ = w10 at *
                have yz0 : w10.cell? ⟨w9.heap.size, 0, none⟩ = some (.string ⟨h'.toArray⟩) := Iz10.out.cell 0
                have yz1 : w10.cell? ⟨w9.heap.size, 1, none⟩ = some (.int .i64 (p' : Int)) := Iz10.out.cell 1
                have yz2 : w10.cell? ⟨w9.heap.size, 2, none⟩ = some (.string ⟨q'.toArray⟩) := Iz10.out.cell 2
                go_wp2_with fail
                refine (mayat_any ⟨h'.toArray⟩ ⟨q'.toArray⟩ (p' : Int) true (by rw [bl_mk, bl_mk]; exact hzm) _ (by rw [size_mk]; omega) (by rw [size_mk]; omega) ⟨by omega, by omega⟩ (HP.out.below B10.out)).mono ?_
                rintro e w11 ⟨rfl, b⟩
                have Iz11 := Lib.hid (Iz10.out.kept (Turn.of_below (S := fun _ => False) b) (fun h => h))
                have B11 := Lib.hid (B10.out.trans (b.mono B10.out.size))
                clear b Iz10 B10
                clear yz0 yz1 yz2
                have yz0 : w11.cell? ⟨w9.heap.size, 0, none⟩ = some (.string ⟨h'.toArray⟩) := Iz11.out.cell 0
                have yz1 : w11.cell? ⟨w9.heap.size, 1, none⟩ = some (.int .i64 (p' : Int)) := Iz11.out.cell 1
                have yz2 : w11.cell? ⟨w9.heap.size, 2, none⟩ = some (.string ⟨q'.toArray⟩) := Iz11.out.cell 2
                go_wp2_with fail
                refine (wakes_any _ (HP.out.below B11.out)).mono ?_
                rintro e w12 ⟨rfl, b⟩
                have Iz12 := Lib.hid (Iz11.out.kept (Turn.of_below (S := fun _ => False) b) (fun h => h))
                have B12 := Lib.hid (B11.out.trans (b.mono B11.out.size))
                clear b Iz11 B11
                go_wp2_with fail
                go_ret
                exact ⟨rfl, B12.out⟩

          · rw [hmw] at hj CWA
            rw [if_pos rfl] at hj
            rw [hj] at CPA
            simp only [urlT, mk_bl] at CPA
            clear hmw hj hmb hmu
            rcases HGO.out with hgo | ⟨hgo, hne⟩
            · have e1 : (q1.size : Int) < 2 := by omega
              have yu0 : w4.cell? ⟨w.heap.size + 1, 0, none⟩ = some (.string h1) := Iu4.out.cell 0
              have yu1 : w4.cell? ⟨w.heap.size + 1, 1, none⟩ = some (.int .i64 (n1 : Int)) := Iu4.out.cell 1
              have yu2 : w4.cell? ⟨w.heap.size + 1, 2, none⟩ = some (.string q1) := Iu4.out.cell 2
              have yb0 : w4.cell? ⟨w.heap.size, 0, none⟩ = some (.string h0) := Ib4.out.cell 0
              have yb1 : w4.cell? ⟨w.heap.size, 1, none⟩ = some (.int .i64 (n0 : Int)) := Ib4.out.cell 1
              have yb2 : w4.cell? ⟨w.heap.size, 2, none⟩ = some (.string q0) := Ib4.out.cell 2
              go_wp2_with fail
              clear yu0 yu1 yu2
              clear yb0 yb1 yb2
              refine (CPA.out _ (HP.out.below B4.out)).mono ?_
              rintro e w5 ⟨rfl, b⟩
              have Ib5 := Lib.hid (Ib4.out.kept (Turn.of_below (S := fun _ => False) b) (fun h => h))
              have Iu5 := Lib.hid (Iu4.out.kept (Turn.of_below (S := fun _ => False) b) (fun h => h))
              have B5 := Lib.hid (B4.out.trans (b.mono B4.out.size))
              clear b Ib4 Iu4 B4
              have Ib6 := Lib.hid (Ib5.out.alloc (.cells #[.string h0, .int .i64 (n0 : Int), .string q1] 23))
              have Iu6 := Lib.hid (Iu5.out.alloc (.cells #[.string h0, .int .i64 (n0 : Int), .string q1] 23))
              have B6 := Lib.hid (B5.out.alloc B5.out.size (.cells #[.string h0, .int .i64 (n0 : Int), .string q1] 23))
              have Iy6 := Lib.hid (Is.made w5 23 [.string h0, .int .i64 (n0 : Int), .string q1])
              clear Ib5 Iu5 B5
              go_upto_region 6 with fail
              generalize w5.alloc _ = w6 at *
              have yu0 : w6.cell? ⟨w.heap.size + 1, 0, none⟩ = some (.string h1) := Iu6.out.cell 0
              have yu1 : w6.cell? ⟨w.heap.size + 1, 1, none⟩ = some (.int .i64 (n1 : Int)) := Iu6.out.cell 1
              have yu2 : w6.cell? ⟨w.heap.size + 1, 2, none⟩ = some (.string q1) := Iu6.out.cell 2
              have yb0 : w6.cell? ⟨w.heap.size, 0, none⟩ = some (.string h0) := Ib6.out.cell 0
              have yb1 : w6.cell? ⟨w.heap.size, 1, none⟩ = some (.int .i64 (n0 : Int)) := Ib6.out.cell 1
              have yb2 : w6.cell? ⟨w.heap.size, 2, none⟩ = some (.string q0) := Ib6.out.cell 2
              have Ib7 := Lib.hid (Ib6.out.alloc (.cells #[.string h0, .int .i64 (n0 : Int), .string q1] 23))
              have Iu7 := Lib.hid (Iu6.out.alloc (.cells #[.string h0, .int .i64 (n0 : Int), .string q1] 23))
              have Iy7 := Lib.hid (Iy6.out.alloc (.cells #[.string h0, .int .i64 (n0 : Int), .string q1] 23))
              have B7 := Lib.hid (B6.out.alloc B6.out.size (.cells #[.string h0, .int .i64 (n0 : Int), .string q1] 23))
              have It7 := Lib.hid (Is.made w6 23 [.string h0, .int .i64 (n0 : Int), .string q1])
              clear Ib6 Iu6 Iy6 B6
              go_upto_region 7 with fail
              generalize w6.alloc _ = w7 at *
              clear yu0 yu1 yu2 yb0 yb1 yb2
              clear Iu7
              have yt0 : w7.cell? ⟨w6.heap.size, 0, none⟩ = some (.string h0) := It7.out.cell 0
              have yt1 : w7.cell? ⟨w6.heap.size, 1, none⟩ = some (.int .i64 (n0 : Int)) := It7.out.cell 1
              have yt2 : w7.cell? ⟨w6.heap.size, 2, none⟩ = some (.string q1) := It7.out.cell 2
              go_wp2_with fail
              clear yt0 yt1 yt2
              refine (CWA.out _ (HP.out.below B7.out)).mono ?_
              rintro e w8 ⟨rfl, b⟩
              have Ib8 := Lib.hid (Ib7.out.kept (Turn.of_below (S := fun _ => False) b) (fun h => h))
              have Iy8 := Lib.hid (Iy7.out.kept (Turn.of_below (S := fun _ => False) b) (fun h => h))
              have It8 := Lib.hid (It7.out.kept (Turn.of_below (S := fun _ => False) b) (fun h => h))
              have B8 := Lib.hid (B7.out.trans (b.mono B7.out.size))
              clear b Ib7 Iy7 It7 B7
              have hcy := ncmp_self h0 q1 (n0 : Int)
              have yy0 : w8.cell? ⟨w5.heap.size, 0, none⟩ = some (.string h0) := Iy8.out.cell 0
              have yy1 : w8.cell? ⟨w5.heap.size, 1, none⟩ = some (.int .i64 (n0 : Int)) := Iy8.out.cell 1
              have yy2 : w8.cell? ⟨w5.heap.size, 2, none⟩ = some (.string q1) := Iy8.out.cell 2
              have yt0 : w8.cell? ⟨w6.heap.size, 0, none⟩ = some (.string h0) := It8.out.cell 0
              have yt1 : w8.cell? ⟨w6.heap.size, 1, none⟩ = some (.int .i64 (n0 : Int)) := It8.out.cell 1
              have yt2 : w8.cell? ⟨w6.heap.size, 2, none⟩ = some (.string q1) := It8.out.cell 2
              clear Iy8
              clear It8
              have yb0 : w8.cell? ⟨w.heap.size, 0, none⟩ = some (.string h0) := Ib8.out.cell 0
              have yb1 : w8.cell? ⟨w.heap.size, 1, none⟩ = some (.int .i64 (n0 : Int)) := Ib8.out.cell 1
              have yb2 : w8.cell? ⟨w.heap.size, 2, none⟩ = some (.string q0) := Ib8.out.cell 2
              go_wp2_with fail
              clear yb0 yb1 yb2
              rcases HZ.out with ⟨hz0, hz1⟩ | ⟨h', p', q', hz0, hz1, hzm, hzp, hzh, hzq⟩
              · rw [hz1] at CZ
                clear hz0 hz1 HZ
                refine (CZ.out _ (HP.out.below B8.out)).mono ?_
                rintro e w9 ⟨rfl, b⟩
                have Ib9 := Lib.hid (Ib8.out.kept (Turn.of_below (S := fun _ => False) b) (fun h => h))
                have B9 := Lib.hid (B8.out.trans (b.mono B8.out.size))
                clear b Ib8 B8
                clear Ib9
                have B10 := Lib.hid (B9.out.alloc B9.out.size (.cells #[.string ⟨#[]⟩, .int .i64 0, .string ⟨#[]⟩] 23))
                have Iz10 := Lib.hid (Is.made w9 23 [.string ⟨#[]⟩, .int .i64 0, .string ⟨#[]⟩])
                clear B9
                go_upto_region 10 with fail
                generalize w9.alloc _ = w10 at *
                have yz0 : w10.cell? ⟨w9.heap.size, 0, none⟩ = some (.string ⟨#[]⟩) := Iz10.out.cell 0
                have yz1 : w10.cell? ⟨w9.heap.size, 1, none⟩ = some (.int .i64 0) := Iz10.out.cell 1
                have yz2 : w10.cell? ⟨w9.heap.size, 2, none⟩ = some (.string ⟨#[]⟩) := Iz10.out.cell 2
                go_wp2_with fail
                have hcz := cmp_self ⟨#[]⟩ ⟨#[]⟩ 0
                have hgz := urlGuard
                refine (mayat_any ⟨#[]⟩ ⟨#[]⟩ 0 false may_zero _ (by decide) (by decide) ⟨by decide, by decide⟩ (HP.out.below B10.out)).mono ?_
                rintro e w11 ⟨rfl, b⟩
                have Iz11 := Lib.hid (Iz10.out.kept (Turn.of_below (S := fun _ => False) b) (fun h => h))
                have B11 := Lib.hid (B10.out.trans (b.mono B10.out.size))
                clear b Iz10 B10
                clear yz0 yz1 yz2
                have yz0 : w11.cell? ⟨w9.heap.size, 0, none⟩ = some (.string ⟨#[]⟩) := Iz11.out.cell 0
                have yz1 : w11.cell? ⟨w9.heap.size, 1, none⟩ = some (.int .i64 0) := Iz11.out.cell 1
                have yz2 : w11.cell? ⟨w9.heap.size, 2, none⟩ = some (.string ⟨#[]⟩) := Iz11.out.cell 2
                go_wp2_with fail
                refine (wakes_any _ (HP.out.below B11.out)).mono ?_
                rintro e w12 ⟨rfl, b⟩
                have Iz12 := Lib.hid (Iz11.out.kept (Turn.of_below (S := fun _ => False) b) (fun h => h))
                have B12 := Lib.hid (B11.out.trans (b.mono B11.out.size))
                clear b Iz11 B11
                go_wp2_with fail
                go_ret
                exact ⟨rfl, B12.out⟩

              · rw [hz1] at CZ
                clear hz0 hz1 HZ
                refine (CZ.out _ (HP.out.below B8.out)).mono ?_
                rintro e w9 ⟨rfl, b⟩
                have Ib9 := Lib.hid (Ib8.out.kept (Turn.of_below (S := fun _ => False) b) (fun h => h))
                have B9 := Lib.hid (B8.out.trans (b.mono B8.out.size))
                clear b Ib8 B8
                clear Ib9
                have B10 := Lib.hid (B9.out.alloc B9.out.size (.cells #[.string ⟨h'.toArray⟩, .int .i64 (p' : Int), .string ⟨q'.toArray⟩] 23))
                have Iz10 := Lib.hid (Is.made w9 23 [.string ⟨h'.toArray⟩, .int .i64 (p' : Int), .string ⟨q'.toArray⟩])
                clear B9
                go_upto_region 10 with fail
                generalize w9.alloc _ = w10 at *
                have yz0 : w10.cell? ⟨w9.heap.size, 0, none⟩ = some (.string ⟨h'.toArray⟩) := Iz10.out.cell 0
                have yz1 : w10.cell? ⟨w9.heap.size, 1, none⟩ = some (.int .i64 (p' : Int)) := Iz10.out.cell 1
                have yz2 : w10.cell? ⟨w9.heap.size, 2, none⟩ = some (.string ⟨q'.toArray⟩) := Iz10.out.cell 2
                go_wp2_with fail
                refine (mayat_any ⟨h'.toArray⟩ ⟨q'.toArray⟩ (p' : Int) true (by rw [bl_mk, bl_mk]; exact hzm) _ (by rw [size_mk]; omega) (by rw [size_mk]; omega) ⟨by omega, by omega⟩ (HP.out.below B10.out)).mono ?_
                rintro e w11 ⟨rfl, b⟩
                have Iz11 := Lib.hid (Iz10.out.kept (Turn.of_below (S := fun _ => False) b) (fun h => h))
                have B11 := Lib.hid (B10.out.trans (b.mono B10.out.size))
                clear b Iz10 B10
                clear yz0 yz1 yz2
                have yz0 : w11.cell? ⟨w9.heap.size, 0, none⟩ = some (.string ⟨h'.toArray⟩) := Iz11.out.cell 0
                have yz1 : w11.cell? ⟨w9.heap.size, 1, none⟩ = some (.int .i64 (p' : Int)) := Iz11.out.cell 1
                have yz2 : w11.cell? ⟨w9.heap.size, 2, none⟩ = some (.string ⟨q'.toArray⟩) := Iz11.out.cell 2
                go_wp2_with fail
                refine (wakes_any _ (HP.out.below B11.out)).mono ?_
                rintro e w12 ⟨rfl, b⟩
                have Iz12 := Lib.hid (Iz11.out.kept (Turn.of_below (S := fun _ => False) b) (fun h => h))
                have B12 := Lib.hid (B11.out.trans (b.mono B11.out.size))
                clear b Iz11 B11
                go_wp2_with fail
                go_ret
                exact ⟨rfl, B12.out⟩

            · have e1 : ¬ (q1.size : Int) < 2 := by omega
              have e2 : (1 : Int) < (q1.size : Int) := by omega
              have e3 : (((q1[1]'hgo).toNat : Int) != 47) = true := by
                rw [bne_iff_ne]
                intro e
                refine hne (UInt8.toNat_inj.1 ?_)
                show _ = 47
                omega
              clear hne
              have yu0 : w4.cell? ⟨w.heap.size + 1, 0, none⟩ = some (.string h1) := Iu4.out.cell 0
              have yu1 : w4.cell? ⟨w.heap.size + 1, 1, none⟩ = some (.int .i64 (n1 : Int)) := Iu4.out.cell 1
              have yu2 : w4.cell? ⟨w.heap.size + 1, 2, none⟩ = some (.string q1) := Iu4.out.cell 2
              have yb0 : w4.cell? ⟨w.heap.size, 0, none⟩ = some (.string h0) := Ib4.out.cell 0
              have yb1 : w4.cell? ⟨w.heap.size, 1, none⟩ = some (.int .i64 (n0 : Int)) := Ib4.out.cell 1
              have yb2 : w4.cell? ⟨w.heap.size, 2, none⟩ = some (.string q0) := Ib4.out.cell 2
              go_wp2_with fail
              clear yu0 yu1 yu2
              clear yb0 yb1 yb2
              refine (CPA.out _ (HP.out.below B4.out)).mono ?_
              rintro e w5 ⟨rfl, b⟩
              have Ib5 := Lib.hid (Ib4.out.kept (Turn.of_below (S := fun _ => False) b) (fun h => h))
              have Iu5 := Lib.hid (Iu4.out.kept (Turn.of_below (S := fun _ => False) b) (fun h => h))
              have B5 := Lib.hid (B4.out.trans (b.mono B4.out.size))
              clear b Ib4 Iu4 B4
              have Ib6 := Lib.hid (Ib5.out.alloc (.cells #[.string h0, .int .i64 (n0 : Int), .string q1] 23))
              have Iu6 := Lib.hid (Iu5.out.alloc (.cells #[.string h0, .int .i64 (n0 : Int), .string q1] 23))
              have B6 := Lib.hid (B5.out.alloc B5.out.size (.cells #[.string h0, .int .i64 (n0 : Int), .string q1] 23))
              have Iy6 := Lib.hid (Is.made w5 23 [.string h0, .int .i64 (n0 : Int), .string q1])
              clear Ib5 Iu5 B5
              go_upto_region 6 with fail
              generalize w5.alloc _ = w6 at *
              have yu0 : w6.cell? ⟨w.heap.size + 1, 0, none⟩ = some (.string h1) := Iu6.out.cell 0
              have yu1 : w6.cell? ⟨w.heap.size + 1, 1, none⟩ = some (.int .i64 (n1 : Int)) := Iu6.out.cell 1
              have yu2 : w6.cell? ⟨w.heap.size + 1, 2, none⟩ = some (.string q1) := Iu6.out.cell 2
              have yb0 : w6.cell? ⟨w.heap.size, 0, none⟩ = some (.string h0) := Ib6.out.cell 0
              have yb1 : w6.cell? ⟨w.heap.size, 1, none⟩ = some (.int .i64 (n0 : Int)) := Ib6.out.cell 1
              have yb2 : w6.cell? ⟨w.heap.size, 2, none⟩ = some (.string q0) := Ib6.out.cell 2
              have Ib7 := Lib.hid (Ib6.out.alloc (.cells #[.string h0, .int .i64 (n0 : Int), .string q1] 23))
              have Iu7 := Lib.hid (Iu6.out.alloc (.cells #[.string h0, .int .i64 (n0 : Int), .string q1] 23))
              have Iy7 := Lib.hid (Iy6.out.alloc (.cells #[.string h0, .int .i64 (n0 : Int), .string q1] 23))
              have B7 := Lib.hid (B6.out.alloc B6.out.size (.cells #[.string h0, .int .i64 (n0 : Int), .string q1] 23))
              have It7 := Lib.hid (Is.made w6 23 [.string h0, .int .i64 (n0 : Int), .string q1])
              clear Ib6 Iu6 Iy6 B6
              go_upto_region 7 with fail
              generalize w6.alloc _ = w7 at *
              clear yu0 yu1 yu2 yb0 yb1 yb2
              clear Iu7
              have yt0 : w7.cell? ⟨w6.heap.size, 0, none⟩ = some (.string h0) := It7.out.cell 0
              have yt1 : w7.cell? ⟨w6.heap.size, 1, none⟩ = some (.int .i64 (n0 : Int)) := It7.out.cell 1
              have yt2 : w7.cell? ⟨w6.heap.size, 2, none⟩ = some (.string q1) := It7.out.cell 2
              go_wp2_with fail
              clear yt0 yt1 yt2
              refine (CWA.out _ (HP.out.below B7.out)).mono ?_
              rintro e w8 ⟨rfl, b⟩
              have Ib8 := Lib.hid (Ib7.out.kept (Turn.of_below (S := fun _ => False) b) (fun h => h))
              have Iy8 := Lib.hid (Iy7.out.kept (Turn.of_below (S := fun _ => False) b) (fun h => h))
              have It8 := Lib.hid (It7.out.kept (Turn.of_below (S := fun _ => False) b) (fun h => h))
              have B8 := Lib.hid (B7.out.trans (b.mono B7.out.size))
              clear b Ib7 Iy7 It7 B7
              have hcy := ncmp_self h0 q1 (n0 : Int)
              have yy0 : w8.cell? ⟨w5.heap.size, 0, none⟩ = some (.string h0) := Iy8.out.cell 0
              have yy1 : w8.cell? ⟨w5.heap.size, 1, none⟩ = some (.int .i64 (n0 : Int)) := Iy8.out.cell 1
              have yy2 : w8.cell? ⟨w5.heap.size, 2, none⟩ = some (.string q1) := Iy8.out.cell 2
              have yt0 : w8.cell? ⟨w6.heap.size, 0, none⟩ = some (.string h0) := It8.out.cell 0
              have yt1 : w8.cell? ⟨w6.heap.size, 1, none⟩ = some (.int .i64 (n0 : Int)) := It8.out.cell 1
              have yt2 : w8.cell? ⟨w6.heap.size, 2, none⟩ = some (.string q1) := It8.out.cell 2
              clear Iy8
              clear It8
              have yb0 : w8.cell? ⟨w.heap.size, 0, none⟩ = some (.string h0) := Ib8.out.cell 0
              have yb1 : w8.cell? ⟨w.heap.size, 1, none⟩ = some (.int .i64 (n0 : Int)) := Ib8.out.cell 1
              have yb2 : w8.cell? ⟨w.heap.size, 2, none⟩ = some (.string q0) := Ib8.out.cell 2
              go_wp2_with fail
              clear yb0 yb1 yb2
              rcases HZ.out with ⟨hz0, hz1⟩ | ⟨h', p', q', hz0, hz1, hzm, hzp, hzh, hzq⟩
              · rw [hz1] at CZ
                clear hz0 hz1 HZ
                refine (CZ.out _ (HP.out.below B8.out)).mono ?_
                rintro e w9 ⟨rfl, b⟩
                have Ib9 := Lib.hid (Ib8.out.kept (Turn.of_below (S := fun _ => False) b) (fun h => h))
                have B9 := Lib.hid (B8.out.trans (b.mono B8.out.size))
                clear b Ib8 B8
                clear Ib9
                have B10 := Lib.hid (B9.out.alloc B9.out.size (.cells #[.string ⟨#[]⟩, .int .i64 0, .string ⟨#[]⟩] 23))
                have Iz10 := Lib.hid (Is.made w9 23 [.string ⟨#[]⟩, .int .i64 0, .string ⟨#[]⟩])
                clear B9
                go_upto_region 10 with fail
                generalize w9.alloc _ = w10 at *
                have yz0 : w10.cell? ⟨w9.heap.size, 0, none⟩ = some (.string ⟨#[]⟩) := Iz10.out.cell 0
                have yz1 : w10.cell? ⟨w9.heap.size, 1, none⟩ = some (.int .i64 0) := Iz10.out.cell 1
                have yz2 : w10.cell? ⟨w9.heap.size, 2, none⟩ = some (.string ⟨#[]⟩) := Iz10.out.cell 2
                go_wp2_with fail
                have hcz := cmp_self ⟨#[]⟩ ⟨#[]⟩ 0
                have hgz := urlGuard
                refine (mayat_any ⟨#[]⟩ ⟨#[]⟩ 0 false may_zero _ (by decide) (by decide) ⟨by decide, by decide⟩ (HP.out.below B10.out)).mono ?_
                rintro e w11 ⟨rfl, b⟩
                have Iz11 := Lib.hid (Iz10.out.kept (Turn.of_below (S := fun _ => False) b) (fun h => h))
                have B11 := Lib.hid (B10.out.trans (b.mono B10.out.size))
                clear b Iz10 B10
                clear yz0 yz1 yz2
                have yz0 : w11.cell? ⟨w9.heap.size, 0, none⟩ = some (.string ⟨#[]⟩) := Iz11.out.cell 0
                have yz1 : w11.cell? ⟨w9.heap.size, 1, none⟩ = some (.int .i64 0) := Iz11.out.cell 1
                have yz2 : w11.cell? ⟨w9.heap.size, 2, none⟩ = some (.string ⟨#[]⟩) := Iz11.out.cell 2
                go_wp2_with fail
                refine (wakes_any _ (HP.out.below B11.out)).mono ?_
                rintro e w12 ⟨rfl, b⟩
                have Iz12 := Lib.hid (Iz11.out.kept (Turn.of_below (S := fun _ => False) b) (fun h => h))
                have B12 := Lib.hid (B11.out.trans (b.mono B11.out.size))
                clear b Iz11 B11
                go_wp2_with fail
                go_ret
                exact ⟨rfl, B12.out⟩

              · rw [hz1] at CZ
                clear hz0 hz1 HZ
                refine (CZ.out _ (HP.out.below B8.out)).mono ?_
                rintro e w9 ⟨rfl, b⟩
                have Ib9 := Lib.hid (Ib8.out.kept (Turn.of_below (S := fun _ => False) b) (fun h => h))
                have B9 := Lib.hid (B8.out.trans (b.mono B8.out.size))
                clear b Ib8 B8
                clear Ib9
                have B10 := Lib.hid (B9.out.alloc B9.out.size (.cells #[.string ⟨h'.toArray⟩, .int .i64 (p' : Int), .string ⟨q'.toArray⟩] 23))
                have Iz10 := Lib.hid (Is.made w9 23 [.string ⟨h'.toArray⟩, .int .i64 (p' : Int), .string ⟨q'.toArray⟩])
                clear B9
                go_upto_region 10 with fail
                generalize w9.alloc _ = w10 at *
                have yz0 : w10.cell? ⟨w9.heap.size, 0, none⟩ = some (.string ⟨h'.toArray⟩) := Iz10.out.cell 0
                have yz1 : w10.cell? ⟨w9.heap.size, 1, none⟩ = some (.int .i64 (p' : Int)) := Iz10.out.cell 1
                have yz2 : w10.cell? ⟨w9.heap.size, 2, none⟩ = some (.string ⟨q'.toArray⟩) := Iz10.out.cell 2
                go_wp2_with fail
                refine (mayat_any ⟨h'.toArray⟩ ⟨q'.toArray⟩ (p' : Int) true (by rw [bl_mk, bl_mk]; exact hzm) _ (by rw [size_mk]; omega) (by rw [size_mk]; omega) ⟨by omega, by omega⟩ (HP.out.below B10.out)).mono ?_
                rintro e w11 ⟨rfl, b⟩
                have Iz11 := Lib.hid (Iz10.out.kept (Turn.of_below (S := fun _ => False) b) (fun h => h))
                have B11 := Lib.hid (B10.out.trans (b.mono B10.out.size))
                clear b Iz10 B10
                clear yz0 yz1 yz2
                have yz0 : w11.cell? ⟨w9.heap.size, 0, none⟩ = some (.string ⟨h'.toArray⟩) := Iz11.out.cell 0
                have yz1 : w11.cell? ⟨w9.heap.size, 1, none⟩ = some (.int .i64 (p' : Int)) := Iz11.out.cell 1
                have yz2 : w11.cell? ⟨w9.heap.size, 2, none⟩ = some (.string ⟨q'.toArray⟩) := Iz11.out.cell 2
                go_wp2_with fail
                refine (wakes_any _ (HP.out.below B11.out)).mono ?_
                rintro e w12 ⟨rfl, b⟩
                have Iz12 := Lib.hid (Iz11.out.kept (Turn.of_below (S := fun _ => False) b) (fun h => h))
                have B12 := Lib.hid (B11.out.trans (b.mono B11.out.size))
                clear b Iz11 B11
                go_wp2_with fail
                go_ret
                exact ⟨rfl, B12.out⟩

        · have hge : 1 < q1.size := by
            rcases Nat.lt_or_ge 1 q1.size with h | h
            · exact h
            · exact absurd (.inl (by omega)) hgo
          have hv : q1[1]'hge = 47 := Decidable.byContradiction fun hv => hgo (.inr ⟨hge, hv⟩)
          have e1 : ¬ (q1.size : Int) < 2 := by omega
          have e2 : (1 : Int) < (q1.size : Int) := by omega
          have e3 : (((q1[1]'hge).toNat : Int) != 47) = false := by rw [hv]; rfl
          clear hgo hv htwo CPA CWA
          have yu0 : w4.cell? ⟨w.heap.size + 1, 0, none⟩ = some (.string h1) := Iu4.out.cell 0
          have yu1 : w4.cell? ⟨w.heap.size + 1, 1, none⟩ = some (.int .i64 (n1 : Int)) := Iu4.out.cell 1
          have yu2 : w4.cell? ⟨w.heap.size + 1, 2, none⟩ = some (.string q1) := Iu4.out.cell 2
          clear Iu4
          have yb0 : w4.cell? ⟨w.heap.size, 0, none⟩ = some (.string h0) := Ib4.out.cell 0
          have yb1 : w4.cell? ⟨w.heap.size, 1, none⟩ = some (.int .i64 p0) := Ib4.out.cell 1
          have yb2 : w4.cell? ⟨w.heap.size, 2, none⟩ = some (.string q0) := Ib4.out.cell 2
          go_wp2_with fail
          clear yb0 yb1 yb2
          rcases HZ.out with ⟨hz0, hz1⟩ | ⟨h', p', q', hz0, hz1, hzm, hzp, hzh, hzq⟩
          · rw [hz1] at CZ
            clear hz0 hz1 HZ
            refine (CZ.out _ (HP.out.below B4.out)).mono ?_
            rintro e w5 ⟨rfl, b⟩
            have Ib5 := Lib.hid (Ib4.out.kept (Turn.of_below (S := fun _ => False) b) (fun h => h))
            have B5 := Lib.hid (B4.out.trans (b.mono B4.out.size))
            clear b Ib4 B4
            clear Ib5
            have B6 := Lib.hid (B5.out.alloc B5.out.size (.cells #[.string ⟨#[]⟩, .int .i64 0, .string ⟨#[]⟩] 23))
            have Iz6 := Lib.hid (Is.made w5 23 [.string ⟨#[]⟩, .int .i64 0, .string ⟨#[]⟩])
            clear B5
            go_upto_region 10 with fail
            generalize w5.alloc _ = w6 at *
            have yz0 : w6.cell? ⟨w5.heap.size, 0, none⟩ = some (.string ⟨#[]⟩) := Iz6.out.cell 0
            have yz1 : w6.cell? ⟨w5.heap.size, 1, none⟩ = some (.int .i64 0) := Iz6.out.cell 1
            have yz2 : w6.cell? ⟨w5.heap.size, 2, none⟩ = some (.string ⟨#[]⟩) := Iz6.out.cell 2
            go_wp2_with fail
            have hcz := cmp_self ⟨#[]⟩ ⟨#[]⟩ 0
            have hgz := urlGuard
            refine (mayat_any ⟨#[]⟩ ⟨#[]⟩ 0 false may_zero _ (by decide) (by decide) ⟨by decide, by decide⟩ (HP.out.below B6.out)).mono ?_
            rintro e w7 ⟨rfl, b⟩
            have Iz7 := Lib.hid (Iz6.out.kept (Turn.of_below (S := fun _ => False) b) (fun h => h))
            have B7 := Lib.hid (B6.out.trans (b.mono B6.out.size))
            clear b Iz6 B6
            clear yz0 yz1 yz2
            have yz0 : w7.cell? ⟨w5.heap.size, 0, none⟩ = some (.string ⟨#[]⟩) := Iz7.out.cell 0
            have yz1 : w7.cell? ⟨w5.heap.size, 1, none⟩ = some (.int .i64 0) := Iz7.out.cell 1
            have yz2 : w7.cell? ⟨w5.heap.size, 2, none⟩ = some (.string ⟨#[]⟩) := Iz7.out.cell 2
            go_wp2_with fail
            refine (wakes_any _ (HP.out.below B7.out)).mono ?_
            rintro e w8 ⟨rfl, b⟩
            have Iz8 := Lib.hid (Iz7.out.kept (Turn.of_below (S := fun _ => False) b) (fun h => h))
            have B8 := Lib.hid (B7.out.trans (b.mono B7.out.size))
            clear b Iz7 B7
            go_wp2_with fail
            go_ret
            exact ⟨rfl, B8.out⟩

          · rw [hz1] at CZ
            clear hz0 hz1 HZ
            refine (CZ.out _ (HP.out.below B4.out)).mono ?_
            rintro e w5 ⟨rfl, b⟩
            have Ib5 := Lib.hid (Ib4.out.kept (Turn.of_below (S := fun _ => False) b) (fun h => h))
            have B5 := Lib.hid (B4.out.trans (b.mono B4.out.size))
            clear b Ib4 B4
            clear Ib5
            have B6 := Lib.hid (B5.out.alloc B5.out.size (.cells #[.string ⟨h'.toArray⟩, .int .i64 (p' : Int), .string ⟨q'.toArray⟩] 23))
            have Iz6 := Lib.hid (Is.made w5 23 [.string ⟨h'.toArray⟩, .int .i64 (p' : Int), .string ⟨q'.toArray⟩])
            clear B5
            go_upto_region 10 with fail
            generalize w5.alloc _ = w6 at *
            have yz0 : w6.cell? ⟨w5.heap.size, 0, none⟩ = some (.string ⟨h'.toArray⟩) := Iz6.out.cell 0
            have yz1 : w6.cell? ⟨w5.heap.size, 1, none⟩ = some (.int .i64 (p' : Int)) := Iz6.out.cell 1
            have yz2 : w6.cell? ⟨w5.heap.size, 2, none⟩ = some (.string ⟨q'.toArray⟩) := Iz6.out.cell 2
            go_wp2_with fail
            refine (mayat_any ⟨h'.toArray⟩ ⟨q'.toArray⟩ (p' : Int) true (by rw [bl_mk, bl_mk]; exact hzm) _ (by rw [size_mk]; omega) (by rw [size_mk]; omega) ⟨by omega, by omega⟩ (HP.out.below B6.out)).mono ?_
            rintro e w7 ⟨rfl, b⟩
            have Iz7 := Lib.hid (Iz6.out.kept (Turn.of_below (S := fun _ => False) b) (fun h => h))
            have B7 := Lib.hid (B6.out.trans (b.mono B6.out.size))
            clear b Iz6 B6
            clear yz0 yz1 yz2
            have yz0 : w7.cell? ⟨w5.heap.size, 0, none⟩ = some (.string ⟨h'.toArray⟩) := Iz7.out.cell 0
            have yz1 : w7.cell? ⟨w5.heap.size, 1, none⟩ = some (.int .i64 (p' : Int)) := Iz7.out.cell 1
            have yz2 : w7.cell? ⟨w5.heap.size, 2, none⟩ = some (.string ⟨q'.toArray⟩) := Iz7.out.cell 2
            go_wp2_with fail
            refine (wakes_any _ (HP.out.below B7.out)).mono ?_
            rintro e w8 ⟨rfl, b⟩
            have Iz8 := Lib.hid (Iz7.out.kept (Turn.of_below (S := fun _ => False) b) (fun h => h))
            have B8 := Lib.hid (B7.out.trans (b.mono B7.out.size))
            clear b Iz7 B7
            go_wp2_with fail
            go_ret
            exact ⟨rfl, B8.out⟩

end Go.Proofs.YthkcniimnaephaaDoor.Uri
