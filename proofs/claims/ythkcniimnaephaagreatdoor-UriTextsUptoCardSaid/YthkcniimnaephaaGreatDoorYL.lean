/-
  What package uri's May, Text, Host, Join do.
  Conditions: those that each theorem names; Go's table of powers of ten is as its text lays it.
-/
import Derived.Test.YthkcniimnaephaaGreatDoorYK
import Derived.Test.YthkcniimnaephaaGreatDoorYC
import Derived.Laws.StructEq
namespace Go.Proofs.YthkcniimnaephaaGreatDoor.Uri
open Go.RowKit

/-! ## URLs compared -/
theorem urlGuard : Tryz.prog.eqGuardType Tryz.prog.depth 23 = false := by kernel_rfl
theorem urlStruct : Tryz.prog.underlying 23 = some (.struct (Tryz.prog.fieldsOf 23)) := by kernel_rfl
theorem urlHeld : Tryz.prog.stoodInHeld 23 = false := by kernel_rfl
theorem urlFields : ∃ f0 f1 f2 : Field, (Tryz.prog.fieldsOf 23).toList = [f0, f1, f2] ∧ f0.name ≠ "_" ∧ f1.name ≠ "_" ∧ f2.name ≠ "_" ∧ f0.type = 9 ∧ f1.type = 3 ∧ f2.type = 9 ∧ f0.offset = 0 ∧ f1.offset = 1 ∧ f2.offset = 2 := by
  have h : (Tryz.prog.fieldsOf 23).toList.map (fun f => (f.name, f.type, f.offset)) = [("Host", 9, 0), ("Port", 3, 1), ("Path", 9, 2)] := by kernel_rfl
  generalize (Tryz.prog.fieldsOf 23).toList = l at *
  rcases l with _ | ⟨f0, _ | ⟨f1, _ | ⟨f2, _ | ⟨f3, r⟩⟩⟩⟩
  · simp at h
  · simp at h
  · simp at h
  · simp only [List.map_cons, List.map_nil, List.cons.injEq, Prod.mk.injEq, and_true] at h
    obtain ⟨⟨a, b, c⟩, ⟨d, e, f⟩, i, j, k⟩ := h
    exact ⟨f0, f1, f2, rfl, by rw [a]; decide, by rw [d]; decide, by rw [i]; decide, b, e, j, c, f, k⟩
  · simp at h
theorem part_str (xs : Array Value) (o : Nat) (s : ByteArray) (h : xs[o]? = some (.string s)) (W : World) : (part 9 xs o).run Tryz.prog W = .ok (.string s) W := by
  simp [part, isAgg, run_underlying Tryz.underlying9, h]
theorem part_int (xs : Array Value) (o : Nat) (n : Int) (h : xs[o]? = some (.int .i64 n)) (W : World) : (part 3 xs o).run Tryz.prog W = .ok (.int .i64 n) W := by
  simp [part, isAgg, run_underlying Tryz.underlying3, h]
def eqU (a b : ByteArray) (m : Int) (c d : ByteArray) (n : Int) : Bool := a.toList == c.toList && (m == n && b.toList == d.toList)
theorem run_equal_url (a b c d : ByteArray) (m n : Int) (W : World) : (Op.equalIn 10000 23 (.agg #[.string a, .int .i64 m, .string b]) (.agg #[.string c, .int .i64 n, .string d])).run Tryz.prog W = .ok (eqU a b m c d n) W := by
  obtain ⟨f0, f1, f2, hl, n0, n1, n2, t0, t1, t2, o0, o1, o2⟩ := urlFields
  rw [run_equalIn_agg W 9999 _ _ _ urlStruct urlHeld, hl]
  simp only [Op.eqFields, n0, n1, n2, ne_eq, not_false_eq_true, if_true, t0, t1, t2, o0, o1, o2, Sem.run_bind, Sem.run_ite, Sem.run_pure]
  unfold eqU
  rw [part_str _ 0 a rfl, Result.andThen_ok, part_str _ 0 c rfl, Result.andThen_ok, run_equalIn_string W 9998 _ a c Tryz.underlying9, Result.andThen_ok]
  cases hac : (a.toList == c.toList)
  · simp
  · rw [part_int _ 1 m rfl, Result.andThen_ok, part_int _ 1 n rfl, Result.andThen_ok, run_equalIn_int W 9998 _ .i64 .i64 m n Tryz.underlying3, Result.andThen_ok]
    cases hmn : (m == n)
    · simp
    · rw [part_str _ 2 b rfl, Result.andThen_ok, part_str _ 2 d rfl, Result.andThen_ok, run_equalIn_string W 9998 _ b d Tryz.underlying9, Result.andThen_ok]
      cases hbd : (b.toList == d.toList) <;> simp
theorem run_eql_url (a b c d : ByteArray) (m n : Int) (W : World) : (binOp .eql 23 (.agg #[.string a, .int .i64 m, .string b]) (.agg #[.string c, .int .i64 n, .string d])).run Tryz.prog W = .ok (.bool (eqU a b m c d n)) W := by
  rw [run_eql_struct, run_equal_url]
  rfl
theorem run_neq_url (a b c d : ByteArray) (m n : Int) (W : World) : (binOp .neq 23 (.agg #[.string a, .int .i64 m, .string b]) (.agg #[.string c, .int .i64 n, .string d])).run Tryz.prog W = .ok (.bool (!eqU a b m c d n)) W := by
  rw [run_neq_struct, run_equal_url]
  rfl
theorem toList_bl (s : ByteArray) : s.toList = bl s := Lib.toList_data s
theorem eqU_is (h' q' : List UInt8) (p' : Nat) (h q : ByteArray) (p : Int) : eqU ⟨h'.toArray⟩ ⟨q'.toArray⟩ (p' : Int) h q p = isF (some (h', p', q')) (bl h) p (bl q) := by
  unfold eqU isF
  simp only [toList_bl, bl_mk]
  rw [Bool.eq_iff_iff]
  simp

/-! ## May -/
set_option maxHeartbeats 4000000 in
theorem may_any (h q : ByteArray) (p : Int) (w : World) (hh : h.size ≤ 140737488351232) (hq : q.size ≤ 140737488351232) (hp : I64 p) (ht : PowTab w) : Calls Tryz.prog 8 #[.agg #[.string h, .int .i64 p, .string q]] w fun e w' => e = .returned (.bool (mayF (bl h) p (bl q))) ∧ Below w.heap.size w w' := by
  have i0 := Is.made w 23 [.string h, .int .i64 p, .string q]
  have b0 : Below w.heap.size w (w.alloc (.cells #[.string h, .int .i64 p, .string q] 23)) := (Below.refl _ w).alloc (Nat.le_refl _) _
  have I0 := Lib.hid i0
  have B0 := Lib.hid b0
  have HP := Lib.hid ht
  have CW := Lib.hid (write_any h q p (w.alloc (.cells #[.string h, .int .i64 p, .string q] 23)) (by omega) (by omega) hp (ht.below b0))
  have hl : (textF (bl h) p (bl q)).length ≤ 281474976710000 := by
    unfold textF
    have := auth_len (bl h) p
    rw [bl_length] at this
    rw [List.length_append, List.length_append, bl_length]
    have h7 : httpL.length = 7 := rfl
    omega
  have HM := Lib.hid (may_is (bl h) (bl q) p)
  generalize textF (bl h) p (bl q) = T at *
  have CP := Lib.hid (fun (X : World) (hX : PowTab X) => parse_any ⟨T.toArray⟩ X (by rw [size_mk]; exact hl) hX)
  rw [bl_mk] at CP
  unfold UrlGot at CP
  clear hh hq hp ht hl i0 b0
  cases hr : parseF T with
  | none =>
    rw [hr] at CP HM
    simp only [urlT] at CP
    have HR := Lib.hid (show mayF (bl h) p (bl q) = false from HM.out.symm)
    clear hr HM
    go_enter Tryz.func8, Tryz.ntmps8
    go_wp2_with fail
    refine CW.out.mono ?_
    rintro e w1 ⟨rfl, b1⟩
    have B1 := Lib.hid (B0.out.trans (b1.mono B0.out.size))
    clear b1
    go_wp2_with fail
    refine (CP.out _ (HP.out.below B1.out)).mono ?_
    rintro e w2 ⟨rfl, b2⟩
    have B2 := Lib.hid (B1.out.trans (b2.mono B1.out.size))
    have B3 := Lib.hid (B2.out.alloc B2.out.size (.cells #[.string ⟨#[]⟩, .int .i64 0, .string ⟨#[]⟩] 23))
    clear b2
    go_wp2_with fail
    go_ret
    exact ⟨ret_bool HR.out.symm, B3.out⟩
  | some x =>
    obtain ⟨h', p', q'⟩ := x
    rw [hr] at CP HM
    simp only [urlT] at CP
    rw [← eqU_is] at HM
    have hcmp := run_eql_url ⟨h'.toArray⟩ ⟨q'.toArray⟩ h q (p' : Int) p
    have hgd := urlGuard
    clear hr
    go_enter Tryz.func8, Tryz.ntmps8
    go_wp2_with fail
    refine CW.out.mono ?_
    rintro e w1 ⟨rfl, b1⟩
    have I1 := Lib.hid (I0.out.kept (Turn.of_below (S := fun _ => False) b1) (fun h => h))
    have B1 := Lib.hid (B0.out.trans (b1.mono B0.out.size))
    clear b1 I0
    go_wp2_with fail
    refine (CP.out _ (HP.out.below B1.out)).mono ?_
    rintro e w2 ⟨rfl, b2⟩
    have I2 := Lib.hid (I1.out.kept (Turn.of_below (S := fun _ => False) b2) (fun h => h))
    have B2 := Lib.hid (B1.out.trans (b2.mono B1.out.size))
    have I3 := Lib.hid (I2.out.alloc (.cells #[.string ⟨h'.toArray⟩, .int .i64 (p' : Int), .string ⟨q'.toArray⟩] 23))
    have B3 := Lib.hid (B2.out.alloc B2.out.size (.cells #[.string ⟨h'.toArray⟩, .int .i64 (p' : Int), .string ⟨q'.toArray⟩] 23))
    have J3 := Lib.hid (Is.made w2 23 [.string ⟨h'.toArray⟩, .int .i64 (p' : Int), .string ⟨q'.toArray⟩])
    clear b2 I1 I2
    go_upto_region 2 with fail
    generalize w2.alloc _ = w3 at *
    have y0 : w3.cell? ⟨w.heap.size, 0, none⟩ = some (.string h) := I3.out.cell 0
    have y1 : w3.cell? ⟨w.heap.size, 1, none⟩ = some (.int .i64 p) := I3.out.cell 1
    have y2 : w3.cell? ⟨w.heap.size, 2, none⟩ = some (.string q) := I3.out.cell 2
    have x0 : w3.cell? ⟨w2.heap.size, 0, none⟩ = some (.string ⟨h'.toArray⟩) := J3.out.cell 0
    have x1 : w3.cell? ⟨w2.heap.size, 1, none⟩ = some (.int .i64 (p' : Int)) := J3.out.cell 1
    have x2 : w3.cell? ⟨w2.heap.size, 2, none⟩ = some (.string ⟨q'.toArray⟩) := J3.out.cell 2
    go_wp2_with fail
    go_ret
    exact ⟨ret_bool HM.out, B3.out⟩

set_option maxHeartbeats 4000000 in
theorem text_of (h q : ByteArray) (p : Int) (w : World) (hh : h.size ≤ 140737488351232) (hq : q.size ≤ 140737488351232) (hp : I64 p) (ht : PowTab w) : Calls Tryz.prog 10 #[.agg #[.string h, .int .i64 p, .string q]] w fun e w' => e = .returned (.string ⟨(textI (bl h) p (bl q)).toArray⟩) ∧ Below w.heap.size w w' := by
  have b0 : Below w.heap.size w (w.alloc (.cells #[.string h, .int .i64 p, .string q] 23)) := (Below.refl _ w).alloc (Nat.le_refl _) _
  have I0 := Lib.hid (Is.made w 23 [.string h, .int .i64 p, .string q])
  have B0 := Lib.hid b0
  have HP := Lib.hid ht
  have CM := Lib.hid (may_any h q p (w.alloc (.cells #[.string h, .int .i64 p, .string q] 23)) hh hq hp (ht.below b0))
  have CW := Lib.hid (fun (X : World) (hX : PowTab X) => write_any h q p X (by omega) (by omega) hp hX)
  have HS := Lib.hid (show textI (bl h) p (bl q) = if mayF (bl h) p (bl q) = true then textF (bl h) p (bl q) else [] from rfl)
  have hsz := auth_len (bl h) p
  rw [bl_length] at hsz
  have CC := Lib.hid (fun (X : World) => clone_any ⟨(authF (bl h) p).toArray⟩ X (by rw [size_mk]; omega))
  clear hh hq hp ht b0 hsz
  generalize textF (bl h) p (bl q) = T at *
  generalize authF (bl h) p = D at *
  cases hm : mayF (bl h) p (bl q) with
  | false =>
    rw [hm] at CM HS
    have HR := Lib.hid (show textI (bl h) p (bl q) = [] by rw [HS.out]; rfl)
    clear HS hm
    go_enter Tryz.func10, Tryz.ntmps10
    go_wp2_with fail
    refine CM.out.mono ?_
    rintro e w1 ⟨rfl, b1⟩
    have B1 := Lib.hid (B0.out.trans (b1.mono B0.out.size))
    clear b1
    go_wp2_with fail
    go_ret
    exact ⟨by rw [HR.out]; rfl, B1.out⟩
  | true =>
    rw [hm] at CM HS
    have HR := Lib.hid (show textI (bl h) p (bl q) = T by rw [HS.out]; rfl)
    clear HS hm
    go_enter Tryz.func10, Tryz.ntmps10
    go_wp2_with fail
    refine CM.out.mono ?_
    rintro e w1 ⟨rfl, b1⟩
    have I1 := Lib.hid (I0.out.kept (Turn.of_below (S := fun _ => False) b1) (fun h => h))
    have B1 := Lib.hid (B0.out.trans (b1.mono B0.out.size))
    have y0 : w1.cell? ⟨w.heap.size, 0, none⟩ = some (.string h) := I1.out.cell 0
    have y1 : w1.cell? ⟨w.heap.size, 1, none⟩ = some (.int .i64 p) := I1.out.cell 1
    have y2 : w1.cell? ⟨w.heap.size, 2, none⟩ = some (.string q) := I1.out.cell 2
    clear b1
    go_wp2_with fail
    refine (CW.out _ (HP.out.below B1.out)).mono ?_
    rintro e w2 ⟨rfl, b2⟩
    have B2 := Lib.hid (B1.out.trans (b2.mono B1.out.size))
    clear b2
    go_wp2_with fail
    go_ret
    exact ⟨by rw [HR.out]; rfl, B2.out⟩

set_option maxHeartbeats 4000000 in
theorem host_of (h q : ByteArray) (p : Int) (w : World) (hh : h.size ≤ 140737488351232) (hq : q.size ≤ 140737488351232) (hp : I64 p) (ht : PowTab w) : Calls Tryz.prog 12 #[.agg #[.string h, .int .i64 p, .string q]] w fun e w' => e = .returned (.string ⟨(hostI (bl h) p (bl q)).toArray⟩) ∧ Below w.heap.size w w' := by
  have b0 : Below w.heap.size w (w.alloc (.cells #[.string h, .int .i64 p, .string q] 23)) := (Below.refl _ w).alloc (Nat.le_refl _) _
  have I0 := Lib.hid (Is.made w 23 [.string h, .int .i64 p, .string q])
  have B0 := Lib.hid b0
  have HP := Lib.hid ht
  have CM := Lib.hid (may_any h q p (w.alloc (.cells #[.string h, .int .i64 p, .string q] 23)) hh hq hp (ht.below b0))
  have CW := Lib.hid (fun (X : World) (hX : PowTab X) => authof_any h q p X (by omega) hp hX)
  have HS := Lib.hid (show hostI (bl h) p (bl q) = if mayF (bl h) p (bl q) = true then authF (bl h) p else [] from rfl)
  have hsz := auth_len (bl h) p
  rw [bl_length] at hsz
  have CC := Lib.hid (fun (X : World) => clone_any ⟨(authF (bl h) p).toArray⟩ X (by rw [size_mk]; omega))
  clear hh hq hp ht b0 hsz
  generalize textF (bl h) p (bl q) = T at *
  generalize authF (bl h) p = D at *
  cases hm : mayF (bl h) p (bl q) with
  | false =>
    rw [hm] at CM HS
    have HR := Lib.hid (show hostI (bl h) p (bl q) = [] by rw [HS.out]; rfl)
    clear HS hm
    go_enter Tryz.func12, Tryz.ntmps12
    go_wp2_with fail
    refine CM.out.mono ?_
    rintro e w1 ⟨rfl, b1⟩
    have B1 := Lib.hid (B0.out.trans (b1.mono B0.out.size))
    clear b1
    go_wp2_with fail
    go_ret
    exact ⟨by rw [HR.out]; rfl, B1.out⟩
  | true =>
    rw [hm] at CM HS
    have HR := Lib.hid (show hostI (bl h) p (bl q) = D by rw [HS.out]; rfl)
    clear HS hm
    go_enter Tryz.func12, Tryz.ntmps12
    go_wp2_with fail
    refine CM.out.mono ?_
    rintro e w1 ⟨rfl, b1⟩
    have I1 := Lib.hid (I0.out.kept (Turn.of_below (S := fun _ => False) b1) (fun h => h))
    have B1 := Lib.hid (B0.out.trans (b1.mono B0.out.size))
    have y0 : w1.cell? ⟨w.heap.size, 0, none⟩ = some (.string h) := I1.out.cell 0
    have y1 : w1.cell? ⟨w.heap.size, 1, none⟩ = some (.int .i64 p) := I1.out.cell 1
    have y2 : w1.cell? ⟨w.heap.size, 2, none⟩ = some (.string q) := I1.out.cell 2
    clear b1
    go_wp2_with fail
    refine (CW.out _ (HP.out.below B1.out)).mono ?_
    rintro e w2 ⟨rfl, b2⟩
    have B2 := Lib.hid (B1.out.trans (b2.mono B1.out.size))
    clear b2
    go_wp2_with fail
    refine (CC.out _).mono ?_
    rintro e w3 ⟨rfl, b3⟩
    have B3 := Lib.hid (B2.out.trans (b3.mono B2.out.size))
    clear b3
    go_wp2_with fail
    go_ret
    exact ⟨by rw [HR.out]; rfl, B3.out⟩

/-! ## Join -/
set_option maxHeartbeats 4000000 in
theorem join_bad (h q ref : ByteArray) (p : Int) (w : World) (hh : h.size ≤ 140737488351232) (hq : q.size ≤ 140737488351232) (_hr : ref.size ≤ 140737488351232) (hp : I64 p) (ht : PowTab w) (hm : mayF (bl h) p (bl q) = false) : Calls Tryz.prog 4 #[.agg #[.string h, .int .i64 p, .string q], .string ref] w (UrlGot (urlT (joinF (bl h) p (bl q) (bl ref))) w) := by
  have b0 : Below w.heap.size w (w.alloc (.cells #[.string h, .int .i64 p, .string q] 23)) := (Below.refl _ w).alloc (Nat.le_refl _) _
  obtain ⟨g, hg⟩ : ∃ g, w.heap.size + 1 = g := ⟨_, rfl⟩
  have i0 := (Is.made w 23 [.string h, .int .i64 p, .string q]).alloc (.cells #[.string ⟨#[]⟩, .int .i64 0, .string ⟨#[]⟩] 23)
  have r0 := Is.made (w.alloc (.cells #[.string h, .int .i64 p, .string q] 23)) 23 [.string ⟨#[]⟩, .int .i64 0, .string ⟨#[]⟩]
  rw [show (w.alloc (.cells #[.string h, .int .i64 p, .string q] 23)).heap.size = w.heap.size + 1 from by simp, hg] at r0
  have b1 : Below w.heap.size w ((w.alloc (.cells #[.string h, .int .i64 p, .string q] 23)).alloc (.cells #[.string ⟨#[]⟩, .int .i64 0, .string ⟨#[]⟩] 23)) := b0.alloc b0.size _
  have I0 := Lib.hid i0
  have R0 := Lib.hid r0
  have B0 := Lib.hid b1
  have HP := Lib.hid ht
  have HG := Lib.hid hg
  have CM := Lib.hid (may_any h q p ((w.alloc (.cells #[.string h, .int .i64 p, .string q] 23)).alloc (.cells #[.string ⟨#[]⟩, .int .i64 0, .string ⟨#[]⟩] 23)) hh hq hp (ht.below b1))
  rw [hm] at CM
  have HR := Lib.hid (join_no (bl h) (bl q) p (bl ref) hm)
  clear hh hq hp ht hg hm b0 b1 i0 r0
  unfold UrlGot
  go_enter Tryz.func4, Tryz.ntmps4
  go_wp2_with fail
  try simp only [HG.out]
  refine CM.out.mono ?_
  rintro e w1 ⟨rfl, b1⟩
  have I1 := Lib.hid (I0.out.kept (Turn.of_below (S := fun _ => False) b1) (fun h => h))
  have R1 := Lib.hid (R0.out.kept (Turn.of_below (S := fun _ => False) b1) (fun h => h))
  have B1 := Lib.hid (B0.out.trans (b1.mono B0.out.size))
  clear b1 I0 R0
  have IR := R1
  have BR := B1
  have c0 : w1.cell? ⟨g, 0, none⟩ = some (.string ⟨#[]⟩) := IR.out.cell 0
  have f0 : w1.frozen? ⟨g, 0, none⟩ = false := IR.out.free 0
  have c1 : w1.cell? ⟨g, 1, none⟩ = some (.int .i64 0) := IR.out.cell 1
  have f1 : w1.frozen? ⟨g, 1, none⟩ = false := IR.out.free 1
  have c2 : w1.cell? ⟨g, 2, none⟩ = some (.string ⟨#[]⟩) := IR.out.cell 2
  have f2 : w1.frozen? ⟨g, 2, none⟩ = false := IR.out.free 2
  have I9 := Lib.hid (put3_is IR.out (.string ⟨#[]⟩) (.int .i64 0) (.string ⟨#[]⟩))
  have B9 := Lib.hid (put3_below BR.out (Nat.le_trans (Nat.le_succ _) (Nat.le_of_eq HG.out)) (.string ⟨#[]⟩) (.int .i64 0) (.string ⟨#[]⟩))
  go_wp2_with fail
  refine bodyPost_ret (results_cell1 rfl _ _ g _ _ _ _ rfl I9.out Tryz.underlying23 rfl (by kernel_rfl)) rfl ?_
  exact ⟨by rw [HR.out]; rfl, B9.out⟩

set_option maxHeartbeats 4000000 in
theorem join_other1 (h q ref : ByteArray) (p : Int) (w : World) (hh : h.size ≤ 140737488351232) (hq : q.size ≤ 140737488351232) (hr : ref.size ≤ 140737488351232) (hp : I64 p) (ht : PowTab w) (hm : mayF (bl h) p (bl q) = true) (h1 : decide ((bl ref).take 1 = [47]) = false) : Calls Tryz.prog 4 #[.agg #[.string h, .int .i64 p, .string q], .string ref] w (UrlGot (urlT (joinF (bl h) p (bl q) (bl ref))) w) := by
  have b0 : Below w.heap.size w (w.alloc (.cells #[.string h, .int .i64 p, .string q] 23)) := (Below.refl _ w).alloc (Nat.le_refl _) _
  obtain ⟨g, hg⟩ : ∃ g, w.heap.size + 1 = g := ⟨_, rfl⟩
  have i0 := (Is.made w 23 [.string h, .int .i64 p, .string q]).alloc (.cells #[.string ⟨#[]⟩, .int .i64 0, .string ⟨#[]⟩] 23)
  have r0 := Is.made (w.alloc (.cells #[.string h, .int .i64 p, .string q] 23)) 23 [.string ⟨#[]⟩, .int .i64 0, .string ⟨#[]⟩]
  rw [show (w.alloc (.cells #[.string h, .int .i64 p, .string q] 23)).heap.size = w.heap.size + 1 from by simp, hg] at r0
  have b1 : Below w.heap.size w ((w.alloc (.cells #[.string h, .int .i64 p, .string q] 23)).alloc (.cells #[.string ⟨#[]⟩, .int .i64 0, .string ⟨#[]⟩] 23)) := b0.alloc b0.size _
  have I0 := Lib.hid i0
  have R0 := Lib.hid r0
  have B0 := Lib.hid b1
  have HP := Lib.hid ht
  have HG := Lib.hid hg
  have CM := Lib.hid (may_any h q p ((w.alloc (.cells #[.string h, .int .i64 p, .string q] 23)).alloc (.cells #[.string ⟨#[]⟩, .int .i64 0, .string ⟨#[]⟩] 23)) hh hq hp (ht.below b1))
  rw [hm] at CM
  have HJ := join_other (bl h) (bl q) p (bl ref) hm (fun hx => absurd hx.1 (of_decide_eq_false h1))
  rw [← HJ]
  have C1 := fun X : World => hasprefix_any ref ⟨#[47]⟩ X
  rw [show (⟨#[47]⟩ : ByteArray).size = 1 from rfl, show bl (⟨#[47]⟩ : ByteArray) = [47] from rfl] at C1
  have C2 := fun X : World => hasprefix_any ref ⟨#[47, 47]⟩ X
  rw [show (⟨#[47, 47]⟩ : ByteArray).size = 2 from rfl, show bl (⟨#[47, 47]⟩ : ByteArray) = [47, 47] from rfl] at C2
  rw [h1] at C1
  skip
  replace C1 := Lib.hid C1
  replace C2 := Lib.hid C2
  have CP := Lib.hid (fun (X : World) (hX : PowTab X) => parse_any ref X (by omega) hX)
  unfold UrlGot at CP
  clear hh hq hr hp ht hg hm b0 b1 i0 r0 HJ h1 
  generalize urlT (parseF (bl ref)) = x at *
  obtain ⟨x1, x2, x3, x4⟩ := x
  unfold UrlGot
  go_enter Tryz.func4, Tryz.ntmps4
  go_wp2_with fail
  try simp only [HG.out]
  refine CM.out.mono ?_
  rintro e w1 ⟨rfl, b1⟩
  have I1 := Lib.hid (I0.out.kept (Turn.of_below (S := fun _ => False) b1) (fun h => h))
  have R1 := Lib.hid (R0.out.kept (Turn.of_below (S := fun _ => False) b1) (fun h => h))
  have B1 := Lib.hid (B0.out.trans (b1.mono B0.out.size))
  clear b1 I0 R0
  go_wp2_with fail
  refine (C1.out _).mono ?_
  rintro e w2 ⟨rfl, rfl⟩
  go_wp2_with fail
  refine (CP.out _ (HP.out.below B1.out)).mono ?_
  rintro e w4 ⟨rfl, b4⟩
  have IR := Lib.hid (R1.out.kept (Turn.of_below (S := fun _ => False) b4) (fun h => h))
  have BR := Lib.hid (B1.out.trans (b4.mono B1.out.size))
  clear b4 R1 B1
  have c0 : w4.cell? ⟨g, 0, none⟩ = some (.string ⟨#[]⟩) := IR.out.cell 0
  have f0 : w4.frozen? ⟨g, 0, none⟩ = false := IR.out.free 0
  have c1 : w4.cell? ⟨g, 1, none⟩ = some (.int .i64 0) := IR.out.cell 1
  have f1 : w4.frozen? ⟨g, 1, none⟩ = false := IR.out.free 1
  have c2 : w4.cell? ⟨g, 2, none⟩ = some (.string ⟨#[]⟩) := IR.out.cell 2
  have f2 : w4.frozen? ⟨g, 2, none⟩ = false := IR.out.free 2
  have I9 := Lib.hid (put3_is IR.out (.string ⟨x1.toArray⟩) (.int .i64 x2) (.string ⟨x3.toArray⟩))
  have B9 := Lib.hid (put3_below BR.out (Nat.le_trans (Nat.le_succ _) (Nat.le_of_eq HG.out)) (.string ⟨x1.toArray⟩) (.int .i64 x2) (.string ⟨x3.toArray⟩))
  go_wp2_with fail
  refine bodyPost_ret (results_cell1 rfl _ _ g _ _ _ _ rfl I9.out Tryz.underlying23 rfl (by kernel_rfl)) rfl ?_
  exact ⟨rfl, B9.out⟩

set_option maxHeartbeats 4000000 in
theorem join_other2 (h q ref : ByteArray) (p : Int) (w : World) (hh : h.size ≤ 140737488351232) (hq : q.size ≤ 140737488351232) (hr : ref.size ≤ 140737488351232) (hp : I64 p) (ht : PowTab w) (hm : mayF (bl h) p (bl q) = true) (h1 : decide ((bl ref).take 1 = [47]) = true) (h2 : decide ((bl ref).take 2 = [47, 47]) = true) : Calls Tryz.prog 4 #[.agg #[.string h, .int .i64 p, .string q], .string ref] w (UrlGot (urlT (joinF (bl h) p (bl q) (bl ref))) w) := by
  have b0 : Below w.heap.size w (w.alloc (.cells #[.string h, .int .i64 p, .string q] 23)) := (Below.refl _ w).alloc (Nat.le_refl _) _
  obtain ⟨g, hg⟩ : ∃ g, w.heap.size + 1 = g := ⟨_, rfl⟩
  have i0 := (Is.made w 23 [.string h, .int .i64 p, .string q]).alloc (.cells #[.string ⟨#[]⟩, .int .i64 0, .string ⟨#[]⟩] 23)
  have r0 := Is.made (w.alloc (.cells #[.string h, .int .i64 p, .string q] 23)) 23 [.string ⟨#[]⟩, .int .i64 0, .string ⟨#[]⟩]
  rw [show (w.alloc (.cells #[.string h, .int .i64 p, .string q] 23)).heap.size = w.heap.size + 1 from by simp, hg] at r0
  have b1 : Below w.heap.size w ((w.alloc (.cells #[.string h, .int .i64 p, .string q] 23)).alloc (.cells #[.string ⟨#[]⟩, .int .i64 0, .string ⟨#[]⟩] 23)) := b0.alloc b0.size _
  have I0 := Lib.hid i0
  have R0 := Lib.hid r0
  have B0 := Lib.hid b1
  have HP := Lib.hid ht
  have HG := Lib.hid hg
  have CM := Lib.hid (may_any h q p ((w.alloc (.cells #[.string h, .int .i64 p, .string q] 23)).alloc (.cells #[.string ⟨#[]⟩, .int .i64 0, .string ⟨#[]⟩] 23)) hh hq hp (ht.below b1))
  rw [hm] at CM
  have HJ := join_other (bl h) (bl q) p (bl ref) hm (fun hx => absurd (of_decide_eq_true h2) hx.2)
  rw [← HJ]
  have C1 := fun X : World => hasprefix_any ref ⟨#[47]⟩ X
  rw [show (⟨#[47]⟩ : ByteArray).size = 1 from rfl, show bl (⟨#[47]⟩ : ByteArray) = [47] from rfl] at C1
  have C2 := fun X : World => hasprefix_any ref ⟨#[47, 47]⟩ X
  rw [show (⟨#[47, 47]⟩ : ByteArray).size = 2 from rfl, show bl (⟨#[47, 47]⟩ : ByteArray) = [47, 47] from rfl] at C2
  rw [h1] at C1
  rw [h2] at C2
  replace C1 := Lib.hid C1
  replace C2 := Lib.hid C2
  have CP := Lib.hid (fun (X : World) (hX : PowTab X) => parse_any ref X (by omega) hX)
  unfold UrlGot at CP
  clear hh hq hr hp ht hg hm b0 b1 i0 r0 HJ h1 h2
  generalize urlT (parseF (bl ref)) = x at *
  obtain ⟨x1, x2, x3, x4⟩ := x
  unfold UrlGot
  go_enter Tryz.func4, Tryz.ntmps4
  go_wp2_with fail
  try simp only [HG.out]
  refine CM.out.mono ?_
  rintro e w1 ⟨rfl, b1⟩
  have I1 := Lib.hid (I0.out.kept (Turn.of_below (S := fun _ => False) b1) (fun h => h))
  have R1 := Lib.hid (R0.out.kept (Turn.of_below (S := fun _ => False) b1) (fun h => h))
  have B1 := Lib.hid (B0.out.trans (b1.mono B0.out.size))
  clear b1 I0 R0
  go_wp2_with fail
  refine (C1.out _).mono ?_
  rintro e w2 ⟨rfl, rfl⟩
  go_wp2_with fail
  refine (C2.out _).mono ?_
  rintro e w3 ⟨rfl, rfl⟩
  go_wp2_with fail
  refine (CP.out _ (HP.out.below B1.out)).mono ?_
  rintro e w4 ⟨rfl, b4⟩
  have IR := Lib.hid (R1.out.kept (Turn.of_below (S := fun _ => False) b4) (fun h => h))
  have BR := Lib.hid (B1.out.trans (b4.mono B1.out.size))
  clear b4 R1 B1
  have c0 : w4.cell? ⟨g, 0, none⟩ = some (.string ⟨#[]⟩) := IR.out.cell 0
  have f0 : w4.frozen? ⟨g, 0, none⟩ = false := IR.out.free 0
  have c1 : w4.cell? ⟨g, 1, none⟩ = some (.int .i64 0) := IR.out.cell 1
  have f1 : w4.frozen? ⟨g, 1, none⟩ = false := IR.out.free 1
  have c2 : w4.cell? ⟨g, 2, none⟩ = some (.string ⟨#[]⟩) := IR.out.cell 2
  have f2 : w4.frozen? ⟨g, 2, none⟩ = false := IR.out.free 2
  have I9 := Lib.hid (put3_is IR.out (.string ⟨x1.toArray⟩) (.int .i64 x2) (.string ⟨x3.toArray⟩))
  have B9 := Lib.hid (put3_below BR.out (Nat.le_trans (Nat.le_succ _) (Nat.le_of_eq HG.out)) (.string ⟨x1.toArray⟩) (.int .i64 x2) (.string ⟨x3.toArray⟩))
  go_wp2_with fail
  refine bodyPost_ret (results_cell1 rfl _ _ g _ _ _ _ rfl I9.out Tryz.underlying23 rfl (by kernel_rfl)) rfl ?_
  exact ⟨rfl, B9.out⟩

set_option maxHeartbeats 4000000 in
theorem join_ref (h q ref : ByteArray) (p : Int) (w : World) (hh : h.size ≤ 140737488351232) (hq : q.size ≤ 140737488351232) (hr : ref.size ≤ 140737488351232) (hp : I64 p) (ht : PowTab w) (hm : mayF (bl h) p (bl q) = true) (h1 : decide ((bl ref).take 1 = [47]) = true) (h2 : decide ((bl ref).take 2 = [47, 47]) = false) : Calls Tryz.prog 4 #[.agg #[.string h, .int .i64 p, .string q], .string ref] w (UrlGot (urlT (joinF (bl h) p (bl q) (bl ref))) w) := by
  have b0 : Below w.heap.size w (w.alloc (.cells #[.string h, .int .i64 p, .string q] 23)) := (Below.refl _ w).alloc (Nat.le_refl _) _
  obtain ⟨g, hg⟩ : ∃ g, w.heap.size + 1 = g := ⟨_, rfl⟩
  have i0 := (Is.made w 23 [.string h, .int .i64 p, .string q]).alloc (.cells #[.string ⟨#[]⟩, .int .i64 0, .string ⟨#[]⟩] 23)
  have r0 := Is.made (w.alloc (.cells #[.string h, .int .i64 p, .string q] 23)) 23 [.string ⟨#[]⟩, .int .i64 0, .string ⟨#[]⟩]
  rw [show (w.alloc (.cells #[.string h, .int .i64 p, .string q] 23)).heap.size = w.heap.size + 1 from by simp, hg] at r0
  have b1 : Below w.heap.size w ((w.alloc (.cells #[.string h, .int .i64 p, .string q] 23)).alloc (.cells #[.string ⟨#[]⟩, .int .i64 0, .string ⟨#[]⟩] 23)) := b0.alloc b0.size _
  have I0 := Lib.hid i0
  have R0 := Lib.hid r0
  have B0 := Lib.hid b1
  have HP := Lib.hid ht
  have HG := Lib.hid hg
  have CM := Lib.hid (may_any h q p ((w.alloc (.cells #[.string h, .int .i64 p, .string q] 23)).alloc (.cells #[.string ⟨#[]⟩, .int .i64 0, .string ⟨#[]⟩] 23)) hh hq hp (ht.below b1))
  rw [hm] at CM
  have HJ := join_landed (bl h) (bl q) p (bl ref) hm (of_decide_eq_true h1) (of_decide_eq_false h2)
  rw [← HJ]
  have C1 := fun X : World => hasprefix_any ref ⟨#[47]⟩ X
  rw [show (⟨#[47]⟩ : ByteArray).size = 1 from rfl, show bl (⟨#[47]⟩ : ByteArray) = [47] from rfl, h1] at C1
  have C2 := fun X : World => hasprefix_any ref ⟨#[47, 47]⟩ X
  rw [show (⟨#[47, 47]⟩ : ByteArray).size = 2 from rfl, show bl (⟨#[47, 47]⟩ : ByteArray) = [47, 47] from rfl, h2] at C2
  replace C1 := Lib.hid C1
  replace C2 := Lib.hid C2
  have CW := Lib.hid (fun (X : World) (hX : PowTab X) => write_any h ref p X (by omega) (by omega) hp hX)
  have hl : (textF (bl h) p (bl ref)).length ≤ 281474976710000 := by
    unfold textF
    have := auth_len (bl h) p
    rw [bl_length] at this
    rw [List.length_append, List.length_append, bl_length]
    have h7 : httpL.length = 7 := rfl
    omega
  clear HJ
  generalize textF (bl h) p (bl ref) = T at *
  have CP := Lib.hid (fun (X : World) (hX : PowTab X) => parse_any ⟨T.toArray⟩ X (by rw [size_mk]; exact hl) hX)
  rw [bl_mk] at CP
  unfold UrlGot at CP
  clear hh hq hr hp ht hg hm b0 b1 i0 r0 h1 h2 hl
  generalize urlT (parseF T) = x at *
  obtain ⟨x1, x2, x3, x4⟩ := x
  unfold UrlGot
  go_enter Tryz.func4, Tryz.ntmps4
  go_wp2_with fail
  try simp only [HG.out]
  refine CM.out.mono ?_
  rintro e w1 ⟨rfl, b1⟩
  have I1 := Lib.hid (I0.out.kept (Turn.of_below (S := fun _ => False) b1) (fun h => h))
  have R1 := Lib.hid (R0.out.kept (Turn.of_below (S := fun _ => False) b1) (fun h => h))
  have B1 := Lib.hid (B0.out.trans (b1.mono B0.out.size))
  clear b1 I0 R0
  go_wp2_with fail
  refine (C1.out _).mono ?_
  rintro e w2 ⟨rfl, rfl⟩
  go_wp2_with fail
  refine (C2.out _).mono ?_
  rintro e w3 ⟨rfl, rfl⟩
  have I4 := Lib.hid (I1.out.set 2 (.string ref))
  have R4 := Lib.hid (R1.out.far (p := ⟨w.heap.size, 2, none⟩) (by show g ≠ w.heap.size; have := HG.out; omega) (.string ref))
  have B4 := Lib.hid (B1.out.setCell (p := ⟨w.heap.size, 2, none⟩) (Nat.le_refl _) (.string ref))
  have k2 : w3.cell? ⟨w.heap.size, 2, none⟩ = some (.string q) := I1.out.cell 2
  have kf : w3.frozen? ⟨w.heap.size, 2, none⟩ = false := I1.out.free 2
  clear I1 R1 B1
  go_upto_region 5 with fail
  generalize w3.setCell _ _ = w4 at *
  have y0 : w4.cell? ⟨w.heap.size, 0, none⟩ = some (.string h) := I4.out.cell 0
  have y1 : w4.cell? ⟨w.heap.size, 1, none⟩ = some (.int .i64 p) := I4.out.cell 1
  have y2 : w4.cell? ⟨w.heap.size, 2, none⟩ = some (.string ref) := I4.out.cell 2
  clear k2 kf
  go_wp2_with fail
  refine (CW.out _ (HP.out.below B4.out)).mono ?_
  rintro e w5 ⟨rfl, b5⟩
  have R5 := Lib.hid (R4.out.kept (Turn.of_below (S := fun _ => False) b5) (fun h => h))
  have B5 := Lib.hid (B4.out.trans (b5.mono B4.out.size))
  clear b5 y0 y1 y2
  go_wp2_with fail
  refine (CP.out _ (HP.out.below B5.out)).mono ?_
  rintro e w6 ⟨rfl, b6⟩
  have IR := Lib.hid (R5.out.kept (Turn.of_below (S := fun _ => False) b6) (fun h => h))
  have BR := Lib.hid (B5.out.trans (b6.mono B5.out.size))
  clear b6
  have c0 : w6.cell? ⟨g, 0, none⟩ = some (.string ⟨#[]⟩) := IR.out.cell 0
  have f0 : w6.frozen? ⟨g, 0, none⟩ = false := IR.out.free 0
  have c1 : w6.cell? ⟨g, 1, none⟩ = some (.int .i64 0) := IR.out.cell 1
  have f1 : w6.frozen? ⟨g, 1, none⟩ = false := IR.out.free 1
  have c2 : w6.cell? ⟨g, 2, none⟩ = some (.string ⟨#[]⟩) := IR.out.cell 2
  have f2 : w6.frozen? ⟨g, 2, none⟩ = false := IR.out.free 2
  have I9 := Lib.hid (put3_is IR.out (.string ⟨x1.toArray⟩) (.int .i64 x2) (.string ⟨x3.toArray⟩))
  have B9 := Lib.hid (put3_below BR.out (Nat.le_trans (Nat.le_succ _) (Nat.le_of_eq HG.out)) (.string ⟨x1.toArray⟩) (.int .i64 x2) (.string ⟨x3.toArray⟩))
  go_wp2_with fail
  refine bodyPost_ret (results_cell1 rfl _ _ g _ _ _ _ rfl I9.out Tryz.underlying23 rfl (by kernel_rfl)) rfl ?_
  exact ⟨rfl, B9.out⟩
theorem join_any (h q ref : ByteArray) (p : Int) (w : World) (hh : h.size ≤ 140737488351232) (hq : q.size ≤ 140737488351232) (hr : ref.size ≤ 140737488351232) (hp : I64 p) (ht : PowTab w) : Calls Tryz.prog 4 #[.agg #[.string h, .int .i64 p, .string q], .string ref] w (UrlGot (urlT (joinF (bl h) p (bl q) (bl ref))) w) := by
  cases hm : mayF (bl h) p (bl q) with
  | false => exact join_bad h q ref p w hh hq hr hp ht hm
  | true =>
    cases h1 : decide ((bl ref).take 1 = [47]) with
    | false => exact join_other1 h q ref p w hh hq hr hp ht hm h1
    | true =>
      cases h2 : decide ((bl ref).take 2 = [47, 47]) with
      | true => exact join_other2 h q ref p w hh hq hr hp ht hm h1 h2
      | false => exact join_ref h q ref p w hh hq hr hp ht hm h1 h2
end Go.Proofs.YthkcniimnaephaaGreatDoor.Uri
