/-
  The law's rows.
  Conditions: none.
-/
import Derived.Test.YtkccmjeabkfmdaaDoorEI
import Derived.Test.YtkccmjeabkfmdaaDoorEJ
import Derived.Test.YtkccmjeabkfmdaaDoorLW
import Derived.ArgAppend
namespace Go.Proofs.YtkccmjeabkfmdaaDoor.Con
open Go.RowKit Go.Maps Hop

/-- An append whose run is known, at its place in a walk, where it is guarded and wanted. -/
theorem append_by_g {P : Program} {w : World} {ops : Array Oper} {rest : List Oper} {o : Oper} {a : Act} {Q : Exit → Act → World → Prop} (hw : Region.wanted o (yielded ops a.tmps) = true) (s x : Operand) (t : TypeId)
    (ho : o.op = .call { callee := .builtin .append, args := #[s, x], argTypes := #[t, t] }) (v xv v' : Value) (w' : World) (hs : a.eval s = v) (hx : a.eval x = xv)
    (hrun : (Builtin.append_ #[t, t] o.type #[v, xv]).run P w = .ok v' w') (h : wpList P ops Q rest (a.put o.dst v') w') : wpList P ops Q (o :: rest) a w := by
  refine wpList_step fun K hK => ?_
  rw [if_pos hw]
  unfold Oper.wp execOp
  simp only [ho, resolve, invoke, builtin, Sem.run_bind, Sem.run_pure, Result.andThen_ok, List.map_toArray, List.map_cons, List.map_nil, hs, hx, hrun]
  exact hK _ _ h
theorem srcf_nil (w : World) : SrcF w (fun _ => True) none [] := fun h => by simp at h
/-- A list of fields, just laid down. -/
theorem srcf_made (w : World) (ls : List Fld) : SrcF (w.alloc (.cells (flds ls).toArray 33)) (fun _ => True) (some ⟨w.heap.size, 0, none⟩) ls := fun _ => by
  have hi : Is (w.alloc (.cells (flds ls).toArray 33)) w.heap.size 33 (flds ls) := Is.made w 33 (flds ls)
  refine ⟨_, rfl, trivial, by simp, fun i f hf => ?_⟩
  obtain ⟨h1, h2⟩ := flds_get ls i f hf
  refine ⟨?_, ?_⟩
  · rw [add_at, Nat.zero_add, hi.cell, h1]
  · rw [add_at, Nat.zero_add, hi.cell, h2]
set_option maxRecDepth 100000 in
/-- append(v, x), v as long as its row. -/
theorem run_full_fld {P : Nat → Prop} (w : World) (a : Addr) (ls : List Fld) (n : Nat) (hn : ls.length = n) (hs : SrcF w P (some a) ls) (x : Fld) (hlen : (ls.length + 1) * 32 ≤ 140737488355328) :
    ∃ (v' : Value) (w' : World) (o' : Option Nat), (Builtin.append_ #[22, 22] 22 #[.slice (some a) n n, .slice (some ⟨w.heap.size, 0, none⟩) 1 1]).run Tryd.prog (w.alloc (.cells #[.string ⟨x.1.toArray⟩, .string ⟨x.2.toArray⟩] 33)) = .ok v' w' ∧ OwnF w' v' o' (ls ++ [x]) ∧
      (∀ k, o' = some k → w.heap.size ≤ k) ∧ Below w.heap.size w w' := by
  subst hn
  obtain ⟨i, hi, hz, hsz, hby⟩ := fldParts
  have b0 := (Below.refl w.heap.size w).alloc (Nat.le_refl _) (.cells #[.string ⟨x.1.toArray⟩, .string ⟨x.2.toArray⟩] 33)
  have hI : Is (w.alloc (.cells #[.string ⟨x.1.toArray⟩, .string ⟨x.2.toArray⟩] 33)) w.heap.size 33 [strV x.1, strV x.2] := Is.made w 33 [strV x.1, strV x.2]
  have hcells : ∀ j u, (flds ls)[j]? = some u → (w.alloc (.cells #[.string ⟨x.1.toArray⟩, .string ⟨x.2.toArray⟩] 33)).cell? (a.add j) = some u := by
    intro j u hu
    have hj : j < ls.length * 2 := by
      have := (List.getElem?_eq_some_iff.1 hu).1
      rwa [flds_length] at this
    obtain ⟨ad, hA, _, hlt, hc⟩ := hs (by omega)
    injection hA with hA
    subst hA
    have hb : (a.add j).block < w.heap.size := by unfold Addr.add; split <;> exact hlt
    rw [b0.cell hb]
    obtain ⟨f, hf⟩ : ∃ f, ls[j / 2]? = some f := ⟨ls[j / 2]'(by omega), List.getElem?_eq_getElem _⟩
    obtain ⟨c0, c1⟩ := hc (j / 2) f hf
    obtain ⟨g0, g1⟩ := flds_get ls (j / 2) f hf
    rcases Nat.mod_two_eq_zero_or_one j with h0 | h0
    · have e : j / 2 * 2 = j := by omega
      rw [e] at c0 g0
      rw [g0] at hu
      rw [c0, ← hu]
    · have e : j / 2 * 2 + 1 = j := by omega
      rw [e] at c1 g1
      rw [g1] at hu
      rw [c1, ← hu]
  obtain ⟨v', w', hrun, hown, hg⟩ := run_append_arg_grows (P := Tryd.prog) (w := w.alloc (.cells #[.string ⟨x.1.toArray⟩, .string ⟨x.2.toArray⟩] 33)) 22 22 33 i (.agg #[.string ⟨#[]⟩, .string ⟨#[]⟩]) 2 32 Tryd.underlying22 hi hz hsz hby rfl (by omega) a ls.length ls.length (flds ls) (flds_length ls) hcells ⟨w.heap.size, 0, none⟩ 1 1 [strV x.1, strV x.2] rfl
    (fun j u hu => by rw [add_at, Nat.zero_add, hI.cell]; exact hu) (by omega) (by unfold maxLen; omega) (by omega)
  have hlow := hown.lt
  refine ⟨v', w', v'.ownBlock, hrun, ⟨?_, rfl⟩, fun k hk => ?_, b0.trans (((Turn.of_grown (S := fun _ => False) hg (fun k hk => by cases hk)).below (fun _ _ h => h)).mono b0.size)⟩
  · rw [List.length_append, flds_append]
    exact ⟨hown.1, hown.2.imp id fun ⟨g, cap, cur, hv, _, r⟩ => ⟨g, cap, cur, hv, Nat.zero_le _, r⟩⟩
  · have := (hlow k hk).1
    simp at this
    omega
/-- The law's cc. -/
theorem cc_any (s : ByteArray) (w : World) : Calls Tryd.prog 17 #[.string s] w fun e w' => ∃ g, e = .returned (.slice (some ⟨g, 0, none⟩) 1 1) ∧ SrcF w' (fun _ => True) (some ⟨g, 0, none⟩) [([67, 97, 99, 104, 101, 45, 67, 111, 110, 116, 114, 111, 108], bl s)] ∧ Below w.heap.size w w' := by
  have hs := srcf_made w [([67, 97, 99, 104, 101, 45, 67, 111, 110, 116, 114, 111, 108], bl s)]
  have hb : Below w.heap.size w (w.alloc (.cells #[.string ⟨#[67, 97, 99, 104, 101, 45, 67, 111, 110, 116, 114, 111, 108]⟩, .string s] 33)) := (Below.refl _ _).alloc (Nat.le_refl _) _
  have HS := Lib.hid hs
  have HB := Lib.hid hb
  clear hs hb
  go_enter Tryd.func17, Tryd.ntmps17
  go_wp2_with fail
  go_ret
  refine ⟨w.heap.size, rfl, ?_, HB.out⟩
  have := HS.out
  simp only [flds, List.flatMap_cons, List.flatMap_nil, List.append_nil, strV] at this
  rw [mk_bl] at this
  exact this

set_option maxHeartbeats 16000000 in
set_option maxRecDepth 100000 in
theorem wakes_any (w0 : World) : Calls Tryd.prog 12 #[] w0 fun e w' => e = .returned (.bool true) ∧ Below w0.heap.size w0 w' := by
  go_enter Tryd.func12, Tryd.ntmps12
  have B0 : Hid (Below w0.heap.size w0 w0) := Lib.hid (Below.refl _ _)
  go_wp2_with fail
  refine (cc_any ⟨#[78, 111, 45, 67, 97, 99, 104, 101, 44, 32, 109, 97, 120, 45, 97, 103, 101, 61, 53]⟩ w0).mono ?_
  rintro e w1 ⟨gs1, rfl, ss, b⟩
  have bb := b
  have S1 := Lib.hid ss
  have B1 := Lib.hid (B0.out.trans (bb.mono B0.out.size))
  clear B0
  clear b bb ss
  go_wp2_with fail
  have C := request_any w1 (some ⟨gs1, 0, none⟩) [([67, 97, 99, 104, 101, 45, 67, 111, 110, 116, 114, 111, 108], [78, 111, 45, 67, 97, 99, 104, 101, 44, 32, 109, 97, 120, 45, 97, 103, 101, 61, 53])] 1 1 rfl (by decide) S1.out
  rw [show requestF [([67, 97, 99, 104, 101, 45, 67, 111, 110, 116, 114, 111, 108], [78, 111, 45, 67, 97, 99, 104, 101, 44, 32, 109, 97, 120, 45, 97, 103, 101, 61, 53])] = ⟨false, true, false, false, false, false, 5, (-1), (-1), (-1)⟩ by decide +kernel] at C
  simp only [Ctl.v, Ctl.cells] at C
  refine (C).mono ?_
  rintro e w2 ⟨rfl, b⟩
  have bb := b
  have B2 := Lib.hid (B1.out.trans (bb.mono B1.out.size))
  have L_2 := Lib.hid (S1.out.below bb)
  clear B1 S1
  clear b bb C
  clear L_2
  have ba := (Below.refl w2.heap.size w2).alloc (Nat.le_refl _) (.cells #[.bool false, .bool true, .bool false, .bool false, .bool false, .bool false, .int .i64 5, .int .i64 (-1), .int .i64 (-1), .int .i64 (-1)] 24)
  have Na := Lib.hid (Is.made w2 24 [.bool false, .bool true, .bool false, .bool false, .bool false, .bool false, .int .i64 5, .int .i64 (-1), .int .i64 (-1), .int .i64 (-1)])
  go_wp2_with fail
  refine (cc_any ⟨#[109, 97, 120, 45, 115, 116, 97, 108, 101, 61, 55, 44, 32, 109, 97, 120, 45, 115, 116, 97, 108, 101, 61, 51]⟩ (w2.alloc (.cells #[.bool false, .bool true, .bool false, .bool false, .bool false, .bool false, .int .i64 5, .int .i64 (-1), .int .i64 (-1), .int .i64 (-1)] 24))).mono ?_
  rintro e w3 ⟨gs3, rfl, ss, b⟩
  have Ja := Lib.hid (Na.out.kept (Turn.of_below (S := fun _ => False) b) (fun h => h))
  have bb := ba.trans (b.mono ba.size)
  have S3 := Lib.hid ss
  have B3 := Lib.hid (B2.out.trans (bb.mono B2.out.size))
  clear B2
  clear b bb ba Na ss
  go_wp2_with fail
  have C := request_any w3 (some ⟨gs3, 0, none⟩) [([67, 97, 99, 104, 101, 45, 67, 111, 110, 116, 114, 111, 108], [109, 97, 120, 45, 115, 116, 97, 108, 101, 61, 55, 44, 32, 109, 97, 120, 45, 115, 116, 97, 108, 101, 61, 51])] 1 1 rfl (by decide) S3.out
  rw [show requestF [([67, 97, 99, 104, 101, 45, 67, 111, 110, 116, 114, 111, 108], [109, 97, 120, 45, 115, 116, 97, 108, 101, 61, 55, 44, 32, 109, 97, 120, 45, 115, 116, 97, 108, 101, 61, 51])] = ⟨false, false, false, false, false, false, (-1), (-1), (-1), 3⟩ by decide +kernel] at C
  simp only [Ctl.v, Ctl.cells] at C
  refine (C).mono ?_
  rintro e w4 ⟨rfl, b⟩
  have bb := b
  have B4 := Lib.hid (B3.out.trans (bb.mono B3.out.size))
  have a_4 := Lib.hid (Ja.out.kept (Turn.of_below (S := fun _ => False) bb) (fun h => h))
  have L_4 := Lib.hid (S3.out.below bb)
  clear B3 Ja S3
  clear b bb C
  clear L_4
  have ba := (Below.refl w4.heap.size w4).alloc (Nat.le_refl _) (.cells #[.bool false, .bool false, .bool false, .bool false, .bool false, .bool false, .int .i64 (-1), .int .i64 (-1), .int .i64 (-1), .int .i64 3] 24)
  have Nb := Lib.hid (Is.made w4 24 [.bool false, .bool false, .bool false, .bool false, .bool false, .bool false, .int .i64 (-1), .int .i64 (-1), .int .i64 (-1), .int .i64 3])
  go_wp2_with fail
  have ba2 := (Below.refl (w4.alloc (.cells #[.bool false, .bool false, .bool false, .bool false, .bool false, .bool false, .int .i64 (-1), .int .i64 (-1), .int .i64 (-1), .int .i64 3] 24)).heap.size (w4.alloc (.cells #[.bool false, .bool false, .bool false, .bool false, .bool false, .bool false, .int .i64 (-1), .int .i64 (-1), .int .i64 (-1), .int .i64 3] 24))).alloc (Nat.le_refl _) (.cells #[.string ⟨#[112, 114, 97, 103, 109, 97]⟩, .string ⟨#[78, 111, 45, 67, 97, 99, 104, 101]⟩] 33)
  have sa2 := srcf_made (w4.alloc (.cells #[.bool false, .bool false, .bool false, .bool false, .bool false, .bool false, .int .i64 (-1), .int .i64 (-1), .int .i64 (-1), .int .i64 3] 24)) [([112, 114, 97, 103, 109, 97], [78, 111, 45, 67, 97, 99, 104, 101])]
  simp only [flds, List.flatMap_cons, List.flatMap_nil, List.append_nil, strV] at sa2
  rw [show (w4.alloc (.cells #[.bool false, .bool false, .bool false, .bool false, .bool false, .bool false, .int .i64 (-1), .int .i64 (-1), .int .i64 (-1), .int .i64 3] 24)).heap.size = w4.heap.size + 1 by simp] at sa2
  have C := request_any _ _ [([112, 114, 97, 103, 109, 97], [78, 111, 45, 67, 97, 99, 104, 101])] 1 1 rfl (by decide) sa2
  rw [show requestF [([112, 114, 97, 103, 109, 97], [78, 111, 45, 67, 97, 99, 104, 101])] = ⟨false, true, false, false, false, false, (-1), (-1), (-1), (-1)⟩ by decide +kernel] at C
  simp only [Ctl.v, Ctl.cells] at C
  refine C.mono ?_
  rintro e w5 ⟨rfl, b2⟩
  have b := ba2.trans (b2.mono ba2.size)
  have Jb := Lib.hid (Nb.out.kept (Turn.of_below (S := fun _ => False) b) (fun h => h))
  have bb := ba.trans (b.mono ba.size)
  have B5 := Lib.hid (B4.out.trans (bb.mono B4.out.size))
  have a_5 := Lib.hid (a_4.out.kept (Turn.of_below (S := fun _ => False) bb) (fun h => h))
  clear B4 a_4
  clear b bb b2 ba ba2 sa2 Nb C
  have ba := (Below.refl w5.heap.size w5).alloc (Nat.le_refl _) (.cells #[.bool false, .bool true, .bool false, .bool false, .bool false, .bool false, .int .i64 (-1), .int .i64 (-1), .int .i64 (-1), .int .i64 (-1)] 24)
  have Nc := Lib.hid (Is.made w5 24 [.bool false, .bool true, .bool false, .bool false, .bool false, .bool false, .int .i64 (-1), .int .i64 (-1), .int .i64 (-1), .int .i64 (-1)])
  go_wp2_with fail
  refine (cc_any ⟨#[]⟩ (w5.alloc (.cells #[.bool false, .bool true, .bool false, .bool false, .bool false, .bool false, .int .i64 (-1), .int .i64 (-1), .int .i64 (-1), .int .i64 (-1)] 24))).mono ?_
  rintro e w6 ⟨gs6, rfl, ss, b⟩
  have Jc := Lib.hid (Nc.out.kept (Turn.of_below (S := fun _ => False) b) (fun h => h))
  have bb := ba.trans (b.mono ba.size)
  have S6 := Lib.hid ss
  have B6 := Lib.hid (B5.out.trans (bb.mono B5.out.size))
  have a_6 := Lib.hid (a_5.out.kept (Turn.of_below (S := fun _ => False) bb) (fun h => h))
  have b_6 := Lib.hid (Jb.out.kept (Turn.of_below (S := fun _ => False) bb) (fun h => h))
  clear B5 a_5 Jb
  clear b bb ba Nc ss
  obtain ⟨v', w', o', hrun, own', ho', bq⟩ := run_full_fld w6 ⟨gs6, 0, none⟩ [([67, 97, 99, 104, 101, 45, 67, 111, 110, 116, 114, 111, 108], [])] 1 rfl S6.out ([80, 114, 97, 103, 109, 97], [110, 111, 45, 99, 97, 99, 104, 101]) (by decide)
  have HR := Lib.hid hrun
  obtain ⟨A4, c4, hv4, src4⟩ := own'.src (fun _ => True) (fun _ _ => trivial)
  subst hv4
  clear hrun own' ho'
  clear S6
  go_wp2_with (at_builtin; refine append_by rfl (.tmp 13) (.tmp 15) 22 rfl _ _ _ w' rfl rfl HR.out ?_)
  have B7 := Lib.hid (B6.out.trans (bq.mono B6.out.size))
  have a_7 := Lib.hid (a_6.out.kept (Turn.of_below (S := fun _ => False) bq) (fun h => h))
  have b_7 := Lib.hid (b_6.out.kept (Turn.of_below (S := fun _ => False) bq) (fun h => h))
  have c_7 := Lib.hid (Jc.out.kept (Turn.of_below (S := fun _ => False) bq) (fun h => h))
  clear B6 a_6 b_6 Jc
  clear bq
  have C := request_any w' A4 [([67, 97, 99, 104, 101, 45, 67, 111, 110, 116, 114, 111, 108], []), ([80, 114, 97, 103, 109, 97], [110, 111, 45, 99, 97, 99, 104, 101])] 2 c4 rfl (by decide) src4
  rw [show requestF [([67, 97, 99, 104, 101, 45, 67, 111, 110, 116, 114, 111, 108], []), ([80, 114, 97, 103, 109, 97], [110, 111, 45, 99, 97, 99, 104, 101])] = ⟨false, false, false, false, false, false, (-1), (-1), (-1), (-1)⟩ by decide +kernel] at C
  simp only [Ctl.v, Ctl.cells] at C
  refine (C).mono ?_
  rintro e w8 ⟨rfl, b⟩
  have bb := b
  have B8 := Lib.hid (B7.out.trans (bb.mono B7.out.size))
  have a_8 := Lib.hid (a_7.out.kept (Turn.of_below (S := fun _ => False) bb) (fun h => h))
  have b_8 := Lib.hid (b_7.out.kept (Turn.of_below (S := fun _ => False) bb) (fun h => h))
  have c_8 := Lib.hid (c_7.out.kept (Turn.of_below (S := fun _ => False) bb) (fun h => h))
  clear B7 a_7 b_7 c_7
  clear b bb C
  clear src4 HR
  have ba := (Below.refl w8.heap.size w8).alloc (Nat.le_refl _) (.cells #[.bool false, .bool false, .bool false, .bool false, .bool false, .bool false, .int .i64 (-1), .int .i64 (-1), .int .i64 (-1), .int .i64 (-1)] 24)
  have Nd := Lib.hid (Is.made w8 24 [.bool false, .bool false, .bool false, .bool false, .bool false, .bool false, .int .i64 (-1), .int .i64 (-1), .int .i64 (-1), .int .i64 (-1)])
  go_wp2_with fail
  refine (cc_any ⟨#[112, 114, 105, 118, 97, 116, 101, 61, 34, 97, 44, 32, 98, 34, 44, 32, 115, 45, 109, 97, 120, 97, 103, 101, 61, 34, 49, 48, 34, 44, 32, 109, 97, 120, 45, 97, 103, 101, 61, 57, 57, 57, 57, 57, 57, 57, 57, 57, 57, 57]⟩ (w8.alloc (.cells #[.bool false, .bool false, .bool false, .bool false, .bool false, .bool false, .int .i64 (-1), .int .i64 (-1), .int .i64 (-1), .int .i64 (-1)] 24))).mono ?_
  rintro e w9 ⟨gs9, rfl, ss, b⟩
  have Jd := Lib.hid (Nd.out.kept (Turn.of_below (S := fun _ => False) b) (fun h => h))
  have bb := ba.trans (b.mono ba.size)
  have S9 := Lib.hid ss
  have B9 := Lib.hid (B8.out.trans (bb.mono B8.out.size))
  have a_9 := Lib.hid (a_8.out.kept (Turn.of_below (S := fun _ => False) bb) (fun h => h))
  have b_9 := Lib.hid (b_8.out.kept (Turn.of_below (S := fun _ => False) bb) (fun h => h))
  have c_9 := Lib.hid (c_8.out.kept (Turn.of_below (S := fun _ => False) bb) (fun h => h))
  clear B8 a_8 b_8 c_8
  clear b bb ba Nd ss
  go_wp2_with fail
  have C := response_any w9 (some ⟨gs9, 0, none⟩) [([67, 97, 99, 104, 101, 45, 67, 111, 110, 116, 114, 111, 108], [112, 114, 105, 118, 97, 116, 101, 61, 34, 97, 44, 32, 98, 34, 44, 32, 115, 45, 109, 97, 120, 97, 103, 101, 61, 34, 49, 48, 34, 44, 32, 109, 97, 120, 45, 97, 103, 101, 61, 57, 57, 57, 57, 57, 57, 57, 57, 57, 57, 57])] 1 1 rfl (by decide) S9.out
  rw [show responseF [([67, 97, 99, 104, 101, 45, 67, 111, 110, 116, 114, 111, 108], [112, 114, 105, 118, 97, 116, 101, 61, 34, 97, 44, 32, 98, 34, 44, 32, 115, 45, 109, 97, 120, 97, 103, 101, 61, 34, 49, 48, 34, 44, 32, 109, 97, 120, 45, 97, 103, 101, 61, 57, 57, 57, 57, 57, 57, 57, 57, 57, 57, 57])] = ⟨false, false, true, false, false, false, 2147483647, 10, (-1), (-1)⟩ by decide +kernel] at C
  simp only [Ctl.v, Ctl.cells] at C
  refine (C).mono ?_
  rintro e w10 ⟨rfl, b⟩
  have bb := b
  have B10 := Lib.hid (B9.out.trans (bb.mono B9.out.size))
  have a_10 := Lib.hid (a_9.out.kept (Turn.of_below (S := fun _ => False) bb) (fun h => h))
  have b_10 := Lib.hid (b_9.out.kept (Turn.of_below (S := fun _ => False) bb) (fun h => h))
  have c_10 := Lib.hid (c_9.out.kept (Turn.of_below (S := fun _ => False) bb) (fun h => h))
  have d_10 := Lib.hid (Jd.out.kept (Turn.of_below (S := fun _ => False) bb) (fun h => h))
  have L_10 := Lib.hid (S9.out.below bb)
  clear B9 a_9 b_9 c_9 Jd S9
  clear b bb C
  clear L_10
  have ba := (Below.refl w10.heap.size w10).alloc (Nat.le_refl _) (.cells #[.bool false, .bool false, .bool true, .bool false, .bool false, .bool false, .int .i64 2147483647, .int .i64 10, .int .i64 (-1), .int .i64 (-1)] 24)
  have Ne := Lib.hid (Is.made w10 24 [.bool false, .bool false, .bool true, .bool false, .bool false, .bool false, .int .i64 2147483647, .int .i64 10, .int .i64 (-1), .int .i64 (-1)])
  go_upto_region 6 with fail
  obtain ⟨w11, hw⟩ : ∃ x, (w10.alloc (.cells #[.bool false, .bool false, .bool true, .bool false, .bool false, .bool false, .int .i64 2147483647, .int .i64 10, .int .i64 (-1), .int .i64 (-1)] 24)) = x := ⟨_, rfl⟩
  rw [hw] at ba Ne ⊢
  clear hw
  have B11 := Lib.hid (B10.out.trans (ba.mono B10.out.size))
  have a_11 := Lib.hid (a_10.out.kept (Turn.of_below (S := fun _ => False) ba) (fun h => h))
  have b_11 := Lib.hid (b_10.out.kept (Turn.of_below (S := fun _ => False) ba) (fun h => h))
  have c_11 := Lib.hid (c_10.out.kept (Turn.of_below (S := fun _ => False) ba) (fun h => h))
  have d_11 := Lib.hid (d_10.out.kept (Turn.of_below (S := fun _ => False) ba) (fun h => h))
  clear B10 a_10 b_10 c_10 d_10
  clear ba
  have ya0 : w11.cell? ⟨w2.heap.size, 0, none⟩ = some (.bool false) := a_11.out.cell 0
  have ya1 : w11.cell? ⟨w2.heap.size, 1, none⟩ = some (.bool true) := a_11.out.cell 1
  have ya2 : w11.cell? ⟨w2.heap.size, 2, none⟩ = some (.bool false) := a_11.out.cell 2
  have ya3 : w11.cell? ⟨w2.heap.size, 3, none⟩ = some (.bool false) := a_11.out.cell 3
  have ya4 : w11.cell? ⟨w2.heap.size, 4, none⟩ = some (.bool false) := a_11.out.cell 4
  have ya5 : w11.cell? ⟨w2.heap.size, 5, none⟩ = some (.bool false) := a_11.out.cell 5
  have ya6 : w11.cell? ⟨w2.heap.size, 6, none⟩ = some (.int .i64 5) := a_11.out.cell 6
  have ya7 : w11.cell? ⟨w2.heap.size, 7, none⟩ = some (.int .i64 (-1)) := a_11.out.cell 7
  have ya8 : w11.cell? ⟨w2.heap.size, 8, none⟩ = some (.int .i64 (-1)) := a_11.out.cell 8
  have ya9 : w11.cell? ⟨w2.heap.size, 9, none⟩ = some (.int .i64 (-1)) := a_11.out.cell 9
  have yb9 : w11.cell? ⟨w4.heap.size, 9, none⟩ = some (.int .i64 3) := b_11.out.cell 9
  have hgd := ctlGuard
  have hq1 : ∀ W : World, (binOp .eql 24 (.agg #[.bool false, .bool true, .bool false, .bool false, .bool false, .bool false, .int .i64 5, .int .i64 (-1), .int .i64 (-1), .int .i64 (-1)]) (.agg #[.bool false, .bool true, .bool false, .bool false, .bool false, .bool false, .int .i64 5, .int .i64 (-1), .int .i64 (-1), .int .i64 (-1)])).run Tryd.prog W = .ok (.bool true) W := fun W => run_eql_ctl ⟨false, true, false, false, false, false, 5, (-1), (-1), (-1)⟩ ⟨false, true, false, false, false, false, 5, (-1), (-1), (-1)⟩ W
  go_wp2_with fail
  clear ya0 ya1 ya2 ya3 ya4 ya5 ya6 ya7 ya8 ya9 yb9 hq1
  refine (cc_any ⟨#[109, 97, 120, 45, 115, 116, 97, 108, 101]⟩ w11).mono ?_
  rintro e w12 ⟨gs12, rfl, ss, b⟩
  have bb := b
  have S12 := Lib.hid ss
  have B12 := Lib.hid (B11.out.trans (bb.mono B11.out.size))
  have a_12 := Lib.hid (a_11.out.kept (Turn.of_below (S := fun _ => False) bb) (fun h => h))
  have b_12 := Lib.hid (b_11.out.kept (Turn.of_below (S := fun _ => False) bb) (fun h => h))
  have c_12 := Lib.hid (c_11.out.kept (Turn.of_below (S := fun _ => False) bb) (fun h => h))
  have d_12 := Lib.hid (d_11.out.kept (Turn.of_below (S := fun _ => False) bb) (fun h => h))
  have e_12 := Lib.hid (Ne.out.kept (Turn.of_below (S := fun _ => False) bb) (fun h => h))
  clear B11 a_11 b_11 c_11 d_11 Ne
  clear b bb ss
  go_wp2_with fail
  have C := request_any w12 (some ⟨gs12, 0, none⟩) [([67, 97, 99, 104, 101, 45, 67, 111, 110, 116, 114, 111, 108], [109, 97, 120, 45, 115, 116, 97, 108, 101])] 1 1 rfl (by decide) S12.out
  rw [show requestF [([67, 97, 99, 104, 101, 45, 67, 111, 110, 116, 114, 111, 108], [109, 97, 120, 45, 115, 116, 97, 108, 101])] = ⟨false, false, false, false, false, false, (-1), (-1), (-1), 2147483647⟩ by decide +kernel] at C
  simp only [Ctl.v, Ctl.cells] at C
  refine (C).mono ?_
  rintro e w13 ⟨rfl, b⟩
  have bb := b
  have B13 := Lib.hid (B12.out.trans (bb.mono B12.out.size))
  have a_13 := Lib.hid (a_12.out.kept (Turn.of_below (S := fun _ => False) bb) (fun h => h))
  have b_13 := Lib.hid (b_12.out.kept (Turn.of_below (S := fun _ => False) bb) (fun h => h))
  have c_13 := Lib.hid (c_12.out.kept (Turn.of_below (S := fun _ => False) bb) (fun h => h))
  have d_13 := Lib.hid (d_12.out.kept (Turn.of_below (S := fun _ => False) bb) (fun h => h))
  have e_13 := Lib.hid (e_12.out.kept (Turn.of_below (S := fun _ => False) bb) (fun h => h))
  have L_13 := Lib.hid (S12.out.below bb)
  clear B12 a_12 b_12 c_12 d_12 e_12 S12
  clear b bb C
  clear L_13
  have hf1 : ∀ W : World, (Instr.field 24 (.agg #[.bool false, .bool false, .bool false, .bool false, .bool false, .bool false, .int .i64 (-1), .int .i64 (-1), .int .i64 (-1), .int .i64 2147483647]) 9).run Tryd.prog W = .ok (.int .i64 2147483647) W := fun W => field_ms ⟨false, false, false, false, false, false, (-1), (-1), (-1), 2147483647⟩ W
  go_wp2_with fail
  clear hf1
  refine (cc_any ⟨#[109, 105, 110, 45, 102, 114, 101, 115, 104, 61, 120]⟩ w13).mono ?_
  rintro e w14 ⟨gs14, rfl, ss, b⟩
  have bb := b
  have S14 := Lib.hid ss
  have B14 := Lib.hid (B13.out.trans (bb.mono B13.out.size))
  have a_14 := Lib.hid (a_13.out.kept (Turn.of_below (S := fun _ => False) bb) (fun h => h))
  have b_14 := Lib.hid (b_13.out.kept (Turn.of_below (S := fun _ => False) bb) (fun h => h))
  have c_14 := Lib.hid (c_13.out.kept (Turn.of_below (S := fun _ => False) bb) (fun h => h))
  have d_14 := Lib.hid (d_13.out.kept (Turn.of_below (S := fun _ => False) bb) (fun h => h))
  have e_14 := Lib.hid (e_13.out.kept (Turn.of_below (S := fun _ => False) bb) (fun h => h))
  clear B13 a_13 b_13 c_13 d_13 e_13
  clear b bb ss
  go_wp2_with fail
  have C := request_any w14 (some ⟨gs14, 0, none⟩) [([67, 97, 99, 104, 101, 45, 67, 111, 110, 116, 114, 111, 108], [109, 105, 110, 45, 102, 114, 101, 115, 104, 61, 120])] 1 1 rfl (by decide) S14.out
  rw [show requestF [([67, 97, 99, 104, 101, 45, 67, 111, 110, 116, 114, 111, 108], [109, 105, 110, 45, 102, 114, 101, 115, 104, 61, 120])] = ⟨false, false, false, false, false, false, (-1), (-1), 0, (-1)⟩ by decide +kernel] at C
  simp only [Ctl.v, Ctl.cells] at C
  refine (C).mono ?_
  rintro e w15 ⟨rfl, b⟩
  have bb := b
  have B15 := Lib.hid (B14.out.trans (bb.mono B14.out.size))
  have a_15 := Lib.hid (a_14.out.kept (Turn.of_below (S := fun _ => False) bb) (fun h => h))
  have b_15 := Lib.hid (b_14.out.kept (Turn.of_below (S := fun _ => False) bb) (fun h => h))
  have c_15 := Lib.hid (c_14.out.kept (Turn.of_below (S := fun _ => False) bb) (fun h => h))
  have d_15 := Lib.hid (d_14.out.kept (Turn.of_below (S := fun _ => False) bb) (fun h => h))
  have e_15 := Lib.hid (e_14.out.kept (Turn.of_below (S := fun _ => False) bb) (fun h => h))
  have L_15 := Lib.hid (S14.out.below bb)
  clear B14 a_14 b_14 c_14 d_14 e_14 S14
  clear b bb C
  clear L_15
  have hf2 : ∀ W : World, (Instr.field 24 (.agg #[.bool false, .bool false, .bool false, .bool false, .bool false, .bool false, .int .i64 (-1), .int .i64 (-1), .int .i64 0, .int .i64 (-1)]) 8).run Tryd.prog W = .ok (.int .i64 0) W := fun W => field_mf ⟨false, false, false, false, false, false, (-1), (-1), 0, (-1)⟩ W
  have yc1 : w15.cell? ⟨w5.heap.size, 1, none⟩ = some (.bool true) := c_15.out.cell 1
  have yd1 : w15.cell? ⟨w8.heap.size, 1, none⟩ = some (.bool false) := d_15.out.cell 1
  have ye0 : w15.cell? ⟨w10.heap.size, 0, none⟩ = some (.bool false) := e_15.out.cell 0
  have ye1 : w15.cell? ⟨w10.heap.size, 1, none⟩ = some (.bool false) := e_15.out.cell 1
  have ye2 : w15.cell? ⟨w10.heap.size, 2, none⟩ = some (.bool true) := e_15.out.cell 2
  have ye3 : w15.cell? ⟨w10.heap.size, 3, none⟩ = some (.bool false) := e_15.out.cell 3
  have ye4 : w15.cell? ⟨w10.heap.size, 4, none⟩ = some (.bool false) := e_15.out.cell 4
  have ye5 : w15.cell? ⟨w10.heap.size, 5, none⟩ = some (.bool false) := e_15.out.cell 5
  have ye6 : w15.cell? ⟨w10.heap.size, 6, none⟩ = some (.int .i64 2147483647) := e_15.out.cell 6
  have ye7 : w15.cell? ⟨w10.heap.size, 7, none⟩ = some (.int .i64 10) := e_15.out.cell 7
  have ye8 : w15.cell? ⟨w10.heap.size, 8, none⟩ = some (.int .i64 (-1)) := e_15.out.cell 8
  have ye9 : w15.cell? ⟨w10.heap.size, 9, none⟩ = some (.int .i64 (-1)) := e_15.out.cell 9
  have hq2 : ∀ W : World, (binOp .eql 24 (.agg #[.bool false, .bool false, .bool true, .bool false, .bool false, .bool false, .int .i64 2147483647, .int .i64 10, .int .i64 (-1), .int .i64 (-1)]) (.agg #[.bool false, .bool false, .bool true, .bool false, .bool false, .bool false, .int .i64 2147483647, .int .i64 10, .int .i64 (-1), .int .i64 (-1)])).run Tryd.prog W = .ok (.bool true) W := fun W => run_eql_ctl ⟨false, false, true, false, false, false, 2147483647, 10, (-1), (-1)⟩ ⟨false, false, true, false, false, false, 2147483647, 10, (-1), (-1)⟩ W
  go_wp2_with fail
  go_ret
  exact ⟨rfl, B15.out⟩
end Go.Proofs.YtkccmjeabkfmdaaDoor.Con
