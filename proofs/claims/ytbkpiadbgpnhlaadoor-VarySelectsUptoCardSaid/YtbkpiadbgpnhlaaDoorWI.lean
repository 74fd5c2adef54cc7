/-
  Words for lists that are laid down; the law's rows.
  Conditions: those that each theorem names.
-/
import Derived.Test.YtbkpiadbgpnhlaaDoorWH
import Derived.Test.YtbkpiadbgpnhlaaDoorWE
import Derived.Test.YtbkpiadbgpnhlaaDoorWF
import Derived.Test.YtbkpiadbgpnhlaaDoorLW
namespace Go.Proofs.YtbkpiadbgpnhlaaDoor.Var
open Go.RowKit Go.Maps Hop

/-- An append whose run is known, at its place in a walk, where it is guarded and wanted. -/
theorem append_by_g {P : Program} {w : World} {ops : Array Oper} {rest : List Oper} {o : Oper} {a : Act} {Q : Exit → Act → World → Prop} (hw : Region.wanted o (yielded ops a.tmps) = true) (s x : Operand) (t : TypeId)
    (ho : o.op = .call { callee := .builtin .append, args := #[s, x], argTypes := #[t, t] }) (v xv v' : Value) (w' : World) (hs : a.eval s = v) (hx : a.eval x = xv)
    (hrun : (Builtin.append_ #[t, t] o.type #[v, xv]).run P w = .ok v' w') (h : wpList P ops Q rest (a.put o.dst v') w') : wpList P ops Q (o :: rest) a w := by
  refine wpList_step fun K hK => ?_
  rw [if_pos hw]
  unfold Oper.wp execOp
  simp only [ho, resolve, invoke, builtin, Sem.run_bind, Sem.run_pure, Result.andThen_ok, List.map_toArray, List.map_cons, List.map_nil, hs, hx, hrun]
  exact hK _ _ h
theorem srcf_nil (w : World) : SrcF w (fun _ => True) none [] := fun h => by simp at h
theorem srcs_nil (w : World) : SrcS w (fun _ => True) none [] := fun h => by simp at h
theorem srcf_none {P : Nat → Prop} (w : World) (A : Option Addr) : SrcF w P A [] := fun h => by simp at h
/-- A list of fields, just laid down. -/
theorem srcf_made (w : World) (ls : List Fld) : SrcF (w.alloc (.cells (flds ls).toArray 32)) (fun _ => True) (some ⟨w.heap.size, 0, none⟩) ls := fun _ => by
  have hi : Is (w.alloc (.cells (flds ls).toArray 32)) w.heap.size 32 (flds ls) := Is.made w 32 (flds ls)
  refine ⟨_, rfl, trivial, by simp, fun i f hf => ?_⟩
  obtain ⟨h1, h2⟩ := flds_get ls i f hf
  refine ⟨?_, ?_⟩
  · rw [add_at, Nat.zero_add, hi.cell, h1]
  · rw [add_at, Nat.zero_add, hi.cell, h2]
theorem srcs_made (w : World) (ls : List (List UInt8)) : SrcS (w.alloc (.cells (strs ls).toArray 9)) (fun _ => True) (some ⟨w.heap.size, 0, none⟩) ls := fun _ => by
  have hi : Is (w.alloc (.cells (strs ls).toArray 9)) w.heap.size 9 (strs ls) := Is.made w 9 (strs ls)
  refine ⟨_, rfl, trivial, by simp, fun i l hl => ?_⟩
  rw [add_at, Nat.zero_add, hi.cell]
  simp [strs, hl]
theorem row_ownF {w : World} {g c : Nat} {cur : List Value} {ls : List Fld} (h : Is w g 32 cur) (hn : ls.length ≤ c) (hc : c ≤ maxLen) (hl : cur.length = c * 2) (ht : cur.take (ls.length * 2) = flds ls) : OwnF w (.slice (some ⟨g, 0, none⟩) ls.length c) (some g) ls := by
  refine ⟨⟨flds_length ls, .inr ⟨g, c, cur.toArray, rfl, Nat.zero_le _, h, hn, hc, by simpa using hl, by simpa using ht⟩⟩, rfl⟩
theorem run_eql_fld (a b c d : ByteArray) (W : World) : (binOp .eql 32 (.agg #[.string a, .string b]) (.agg #[.string c, .string d])).run Tryd.prog W = .ok (.bool (a.toList == c.toList && b.toList == d.toList)) W := by
  obtain ⟨f0, f1, hl, n0, n1, t0, t1, o0, o1⟩ := fldFields
  rw [run_eql_struct, run_equalIn_agg W 9999 _ _ _ fldStruct fldHeld, hl]
  simp only [Op.eqFields, n0, n1, ne_eq, not_false_eq_true, if_true, t0, t1, o0, o1, Sem.run_bind, Sem.run_ite, Sem.run_pure]
  rw [part_str _ 0 a rfl, Result.andThen_ok, part_str _ 0 c rfl, Result.andThen_ok, run_equalIn_string W 9998 _ a c Tryd.underlying9, Result.andThen_ok]
  cases hac : (a.toList == c.toList)
  · simp [Result.andThen]
  · rw [part_str _ 1 b rfl, Result.andThen_ok, part_str _ 1 d rfl, Result.andThen_ok, run_equalIn_string W 9998 _ b d Tryd.underlying9, Result.andThen_ok]
    cases hbd : (b.toList == d.toList) <;> simp [Result.andThen]
set_option maxHeartbeats 16000000 in
set_option maxRecDepth 100000 in
theorem wakes_any (w0 : World) : Calls Tryd.prog 13 #[] w0 fun e w' => e = .returned (.bool true) ∧ Below w0.heap.size w0 w' := by
  go_enter Tryd.func13, Tryd.ntmps13
  have B0 : Hid (Below w0.heap.size w0 w0) := Lib.hid (Below.refl _ _)
  go_wp2_with fail
  have bb := (Below.refl w0.heap.size w0).alloc (Nat.le_refl _) (.cells #[.string ⟨#[86, 97, 114, 121]⟩, .string ⟨#[65, 99, 99, 101, 112, 116, 44, 32, 97, 99, 99, 101, 112, 116, 45, 76, 65, 78, 71, 85, 65, 71, 69]⟩, .string ⟨#[118, 97, 114, 121]⟩, .string ⟨#[97, 99, 99, 101, 112, 116, 44, 32, 42]⟩] 32)
  have S1 : Hid (SrcF (w0.alloc (.cells #[.string ⟨#[86, 97, 114, 121]⟩, .string ⟨#[65, 99, 99, 101, 112, 116, 44, 32, 97, 99, 99, 101, 112, 116, 45, 76, 65, 78, 71, 85, 65, 71, 69]⟩, .string ⟨#[118, 97, 114, 121]⟩, .string ⟨#[97, 99, 99, 101, 112, 116, 44, 32, 42]⟩] 32)) (fun _ => True) (some ⟨w0.heap.size, 0, none⟩) [([86, 97, 114, 121], [65, 99, 99, 101, 112, 116, 44, 32, 97, 99, 99, 101, 112, 116, 45, 76, 65, 78, 71, 85, 65, 71, 69]), ([118, 97, 114, 121], [97, 99, 99, 101, 112, 116, 44, 32, 42])]) := Lib.hid (srcf_made w0 [([86, 97, 114, 121], [65, 99, 99, 101, 112, 116, 44, 32, 97, 99, 99, 101, 112, 116, 45, 76, 65, 78, 71, 85, 65, 71, 69]), ([118, 97, 114, 121], [97, 99, 99, 101, 112, 116, 44, 32, 42])])
  have C := names_any (w0.alloc (.cells #[.string ⟨#[86, 97, 114, 121]⟩, .string ⟨#[65, 99, 99, 101, 112, 116, 44, 32, 97, 99, 99, 101, 112, 116, 45, 76, 65, 78, 71, 85, 65, 71, 69]⟩, .string ⟨#[118, 97, 114, 121]⟩, .string ⟨#[97, 99, 99, 101, 112, 116, 44, 32, 42]⟩] 32)) _ [([86, 97, 114, 121], [65, 99, 99, 101, 112, 116, 44, 32, 97, 99, 99, 101, 112, 116, 45, 76, 65, 78, 71, 85, 65, 71, 69]), ([118, 97, 114, 121], [97, 99, 99, 101, 112, 116, 44, 32, 42])] 2 2 rfl (by decide) S1.out
  unfold Named at C
  rw [show starF [([86, 97, 114, 121], [65, 99, 99, 101, 112, 116, 44, 32, 97, 99, 99, 101, 112, 116, 45, 76, 65, 78, 71, 85, 65, 71, 69]), ([118, 97, 114, 121], [97, 99, 99, 101, 112, 116, 44, 32, 42])] = true by decide +kernel, show namesF [([86, 97, 114, 121], [65, 99, 99, 101, 112, 116, 44, 32, 97, 99, 99, 101, 112, 116, 45, 76, 65, 78, 71, 85, 65, 71, 69]), ([118, 97, 114, 121], [97, 99, 99, 101, 112, 116, 44, 32, 42])] = [[97, 99, 99, 101, 112, 116], [97, 99, 99, 101, 112, 116, 45, 108, 97, 110, 103, 117, 97, 103, 101]] by decide +kernel] at C
  refine C.mono ?_
  rintro e w1 ⟨v, o, rfl, own, _, b⟩
  obtain ⟨AN, cN, hv, src⟩ := own.src (fun _ => True) (fun _ _ => trivial)
  subst hv
  have N := Lib.hid src
  clear own src C
  have b2 := bb.trans (b.mono bb.size)
  have B1 := Lib.hid (B0.out.trans (b2.mono B0.out.size))
  clear B0
  clear b bb b2 S1
  go_wp2_with fail
  have bb := (Below.refl w1.heap.size w1).alloc (Nat.le_refl _) (.cells #[.string ⟨#[97, 99, 99, 101, 112, 116]⟩, .string ⟨#[120]⟩] 9)
  have s1 := srcs_made w1 [[97, 99, 99, 101, 112, 116], [120]]
  have bc := (Below.refl (w1.alloc (.cells #[.string ⟨#[97, 99, 99, 101, 112, 116]⟩, .string ⟨#[120]⟩] 9)).heap.size (w1.alloc (.cells #[.string ⟨#[97, 99, 99, 101, 112, 116]⟩, .string ⟨#[120]⟩] 9))).alloc (Nat.le_refl _) (.cells #[.string ⟨#[65, 99, 99, 101, 112, 116]⟩, .string ⟨#[97]⟩, .string ⟨#[88, 45, 89]⟩, .string ⟨#[49]⟩, .string ⟨#[65, 67, 67, 69, 80, 84]⟩, .string ⟨#[98]⟩] 32)
  have s2 := srcf_made (w1.alloc (.cells #[.string ⟨#[97, 99, 99, 101, 112, 116]⟩, .string ⟨#[120]⟩] 9)) [([65, 99, 99, 101, 112, 116], [97]), ([88, 45, 89], [49]), ([65, 67, 67, 69, 80, 84], [98])]
  have hz : (w1.alloc (.cells #[.string ⟨#[97, 99, 99, 101, 112, 116]⟩, .string ⟨#[120]⟩] 9)).heap.size = w1.heap.size + 1 := by simp
  rw [hz] at s2
  have C := select_any ((w1.alloc (.cells #[.string ⟨#[97, 99, 99, 101, 112, 116]⟩, .string ⟨#[120]⟩] 9)).alloc (.cells #[.string ⟨#[65, 99, 99, 101, 112, 116]⟩, .string ⟨#[97]⟩, .string ⟨#[88, 45, 89]⟩, .string ⟨#[49]⟩, .string ⟨#[65, 67, 67, 69, 80, 84]⟩, .string ⟨#[98]⟩] 32)) (some ⟨w1.heap.size + 1, 0, none⟩) (some ⟨w1.heap.size, 0, none⟩) [[97, 99, 99, 101, 112, 116], [120]] [([65, 99, 99, 101, 112, 116], [97]), ([88, 45, 89], [49]), ([65, 67, 67, 69, 80, 84], [98])] 2 3 2 3 rfl rfl (by decide) (by decide) (by decide) (s1.below bc) s2
  rw [show selF [[97, 99, 99, 101, 112, 116], [120]] [([65, 99, 99, 101, 112, 116], [97]), ([88, 45, 89], [49]), ([65, 67, 67, 69, 80, 84], [98])] = [([97, 99, 99, 101, 112, 116], [97, 44, 32, 98])] by decide +kernel] at C
  refine C.mono ?_
  rintro e w2 ⟨v, o, rfl, own, _, b⟩
  obtain ⟨AG, cG, hv, src⟩ := own.src (fun _ => True) (fun _ _ => trivial)
  subst hv
  have G := Lib.hid src
  clear own src C
  have b2 := (bb.trans (bc.mono bb.size)).trans (b.mono (bb.trans (bc.mono bb.size)).size)
  have B2 := Lib.hid (B1.out.trans (b2.mono B1.out.size))
  have N_2 := Lib.hid (N.out.below b2)
  clear B1 N
  clear b bb bc b2 s1 s2 hz
  have bb := (Below.refl w2.heap.size w2).alloc (Nat.le_refl _) (.cells #[.string ⟨#[97]⟩, .string ⟨#[49]⟩] 32)
  have S : Hid (SrcF (w2.alloc (.cells #[.string ⟨#[97]⟩, .string ⟨#[49]⟩] 32)) (fun _ => True) (some ⟨w2.heap.size, 0, none⟩) [([97], [49])]) := Lib.hid (srcf_made w2 [([97], [49])])
  obtain ⟨ga, hga⟩ : ∃ g, w2.heap.size = g := ⟨_, rfl⟩
  rw [hga] at S
  obtain ⟨w3, hw⟩ : ∃ x, (w2.alloc (.cells #[.string ⟨#[97]⟩, .string ⟨#[49]⟩] 32)) = x := ⟨_, rfl⟩
  rw [hw] at S bb
  have B3 := Lib.hid (B2.out.trans (bb.mono B2.out.size))
  have N_3 := Lib.hid (N_2.out.below bb)
  have G_3 := Lib.hid (G.out.below bb)
  clear B2 N_2 G
  have HGW := Lib.hid hw
  have HGA := Lib.hid hga
  go_upto_region 4 with fail
  clear hw hga bb
  obtain ⟨p0, x0, hx, hat, y0, _, _⟩ := N_3.out.at (c := cN) (k := 0) rfl (by decide) (Below.refl _ _)
  obtain rfl : x0 = [97, 99, 99, 101, 112, 116] := (Option.some.inj hx).symm
  have a0 : ∀ Wx, (Instr.indexAt 23 (.slice AN 2 cN) (.int .i64 0)).run Tryd.prog Wx = .ok (.pointer (some p0)) Wx := hat
  clear hx hat
  obtain ⟨p1, x1, hx, hat, y1, _, _⟩ := N_3.out.at (c := cN) (k := 1) rfl (by decide) (Below.refl _ _)
  obtain rfl : x1 = [97, 99, 99, 101, 112, 116, 45, 108, 97, 110, 103, 117, 97, 103, 101] := (Option.some.inj hx).symm
  have a1 : ∀ Wx, (Instr.indexAt 23 (.slice AN 2 cN) (.int .i64 1)).run Tryd.prog Wx = .ok (.pointer (some p1)) Wx := hat
  clear hx hat
  obtain ⟨p2, x2, hx, hat, y2, z2, _, _⟩ := G_3.out.at (c := cG) (k := 0) rfl (by decide) (Below.refl _ _)
  obtain rfl : x2 = ([97, 99, 99, 101, 112, 116], [97, 44, 32, 98]) := (Option.some.inj hx).symm
  simp only at y2 z2
  have a2 : ∀ Wx, (Instr.indexAt 22 (.slice AG 1 cG) (.int .i64 0)).run Tryd.prog Wx = .ok (.pointer (some p2)) Wx := hat
  clear hx hat
  have hg := fldGuard
  have hq := run_eql_fld ⟨#[97, 99, 99, 101, 112, 116]⟩ ⟨#[97, 44, 32, 98]⟩ ⟨#[97, 99, 99, 101, 112, 116]⟩ ⟨#[97, 44, 32, 98]⟩
  rw [show ((⟨#[97, 99, 99, 101, 112, 116]⟩ : ByteArray).toList == (⟨#[97, 99, 99, 101, 112, 116]⟩ : ByteArray).toList && (⟨#[97, 44, 32, 98]⟩ : ByteArray).toList == (⟨#[97, 44, 32, 98]⟩ : ByteArray).toList) = true by decide +kernel] at hq
  go_wp2_with fail
  have C := vsame_any w3 (some ⟨ga, 0, none⟩) (some ⟨ga, 0, none⟩) [([97], [49])] [([97], [49])] 1 1 1 1 rfl rfl (by decide) S.out S.out
  rw [show (([([97], [49])] : List Fld) == [([97], [49])]) = true by decide] at C
  clear N_3
  clear G_3
  refine (C).mono ?_
  rintro e w4 ⟨rfl, b⟩
  clear C y0 y1 y2 z2 a0 a1 a2 hq hg
  have B4 := Lib.hid (B3.out.trans (b.mono B3.out.size))
  have S_4 := Lib.hid (S.out.below b)
  clear B3 S
  clear b
  go_wp2_with fail
  have C := vsame_any w4 (some ⟨ga, 0, none⟩) none [([97], [49])] [] 1 0 1 0 rfl rfl (by decide) S_4.out (srcf_nil _)
  rw [show (([([97], [49])] : List Fld) == []) = false by decide] at C
  clear S_4
  refine (C).mono ?_
  rintro e w5 ⟨rfl, b⟩
  clear C
  have B5 := Lib.hid (B4.out.trans (b.mono B4.out.size))
  clear B4
  clear b
  go_wp2_with fail
  have bb := (Below.refl w5.heap.size w5).alloc (Nat.le_refl _) (.cells #[.string ⟨#[97]⟩, .string ⟨#[]⟩] 32)
  have S4 : Hid (SrcF (w5.alloc (.cells #[.string ⟨#[97]⟩, .string ⟨#[]⟩] 32)) (fun _ => True) (some ⟨w5.heap.size, 0, none⟩) [([97], [])]) := Lib.hid (srcf_made w5 [([97], [])])
  have C := vsame_any (w5.alloc (.cells #[.string ⟨#[97]⟩, .string ⟨#[]⟩] 32)) _ none [([97], [])] [] 1 0 1 0 rfl rfl (by decide) S4.out (srcf_nil _)
  rw [show (([([97], [])] : List Fld) == []) = false by decide] at C
  refine (C).mono ?_
  rintro e w6 ⟨rfl, b⟩
  have b2 := bb.trans (b.mono bb.size)
  have B6 := Lib.hid (B5.out.trans (b2.mono B5.out.size))
  clear B5
  clear b bb b2 S4 C
  go_wp2_with fail
  go_ret
  exact ⟨rfl, B6.out⟩
end Go.Proofs.YtbkpiadbgpnhlaaDoor.Var
