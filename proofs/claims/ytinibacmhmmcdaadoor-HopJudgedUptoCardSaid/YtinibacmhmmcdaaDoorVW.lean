/-
  The law's rows.
  Conditions: none.
-/
import Derived.Test.YtinibacmhmmcdaaDoorVM
import Derived.ArgAppend
namespace Go.Proofs.YtinibacmhmmcdaaDoor.Hop
open Go.RowKit

/-- An append whose run is known, at its place in a walk, where it is guarded and wanted. -/
theorem append_by_g {P : Program} {w : World} {ops : Array Oper} {rest : List Oper} {o : Oper} {a : Act} {Q : Exit → Act → World → Prop} (hw : Region.wanted o (yielded ops a.tmps) = true) (s x : Operand) (t : TypeId)
    (ho : o.op = .call { callee := .builtin .append, args := #[s, x], argTypes := #[t, t] }) (v xv v' : Value) (w' : World) (hs : a.eval s = v) (hx : a.eval x = xv)
    (hrun : (Builtin.append_ #[t, t] o.type #[v, xv]).run P w = .ok v' w') (h : wpList P ops Q rest (a.put o.dst v') w') : wpList P ops Q (o :: rest) a w := by
  refine wpList_step fun K hK => ?_
  rw [if_pos hw]
  unfold Oper.wp execOp
  simp only [ho, resolve, invoke, builtin, Sem.run_bind, Sem.run_pure, Result.andThen_ok, List.map_toArray, List.map_cons, List.map_nil, hs, hx, hrun]
  exact hK _ _ h
theorem srcf_nil (w : World) : SrcF w (fun _ => True) none [] := fun h => by simp at h
/-- A list of fields, just laid down. -/
theorem srcf_made (w : World) (ls : List Fld) : SrcF (w.alloc (.cells (flds ls).toArray 32)) (fun _ => True) (some ⟨w.heap.size, 0, none⟩) ls := fun _ => by
  have hi : Is (w.alloc (.cells (flds ls).toArray 32)) w.heap.size 32 (flds ls) := Is.made w 32 (flds ls)
  refine ⟨_, rfl, trivial, by simp, fun i f hf => ?_⟩
  obtain ⟨h1, h2⟩ := flds_get ls i f hf
  refine ⟨?_, ?_⟩
  · rw [add_at, Nat.zero_add, hi.cell, h1]
  · rw [add_at, Nat.zero_add, hi.cell, h2]
set_option maxRecDepth 100000 in
/-- append(v, x), v as long as its row. -/
theorem run_full_fld {P : Nat → Prop} (w : World) (a : Addr) (ls : List Fld) (n : Nat) (hn : ls.length = n) (hs : SrcF w P (some a) ls) (x : Fld) (hlen : (ls.length + 1) * 32 ≤ 140737488355328) :
    ∃ (v' : Value) (w' : World) (o' : Option Nat), (Builtin.append_ #[22, 22] 22 #[.slice (some a) n n, .slice (some ⟨w.heap.size, 0, none⟩) 1 1]).run Tryd.prog (w.alloc (.cells #[.string ⟨x.1.toArray⟩, .string ⟨x.2.toArray⟩] 32)) = .ok v' w' ∧ OwnF w' v' o' (ls ++ [x]) ∧
      (∀ k, o' = some k → w.heap.size ≤ k) ∧ Below w.heap.size w w' := by
  subst hn
  obtain ⟨i, hi, hz, hsz, hby⟩ := fldParts
  have b0 := (Below.refl w.heap.size w).alloc (Nat.le_refl _) (.cells #[.string ⟨x.1.toArray⟩, .string ⟨x.2.toArray⟩] 32)
  have hI : Is (w.alloc (.cells #[.string ⟨x.1.toArray⟩, .string ⟨x.2.toArray⟩] 32)) w.heap.size 32 [strV x.1, strV x.2] := Is.made w 32 [strV x.1, strV x.2]
  have hcells : ∀ j u, (flds ls)[j]? = some u → (w.alloc (.cells #[.string ⟨x.1.toArray⟩, .string ⟨x.2.toArray⟩] 32)).cell? (a.add j) = some u := by
    intro j u hu
    have hj : j < ls.length * 2 := by
      have := (List.getElem?_eq_some_iff.1 hu).1
      rwa [flds_length] at this
    obtain ⟨ad, hA, _, hlt, hc⟩ := hs (by omega)
    injection hA with hA
    subst hA
    have hb : (a.add j).block < w.heap.size := by unfold Addr.add; split <;> exact hlt
    rw [b0.cell hb]
    obtain ⟨f, hf⟩ : ∃ f, ls[j / 2]? = some f := ⟨ls[j / 2]'(by omega), List.getElem?_eq_getElem _⟩
    obtain ⟨c0, c1⟩ := hc (j / 2) f hf
    obtain ⟨g0, g1⟩ := flds_get ls (j / 2) f hf
    rcases Nat.mod_two_eq_zero_or_one j with h0 | h0
    · have e : j / 2 * 2 = j := by omega
      rw [e] at c0 g0
      rw [g0] at hu
      rw [c0, ← hu]
    · have e : j / 2 * 2 + 1 = j := by omega
      rw [e] at c1 g1
      rw [g1] at hu
      rw [c1, ← hu]
  obtain ⟨v', w', hrun, hown, hg⟩ := run_append_arg_grows (P := Tryd.prog) (w := w.alloc (.cells #[.string ⟨x.1.toArray⟩, .string ⟨x.2.toArray⟩] 32)) 22 22 32 i (.agg #[.string ⟨#[]⟩, .string ⟨#[]⟩]) 2 32 Tryd.underlying22 hi hz hsz hby rfl (by omega) a ls.length ls.length (flds ls) (flds_length ls) hcells ⟨w.heap.size, 0, none⟩ 1 1 [strV x.1, strV x.2] rfl
    (fun j u hu => by rw [add_at, Nat.zero_add, hI.cell]; exact hu) (by omega) (by unfold maxLen; omega) (by omega)
  have hlow := hown.lt
  refine ⟨v', w', v'.ownBlock, hrun, ⟨?_, rfl⟩, fun k hk => ?_, b0.trans (((Turn.of_grown (S := fun _ => False) hg (fun k hk => by cases hk)).below (fun _ _ h => h)).mono b0.size)⟩
  · rw [List.length_append, flds_append]
    exact ⟨hown.1, hown.2.imp id fun ⟨g, cap, cur, hv, _, r⟩ => ⟨g, cap, cur, hv, Nat.zero_le _, r⟩⟩
  · have := (hlow k hk).1
    simp at this
    omega
set_option maxHeartbeats 16000000 in
set_option maxRecDepth 100000 in
theorem wakes_any (w0 : World) : Calls Tryd.prog 22 #[] w0 fun e w' => e = .returned (.bool true) ∧ Below w0.heap.size w0 w' := by
  go_enter Tryd.func22, Tryd.ntmps22
  have B0 : Hid (Below w0.heap.size w0 w0) := Lib.hid (Below.refl _ _)
  go_wp2_with fail
  have ba1 := (Below.refl w0.heap.size w0).alloc (Nat.le_refl _) (.cells #[.string ⟨#[72, 111, 115, 116]⟩, .string ⟨#[97]⟩, .string ⟨#[67, 111, 110, 110, 101, 99, 116, 105, 111, 110]⟩, .string ⟨#[120, 44, 32, 99, 108, 111, 115, 101, 44, 32, 72, 111, 115, 116]⟩, .string ⟨#[88]⟩, .string ⟨#[49]⟩, .string ⟨#[84, 69]⟩, .string ⟨#[116]⟩, .string ⟨#[89]⟩, .string ⟨#[50]⟩] 32)
  have sa1 : SrcF (w0.alloc (.cells #[.string ⟨#[72, 111, 115, 116]⟩, .string ⟨#[97]⟩, .string ⟨#[67, 111, 110, 110, 101, 99, 116, 105, 111, 110]⟩, .string ⟨#[120, 44, 32, 99, 108, 111, 115, 101, 44, 32, 72, 111, 115, 116]⟩, .string ⟨#[88]⟩, .string ⟨#[49]⟩, .string ⟨#[84, 69]⟩, .string ⟨#[116]⟩, .string ⟨#[89]⟩, .string ⟨#[50]⟩] 32)) (fun _ => True) (some ⟨w0.heap.size, 0, none⟩) [([72, 111, 115, 116], [97]), ([67, 111, 110, 110, 101, 99, 116, 105, 111, 110], [120, 44, 32, 99, 108, 111, 115, 101, 44, 32, 72, 111, 115, 116]), ([88], [49]), ([84, 69], [116]), ([89], [50])] := srcf_made w0 [([72, 111, 115, 116], [97]), ([67, 111, 110, 110, 101, 99, 116, 105, 111, 110], [120, 44, 32, 99, 108, 111, 115, 101, 44, 32, 72, 111, 115, 116]), ([88], [49]), ([84, 69], [116]), ([89], [50])]
  have C1 := strip_any _ _ [([72, 111, 115, 116], [97]), ([67, 111, 110, 110, 101, 99, 116, 105, 111, 110], [120, 44, 32, 99, 108, 111, 115, 101, 44, 32, 72, 111, 115, 116]), ([88], [49]), ([84, 69], [116]), ([89], [50])] 5 5 rfl (by decide) sa1
  rw [show stripF [([72, 111, 115, 116], [97]), ([67, 111, 110, 110, 101, 99, 116, 105, 111, 110], [120, 44, 32, 99, 108, 111, 115, 101, 44, 32, 72, 111, 115, 116]), ([88], [49]), ([84, 69], [116]), ([89], [50])] = [([72, 111, 115, 116], [97]), ([89], [50])] by decide +kernel] at C1
  refine (C1).mono ?_
  rintro e w1 ⟨v1, o1, rfl, own1, _, b⟩
  obtain ⟨A1, c1, hv1, src1⟩ := own1.src (fun _ => True) (fun _ _ => trivial)
  subst hv1
  have G1 := Lib.hid src1
  clear own1 src1 C1
  have bb := ba1.trans (b.mono ba1.size)
  have B1 := Lib.hid (B0.out.trans (bb.mono B0.out.size))
  clear B0
  clear b bb ba1 sa1
  go_wp2_with fail
  have ba2 := (Below.refl w1.heap.size w1).alloc (Nat.le_refl _) (.cells #[.string ⟨#[86, 105, 97]⟩, .string ⟨#[49, 46, 48, 32, 97, 44, 32, 49, 46, 49, 32, 84, 111, 108, 108, 104, 111, 117, 115, 101, 32, 40, 98, 41]⟩] 32)
  have sa2 : SrcF (w1.alloc (.cells #[.string ⟨#[86, 105, 97]⟩, .string ⟨#[49, 46, 48, 32, 97, 44, 32, 49, 46, 49, 32, 84, 111, 108, 108, 104, 111, 117, 115, 101, 32, 40, 98, 41]⟩] 32)) (fun _ => True) (some ⟨w1.heap.size, 0, none⟩) [([86, 105, 97], [49, 46, 48, 32, 97, 44, 32, 49, 46, 49, 32, 84, 111, 108, 108, 104, 111, 117, 115, 101, 32, 40, 98, 41])] := srcf_made w1 [([86, 105, 97], [49, 46, 48, 32, 97, 44, 32, 49, 46, 49, 32, 84, 111, 108, 108, 104, 111, 117, 115, 101, 32, 40, 98, 41])]
  have C2 := loops_any _ _ [([86, 105, 97], [49, 46, 48, 32, 97, 44, 32, 49, 46, 49, 32, 84, 111, 108, 108, 104, 111, 117, 115, 101, 32, 40, 98, 41])] 1 1 rfl (by decide) sa2
  rw [show loopsF [([86, 105, 97], [49, 46, 48, 32, 97, 44, 32, 49, 46, 49, 32, 84, 111, 108, 108, 104, 111, 117, 115, 101, 32, 40, 98, 41])] = true by decide +kernel] at C2
  refine (C2).mono ?_
  rintro e w2 ⟨rfl, b⟩
  clear C2
  have bb := ba2.trans (b.mono ba2.size)
  have B2 := Lib.hid (B1.out.trans (bb.mono B1.out.size))
  have G_2 := Lib.hid (G1.out.below bb)
  clear B1 G1
  clear b bb ba2 sa2
  go_wp2_with fail
  have ba3 := (Below.refl w2.heap.size w2).alloc (Nat.le_refl _) (.cells #[.string ⟨#[86, 105, 97]⟩, .string ⟨#[116, 111, 108, 108, 104, 111, 117, 115, 101]⟩] 32)
  have sa3 : SrcF (w2.alloc (.cells #[.string ⟨#[86, 105, 97]⟩, .string ⟨#[116, 111, 108, 108, 104, 111, 117, 115, 101]⟩] 32)) (fun _ => True) (some ⟨w2.heap.size, 0, none⟩) [([86, 105, 97], [116, 111, 108, 108, 104, 111, 117, 115, 101])] := srcf_made w2 [([86, 105, 97], [116, 111, 108, 108, 104, 111, 117, 115, 101])]
  have C3 := loops_any _ _ [([86, 105, 97], [116, 111, 108, 108, 104, 111, 117, 115, 101])] 1 1 rfl (by decide) sa3
  rw [show loopsF [([86, 105, 97], [116, 111, 108, 108, 104, 111, 117, 115, 101])] = false by decide +kernel] at C3
  refine (C3).mono ?_
  rintro e w3 ⟨rfl, b⟩
  clear C3
  have bb := ba3.trans (b.mono ba3.size)
  have B3 := Lib.hid (B2.out.trans (bb.mono B2.out.size))
  have G_3 := Lib.hid (G_2.out.below bb)
  clear B2 G_2
  clear b bb ba3 sa3
  have ba4 := (Below.refl w3.heap.size w3).alloc (Nat.le_refl _) (.cells #[.string ⟨#[67, 111, 110, 110, 101, 99, 116, 105, 111, 110]⟩, .string ⟨#[75, 101, 101, 112, 45, 65, 108, 105, 118, 101]⟩] 32)
  have sa4 : SrcF (w3.alloc (.cells #[.string ⟨#[67, 111, 110, 110, 101, 99, 116, 105, 111, 110]⟩, .string ⟨#[75, 101, 101, 112, 45, 65, 108, 105, 118, 101]⟩] 32)) (fun _ => True) (some ⟨w3.heap.size, 0, none⟩) [([67, 111, 110, 110, 101, 99, 116, 105, 111, 110], [75, 101, 101, 112, 45, 65, 108, 105, 118, 101])] := srcf_made w3 [([67, 111, 110, 110, 101, 99, 116, 105, 111, 110], [75, 101, 101, 112, 45, 65, 108, 105, 118, 101])]
  have OK := Lib.hid (row_ownF (w := w3.alloc (.cells #[.string ⟨#[67, 111, 110, 110, 101, 99, 116, 105, 111, 110]⟩, .string ⟨#[75, 101, 101, 112, 45, 65, 108, 105, 118, 101]⟩] 32)) (g := w3.heap.size) (c := 1) (cur := flds [([67, 111, 110, 110, 101, 99, 116, 105, 111, 110], [75, 101, 101, 112, 45, 65, 108, 105, 118, 101])]) (ls := [([67, 111, 110, 110, 101, 99, 116, 105, 111, 110], [75, 101, 101, 112, 45, 65, 108, 105, 118, 101])]) (Is.made w3 32 (flds [([67, 111, 110, 110, 101, 99, 116, 105, 111, 110], [75, 101, 101, 112, 45, 65, 108, 105, 118, 101])])) (by decide) (by decide) (by decide) rfl)
  have K4 := Lib.hid sa4
  obtain ⟨gk, hgk⟩ : ∃ gk, w3.heap.size = gk := ⟨_, rfl⟩
  have HGK := Lib.hid hgk
  have bb := ba4
  obtain ⟨w4, hw4⟩ : ∃ w4, w3.alloc (.cells #[.string ⟨#[67, 111, 110, 110, 101, 99, 116, 105, 111, 110]⟩, .string ⟨#[75, 101, 101, 112, 45, 65, 108, 105, 118, 101]⟩] 32) = w4 := ⟨_, rfl⟩
  rw [hw4] at bb OK K4
  rw [hgk] at OK K4
  have B4 := Lib.hid (B3.out.trans (bb.mono B3.out.size))
  have G_4 := Lib.hid (G_3.out.below bb)
  clear B3 G_3
  clear bb ba4 sa4
  have HW4 := Lib.hid hw4
  go_upto_region 5 with fail
  clear hw4 hgk
  obtain ⟨p, f, hf, hat, y0, _, _, _⟩ := G_4.out.at (c := c1) (k := 1) rfl (by decide) (Below.refl _ _)
  obtain rfl : f = ([89], [50]) := (Option.some.inj hf).symm
  simp only at y0
  have hat2 : ∀ Wx, (Instr.indexAt 22 (.slice A1 2 c1) (.int .i64 1)).run Tryd.prog Wx = .ok (.pointer (some p)) Wx := hat
  clear hf hat
  go_wp2_with fail
  have D1 := closes_any 1 w4 none [] 0 0 rfl (by decide) (srcf_nil _)
  rw [show closesF 1 [] = false by decide +kernel] at D1
  refine (D1).mono ?_
  rintro e w5 ⟨rfl, b⟩
  have B5 := Lib.hid (B4.out.trans (b.mono B4.out.size))
  have G_5 := Lib.hid (G_4.out.below b)
  have K_5 := Lib.hid (K4.out.below b)
  have O_5 := Lib.hid (OK.out.kept (Turn.of_below (S := fun _ => False) b) (fun _ _ h => h))
  clear B4 G_4 K4 OK
  clear b D1
  clear y0 hat2
  clear G_5
  go_wp2_with fail
  have D2 := closes_any 0 w5 none [] 0 0 rfl (by decide) (srcf_nil _)
  rw [show closesF 0 [] = true by decide +kernel] at D2
  refine (D2).mono ?_
  rintro e w6 ⟨rfl, b⟩
  have B6 := Lib.hid (B5.out.trans (b.mono B5.out.size))
  have K_6 := Lib.hid (K_5.out.below b)
  have O_6 := Lib.hid (O_5.out.kept (Turn.of_below (S := fun _ => False) b) (fun _ _ h => h))
  clear B5 K_5 O_5
  clear b D2
  go_wp2_with fail
  have D3 := closes_any 0 w6 (some ⟨gk, 0, none⟩) [([67, 111, 110, 110, 101, 99, 116, 105, 111, 110], [75, 101, 101, 112, 45, 65, 108, 105, 118, 101])] 1 1 rfl (by decide) K_6.out
  rw [show closesF 0 [([67, 111, 110, 110, 101, 99, 116, 105, 111, 110], [75, 101, 101, 112, 45, 65, 108, 105, 118, 101])] = false by decide +kernel] at D3
  refine (D3).mono ?_
  rintro e w7 ⟨rfl, b⟩
  have B7 := Lib.hid (B6.out.trans (b.mono B6.out.size))
  have K_7 := Lib.hid (K_6.out.below b)
  have O_7 := Lib.hid (O_6.out.kept (Turn.of_below (S := fun _ => False) b) (fun _ _ h => h))
  clear B6 K_6 O_6
  clear b D3
  obtain ⟨v5, w5, o5, hrun, own5, ob5, bb⟩ := run_full_fld w7 ⟨gk, 0, none⟩ [([67, 111, 110, 110, 101, 99, 116, 105, 111, 110], [75, 101, 101, 112, 45, 65, 108, 105, 118, 101])] 1 rfl K_7.out ([99, 111, 110, 110, 101, 99, 116, 105, 111, 110], [99, 108, 111, 115, 101]) (by decide)
  have HR5 := Lib.hid hrun
  simp only at HR5
  obtain ⟨A5, c5, hv5, src5⟩ := own5.src (fun _ => True) (fun _ _ => trivial)
  subst hv5
  have S5 := Lib.hid src5
  clear own5 src5 hrun ob5
  clear O_7
  have B8 := Lib.hid (B7.out.trans (bb.mono B7.out.size))
  have K_8 := Lib.hid (K_7.out.below bb)
  clear B7 K_7
  clear bb
  go_wp2_with (at_builtin; refine append_by_g rfl (.tmp 50) (.tmp 52) 22 rfl _ _ (.slice A5 2 c5) w5 rfl rfl HR5.out ?_)
  have D4 := closes_any 0 w5 A5 [([67, 111, 110, 110, 101, 99, 116, 105, 111, 110], [75, 101, 101, 112, 45, 65, 108, 105, 118, 101]), ([99, 111, 110, 110, 101, 99, 116, 105, 111, 110], [99, 108, 111, 115, 101])] 2 c5 rfl (by decide) S5.out
  rw [show closesF 0 [([67, 111, 110, 110, 101, 99, 116, 105, 111, 110], [75, 101, 101, 112, 45, 65, 108, 105, 118, 101]), ([99, 111, 110, 110, 101, 99, 116, 105, 111, 110], [99, 108, 111, 115, 101])] = true by decide +kernel] at D4
  refine (D4).mono ?_
  rintro e w9 ⟨rfl, b⟩
  have B9 := Lib.hid (B8.out.trans (b.mono B8.out.size))
  have K_9 := Lib.hid (K_8.out.below b)
  clear B8 K_8
  clear b D4
  clear S5
  go_wp2_with fail
  have D5 := via_any w9 none [] 0 0 rfl (by decide) (srcf_nil _)
  rw [show viaF [] = [([86, 105, 97], [49, 46, 49, 32, 116, 111, 108, 108, 104, 111, 117, 115, 101])] from rfl] at D5
  refine (D5).mono ?_
  rintro e w10 ⟨v7, o7, rfl, own7, _, b⟩
  obtain ⟨A7, c7, hv7, _⟩ := own7.src (fun _ => True) (fun _ _ => trivial)
  subst hv7
  clear own7 D5
  have B10 := Lib.hid (B9.out.trans (b.mono B9.out.size))
  have K_10 := Lib.hid (K_9.out.below b)
  clear B9 K_9
  clear b
  go_wp2_with fail
  have D6 := elem_any w10 (some ⟨gk, 0, none⟩) [([67, 111, 110, 110, 101, 99, 116, 105, 111, 110], [75, 101, 101, 112, 45, 65, 108, 105, 118, 101])] 1 1 rfl (by decide) K_10.out ⟨#[99, 111, 110, 110, 101, 99, 116, 105, 111, 110]⟩
  rw [show elemF [([67, 111, 110, 110, 101, 99, 116, 105, 111, 110], [75, 101, 101, 112, 45, 65, 108, 105, 118, 101])] (bl ⟨#[99, 111, 110, 110, 101, 99, 116, 105, 111, 110]⟩) = [[75, 101, 101, 112, 45, 65, 108, 105, 118, 101]] by decide +kernel] at D6
  refine (D6).mono ?_
  rintro e w11 ⟨v8, o8, rfl, own8, _, b⟩
  obtain ⟨A8, c8, hv8, _⟩ := own8.src (fun _ => True) (fun _ _ => trivial)
  subst hv8
  clear own8 D6
  have B11 := Lib.hid (B10.out.trans (b.mono B10.out.size))
  have K_11 := Lib.hid (K_10.out.below b)
  clear B10 K_10
  clear b
  go_wp2_with fail
  go_ret
  exact ⟨rfl, B11.out⟩
end Go.Proofs.YtinibacmhmmcdaaDoor.Hop
