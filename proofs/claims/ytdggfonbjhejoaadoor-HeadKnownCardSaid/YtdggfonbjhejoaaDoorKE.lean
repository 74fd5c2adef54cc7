/-
  Package head's Put.
  Conditions: those that each theorem names.
-/
import Derived.Test.YtdggfonbjhejoaaDoorKD
import Derived.Test.YtdggfonbjhejoaaDoorHP
import Derived.Lib.AppendStr
namespace Go.Proofs.YtdggfonbjhejoaaDoor
open Go.RowKit

/-- An append of a text to bytes whose run is known, at its place in a walk. -/
theorem append_tx_by {P : Program} {w : World} {ops : Array Oper} {rest : List Oper} {o : Oper} {a : Act} {Q : Exit → Act → World → Prop} (hgd : o.guard = none) (s x : Operand) (t u : TypeId)
    (ho : o.op = .call { callee := .builtin .append, args := #[s, x], argTypes := #[t, u] }) (v xv v' : Value) (w' : World) (hs : a.eval s = v) (hx : a.eval x = xv)
    (hrun : (Builtin.append_ #[t, u] o.type #[v, xv]).run P w = .ok v' w') (h : wpList P ops Q rest (a.put o.dst v') w') : wpList P ops Q (o :: rest) a w := by
  refine wpList_plain hgd fun K hK => ?_
  unfold Oper.wp execOp
  simp only [ho, resolve, invoke, builtin, Sem.run_bind, Sem.run_pure, Result.andThen_ok, List.map_toArray, List.map_cons, List.map_nil, hs, hx, hrun]
  exact hK _ _ h
/-- append(v, s...), s a text. -/
theorem run_add_tx (B : Nat) (w : World) (v : Value) (o : Option Nat) (bs : List UInt8) (s : ByteArray) (h : Own w v o bs) (ho : ∀ b, o = some b → B ≤ b) (hB : B ≤ w.heap.size) (hlen : bs.length + s.size ≤ 140737488355328) :
    ∃ (v' : Value) (w' : World) (o' : Option Nat), (Builtin.append_ #[22, 9] 22 #[v, .string s]).run Tryd.prog w = .ok v' w' ∧ Own w' v' o' (bs ++ bl s) ∧ Turn (fun k => o = some k) w w' ∧ (∀ b, o' = some b → B ≤ b) := by
  obtain ⟨i, hi, hz, hsz, hby⟩ := byteParts
  obtain ⟨⟨h1, h2⟩, h3⟩ := h
  have hown : w.ownsRow B 5 1 v bs.length (vals bs) := by
    refine ⟨h1, ?_⟩
    rcases h2 with h2 | ⟨g, cap, cur, hv, _, r⟩
    · exact .inl h2
    · exact .inr ⟨g, cap, cur, hv, ho g (by rw [← h3, hv]; rfl), r⟩
  obtain ⟨v', w', hrun, h4, h5, _⟩ := Lib.run_append_own_string (P := Tryd.prog) w B 22 9 22 5 i Tryd.underlying22 Tryd.underlying9 hi hz hsz hby v bs.length (vals bs) hown s (by simp only [maxLen]; omega) hlen hB
  have hcells : Lib.strCells s = vals (bl s) := by simp [Lib.strCells, vals, YtdggfonbjhejoaaDoor.B, bl]
  refine ⟨v', w', v'.ownBlock, hrun, ⟨?_, rfl⟩, Turn.of_grown h5 (fun k hk => by rw [← h3]; exact hk), fun b hb => (h4.lt b hb).1⟩
  rw [hcells] at h4
  rw [List.length_append, vals_append, bl_length]
  obtain ⟨h6, h7⟩ := h4
  refine ⟨h6, ?_⟩
  rcases h7 with h7 | ⟨g, cap, cur, hv, _, r⟩
  · exact .inl h7
  · exact .inr ⟨g, cap, cur, hv, Nat.zero_le _, r⟩
theorem below_own {W w w' : World} {o : Option Nat} (hB : Below W.heap.size W w) (ho : ∀ b, o = some b → W.heap.size ≤ b) (ht : Turn (fun b => o = some b) w w') : Below W.heap.size W w' :=
  hB.trans ⟨ht.os, ht.tape, ht.output, ht.size, fun b hb => ht.block b (by have := hB.size; omega) (fun e => by have := ho b e; omega)⟩

set_option maxHeartbeats 8000000 in
set_option maxRecDepth 100000 in
theorem put_any {P : Nat → Prop} (w : World) (A : Option Addr) (ls : List Fld) (n c : Nat) (hn : ls.length = n) (hmax : n * 32 ≤ 140737488355328) (h : SrcF w P A ls) (hs : Slim ls) :
    Calls Tryd.prog 14 #[.slice A n c] w (PutOf (putF ls) w) := by
  have CM := Lib.hid (may_any w A ls n c hn hmax h hs)
  by_cases hm : mayF ls = true
  · have HP := Lib.hid (show putF ls = some (linesF ls ++ [13, 10]) from if_pos hm)
    obtain ⟨m1, m2, m3⟩ := may_facts ls hm
    have HL := Lib.hid (linesF_length ls)
    have HN := Lib.hid hn
    have H := Lib.hid h
    have HM3 := Lib.hid m3
    rw [hm] at CM
    have hn32 : n ≤ 32 := by omega
    clear h hs hn hm m1 m2 m3 hmax
    generalize putF ls = r at *
    go_enter Tryd.func14, Tryd.ntmps14
    go_wp2_with fail
    refine CM.out.mono ?_
    rintro e w1 ⟨rfl, b1⟩
    have B1 := Lib.hid b1
    clear b1 CM
    go_wp2_with fail
    go_loopw [4, 12] (fun vb vi wr => ∃ (k : Nat) (o : Option Nat) (l : List UInt8), vi = .int .i64 (k : Int) ∧ k ≤ n ∧ l.length ≤ 2046 ∧ Hid (linesF (ls.take k) = l) ∧ Hid (Own wr vb o l) ∧ Hid (∀ b, o = some b → w.heap.size ≤ b) ∧ Hid (Below w.heap.size w wr)) (fun _ vi _ => n - (intOf vi).toNat)
    case atStart => exact ⟨0, none, [], rfl, Nat.zero_le _, by simp, Lib.hid rfl, Lib.hid (Own.nil _), Lib.hid (fun _ h => by cases h), B1⟩
    case round =>
      obtain ⟨k, o, l, rfl, hk, hl, HI, HO, HOB, HB⟩ := hrel
      by_cases hlt : k < n
      · obtain ⟨p, f, hf, hat, y0, y1, _, _⟩ := H.out.at (c := c) HN.out hlt HB.out
        have HX := Lib.hid (show linesF (ls.take (k + 1)) = l ++ (f.1 ++ ([58, 32] ++ (f.2 ++ [13, 10]))) by rw [take_snoc ls k f hf, linesF_snoc, HI.out])
        have hll := sumL_take ls (k + 1)
        have hl2 := linesF_length (ls.take (k + 1))
        rw [HX.out] at hl2
        simp only [List.length_append, List.length_cons, List.length_nil] at hl2
        have h3 := HM3.out
        obtain ⟨f1, f2⟩ := f
        simp only at *
        have z1 : ¬ 9223372036854775807 < f1.length + 2 := by omega
        have z2 : ¬ 9223372036854775807 < f1.length + 2 + f2.length := by omega
        have z3 : ¬ 9223372036854775807 < f1.length + 2 + f2.length + 2 := by omega
        have z5 : l.length + f1.length + f2.length + 4 ≤ 2046 := by omega
        have HSS := Lib.hid (show ((⟨f1.toArray⟩ : ByteArray) ++ ⟨#[58, 32]⟩ ++ ⟨f2.toArray⟩ ++ ⟨#[13, 10]⟩) = ⟨(f1 ++ ([58, 32] ++ (f2 ++ [13, 10]))).toArray⟩ by
          rw [show (⟨#[58, 32]⟩ : ByteArray) = ⟨[58, 32].toArray⟩ from rfl, show (⟨#[13, 10]⟩ : ByteArray) = ⟨[13, 10].toArray⟩ from rfl]; simp only [mk_append, List.append_assoc])
        have HW := Lib.hid (HB.out.alloc HB.out.size (.cells #[.string ⟨f1.toArray⟩, .string ⟨f2.toArray⟩] 45))
        obtain ⟨v', w', o', hrun, own', t', ho'⟩ := run_add_tx w.heap.size (wr.alloc (.cells #[.string ⟨f1.toArray⟩, .string ⟨f2.toArray⟩] 45)) _ o l ⟨(f1 ++ ([58, 32] ++ (f2 ++ [13, 10]))).toArray⟩ (HO.out.kept ((Turn.refl (fun _ => False) wr).alloc _) (fun _ _ h => h)) HOB.out HW.out.size
          (by rw [← bl_length, bl_mk]; simp; omega)
        rw [← HSS.out] at hrun
        rw [bl_mk] at own'
        have HR5 := Lib.hid hrun
        have OO := Lib.hid own'
        have HO5 := Lib.hid ho'
        have HB5 := Lib.hid (below_own HW.out HOB.out t')
        clear hf hll hl2 h3 hrun own' t' ho'
        go_wp2_with (at_builtin; refine append_tx_by rfl (.tmp 16) (.tmp 23) 22 9 rfl _ _ v' w' rfl rfl HR5.out ?_)
        go_roundw
        case rel => exact ⟨k + 1, o', l ++ (f1 ++ ([58, 32] ++ (f2 ++ [13, 10]))), by go_num, hlt, by simp; omega, HX, OO, HO5, HB5⟩
        case measure => simp [intOf]; omega
      · have HQ := Lib.hid (show linesF ls = l by rw [← HI.out, List.take_of_length_le (by rw [HN.out]; omega)])
        obtain ⟨v', w', o', hrun, own', t', ho'⟩ := run_add_tx w.heap.size wr _ o l ⟨#[13, 10]⟩ HO.out HOB.out HB.out.size (by show l.length + 2 ≤ _; omega)
        have HR5 := Lib.hid hrun
        have OO := Lib.hid (show Own w' v' o' (l ++ [13, 10]) from own')
        have HO5 := Lib.hid ho'
        have HB5 := Lib.hid (below_own HB.out HOB.out t')
        clear hrun own' t' ho'
        go_wp2_with (at_builtin; refine append_tx_by rfl (.tmp 26) _ 22 9 rfl _ _ v' w' rfl rfl HR5.out ?_)
        go_ret2
        obtain ⟨A5, c5, hv5, hc5, hs5⟩ := OO.out.srcc (fun b => w.heap.size ≤ b) HO5.out
        subst hv5
        rw [HP.out, HQ.out]
        exact ⟨A5, c5, rfl, hc5, hs5, HB5.out⟩
  · have HP := Lib.hid (show putF ls = none from if_neg hm)
    rw [Bool.not_eq_true] at hm
    rw [hm] at CM
    clear h hs hn hm hmax
    generalize putF ls = r at *
    go_enter Tryd.func14, Tryd.ntmps14
    go_wp2_with fail
    refine CM.out.mono ?_
    rintro e w1 ⟨rfl, b1⟩
    have B1 := Lib.hid b1
    clear b1 CM
    go_wp2_with fail
    go_ret2
    rw [HP.out]
    exact ⟨none, 0, rfl, Nat.le_refl _, fun h => by simp at h, B1.out⟩
end Go.Proofs.YtdggfonbjhejoaaDoor
