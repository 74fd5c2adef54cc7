/-
  What package text's Quote, unescape and Unquote do, call by call.
  Conditions: those that each theorem names.
-/
import Derived.Test.YtilfflpjlakkpaaDoorUE
import Derived.Test.YtilfflpjlakkpaaDoorUC
import Derived.Lib.AppendStr
namespace Go.Proofs.YtilfflpjlakkpaaDoor
open Go.RowKit

/-- An append of a text to bytes whose run is known, at its place in a walk. -/
theorem append_txt_by {P : Program} {w : World} {ops : Array Oper} {rest : List Oper} {o : Oper} {a : Act} {Q : Exit → Act → World → Prop} (hgd : o.guard = none) (s x : Operand) (t u : TypeId)
    (ho : o.op = .call { callee := .builtin .append, args := #[s, x], argTypes := #[t, u] }) (v xv v' : Value) (w' : World) (hs : a.eval s = v) (hx : a.eval x = xv)
    (hrun : (Builtin.append_ #[t, u] o.type #[v, xv]).run P w = .ok v' w') (h : wpList P ops Q rest (a.put o.dst v') w') : wpList P ops Q (o :: rest) a w := by
  refine wpList_plain hgd fun K hK => ?_
  unfold Oper.wp execOp
  simp only [ho, resolve, invoke, builtin, Sem.run_bind, Sem.run_pure, Result.andThen_ok, List.map_toArray, List.map_cons, List.map_nil, hs, hx, hrun]
  exact hK _ _ h

/-- append(v, s...), s a text. -/
theorem run_add_text (B : Nat) (w : World) (v : Value) (o : Option Nat) (bs : List UInt8) (s : ByteArray) (h : Own w v o bs) (ho : ∀ b, o = some b → B ≤ b) (hB : B ≤ w.heap.size) (hlen : bs.length + s.size ≤ 140737488355328) :
    ∃ (v' : Value) (w' : World) (o' : Option Nat), (Builtin.append_ #[33, 9] 33 #[v, .string s]).run Tryd.prog w = .ok v' w' ∧ Own w' v' o' (bs ++ bl s) ∧ Turn (fun k => o = some k) w w' ∧ (∀ b, o' = some b → B ≤ b) := by
  obtain ⟨i, hi, hz, hsz, hby⟩ := byteParts
  obtain ⟨⟨h1, h2⟩, h3⟩ := h
  have hown : w.ownsRow B 5 1 v bs.length (vals bs) := by
    refine ⟨h1, ?_⟩
    rcases h2 with h2 | ⟨g, cap, cur, hv, _, r⟩
    · exact .inl h2
    · exact .inr ⟨g, cap, cur, hv, ho g (by rw [← h3, hv]; rfl), r⟩
  obtain ⟨v', w', hrun, h4, h5, _⟩ := Lib.run_append_own_string (P := Tryd.prog) w B 33 9 33 5 i Tryd.underlying33 Tryd.underlying9 hi hz hsz hby v bs.length (vals bs) hown s (by simp only [maxLen]; omega) hlen hB
  have hcells : Lib.strCells s = vals (bl s) := by simp [Lib.strCells, vals, YtilfflpjlakkpaaDoor.B, bl]
  refine ⟨v', w', v'.ownBlock, hrun, ⟨?_, rfl⟩, Turn.of_grown h5 (fun k hk => by rw [← h3]; exact hk), fun b hb => (h4.lt b hb).1⟩
  rw [hcells] at h4
  rw [List.length_append, vals_append, bl_length]
  obtain ⟨h6, h7⟩ := h4
  refine ⟨h6, ?_⟩
  rcases h7 with h7 | ⟨g, cap, cur, hv, _, r⟩
  · exact .inl h7
  · exact .inr ⟨g, cap, cur, hv, Nat.zero_le _, r⟩

theorem Own.ne_iter {w : World} {v : Value} {o : Option Nat} {bs : List UInt8} {g : Nat} {s : ByteArray} {k : Nat} (h : Own w v o bs) (hi : AtIter w g s k) : ¬ o = some g := by
  intro e
  obtain ⟨⟨_, h2⟩, h3⟩ := h
  rcases h2 with ⟨rfl, _⟩ | ⟨g', cap, cur, hv, _, hh, _⟩
  · rw [e] at h3
    cases h3
  · rw [e, hv] at h3
    have : g' = g := by
      have h3' : some g' = some g := h3
      exact Option.some.inj h3'
    subst this
    unfold AtIter at hi
    rw [hi] at hh
    cases hh

theorem quo_high : ∀ (x : List UInt8), (∀ c ∈ x, 128 ≤ c.toNat) → x.flatMap quoB = x
  | [], _ => rfl
  | c :: x, h => by
    have hc := h c (by simp)
    rw [List.flatMap_cons, quoB_no c (by omega), quo_high x (fun d hd => h d (by simp [hd]))]
    rfl
theorem quoTo_wide (s : ByteArray) (k n : Nat) (h : ∀ c ∈ ((bl s).drop k).take n, 128 ≤ c.toNat) : quoTo s (k + n) = quoTo s k ++ ((bl s).drop k).take n := by
  unfold quoTo
  rw [List.take_add, List.flatMap_append, quo_high _ h]
  rfl

def QRel (W : World) (s : ByteArray) (v vf : Value) (wx : World) : Prop :=
  ∃ (k f : Nat) (o : Option Nat) (bs : List UInt8), f ≤ k ∧ k ≤ s.size ∧ vf = .int .i64 (f : Int) ∧ AtIter wx (W.heap.size + 1) s k ∧ Own wx v o bs ∧ (∀ b, o = some b → W.heap.size ≤ b) ∧ Below W.heap.size W wx ∧ bs ++ piece s f k = quoTo s k
/-- What a step of the range leaves. -/
theorem QRel.next {W wr w1 : World} {g : Nat} {s : ByteArray} {k : Nat} {v : Value} {o : Option Nat} {bs : List UInt8} (hg : W.heap.size ≤ g) (hit : AtIter wr g s k) (t1 : Turn (· = g) wr w1) (hown : Own wr v o bs) (hB : Below W.heap.size W wr) :
    Own w1 v o bs ∧ Below W.heap.size W w1 :=
  ⟨hown.kept t1 (fun b hb e => hown.ne_iter hit (by rw [hb, e])), hB.trans ⟨t1.os, t1.tape, t1.output, t1.size, fun b hb => t1.block b (by have := hB.size; omega) (by omega)⟩⟩
/-- What an append leaves. -/
theorem QRel.add {W w1 w2 : World} {g : Nat} {s : ByteArray} {k : Nat} {v : Value} {o : Option Nat} {bs : List UInt8} (hit : AtIter w1 g s k) (hown : Own w1 v o bs) (ho : ∀ b, o = some b → W.heap.size ≤ b) (hB : Below W.heap.size W w1) (t2 : Turn (fun b => o = some b) w1 w2) :
    AtIter w2 g s k ∧ Below W.heap.size W w2 :=
  ⟨hit.kept t2 (hown.ne_iter hit), hB.trans ⟨t2.os, t2.tape, t2.output, t2.size, fun b hb => t2.block b (by have := hB.size; omega) (fun h => by have := ho b h; omega)⟩⟩
theorem quo_bound (s : ByteArray) (f k : Nat) (bs : List UInt8) (hk : k ≤ s.size) (h : bs ++ piece s f k = quoTo s k) : bs.length ≤ 2 * s.size + 1 ∧ (quoTo s k).length ≤ 2 * s.size + 1 := by
  have h1 := quoTo_length s k
  have h2 := congrArg List.length h
  rw [List.length_append] at h2
  omega

set_option maxHeartbeats 4000000 in
theorem tx_quote (s : ByteArray) (W : World) (hs : s.size ≤ 1000000000) : Calls Tryd.prog 28 #[.string s] W (Text (quoF (bl s)) W) := by
  have o1 := own_one W 34 34 rfl
  have b1 : Below W.heap.size W (W.alloc (.cells #[.int .u8 34] 5)) := (Below.refl _ _).alloc (Nat.le_refl _) _
  go_enter Tryd.func28, Tryd.ntmps28
  go_wp2_with fail
  go_loopw [3, 4, 5, 6] (fun v vf _ _ wx => QRel W s v vf wx) (fun _ _ _ _ wx => s.size - wx.iterPos (W.heap.size + 1))
  case atStart =>
    have t0 : Turn (fun _ => False) (W.alloc (.cells #[.int .u8 34] 5)) ((W.alloc (.cells #[.int .u8 34] 5)).iter s 0) := (Turn.refl _ _).alloc _
    have hit0 : AtIter ((W.alloc (.cells #[.int .u8 34] 5)).iter s 0) (W.heap.size + 1) s 0 := by
      have := AtIter.start (W.alloc (.cells #[.int .u8 34] 5)) s
      simpa using this
    exact ⟨0, 0, some W.heap.size, [34], Nat.le_refl _, Nat.zero_le _, rfl, hit0, o1.kept t0 (fun _ _ h => h), (fun _ h => by injection h with h; omega), b1.alloc (by simp) _, rfl⟩
  case round =>
    clear o1 b1
    obtain ⟨k, f, o, bs, hfk, hk, rfl, hit, hown, ho, hB, hq⟩ := hrel
    have HM := Lib.hid hit.pos
    obtain ⟨hbl, hql⟩ := quo_bound s f k bs hk hq
    have HQ := Lib.hid hq
    have HO := Lib.hid ho
    clear hq ho
    by_cases hlt : k < s.size
    · rcases decode_step s k hlt with ⟨hc, hd⟩ | ⟨hc, x, n, hd, hx1, hx2, hn, hw⟩
      · obtain ⟨w1, hnx, hit1, t1, z1⟩ := next_some (P := Tryd.prog) hit hlt hd
        obtain ⟨hown1, hB1⟩ := QRel.next (by omega) hit t1 hown hB
        have HS := Lib.hid (quoTo_succ s k hlt)
        have HP := Lib.hid (show piece s f (k + 1) = piece s f k ++ [s[k]] by rw [piece_more s f k 1 hfk, take_one s k hlt])
        have HP1 := Lib.hid (show piece s k (k + 1) = [s[k]] by rw [piece_more s k k 1 (Nat.le_refl _), take_one s k hlt, piece_self]; rfl)
        clear hd z1 t1 hit hown hB
        by_cases hqq : (s[k].toNat : Int) = 34 ∨ (s[k].toNat : Int) = 92
        · have hz1 := hB1.size
          obtain ⟨v2, w2, o2, hrun2, own2, t2, ho2⟩ := run_add_text W.heap.size w1 u3 o bs (s.extract f k) hown1 HO.out hz1 (by have := extract_size s f k; omega)
          rw [extract_bl, HQ.out] at own2
          obtain ⟨hit2, hB2⟩ := QRel.add hit1 hown1 HO.out hB1 t2
          obtain ⟨v3, w3, o3, hrun3, own3, t3, ho3⟩ := run_push1 w2 v2 o2 _ 92 92 rfl own2 (by omega)
          obtain ⟨hit3, hB3⟩ := QRel.add hit2 own2 ho2 hB2 t3
          have ho4 : ∀ b, o3 = some b → W.heap.size ≤ b := fun b hb => by
            rcases ho3 b hb with h | h
            · exact ho2 b h
            · have := hB2.size; omega
          have HF := Lib.hid (show (quoTo s k ++ [92]) ++ piece s k (k + 1) = quoTo s (k + 1) by rw [HS.out, HP1.out, quoB_yes s[k] hqq, List.append_assoc])
          have HR2 := Lib.hid hrun2
          have HR3 := Lib.hid hrun3
          have HO4 := Lib.hid ho4
          have HQQ := Lib.hid hqq
          clear hrun2 hrun3 ho2 ho3 ho4 t2 t3 hqq own2 hB1 hB2 hit1 hit2 hown1
          rcases HQQ.out with h | h
          · have e1 : ((s[k].toNat : Int) == 34) = true := by simpa using h
            clear h
            go_wp2_with (first | (at_builtin; refine append_txt_by rfl (.tmp 20) (.tmp 24) 33 9 rfl _ _ v2 w2 rfl rfl HR2.out ?_) | (at_builtin; refine append_by rfl (.tmp 26) (.tmp 27) 33 rfl _ _ v3 w3 rfl rfl HR3.out ?_))
            refine ⟨⟨k + 1, k, o3, _, by omega, hlt, rfl, hit3, own3, HO4.out, hB3, HF.out⟩, ?_⟩
            rw [hit3.pos, HM.out]
            omega
          · have e1 : ((s[k].toNat : Int) == 34) = false := by simp; omega
            have e2 : ((s[k].toNat : Int) == 92) = true := by simpa using h
            clear h
            go_wp2_with (first | (at_builtin; refine append_txt_by rfl (.tmp 20) (.tmp 24) 33 9 rfl _ _ v2 w2 rfl rfl HR2.out ?_) | (at_builtin; refine append_by rfl (.tmp 26) (.tmp 27) 33 rfl _ _ v3 w3 rfl rfl HR3.out ?_))
            refine ⟨⟨k + 1, k, o3, _, by omega, hlt, rfl, hit3, own3, HO4.out, hB3, HF.out⟩, ?_⟩
            rw [hit3.pos, HM.out]
            omega
        · have e1 : ((s[k].toNat : Int) == 34) = false := by simp; omega
          have e2 : ((s[k].toNat : Int) == 92) = false := by simp; omega
          have HF := Lib.hid (show bs ++ piece s f (k + 1) = quoTo s (k + 1) by rw [HP.out, HS.out, quoB_no s[k] hqq, ← HQ.out, List.append_assoc])
          clear hqq
          go_wp2_with fail
          refine ⟨⟨k + 1, f, o, bs, by omega, hlt, rfl, hit1, hown1, HO.out, hB1, HF.out⟩, ?_⟩
          rw [hit1.pos, HM.out]
          omega
      · obtain ⟨w1, hnx, hit1, t1, z1⟩ := next_some (P := Tryd.prog) hit hlt hd
        obtain ⟨hown1, hB1⟩ := QRel.next (by omega) hit t1 hown hB
        have HF := Lib.hid (show bs ++ piece s f (k + (n + 1)) = quoTo s (k + (n + 1)) by rw [piece_more s f k (n + 1) hfk, quoTo_wide s k (n + 1) hw, ← HQ.out, List.append_assoc])
        have e1 : ((x : Int) == 34) = false := beq_eq_false_iff_ne.2 (by omega)
        have e2 : ((x : Int) == 92) = false := beq_eq_false_iff_ne.2 (by omega)
        clear hd z1 t1 hit hown hB hw
        go_wp2_with fail
        refine ⟨⟨k + (n + 1), f, o, bs, by omega, hn, rfl, hit1, hown1, HO.out, hB1, HF.out⟩, ?_⟩
        rw [hit1.pos, HM.out]
        omega
    · have hnx := next_none (P := Tryd.prog) hit hlt
      have hz1 := hB.size
      obtain ⟨v2, w2, o2, hrun2, own2, t2, ho2⟩ := run_add_text W.heap.size wr u3 o bs (s.extract f s.size) hown HO.out hz1 (by have := extract_size s f s.size; omega)
      rw [extract_bl, show bs ++ piece s f s.size = quoTo s k by rw [← HQ.out, show k = s.size by omega]] at own2
      obtain ⟨hit2, hB2⟩ := QRel.add hit hown HO.out hB t2
      obtain ⟨v3, w3, o3, hrun3, own3, t3, ho3⟩ := run_push1 w2 v2 o2 _ 34 34 rfl own2 (by omega)
      obtain ⟨hit3, hB3⟩ := QRel.add hit2 own2 ho2 hB2 t3
      rw [quoTo_all s k (by omega)] at own3
      have hr := run_made_text w3 v3 o3 _ own3
      have HR2 := Lib.hid hrun2
      have HR3 := Lib.hid hrun3
      clear hrun2 hrun3 ho2 ho3 t2 t3 own2 own3 hB2 hit2 hit3
      go_wp2_with (first | (at_builtin; refine append_txt_by rfl (.tmp 30) (.tmp 33) 33 9 rfl _ _ v2 w2 rfl rfl HR2.out ?_) | (at_builtin; refine append_by rfl (.tmp 35) (.tmp 36) 33 rfl _ _ v3 w3 rfl rfl HR3.out ?_))
      go_ret
      exact ⟨rfl, hB3⟩
end Go.Proofs.YtilfflpjlakkpaaDoor
