/-
  What package text's Quote, unescape and Unquote do, call by call.
  Conditions: those that each theorem names.
-/
import Derived.Test.YtdcbcjljmjnopaaGreatDoorUB
import Derived.Test.YtdcbcjljmjnopaaGreatDoorUE
import Derived.Lib.AppendStr
namespace Go.Proofs.YtdcbcjljmjnopaaGreatDoor
open Go.RowKit

set_option maxHeartbeats 1000000 in
set_option maxRecDepth 100000 in
theorem tokR_high (r : Int) (w : World) (h1 : 128 ≤ r) (h2 : r ≤ 2147483647) : Calls Tryz.prog 100 #[.int .i32 r] w fun e w' => e = .returned (.bool false) ∧ Below w.heap.size w w' := by
  have CA := Lib.hid (fun W : World => capital_any r W)
  have hc : capB r = false := by unfold capB; simp; omega
  rw [hc] at CA
  clear hc
  have e1 : decide (r ≤ 122) = false := by simp; omega
  have e2 : decide (r ≤ 57) = false := by simp; omega
  go_enter Tryz.func100, Tryz.ntmps100
  go_wp2_with fail
  refine (CA.out _).mono ?_
  rintro e w9 ⟨rfl, rfl⟩
  go_wp2_with (go_at_call 101; refine (contains_high r _ h1 h2).mono ?_; rintro e w8 ⟨rfl, b9⟩)
  all_goals
    go_ret
    exact ⟨rfl, b9⟩

/-- What a function of a rune, handed on, says of a byte. -/
structure Says (f : FuncId) (p : UInt8 → Bool) (q : Bool) : Prop where
  low : ∀ (c : UInt8) (w : World), c.toNat < 128 → Calls Tryz.prog f #[.int .i32 (c.toNat : Int)] w fun e w' => e = .returned (.bool (p c)) ∧ Below w.heap.size w w'
  high : ∀ (r : Int) (w : World), 128 ≤ r → r ≤ 2147483647 → Calls Tryz.prog f #[.int .i32 r] w fun e w' => e = .returned (.bool q) ∧ Below w.heap.size w w'
  same : ∀ c : UInt8, 128 ≤ c.toNat → p c = q

theorem all_no (l : List UInt8) (p : UInt8 → Bool) (c : UInt8) (k : Nat) (h : l[k]? = some c) (hc : p c = false) : l.all p = false := by
  rw [Bool.eq_false_iff]
  intro hall
  have := List.all_eq_true.1 hall c (List.mem_of_getElem? h)
  rw [hc] at this
  cases this
theorem take_more (l : List UInt8) (k n : Nat) : l.take (k + n) = l.take k ++ (l.drop k).take n := List.take_add

set_option maxHeartbeats 1000000 in
set_option maxRecDepth 100000 in
theorem all_any (f : FuncId) (hf : f = 100
    ∨ f = 111
    ) (p : UInt8 → Bool) (q : Bool) (hp : Says f p q) (s : ByteArray) (w : World) :
    Calls Tryz.prog 99 #[.string s, .func (.func f) #[] #[]] w fun e w' => e = .returned (.bool ((bl s).all p)) ∧ Below w.heap.size w w' := by
  have CL := Lib.hid hp.low
  have CH := Lib.hid hp.high
  have CS := Lib.hid hp.same
  clear hp
  rcases hf with rfl | rfl
  all_goals try subst hf
  all_goals
    go_enter Tryz.func99, Tryz.ntmps99
    go_wp2_with fail
    go_loopw [6] (fun _ wx => ∃ k : Nat, k ≤ s.size ∧ AtIter wx w.heap.size s k ∧ Below w.heap.size w wx ∧ ((bl s).take k).all p = true) (fun _ wx => s.size - wx.iterPos w.heap.size)
    case atStart => exact ⟨0, Nat.zero_le _, AtIter.start _ _, (Below.refl _ _).alloc (Nat.le_refl _) _, rfl⟩
    case round =>
      obtain ⟨k, hk, hit, hB, hall⟩ := hrel
      have HALL := Lib.hid hall
      have HM := Lib.hid hit.pos
      clear hall
      by_cases hlt : k < s.size
      · rcases decode_step s k hlt with ⟨hc, hd⟩ | ⟨hc, r, n, hd, hr1, hr2, hn, hw⟩
        · obtain ⟨w1, hnx, hit1, t1, z1⟩ := next_some (P := Tryz.prog) hit hlt hd
          have hB1 : Below w.heap.size w w1 := hB.trans ⟨t1.os, t1.tape, t1.output, t1.size, fun b hb => t1.block b (by have := hB.size; omega) (by omega)⟩
          have hlt1 := hit1.lt
          clear hd z1 t1
          have C := Lib.hid (CL.out s[k] w1 hc)
          have HG := Lib.hid (bl_get s k hlt)
          have HTK := Lib.hid (bl_take s k hlt)
          generalize s[k] = c at *
          cases hpc : p c with
          | true =>
            rw [hpc] at C
            have HP := Lib.hid hpc
            clear hpc
            go_wp2_with fail
            refine C.out.mono ?_
            rintro e w2 ⟨rfl, b2⟩
            have hit2 : AtIter w2 w.heap.size s (k + 1) := hit1.kept (Turn.of_below (S := fun _ => False) b2) (fun h => h)
            go_wp2_with fail
            go_roundw
            case rel => exact ⟨k + 1, hlt, hit2, hB1.trans (b2.mono hB1.size), by rw [HTK.out, List.all_append, HALL.out]; simp [HP.out]⟩
            case measure => rw [hit2.pos, HM.out]; omega
          | false =>
            rw [hpc] at C
            have HP := Lib.hid hpc
            clear hpc
            go_wp2_with fail
            refine C.out.mono ?_
            rintro e w2 ⟨rfl, b2⟩
            go_wp2_with fail
            go_ret
            exact ⟨ret_bool (all_no _ _ c k HG.out HP.out).symm, hB1.trans (b2.mono hB1.size)⟩
        · obtain ⟨w1, hnx, hit1, t1, z1⟩ := next_some (P := Tryz.prog) hit hlt hd
          have hB1 : Below w.heap.size w w1 := hB.trans ⟨t1.os, t1.tape, t1.output, t1.size, fun b hb => t1.block b (by have := hB.size; omega) (by omega)⟩
          have hlt1 := hit1.lt
          have HG := Lib.hid (bl_get s k hlt)
          have HW := Lib.hid hw
          clear hd z1 t1 hw
          have C := Lib.hid (CH.out (r : Int) w1 (by omega) (by omega))
          have HC := Lib.hid (CS.out s[k] hc)
          generalize s[k] = c at *
          cases q with
          | true =>
            go_wp2_with fail
            refine C.out.mono ?_
            rintro e w2 ⟨rfl, b2⟩
            have hit2 : AtIter w2 w.heap.size s (k + (n + 1)) := hit1.kept (Turn.of_below (S := fun _ => False) b2) (fun h => h)
            go_wp2_with fail
            go_roundw
            case rel =>
              refine ⟨k + (n + 1), hn, hit2, hB1.trans (b2.mono hB1.size), ?_⟩
              rw [take_more, List.all_append, HALL.out, Bool.true_and, List.all_eq_true]
              exact fun d hd => CS.out d (HW.out d hd)
            case measure => rw [hit2.pos, HM.out]; omega
          | false =>
            go_wp2_with fail
            refine C.out.mono ?_
            rintro e w2 ⟨rfl, b2⟩
            go_wp2_with fail
            go_ret
            exact ⟨ret_bool (all_no _ _ c k HG.out HC.out).symm, hB1.trans (b2.mono hB1.size)⟩
      · have hnx := next_none (P := Tryz.prog) hit hlt
        have HF := Lib.hid (show (bl s).all p = true by
          have := HALL.out
          rw [List.take_of_length_le (by rw [bl_length]; omega)] at this
          exact this)
        go_wp2_with fail
        go_ret
        exact ⟨ret_bool HF.out.symm, hB⟩

theorem tokB_high (c : UInt8) (h : 128 ≤ c.toNat) : tokB c = false := by
  have h1 : ∀ d ∈ bl signsS, d.toNat < 128 := by decide
  rw [tokB_split, Bool.eq_false_iff]
  intro h2
  simp only [Bool.or_eq_true, Bool.and_eq_true, decide_eq_true_eq, capB] at h2
  rcases h2 with ((h2 | h2) | h2) | h2
  · omega
  · omega
  · omega
  · obtain ⟨d, hd, e⟩ := List.any_eq_true.1 h2
    rw [beq_iff_eq] at e
    have := h1 d hd
    rw [e] at this
    omega
theorem token_says : Says 100 tokB false := ⟨tokR_low, tokR_high, tokB_high⟩
theorem visible_says : Says 111 shownB true := by
  refine ⟨fun c w h => ?_, fun r w h1 _ => ?_, fun c h => ?_⟩
  · refine (visR_any c.toNat w).mono ?_
    rintro e w' ⟨rfl, rfl⟩
    exact ⟨ret_bool (visR_low c h), Below.refl _ _⟩
  · refine (visR_any r w).mono ?_
    rintro e w' ⟨rfl, rfl⟩
    exact ⟨ret_bool (visR_high r h1), Below.refl _ _⟩
  · rw [shownB_nat]
    simp
    omega

theorem ty_visible (s : ByteArray) (w : World) : Calls Tryz.prog 102 #[.string s] w fun e w' => e = .returned (.bool (visF (bl s))) ∧ Below w.heap.size w w' := by
  have C := Lib.hid (all_any 111 (.inr rfl) shownB true visible_says s w)
  go_enter Tryz.func102, Tryz.ntmps102
  go_wp2_with fail
  refine C.out.mono ?_
  rintro e w' ⟨rfl, b⟩
  go_wp2_with fail
  go_ret
  exact ⟨rfl, b⟩
theorem ty_token (s : ByteArray) (w : World) : Calls Tryz.prog 82 #[.string s] w fun e w' => e = .returned (.bool (tokF (bl s))) ∧ Below w.heap.size w w' := by
  have C := Lib.hid (all_any 100 (by simp) tokB false token_says s w)
  cases hl : bl s with
  | nil =>
    have e1 : s.toList = [] := by rw [Lib.toList_data]; exact hl
    have e2 : (!s.toList.isEmpty) = false := by rw [e1]; rfl
    clear C hl
    go_enter Tryz.func82, Tryz.ntmps82
    go_wp2_with fail
    go_ret
    exact ⟨rfl, Below.refl _ _⟩
  | cons c l =>
    have e1 : s.toList = c :: l := by rw [Lib.toList_data]; exact hl
    have e2 : (!s.toList.isEmpty) = true := by rw [e1]; rfl
    have e3 : s.toList.isEmpty = false := by rw [e1]; rfl
    have HF := Lib.hid (show (bl s).all tokB = tokF (c :: l) by rw [hl]; simp [tokF])
    clear hl e1
    go_enter Tryz.func82, Tryz.ntmps82
    go_wp2_with fail
    refine C.out.mono ?_
    rintro e w' ⟨rfl, b⟩
    go_wp2_with fail
    go_ret
    exact ⟨ret_bool HF.out, b⟩
theorem tx_visible (s : ByteArray) (w : World) (_hs : s.size ≤ 1000000000) : Calls Tryz.prog 102 #[.string s] w fun e w' => e = .returned (.bool (visF (bl s))) ∧ Below w.heap.size w w' := ty_visible s w
theorem tx_token (s : ByteArray) (w : World) (_hs : s.size ≤ 1000000000) : Calls Tryz.prog 82 #[.string s] w fun e w' => e = .returned (.bool (tokF (bl s))) ∧ Below w.heap.size w w' := ty_token s w
end Go.Proofs.YtdcbcjljmjnopaaGreatDoor

namespace Go.Proofs.YtdcbcjljmjnopaaGreatDoor
open Go.RowKit

/-- An append of a text to bytes whose run is known, at its place in a walk. -/
theorem append_txt_by {P : Program} {w : World} {ops : Array Oper} {rest : List Oper} {o : Oper} {a : Act} {Q : Exit → Act → World → Prop} (hgd : o.guard = none) (s x : Operand) (t u : TypeId)
    (ho : o.op = .call { callee := .builtin .append, args := #[s, x], argTypes := #[t, u] }) (v xv v' : Value) (w' : World) (hs : a.eval s = v) (hx : a.eval x = xv)
    (hrun : (Builtin.append_ #[t, u] o.type #[v, xv]).run P w = .ok v' w') (h : wpList P ops Q rest (a.put o.dst v') w') : wpList P ops Q (o :: rest) a w := by
  refine wpList_plain hgd fun K hK => ?_
  unfold Oper.wp execOp
  simp only [ho, resolve, invoke, builtin, Sem.run_bind, Sem.run_pure, Result.andThen_ok, List.map_toArray, List.map_cons, List.map_nil, hs, hx, hrun]
  exact hK _ _ h

/-- append(v, s...), s a text. -/
theorem run_add_text (B : Nat) (w : World) (v : Value) (o : Option Nat) (bs : List UInt8) (s : ByteArray) (h : Own w v o bs) (ho : ∀ b, o = some b → B ≤ b) (hB : B ≤ w.heap.size) (hlen : bs.length + s.size ≤ 140737488355328) :
    ∃ (v' : Value) (w' : World) (o' : Option Nat), (Builtin.append_ #[24, 9] 24 #[v, .string s]).run Tryz.prog w = .ok v' w' ∧ Own w' v' o' (bs ++ bl s) ∧ Turn (fun k => o = some k) w w' ∧ (∀ b, o' = some b → B ≤ b) := by
  obtain ⟨i, hi, hz, hsz, hby⟩ := byteParts
  obtain ⟨⟨h1, h2⟩, h3⟩ := h
  have hown : w.ownsRow B 5 1 v bs.length (vals bs) := by
    refine ⟨h1, ?_⟩
    rcases h2 with h2 | ⟨g, cap, cur, hv, _, r⟩
    · exact .inl h2
    · exact .inr ⟨g, cap, cur, hv, ho g (by rw [← h3, hv]; rfl), r⟩
  obtain ⟨v', w', hrun, h4, h5, _⟩ := Lib.run_append_own_string (P := Tryz.prog) w B 24 9 24 5 i Tryz.underlying24 Tryz.underlying9 hi hz hsz hby v bs.length (vals bs) hown s (by simp only [maxLen]; omega) hlen hB
  have hcells : Lib.strCells s = vals (bl s) := by simp [Lib.strCells, vals, YtdcbcjljmjnopaaGreatDoor.B, bl]
  refine ⟨v', w', v'.ownBlock, hrun, ⟨?_, rfl⟩, Turn.of_grown h5 (fun k hk => by rw [← h3]; exact hk), fun b hb => (h4.lt b hb).1⟩
  rw [hcells] at h4
  rw [List.length_append, vals_append, bl_length]
  obtain ⟨h6, h7⟩ := h4
  refine ⟨h6, ?_⟩
  rcases h7 with h7 | ⟨g, cap, cur, hv, _, r⟩
  · exact .inl h7
  · exact .inr ⟨g, cap, cur, hv, Nat.zero_le _, r⟩

theorem Own.ne_iter {w : World} {v : Value} {o : Option Nat} {bs : List UInt8} {g : Nat} {s : ByteArray} {k : Nat} (h : Own w v o bs) (hi : AtIter w g s k) : ¬ o = some g := by
  intro e
  obtain ⟨⟨_, h2⟩, h3⟩ := h
  rcases h2 with ⟨rfl, _⟩ | ⟨g', cap, cur, hv, _, hh, _⟩
  · rw [e] at h3
    cases h3
  · rw [e, hv] at h3
    have : g' = g := by
      have h3' : some g' = some g := h3
      exact Option.some.inj h3'
    subst this
    unfold AtIter at hi
    rw [hi] at hh
    cases hh

theorem quo_high : ∀ (x : List UInt8), (∀ c ∈ x, 128 ≤ c.toNat) → x.flatMap quoB = x
  | [], _ => rfl
  | c :: x, h => by
    have hc := h c (by simp)
    rw [List.flatMap_cons, quoB_no c (by omega), quo_high x (fun d hd => h d (by simp [hd]))]
    rfl
theorem quoTo_wide (s : ByteArray) (k n : Nat) (h : ∀ c ∈ ((bl s).drop k).take n, 128 ≤ c.toNat) : quoTo s (k + n) = quoTo s k ++ ((bl s).drop k).take n := by
  unfold quoTo
  rw [List.take_add, List.flatMap_append, quo_high _ h]
  rfl

def QRel (W : World) (s : ByteArray) (v vf : Value) (wx : World) : Prop :=
  ∃ (k f : Nat) (o : Option Nat) (bs : List UInt8), f ≤ k ∧ k ≤ s.size ∧ vf = .int .i64 (f : Int) ∧ AtIter wx (W.heap.size + 1) s k ∧ Own wx v o bs ∧ (∀ b, o = some b → W.heap.size ≤ b) ∧ Below W.heap.size W wx ∧ bs ++ piece s f k = quoTo s k
/-- What a step of the range leaves. -/
theorem QRel.next {W wr w1 : World} {g : Nat} {s : ByteArray} {k : Nat} {v : Value} {o : Option Nat} {bs : List UInt8} (hg : W.heap.size ≤ g) (hit : AtIter wr g s k) (t1 : Turn (· = g) wr w1) (hown : Own wr v o bs) (hB : Below W.heap.size W wr) :
    Own w1 v o bs ∧ Below W.heap.size W w1 :=
  ⟨hown.kept t1 (fun b hb e => hown.ne_iter hit (by rw [hb, e])), hB.trans ⟨t1.os, t1.tape, t1.output, t1.size, fun b hb => t1.block b (by have := hB.size; omega) (by omega)⟩⟩
/-- What an append leaves. -/
theorem QRel.add {W w1 w2 : World} {g : Nat} {s : ByteArray} {k : Nat} {v : Value} {o : Option Nat} {bs : List UInt8} (hit : AtIter w1 g s k) (hown : Own w1 v o bs) (ho : ∀ b, o = some b → W.heap.size ≤ b) (hB : Below W.heap.size W w1) (t2 : Turn (fun b => o = some b) w1 w2) :
    AtIter w2 g s k ∧ Below W.heap.size W w2 :=
  ⟨hit.kept t2 (hown.ne_iter hit), hB.trans ⟨t2.os, t2.tape, t2.output, t2.size, fun b hb => t2.block b (by have := hB.size; omega) (fun h => by have := ho b h; omega)⟩⟩
theorem quo_bound (s : ByteArray) (f k : Nat) (bs : List UInt8) (hk : k ≤ s.size) (h : bs ++ piece s f k = quoTo s k) : bs.length ≤ 2 * s.size + 1 ∧ (quoTo s k).length ≤ 2 * s.size + 1 := by
  have h1 := quoTo_length s k
  have h2 := congrArg List.length h
  rw [List.length_append] at h2
  omega

end Go.Proofs.YtdcbcjljmjnopaaGreatDoor
