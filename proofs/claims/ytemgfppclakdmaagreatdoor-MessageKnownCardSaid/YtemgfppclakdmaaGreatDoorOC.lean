/-
  What MessageBack's drawn region asks: an append at any world, a response told in memory of its own.
  Conditions: those that each theorem names.
-/
import Derived.Test.YtemgfppclakdmaaGreatDoorML
namespace Go.Proofs.YtemgfppclakdmaaGreatDoor
open Go.RowKit

theorem puts_len {line : List UInt8} {ls : List Fld} {body b : List UInt8} {length : Bool} (h : putsM line ls body length = (b, 0)) : b.length ≤ 6144 := by
  unfold putsM at h
  split at h
  · cases h
  · split at h
    · cases h
    · split at h
      · cases h
      · split at h
        · cases h
        · next h3 =>
          injection h with h _
          rw [← h]
          simp only [List.length_append, List.length_cons, List.length_nil] at h3 ⊢
          omega
theorem putReq_len {m t : List UInt8} {n : Int} {ls : List Fld} {body b : List UInt8} (h : putReqM m t n ls body = (b, 0)) : b.length ≤ 6144 := by
  unfold putReqM at h
  split at h
  · cases h
  · exact puts_len h
theorem putRes_len {n st : Int} {r m : List UInt8} {ls : List Fld} {body b : List UInt8} (h : putResM n st r ls body m = (b, 0)) : b.length ≤ 6144 := by
  unfold putResM at h
  split at h
  · cases h
  · split at h
    · cases h
    · exact puts_len h
theorem putsM_err (line : List UInt8) (ls : List Fld) (body : List UInt8) (length : Bool) : (putsM line ls body length).2 = 0 ∨ (putsM line ls body length).1 = [] := by
  unfold putsM
  repeat' split
  all_goals simp
theorem withCL_length (ls : List Fld) (k : Nat) (q : Bool) : (withCL ls k q).length = ls.length + (if q = true then 1 else 0) := by
  unfold withCL
  cases q <;> simp
theorem run_front_fld9 (A : Option Addr) (n c k : Nat) (hk : k ≤ c) : ∃ A', (∀ W : World, (Instr.slice 23 (.slice A n c) none (some (.int .i64 (k : Int))) none).run Tryz.prog W = .ok (.slice A' k c) W) ∧
    ∀ (w : World) (P : Nat → Prop) (ls : List Fld), ls.length = n → k ≤ n → SrcF w P A ls → SrcF w P A' (ls.take k) := by
  obtain ⟨i, hin, _⟩ := Option.map_eq_some_iff.1 fldSize
  refine ⟨if c = 0 then A else A.map (·.add (0 * i.size)), fun W => ?_, fun w P ls hn hkn h => ?_⟩
  · simp [Instr.slice, run_underlying Tryz.underlying23, Instr.sliceBounds, Instr.sliceBound, asIntOf, hk, sizeOf, typeInfo, hin]
  · intro h0
    rw [List.length_take] at h0
    obtain ⟨ad, rfl, hP, hlt, hc⟩ := h (by omega)
    rw [if_neg (by omega)]
    refine ⟨ad.add (0 * i.size), rfl, ?_, ?_, fun j f hf => ?_⟩
    · unfold Addr.add; split <;> exact hP
    · unfold Addr.add; split <;> exact hlt
    · rw [add_add_at, add_add_at, Nat.zero_mul, Nat.zero_add, Nat.zero_add]
      rw [List.getElem?_take] at hf
      split at hf
      · exact hc j f hf
      · cases hf
set_option maxHeartbeats 4000000 in
set_option maxRecDepth 100000 in
theorem rbare_any (w : World) (st : Int) (m : ByteArray) : Calls Tryz.prog 21 #[.int .i64 st, .string m] w fun e w' => e = .returned (.bool (bareM st (bl m))) ∧ w = w' := by
  have e1 : (m.toList == [72, 69, 65, 68]) = decide (bl m = [72, 69, 65, 68]) := by rw [Lib.toList_data, Bool.eq_iff_iff, beq_iff_eq, decide_eq_true_iff]; exact Iff.rfl
  have e2 : (m.toList == [67, 79, 78, 78, 69, 67, 84]) = decide (bl m = [67, 79, 78, 78, 69, 67, 84]) := by rw [Lib.toList_data, Bool.eq_iff_iff, beq_iff_eq, decide_eq_true_iff]; exact Iff.rfl
  have HB := Lib.hid (show bareM st (bl m) = (decide (bl m = [72, 69, 65, 68]) || decide (st < 200) || decide (st = 204) || decide (st = 304) || (decide (bl m = [67, 79, 78, 78, 69, 67, 84]) && decide (st < 300))) by
    unfold bareM bodyF
    by_cases a1 : bl m = [72, 69, 65, 68]
    · simp [a1]
    · by_cases a2 : st < 200
      · simp [a2]
      · by_cases a3 : st = 204
        · simp [a3]
        · by_cases a4 : st = 304
          · simp [a4]
          · simp only [a1, a2, a3, a4, or_self, if_false, decide_false, Bool.false_or]
            by_cases a5 : bl m = [67, 79, 78, 78, 69, 67, 84]
            · rw [a5]
              by_cases a6 : st < 300
              · simp [a6]
              · simp [a6]; omega
            · simp [a5])
  cases q1 : decide (bl m = [72, 69, 65, 68]) with
  | true =>
    rw [q1] at e1
    have HR := Lib.hid (show bareM st (bl m) = true by rw [HB.out, q1]; rfl)
    clear q1 HB
    go_enter Tryz.func21, Tryz.ntmps21
    go_wp2_with fail
    go_ret
    exact ⟨ret_bool HR.out.symm, rfl⟩
  | false =>
    rw [q1] at e1
    have HB1 := Lib.hid (HB.out.trans (by rw [q1, Bool.false_or]))
    clear q1 HB
    by_cases a0 : st < 200
    · have f0 : decide (st < 200) = true := by simpa using a0
      have HR := Lib.hid (show bareM st (bl m) = true by rw [HB1.out]; simp [a0])
      clear HB1 a0
      go_enter Tryz.func21, Tryz.ntmps21
      go_wp2_with fail
      go_ret
      exact ⟨ret_bool HR.out.symm, rfl⟩
    · have f0 : decide (st < 200) = false := by simpa using a0
      have HB2 := Lib.hid (HB1.out.trans (by rw [show decide (st < 200) = false by simpa using a0, Bool.false_or]))
      clear HB1 a0
      by_cases a1 : st = 204
      · have f1 : (st == 204) = true := by simpa using a1
        have HR := Lib.hid (show bareM st (bl m) = true by rw [HB2.out]; simp [a1])
        clear HB2 a1
        go_enter Tryz.func21, Tryz.ntmps21
        go_wp2_with fail
        go_ret
        exact ⟨ret_bool HR.out.symm, rfl⟩
      · have f1 : (st == 204) = false := by simpa using a1
        have HB3 := Lib.hid (HB2.out.trans (by rw [show decide (st = 204) = false by simpa using a1, Bool.false_or]))
        clear HB2 a1
        by_cases a2 : st = 304
        · have f2 : (st == 304) = true := by simpa using a2
          have HR := Lib.hid (show bareM st (bl m) = true by rw [HB3.out]; simp [a2])
          clear HB3 a2
          go_enter Tryz.func21, Tryz.ntmps21
          go_wp2_with fail
          go_ret
          exact ⟨ret_bool HR.out.symm, rfl⟩
        · have f2 : (st == 304) = false := by simpa using a2
          have HB4 := Lib.hid (HB3.out.trans (by rw [show decide (st = 304) = false by simpa using a2, Bool.false_or]))
          clear HB3 a2
          cases q2 : decide (bl m = [67, 79, 78, 78, 69, 67, 84]) with
          | false =>
            rw [q2] at e2
            have HR := Lib.hid (show bareM st (bl m) = false by rw [HB4.out, q2]; rfl)
            clear q2 HB4
            go_enter Tryz.func21, Tryz.ntmps21
            go_wp2_with fail
            go_ret
            exact ⟨ret_bool HR.out.symm, rfl⟩
          | true =>
            rw [q2] at e2
            by_cases a6 : st < 300
            · have f6 : decide (st < 300) = true := by simpa using a6
              have HR := Lib.hid (show bareM st (bl m) = true by rw [HB4.out, q2]; simp [a6])
              clear q2 HB4 a6
              go_enter Tryz.func21, Tryz.ntmps21
              go_wp2_with fail
              go_ret
              exact ⟨ret_bool HR.out.symm, rfl⟩
            · have f6 : decide (st < 300) = false := by simpa using a6
              have HR := Lib.hid (show bareM st (bl m) = false by rw [HB4.out, q2]; simp; omega)
              clear q2 HB4 a6
              go_enter Tryz.func21, Tryz.ntmps21
              go_wp2_with fail
              go_ret
              exact ⟨ret_bool HR.out.symm, rfl⟩
end Go.Proofs.YtemgfppclakdmaaGreatDoor

namespace Go.Proofs.YtemgfppclakdmaaGreatDoor
open Go.RowKit

/-- A request, a response as its parts, with room. -/
def RqTold2 (R : RqM × List Fld × List UInt8) (u f : Nat) (X : World) (e : Ending) (w' : World) : Prop := ∃ Af cf Ab cb, e = .returned (.tuple #[.agg #[.string ⟨R.1.1.toArray⟩, .string ⟨R.1.2.1.toArray⟩, .int .i64 (R.1.2.2 : Int), .slice Af R.2.1.length cf, .slice Ab R.2.2.length cb], .int .i64 (u : Int), .int .i64 (f : Int)]) ∧
  R.2.1.length ≤ cf ∧ SrcF w' (fun _ => True) Af R.2.1 ∧ Src w' (fun _ => True) Ab R.2.2 ∧ Below X.heap.size X w'
def RsTold2 (R : RsM × List Fld × List UInt8) (u f : Nat) (X : World) (e : Ending) (w' : World) : Prop := ∃ Af cf Ab cb, e = .returned (.tuple #[.agg #[.int .i64 (R.1.2.1 : Int), .string ⟨R.1.2.2.toArray⟩, .int .i64 (R.1.1 : Int), .slice Af R.2.1.length cf, .slice Ab R.2.2.length cb], .int .i64 (u : Int), .int .i64 (f : Int)]) ∧
  R.2.1.length ≤ cf ∧ SrcF w' (fun _ => True) Af R.2.1 ∧ Src w' (fun _ => True) Ab R.2.2 ∧ Below X.heap.size X w'
theorem OwnF.cap {w : World} {v : Value} {o : Option Nat} {ls : List Fld} (h : OwnF w v o ls) : ∃ A c, v = .slice A ls.length c ∧ ls.length ≤ c ∧ SrcF w (fun _ => True) A ls := by
  obtain ⟨A, c, hv, hs⟩ := h.src (fun _ => True) (fun _ _ => trivial)
  refine ⟨A, c, hv, ?_, hs⟩
  obtain ⟨⟨_, h2⟩, _⟩ := h
  rcases h2 with ⟨_, hn⟩ | ⟨g, cap, cur, hv2, _, _, hnc, _⟩
  · rw [hn]; exact Nat.zero_le _
  · rw [hv2] at hv
    injection hv with _ _ hcc
    omega
theorem RqGot9.told2 {R : Option (RqM × List Fld × List UInt8) × Nat × Nat} {w w' : World} {e : Ending} (h : RqGot9 R w e w') : RqTold2 (R.1.getD rqZ) R.2.1 R.2.2 w e w' := by
  obtain ⟨fv, fo, bv, bo, rfl, h1, h2, _, _, h5⟩ := h
  obtain ⟨A, c, rfl, hc, s⟩ := h1.cap
  obtain ⟨A', c', rfl, s'⟩ := h2.src (fun _ => True) (fun _ _ => trivial)
  exact ⟨A, c, A', c', rfl, hc, s, s', h5⟩
theorem RsGot9.told2 {R : Option (RsM × List Fld × List UInt8) × Nat × Nat} {w w' : World} {e : Ending} (h : RsGot9 R w e w') : RsTold2 (R.1.getD rsZ) R.2.1 R.2.2 w e w' := by
  obtain ⟨fv, fo, bv, bo, rfl, h1, h2, _, _, h5⟩ := h
  obtain ⟨A, c, rfl, hc, s⟩ := h1.cap
  obtain ⟨A', c', rfl, s'⟩ := h2.src (fun _ => True) (fun _ _ => trivial)
  exact ⟨A, c, A', c', rfl, hc, s, s', h5⟩
theorem req_short (b : List UInt8) (k n : Nat) (h : (requestM b).2 = (n, 0)) (hk : k < n) : requestM (b.take k) = (none, 0, 8) := by
  have h8 := msgM_short (begin := Sta.reqF) (kind := fun a l => reqK (a.2.2 : Int) l) (fun _ _ _ => reqK_small _ _) b n k h hk
  rcases request_range (b.take k) with ⟨_, _, _, _, h2, _, _⟩ | ⟨_, h2, h3⟩
  · unfold requestM at h2
    rw [h8] at h2
    cases h2
  · have e : requestM (b.take k) = ((requestM (b.take k)).1, (requestM (b.take k)).2.1, (requestM (b.take k)).2.2) := rfl
    rw [e, h2, h3, show (requestM (b.take k)).2.2 = 8 from h8]
theorem res_short (b m : List UInt8) (k n : Nat) (h : (responseM b m false).2 = (n, 0)) (hk : k < n) : responseM (b.take k) m false = (none, 0, 8) := by
  have h8 := msgM_short (begin := Sta.statF) (kind := fun a l => resK (a.2.1 : Int) m (reqK (a.1 : Int) l)) (fun _ _ _ => resK_small _ _ _ (reqK_small _ _)) b n k h hk
  rcases response_range (b.take k) m false with ⟨_, _, _, _, h2, _, _⟩ | ⟨_, h2, h3⟩
  · unfold responseM at h2
    rw [h8] at h2
    cases h2
  · have e : responseM (b.take k) m false = ((responseM (b.take k) m false).1, (responseM (b.take k) m false).2.1, (responseM (b.take k) m false).2.2) := rfl
    rw [e, h2, h3, show (responseM (b.take k) m false).2.2 = 8 from h8]
theorem srcf_lt {w : World} {P : Nat → Prop} {A : Option Addr} {ls : List Fld} (h : SrcF w P A ls) : SrcF w (fun b => b < w.heap.size) A ls := fun h0 => by
  obtain ⟨ad, h1, h2, h3, h4⟩ := h h0
  exact ⟨ad, h1, h3, h3, h4⟩
theorem srcf_turn {w w' : World} {P S : Nat → Prop} {A : Option Addr} {ls : List Fld} (h : SrcF w P A ls) (ht : Turn S w w') (hS : ∀ k, P k → ¬ S k) : SrcF w' P A ls := fun h0 => by
  obtain ⟨ad, h1, h2, h3, h4⟩ := h h0
  refine ⟨ad, h1, h2, Nat.lt_of_lt_of_le h3 ht.size, fun i f hf => ?_⟩
  obtain ⟨c1, c2⟩ := h4 i f hf
  have hb : ∀ k, (ad.add k).block = ad.block := fun k => by unfold Addr.add; split <;> rfl
  exact ⟨(ht.cell (by rw [hb]; exact h3) (by rw [hb]; exact hS _ h2)).trans c1, (ht.cell (by rw [hb]; exact h3) (by rw [hb]; exact hS _ h2)).trans c2⟩
theorem srcf_true {w : World} {P : Nat → Prop} {A : Option Addr} {ls : List Fld} (h : SrcF w P A ls) : SrcF w (fun _ => True) A ls := fun h0 => by
  obtain ⟨ad, h1, _, h3, h4⟩ := h h0
  exact ⟨ad, h1, trivial, h3, h4⟩
theorem src_lt {w : World} {P : Nat → Prop} {A : Option Addr} {bs : List UInt8} (h : Src w P A bs) : Src w (fun b => b < w.heap.size) A bs := fun h0 => by
  obtain ⟨ad, h1, h2, h3, h4⟩ := h h0
  exact ⟨ad, h1, h3, h3, h4⟩
/-- A copy with a tail behind it: append(append([]byte{}, b...), tail...). -/
theorem tail_any (w X : World) (hX : Below w.heap.size w X) (Ab At : Option Addr) (bs ts : List UInt8) (L cb nt ct : Nat) (hL : bs.length = L) (hnt : ts.length = nt) (h1 : L ≤ 100000) (h2 : nt ≤ 100000000) (sb : Src X (fun _ => True) Ab bs) (stl : Src w (fun _ => True) At ts) :
    ∃ (v3 : Value) (w3 : World) (M : Option Addr) (cM : Nat) (w4 : World), (Builtin.append_ #[22, 22] 22 #[.slice (some ⟨X.heap.size, 0, none⟩) 0 0, .slice Ab L cb]).run Tryz.prog (X.alloc (.cells #[] 5)) = .ok v3 w3 ∧
      (Builtin.append_ #[22, 22] 22 #[v3, .slice At nt ct]).run Tryz.prog w3 = .ok (.slice M (L + nt) cM) w4 ∧ L + nt ≤ cM ∧ Src w4 (fun _ => True) M (bs ++ ts) ∧ Below w.heap.size w w4 ∧ Below X.heap.size X w4 ∧ Below X.heap.size X w3 := by
  have b0 : Below X.heap.size X (X.alloc (.cells #[] 5)) := (Below.refl _ _).alloc (Nat.le_refl _) _
  obtain ⟨v3, w3, o3, r3, own3, t3, f3⟩ := run_append_src (X.alloc (.cells #[] 5)) _ _ [] bs (Own.built X) Ab L cb hL (sb.kept (Turn.of_below (S := fun _ => False) b0) (fun _ _ h => h)) (by simp; omega)
  rw [List.nil_append] at own3
  have b3 : Below X.heap.size X w3 := below_own b0 (fun b hb => by injection hb with hb; omega) t3
  have f3' : ∀ b, o3 = some b → X.heap.size ≤ b := fun b hb => by
    rcases f3 with h | h
    · rw [h] at hb; injection hb with hb; omega
    · rw [h] at hb; injection hb with hb; simp at hb; omega
  have bw3 := hX.trans (b3.mono hX.size)
  obtain ⟨v4, w4, o4, r4, own4, t4, f4⟩ := run_append_src w3 v3 o3 bs ts own3 At nt ct hnt (stl.kept (Turn.of_below (S := fun _ => False) bw3) (fun _ _ h => h)) (by omega)
  have b4 : Below X.heap.size X w4 := below_own b3 f3' t4
  obtain ⟨M, cM, hM, hMc, sM, _⟩ := own4.block
  have hl : (bs ++ ts).length = L + nt := by rw [List.length_append, hL, hnt]
  rw [hl] at hM hMc
  subst hM
  exact ⟨v3, w3, M, cM, w4, r3, r4, hMc, sM, hX.trans (b4.mono hX.size), b4, b3⟩

end Go.Proofs.YtemgfppclakdmaaGreatDoor

namespace Go.Proofs.YtemgfppclakdmaaGreatDoor
open Go.RowKit

theorem srcf_imp {w : World} {P P' : Nat → Prop} {A : Option Addr} {ls : List Fld} (h : SrcF w P A ls) (hp : ∀ k, k < w.heap.size → P k → P' k) : SrcF w P' A ls := fun h0 => by
  obtain ⟨ad, h1, h2, h3, h4⟩ := h h0
  exact ⟨ad, h1, hp _ h3 h2, h3, h4⟩
theorem OwnF.cap3 {P : Nat → Prop} {w : World} {v : Value} {o : Option Nat} {ls : List Fld} (h : OwnF w v o ls) (hP : ∀ k, o = some k → P k) : ∃ A c, v = .slice A ls.length c ∧ ls.length ≤ c ∧ SrcF w P A ls := by
  obtain ⟨A, c, hv, hs⟩ := h.src P hP
  refine ⟨A, c, hv, ?_, hs⟩
  obtain ⟨⟨_, h2⟩, _⟩ := h
  rcases h2 with ⟨_, hn⟩ | ⟨g, cap, cur, hv2, _, _, hnc, _⟩
  · rw [hn]; exact Nat.zero_le _
  · rw [hv2] at hv
    injection hv with _ _ hcc
    omega
/-- A response as its parts, in memory of its own. -/
def RsTold3 (R : RsM × List Fld × List UInt8) (u f : Nat) (X : World) (e : Ending) (w' : World) : Prop := ∃ Af cf Ab cb, e = .returned (.tuple #[.agg #[.int .i64 (R.1.2.1 : Int), .string ⟨R.1.2.2.toArray⟩, .int .i64 (R.1.1 : Int), .slice Af R.2.1.length cf, .slice Ab R.2.2.length cb], .int .i64 (u : Int), .int .i64 (f : Int)]) ∧
  R.2.1.length ≤ cf ∧ SrcF w' (fun b => X.heap.size ≤ b) Af R.2.1 ∧ Src w' (fun b => X.heap.size ≤ b) Ab R.2.2 ∧ Below X.heap.size X w'
theorem RsGot9.told3 {R : Option (RsM × List Fld × List UInt8) × Nat × Nat} {w w' : World} {e : Ending} (h : RsGot9 R w e w') : RsTold3 (R.1.getD rsZ) R.2.1 R.2.2 w e w' := by
  obtain ⟨fv, fo, bv, bo, rfl, h1, h2, h3, h4, h5⟩ := h
  obtain ⟨A, c, rfl, hc, s⟩ := h1.cap3 (P := fun b => w.heap.size ≤ b) h3
  obtain ⟨A', c', rfl, s'⟩ := h2.src (fun b => w.heap.size ≤ b) h4
  exact ⟨A, c, A', c', rfl, hc, s, s', h5⟩
theorem put5_belowY {W X : World} {g : Nat} (hB : Below W.heap.size W X) (hg : W.heap.size ≤ g) (a b c d e : Value) : Below W.heap.size W (put5 X g a b c d e) := by
  have ht := put5_turn X g a b c d e
  exact hB.trans ⟨ht.os, ht.tape, ht.output, ht.size, fun k hk => ht.block k (by have := hB.size; omega) (by omega)⟩
/-- append(v, news...) at any world behind Y. -/
theorem app_one (Y X : World) (hX : Below Y.heap.size Y X) (v : Value) (o : Option Nat) (out : List UInt8) (hv : Own X v o out) (ho : ∀ b, o = some b → Y.heap.size ≤ b) (A : Option Addr) (news : List UInt8) (n c : Nat) (hn : news.length = n) (hs : Src Y (fun _ => True) A news) (hlen : out.length + n ≤ 1000000000) :
    ∃ (v' : Value) (w' : World) (o' : Option Nat), (Builtin.append_ #[22, 22] 22 #[v, .slice A n c]).run Tryz.prog X = .ok v' w' ∧ Own w' v' o' (out ++ news) ∧ (∀ b, o' = some b → Y.heap.size ≤ b) ∧ (∀ g, g < X.heap.size → o ≠ some g → o' ≠ some g) ∧ Turn (fun b => o = some b) X w' ∧ Below Y.heap.size Y w' := by
  obtain ⟨v', w', o', r, own, t, f⟩ := run_append_src X v o out news hv A n c hn (hs.kept (Turn.of_below (S := fun _ => False) hX) (fun _ _ h => h)) (by omega)
  refine ⟨v', w', o', r, own, fun b hb => ?_, fun g hg hne e => ?_, t, below_own hX ho t⟩
  · rcases f with h | h
    · exact ho b (by rw [← h]; exact hb)
    · rw [h] at hb; injection hb with hb; have := hX.size; omega
  · rcases f with h | h
    · exact hne (by rw [← h]; exact e)
    · rw [h] at e; injection e with e; omega
end Go.Proofs.YtemgfppclakdmaaGreatDoor
