/-
  What package text's Token and Visible do, call by call.
  Conditions: those that each theorem names.
-/
import Derived.Test.YtopanahgeeolbaaGreatDoorUB
namespace Go.Proofs.YtopanahgeeolbaaGreatDoor
open Go.RowKit

set_option maxHeartbeats 1000000 in
set_option maxRecDepth 100000 in
theorem tokR_high (r : Int) (w : World) (h1 : 128 ≤ r) (h2 : r ≤ 2147483647) : Calls Tryz.prog 85 #[.int .i32 r] w fun e w' => e = .returned (.bool false) ∧ Below w.heap.size w w' := by
  have CA := Lib.hid (fun W : World => capital_any r W)
  have hc : capB r = false := by unfold capB; simp; omega
  rw [hc] at CA
  clear hc
  have e1 : decide (r ≤ 122) = false := by simp; omega
  have e2 : decide (r ≤ 57) = false := by simp; omega
  go_enter Tryz.func85, Tryz.ntmps85
  go_wp2_with fail
  refine (CA.out _).mono ?_
  rintro e w9 ⟨rfl, rfl⟩
  go_wp2_with (go_at_call 56; refine (contains_high r _ h1 h2).mono ?_; rintro e w8 ⟨rfl, b9⟩)
  all_goals
    go_ret
    exact ⟨rfl, b9⟩

/-- What a function of a rune, handed on, says of a byte. -/
structure Says (f : FuncId) (p : UInt8 → Bool) (q : Bool) : Prop where
  low : ∀ (c : UInt8) (w : World), c.toNat < 128 → Calls Tryz.prog f #[.int .i32 (c.toNat : Int)] w fun e w' => e = .returned (.bool (p c)) ∧ Below w.heap.size w w'
  high : ∀ (r : Int) (w : World), 128 ≤ r → r ≤ 2147483647 → Calls Tryz.prog f #[.int .i32 r] w fun e w' => e = .returned (.bool q) ∧ Below w.heap.size w w'
  same : ∀ c : UInt8, 128 ≤ c.toNat → p c = q

theorem all_no (l : List UInt8) (p : UInt8 → Bool) (c : UInt8) (k : Nat) (h : l[k]? = some c) (hc : p c = false) : l.all p = false := by
  rw [Bool.eq_false_iff]
  intro hall
  have := List.all_eq_true.1 hall c (List.mem_of_getElem? h)
  rw [hc] at this
  cases this
theorem take_more (l : List UInt8) (k n : Nat) : l.take (k + n) = l.take k ++ (l.drop k).take n := List.take_add

set_option maxHeartbeats 1000000 in
set_option maxRecDepth 100000 in
theorem all_any (f : FuncId) (hf : f = 85
    ) (p : UInt8 → Bool) (q : Bool) (hp : Says f p q) (s : ByteArray) (w : World) :
    Calls Tryz.prog 84 #[.string s, .func (.func f) #[] #[]] w fun e w' => e = .returned (.bool ((bl s).all p)) ∧ Below w.heap.size w w' := by
  have CL := Lib.hid hp.low
  have CH := Lib.hid hp.high
  have CS := Lib.hid hp.same
  clear hp
  all_goals try subst hf
  all_goals
    go_enter Tryz.func84, Tryz.ntmps84
    go_wp2_with fail
    go_loopw [6] (fun _ wx => ∃ k : Nat, k ≤ s.size ∧ AtIter wx w.heap.size s k ∧ Below w.heap.size w wx ∧ ((bl s).take k).all p = true) (fun _ wx => s.size - wx.iterPos w.heap.size)
    case atStart => exact ⟨0, Nat.zero_le _, AtIter.start _ _, (Below.refl _ _).alloc (Nat.le_refl _) _, rfl⟩
    case round =>
      obtain ⟨k, hk, hit, hB, hall⟩ := hrel
      have HALL := Lib.hid hall
      have HM := Lib.hid hit.pos
      clear hall
      by_cases hlt : k < s.size
      · rcases decode_step s k hlt with ⟨hc, hd⟩ | ⟨hc, r, n, hd, hr1, hr2, hn, hw⟩
        · obtain ⟨w1, hnx, hit1, t1, z1⟩ := next_some (P := Tryz.prog) hit hlt hd
          have hB1 : Below w.heap.size w w1 := hB.trans ⟨t1.os, t1.tape, t1.output, t1.size, fun b hb => t1.block b (by have := hB.size; omega) (by omega)⟩
          have hlt1 := hit1.lt
          clear hd z1 t1
          have C := Lib.hid (CL.out s[k] w1 hc)
          have HG := Lib.hid (bl_get s k hlt)
          have HTK := Lib.hid (bl_take s k hlt)
          generalize s[k] = c at *
          cases hpc : p c with
          | true =>
            rw [hpc] at C
            have HP := Lib.hid hpc
            clear hpc
            go_wp2_with fail
            refine C.out.mono ?_
            rintro e w2 ⟨rfl, b2⟩
            have hit2 : AtIter w2 w.heap.size s (k + 1) := hit1.kept (Turn.of_below (S := fun _ => False) b2) (fun h => h)
            go_wp2_with fail
            go_roundw
            case rel => exact ⟨k + 1, hlt, hit2, hB1.trans (b2.mono hB1.size), by rw [HTK.out, List.all_append, HALL.out]; simp [HP.out]⟩
            case measure => rw [hit2.pos, HM.out]; omega
          | false =>
            rw [hpc] at C
            have HP := Lib.hid hpc
            clear hpc
            go_wp2_with fail
            refine C.out.mono ?_
            rintro e w2 ⟨rfl, b2⟩
            go_wp2_with fail
            go_ret
            exact ⟨ret_bool (all_no _ _ c k HG.out HP.out).symm, hB1.trans (b2.mono hB1.size)⟩
        · obtain ⟨w1, hnx, hit1, t1, z1⟩ := next_some (P := Tryz.prog) hit hlt hd
          have hB1 : Below w.heap.size w w1 := hB.trans ⟨t1.os, t1.tape, t1.output, t1.size, fun b hb => t1.block b (by have := hB.size; omega) (by omega)⟩
          have hlt1 := hit1.lt
          have HG := Lib.hid (bl_get s k hlt)
          have HW := Lib.hid hw
          clear hd z1 t1 hw
          have C := Lib.hid (CH.out (r : Int) w1 (by omega) (by omega))
          have HC := Lib.hid (CS.out s[k] hc)
          generalize s[k] = c at *
          cases q with
          | true =>
            go_wp2_with fail
            refine C.out.mono ?_
            rintro e w2 ⟨rfl, b2⟩
            have hit2 : AtIter w2 w.heap.size s (k + (n + 1)) := hit1.kept (Turn.of_below (S := fun _ => False) b2) (fun h => h)
            go_wp2_with fail
            go_roundw
            case rel =>
              refine ⟨k + (n + 1), hn, hit2, hB1.trans (b2.mono hB1.size), ?_⟩
              rw [take_more, List.all_append, HALL.out, Bool.true_and, List.all_eq_true]
              exact fun d hd => CS.out d (HW.out d hd)
            case measure => rw [hit2.pos, HM.out]; omega
          | false =>
            go_wp2_with fail
            refine C.out.mono ?_
            rintro e w2 ⟨rfl, b2⟩
            go_wp2_with fail
            go_ret
            exact ⟨ret_bool (all_no _ _ c k HG.out HC.out).symm, hB1.trans (b2.mono hB1.size)⟩
      · have hnx := next_none (P := Tryz.prog) hit hlt
        have HF := Lib.hid (show (bl s).all p = true by
          have := HALL.out
          rw [List.take_of_length_le (by rw [bl_length]; omega)] at this
          exact this)
        go_wp2_with fail
        go_ret
        exact ⟨ret_bool HF.out.symm, hB⟩

theorem tokB_high (c : UInt8) (h : 128 ≤ c.toNat) : tokB c = false := by
  have h1 : ∀ d ∈ bl signsS, d.toNat < 128 := by decide
  rw [tokB_split, Bool.eq_false_iff]
  intro h2
  simp only [Bool.or_eq_true, Bool.and_eq_true, decide_eq_true_eq, capB] at h2
  rcases h2 with ((h2 | h2) | h2) | h2
  · omega
  · omega
  · omega
  · obtain ⟨d, hd, e⟩ := List.any_eq_true.1 h2
    rw [beq_iff_eq] at e
    have := h1 d hd
    rw [e] at this
    omega
theorem token_says : Says 85 tokB false := ⟨tokR_low, tokR_high, tokB_high⟩

theorem ty_token (s : ByteArray) (w : World) : Calls Tryz.prog 71 #[.string s] w fun e w' => e = .returned (.bool (tokF (bl s))) ∧ Below w.heap.size w w' := by
  have C := Lib.hid (all_any 85 (by simp) tokB false token_says s w)
  cases hl : bl s with
  | nil =>
    have e1 : s.toList = [] := by rw [Lib.toList_data]; exact hl
    have e2 : (!s.toList.isEmpty) = false := by rw [e1]; rfl
    clear C hl
    go_enter Tryz.func71, Tryz.ntmps71
    go_wp2_with fail
    go_ret
    exact ⟨rfl, Below.refl _ _⟩
  | cons c l =>
    have e1 : s.toList = c :: l := by rw [Lib.toList_data]; exact hl
    have e2 : (!s.toList.isEmpty) = true := by rw [e1]; rfl
    have e3 : s.toList.isEmpty = false := by rw [e1]; rfl
    have HF := Lib.hid (show (bl s).all tokB = tokF (c :: l) by rw [hl]; simp [tokF])
    clear hl e1
    go_enter Tryz.func71, Tryz.ntmps71
    go_wp2_with fail
    refine C.out.mono ?_
    rintro e w' ⟨rfl, b⟩
    go_wp2_with fail
    go_ret
    exact ⟨ret_bool HF.out, b⟩
theorem tx_token (s : ByteArray) (w : World) (_hs : s.size ≤ 1000000000) : Calls Tryz.prog 71 #[.string s] w fun e w' => e = .returned (.bool (tokF (bl s))) ∧ Below w.heap.size w w' := ty_token s w
end Go.Proofs.YtopanahgeeolbaaGreatDoor
