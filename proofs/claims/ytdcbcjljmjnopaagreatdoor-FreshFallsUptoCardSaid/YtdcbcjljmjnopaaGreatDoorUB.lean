/-
  What package text's small functions do, call by call: capital, the closures of Token and Visible, all, Token, Visible.
  Conditions: those that each theorem names.
-/
import Derived.Test.YtdcbcjljmjnopaaGreatDoorUA
import Derived.Test.YtdcbcjljmjnopaaGreatDoorRC
import Derived.Test.YtdcbcjljmjnopaaGreatDoorPA
import Derived.Test.YtdcbcjljmjnopaaGreatDoorShelf
import Derived.Laws.Runes
import Derived.IntWalk
namespace Go.Proofs.YtdcbcjljmjnopaaGreatDoor
open Go.RowKit

def capB (r : Int) : Bool := decide (65 ≤ r) && decide (r ≤ 90)
set_option maxHeartbeats 400000 in
set_option maxRecDepth 100000 in
theorem capital_any (r : Int) (w : World) : Calls Tryz.prog 86 #[.int .i32 r] w fun e w' => e = .returned (.bool (capB r)) ∧ w = w' := by
  have HS := Lib.hid (show capB r = (decide (65 ≤ r) && decide (r ≤ 90)) from rfl)
  go_enter Tryz.func86, Tryz.ntmps86
  go_wp2
  all_goals
    go_ret
    refine ⟨ret_bool ?_, rfl⟩
    rw [HS.out]
    clear HS
    rw [Bool.eq_iff_iff]
    simp
  all_goals omega

def visR (r : Int) : Bool := (r == 9) || (decide (32 ≤ r) && (r != 127))
set_option maxHeartbeats 400000 in
set_option maxRecDepth 100000 in
theorem visR_any (r : Int) (w : World) : Calls Tryz.prog 111 #[.int .i32 r] w fun e w' => e = .returned (.bool (visR r)) ∧ w = w' := by
  have HS := Lib.hid (show visR r = ((r == 9) || (decide (32 ≤ r) && (r != 127))) from rfl)
  go_enter Tryz.func111, Tryz.ntmps111
  go_wp2
  all_goals
    go_ret
    refine ⟨ret_bool ?_, rfl⟩
    rw [HS.out]
    clear HS
    rw [Bool.eq_iff_iff]
    simp
  all_goals omega
theorem visR_low (c : UInt8) (h : c.toNat < 128) : visR c.toNat = shownB c := by
  rw [shownB_nat]
  unfold visR
  rw [Bool.eq_iff_iff]
  simp
  omega
theorem visR_high (r : Int) (h : 128 ≤ r) : visR r = true := by
  unfold visR
  simp
  omega

theorem indexByte_far : ∀ (l : List UInt8) (c : UInt8), (∀ d ∈ l, d ≠ c) → Lib.indexByte l c = -1
  | [], _, _ => rfl
  | b :: l, c, h => by
    have h1 : (b == c) = false := by simpa using h b (by simp)
    have h2 := indexByte_far l c (fun d hd => h d (by simp [hd]))
    simp [Lib.indexByte, h1, h2]

set_option maxHeartbeats 1000000 in
set_option maxRecDepth 100000 in
theorem index_high (r : Int) (w : World) (h1 : 128 ≤ r) (h2 : r ≤ 2147483647) : Calls Tryz.prog 110 #[.string signsS, .int .i32 r] w fun e w' => e = .returned (.int .i64 (-1)) ∧ Below w.heap.size w w' := by
  have hz : signsS.size ≤ 15 := by decide
  have hlow : ∀ k, ∀ h : k < signsS.size, (signsS[k]'h).toNat < 128 := by
    have : ∀ c ∈ bl signsS, c.toNat < 128 := by decide
    intro k h
    exact this _ (List.mem_of_getElem? (bl_get signsS k h))
  have HL := Lib.hid hlow
  clear hlow
  have e0 : decide (r < 128) = false := by simp; omega
  by_cases he : r = 65533
  · have e1 : (r == 65533) = true := by simpa using he
    clear he
    go_enter Tryz.func110, Tryz.ntmps110
    go_wp2
    go_loopw [5, 6] (fun _ _ wx => ∃ k : Nat, k ≤ signsS.size ∧ AtIter wx w.heap.size signsS k ∧ Below w.heap.size w wx) (fun _ _ wx => signsS.size - wx.iterPos w.heap.size)
    case atStart => exact ⟨0, Nat.zero_le _, AtIter.start _ _, (Below.refl _ _).alloc (Nat.le_refl _) _⟩
    case round =>
      obtain ⟨k, hk, hit, hB⟩ := hrel
      by_cases hlt : k < signsS.size
      · have hd := decode_ascii signsS k hlt (HL.out k hlt)
        obtain ⟨w1, hnx, hit1, t1, z1⟩ := next_some (P := Tryz.prog) hit hlt hd
        have hc := HL.out k hlt
        have e2 : (((signsS[k]'hlt).toNat : Int) == 65533) = false := by simp; omega
        have hm := hit.pos
        have HM := Lib.hid hm
        clear hd hm z1
        go_wp2
        go_roundw
        case rel => exact ⟨k + 1, hlt, hit1, hB.trans ⟨t1.os, t1.tape, t1.output, t1.size, fun b hb => t1.block b (by have := hB.size; omega) (by omega)⟩⟩
        case measure => rw [hit1.pos, HM.out]; omega
      · have hnx := next_none (P := Tryz.prog) hit hlt
        go_wp2
        go_ret
        exact ⟨rfl, hB⟩
  · have e1 : (r == 65533) = false := by simpa using he
    clear he
    cases hv : Lib.validRune r with
    | false =>
      have C := Lib.hid (Tryz.utf8_ValidRune r w)
      rw [hv] at C
      clear hv
      go_enter Tryz.func110, Tryz.ntmps110
      go_wp2_with fail
      refine C.out.mono ?_
      rintro e w9 ⟨rfl, h9⟩
      subst h9
      go_wp2
      go_ret
      exact ⟨rfl, Below.refl _ _⟩
    | true =>
      have C := Lib.hid (Tryz.utf8_ValidRune r w)
      rw [hv] at C
      have hval : Utf8.valid r = true := by
        simp only [Lib.validRune, decide_eq_true_eq] at hv
        simp only [Utf8.valid, Bool.or_eq_true, Bool.and_eq_true, decide_eq_true_eq]
        omega
      have hf := encode_facts r hval (by omega)
      obtain ⟨f1, f2, f3⟩ := hf
      obtain ⟨k, hk⟩ : ∃ k, (Utf8.encode r).size = k + 1 := ⟨(Utf8.encode r).size - 1, by omega⟩
      have hks : k < (Utf8.encode r).size := by omega
      have f4 : 128 ≤ ((Utf8.encode r)[k]'hks).toNat := by
        have := f3 (by omega)
        simpa only [hk, Nat.add_sub_cancel] using this
      have hk15 : k < signsS.size := by have : signsS.size = 15 := rfl; omega
      have f5 := HL.out k hk15
      have e2 : (((signsS[k]'hk15).toNat : Int) != (((Utf8.encode r)[k]'hks).toNat : Int)) = true := by simp; omega
      have hx : Lib.indexByte (signsS.extract (k + 1) signsS.size).data.toList ((((Utf8.encode r)[k]'hks).toNat : Int)).toNat.toUInt8 = -1 := by
        refine indexByte_far _ _ fun c hc e => ?_
        have hc' : c ∈ bl signsS := by
          have : c ∈ bl (signsS.extract (k + 1) signsS.size) := hc
          rw [extract_bl, piece] at this
          exact List.mem_of_mem_drop (List.mem_of_mem_take this)
        obtain ⟨j, hj, e'⟩ := List.mem_iff_getElem.1 hc'
        have h7 := HL.out j (by rw [← bl_length]; exact hj)
        have e8 : (signsS[j]'(by rw [← bl_length]; exact hj)) = c := e'
        rw [e8, e] at h7
        simp at h7
        omega
      have HX := Lib.hid hx
      clear hv hval f3 hx
      have HK := Lib.hid hk
      clear hk
      go_enter Tryz.func110, Tryz.ntmps110
      go_wp2_with fail
      refine C.out.mono ?_
      rintro e w9 ⟨rfl, h9⟩
      subst h9
      go_wp2_with fail
      go_step3
      go_wp2_with fail
      rw [show ((Utf8.encode r).size : Int) - 1 = (k : Int) from by rw [HK.out]; simp]
      go_loopw [9] (fun b wx => b = .int .i64 (k : Int) ∧ w9 = wx) (fun _ _ => 0)
      case atStart => exact ⟨rfl, rfl⟩
      case round =>
        obtain ⟨rfl, rfl⟩ := hrel
        go_wp2_with fail
        go_step3
        go_wp2_with fail
        go_quiet (fail)
        go_wp2_with fail
        generalize hw8 : World.drewN w9 nq = w8
        have HW8 := Lib.hid hw8
        clear hw8
        have C8 := Lib.hid (fun W : World => Tryz.strings_IndexByte (signsS.extract (k + 1) signsS.size) (((Utf8.encode r)[k]'hks).toNat : Int) W)
        rw [HX.out] at C8
        have q1 : IntKind.i64.wrap ((k : Int) + 1) = (k : Int) + 1 := IntWalk.i64_in _ (by omega)
        have q2 : 0 ≤ (k : Int) + 1 := by omega
        have q3 : ((k : Int) + 1).toNat = k + 1 := by omega
        have q4 : (k : Int) + 1 ≤ (signsS.size : Int) := by omega
        have q5 : k + 1 ≤ signsS.size := by omega
        go_quiet ((go_at_call 136; exact Calls.quiet_of_same (C8.out _)))
        clear q1 q2 q3 q4 q5
        go_wp2_with fail
        rw [Exit.noGoto_ret]
        go_wp2
        rw [Exit.noGoto_ret]
        go_wp2
        go_ret
        refine ⟨rfl, ?_⟩
        rw [← HW8.out]
        exact (((Turn.refl (fun _ => False) w9).drewN _).drewN _).below (fun _ _ h => h)

theorem contains_high (r : Int) (w : World) (h1 : 128 ≤ r) (h2 : r ≤ 2147483647) : Calls Tryz.prog 101 #[.string signsS, .int .i32 r] w fun e w' => e = .returned (.bool false) ∧ Below w.heap.size w w' := by
  go_enter Tryz.func101, Tryz.ntmps101
  go_wp2_with fail
  refine (index_high r w h1 h2).mono ?_
  rintro e w9 ⟨rfl, b9⟩
  go_wp2_with fail
  go_ret
  exact ⟨rfl, b9⟩
theorem contains_low (c : UInt8) (w : World) (h : c.toNat < 128) : Calls Tryz.prog 101 #[.string signsS, .int .i32 (c.toNat : Int)] w fun e w' => e = .returned (.bool ((bl signsS).any (· == c))) ∧ Below w.heap.size w w' := by
  refine (Tryz.strings_ContainsRune_ascii signsS (c.toNat : Int) w (by omega) (by omega)).mono ?_
  rintro e w' ⟨rfl, rfl⟩
  refine ⟨ret_bool ?_, Below.refl _ _⟩
  have : ((c.toNat : Int)).toNat.toUInt8 = c := by simp
  rw [this]
  show decide (0 ≤ Lib.indexByte (bl signsS) c) = _
  generalize bl signsS = l
  by_cases hc : c ∈ l
  · rw [decide_eq_true (by
      have h1 := Lib.indexByte_ge l c
      by_cases he : Lib.indexByte l c = -1
      · obtain ⟨k, hk, e⟩ := List.mem_iff_getElem.1 hc
        exact absurd (by rw [List.getElem?_eq_getElem hk, e]) (Lib.indexByte_none he k)
      · omega)]
    symm
    rw [List.any_eq_true]
    exact ⟨c, hc, by simp⟩
  · rw [indexByte_far l c (fun d hd e => hc (e ▸ hd))]
    show false = _
    symm
    rw [Bool.eq_false_iff]
    intro h
    obtain ⟨d, hd, e⟩ := List.any_eq_true.1 h
    rw [beq_iff_eq] at e
    exact hc (e ▸ hd)

theorem tokB_split (c : UInt8) : tokB c = (capB c.toNat || (decide (97 ≤ (c.toNat : Int)) && decide ((c.toNat : Int) ≤ 122)) || (decide (48 ≤ (c.toNat : Int)) && decide ((c.toNat : Int) ≤ 57)) || (bl signsS).any (· == c)) := by
  have e : (bl signsS).take 15 = bl signsS := rfl
  unfold tokB signB
  rw [e, alnumB_nat]
  congr 1
  unfold capB
  rw [Bool.eq_iff_iff]
  simp
  omega

set_option maxHeartbeats 1000000 in
set_option maxRecDepth 100000 in
theorem tokR_low (c : UInt8) (w : World) (h : c.toNat < 128) : Calls Tryz.prog 100 #[.int .i32 (c.toNat : Int)] w fun e w' => e = .returned (.bool (tokB c)) ∧ Below w.heap.size w w' := by
  have HT := Lib.hid (tokB_split c)
  have CA := Lib.hid (fun W : World => capital_any (c.toNat : Int) W)
  have CO := Lib.hid (fun W : World => contains_low c W h)
  generalize (bl signsS).any (· == c) = m at *
  cases hc : capB c.toNat with
  | true =>
    rw [hc] at HT CA
    clear hc
    go_enter Tryz.func100, Tryz.ntmps100
    go_wp2_with fail
    refine (CA.out _).mono ?_
    rintro e w9 ⟨rfl, rfl⟩
    go_wp2_with fail
    go_ret
    exact ⟨ret_bool (by rw [HT.out]; simp), Below.refl _ _⟩
  | false =>
    rw [hc] at HT CA
    clear hc
    go_enter Tryz.func100, Tryz.ntmps100
    go_wp2_with fail
    refine (CA.out _).mono ?_
    rintro e w9 ⟨rfl, rfl⟩
    go_wp2_with (go_at_call 101; refine (CO.out _).mono ?_; rintro e w9 ⟨rfl, b9⟩)
    all_goals
      go_ret
      first
        | refine ⟨ret_bool ?_, b9⟩
        | refine ⟨ret_bool ?_, Below.refl _ _⟩
      rw [HT.out]
      clear HT CA CO
      rw [Bool.eq_iff_iff]
      cases m <;> simp
    all_goals omega
end Go.Proofs.YtdcbcjljmjnopaaGreatDoor
