/-
  What package uri's closures do of a rune; strings.IndexRune and ContainsRune of a rune that is none of ASCII, in a text of ASCII.
  Conditions: those that each theorem names.
-/
import Derived.Test.YtopanahgeeolbaaGreatDoorUB
import Derived.Test.YtopanahgeeolbaaGreatDoorYA
import Derived.IntWalk
namespace Go.Proofs.YtopanahgeeolbaaGreatDoor.Uri
open Go.RowKit

set_option maxHeartbeats 1000000 in
set_option maxRecDepth 100000 in
theorem index_high (m : ByteArray) (hm : ∀ c ∈ bl m, c.toNat < 128) (hz : m.size ≤ 1000) (r : Int) (w : World) (h1 : 128 ≤ r) (h2 : r ≤ 2147483647) : Calls Tryz.prog 77 #[.string m, .int .i32 r] w fun e w' => e = .returned (.int .i64 (-1)) ∧ Below w.heap.size w w' := by
  have hlow : ∀ k, ∀ h : k < m.size, (m[k]'h).toNat < 128 := fun k h => hm _ (List.mem_of_getElem? (bl_get m k h))
  have HL := Lib.hid hlow
  have HM0 := Lib.hid hm
  clear hlow hm
  have e0 : decide (r < 128) = false := by simp; omega
  by_cases he : r = 65533
  · have e1 : (r == 65533) = true := by simpa using he
    clear he
    go_enter Tryz.func77, Tryz.ntmps77
    go_wp2
    go_loopw [5, 6] (fun _ _ wx => ∃ k : Nat, k ≤ m.size ∧ AtIter wx w.heap.size m k ∧ Below w.heap.size w wx) (fun _ _ wx => m.size - wx.iterPos w.heap.size)
    case atStart => exact ⟨0, Nat.zero_le _, AtIter.start _ _, (Below.refl _ _).alloc (Nat.le_refl _) _⟩
    case round =>
      obtain ⟨k, hk, hit, hB⟩ := hrel
      by_cases hlt : k < m.size
      · have hd := decode_ascii m k hlt (HL.out k hlt)
        obtain ⟨w1, hnx, hit1, t1, z1⟩ := next_some (P := Tryz.prog) hit hlt hd
        have hc := HL.out k hlt
        have e2 : (((m[k]'hlt).toNat : Int) == 65533) = false := by simp; omega
        have hm := hit.pos
        have HM := Lib.hid hm
        clear hd hm z1
        go_wp2
        go_roundw
        case rel => exact ⟨k + 1, hlt, hit1, hB.trans ⟨t1.os, t1.tape, t1.output, t1.size, fun b hb => t1.block b (by have := hB.size; omega) (by omega)⟩⟩
        case measure => rw [hit1.pos, HM.out]; omega
      · have hnx := next_none (P := Tryz.prog) hit hlt
        go_wp2
        go_ret
        exact ⟨rfl, hB⟩
  · have e1 : (r == 65533) = false := by simpa using he
    clear he
    cases hv : Lib.validRune r with
    | false =>
      have C := Lib.hid (Tryz.utf8_ValidRune r w)
      rw [hv] at C
      clear hv
      go_enter Tryz.func77, Tryz.ntmps77
      go_wp2_with fail
      refine C.out.mono ?_
      rintro e w9 ⟨rfl, h9⟩
      subst h9
      go_wp2
      go_ret
      exact ⟨rfl, Below.refl _ _⟩
    | true =>
      have C := Lib.hid (Tryz.utf8_ValidRune r w)
      rw [hv] at C
      have hval : Utf8.valid r = true := by
        simp only [Lib.validRune, decide_eq_true_eq] at hv
        simp only [Utf8.valid, Bool.or_eq_true, Bool.and_eq_true, decide_eq_true_eq]
        omega
      have hf := encode_facts r hval (by omega)
      obtain ⟨f1, f2, f3⟩ := hf
      obtain ⟨k, hk⟩ : ∃ k, (Utf8.encode r).size = k + 1 := ⟨(Utf8.encode r).size - 1, by omega⟩
      have hks : k < (Utf8.encode r).size := by omega
      have f4 : 128 ≤ ((Utf8.encode r)[k]'hks).toNat := by
        have := f3 (by omega)
        simpa only [hk, Nat.add_sub_cancel] using this
      by_cases hkm : k < m.size
      · have f5 := HL.out k hkm
        have e2 : (((m[k]'hkm).toNat : Int) != (((Utf8.encode r)[k]'hks).toNat : Int)) = true := by simp; omega
        have hx : Lib.indexByte (m.extract (k + 1) m.size).data.toList ((((Utf8.encode r)[k]'hks).toNat : Int)).toNat.toUInt8 = -1 := by
          refine indexByte_far _ _ fun c hc e => ?_
          have hc' : c ∈ bl m := by
            have : c ∈ bl (m.extract (k + 1) m.size) := hc
            rw [extract_bl, piece] at this
            exact List.mem_of_mem_drop (List.mem_of_mem_take this)
          have h7 := HM0.out c hc'
          rw [e] at h7
          simp at h7
          omega
        have HX := Lib.hid hx
        clear hv hval f3 hx
        have HK := Lib.hid hk
        clear hk
        go_enter Tryz.func77, Tryz.ntmps77
        go_wp2_with fail
        refine C.out.mono ?_
        rintro e w9 ⟨rfl, h9⟩
        subst h9
        go_wp2_with fail
        go_step3
        go_wp2_with fail
        rw [show ((Utf8.encode r).size : Int) - 1 = (k : Int) from by rw [HK.out]; simp]
        go_loopw [9] (fun b wx => b = .int .i64 (k : Int) ∧ w9 = wx) (fun _ _ => 0)
        case atStart => exact ⟨rfl, rfl⟩
        case round =>
          obtain ⟨rfl, rfl⟩ := hrel
          go_wp2_with fail
          go_step3
          go_wp2_with fail
          go_quiet (fail)
          go_wp2_with fail
          generalize hw8 : World.drewN w9 nq = w8
          have HW8 := Lib.hid hw8
          clear hw8
          have C8 := Lib.hid (fun W : World => Tryz.strings_IndexByte (m.extract (k + 1) m.size) (((Utf8.encode r)[k]'hks).toNat : Int) W)
          rw [HX.out] at C8
          have q1 : IntKind.i64.wrap ((k : Int) + 1) = (k : Int) + 1 := IntWalk.i64_in _ (by omega)
          have q2 : 0 ≤ (k : Int) + 1 := by omega
          have q3 : ((k : Int) + 1).toNat = k + 1 := by omega
          have q4 : (k : Int) + 1 ≤ (m.size : Int) := by omega
          have q5 : k + 1 ≤ m.size := by omega
          go_quiet ((go_at_call 90; exact Calls.quiet_of_same (C8.out _)))
          clear q1 q2 q3 q4 q5
          go_wp2_with fail
          rw [Exit.noGoto_ret]
          go_wp2
          rw [Exit.noGoto_ret]
          go_wp2
          go_ret
          refine ⟨rfl, ?_⟩
          rw [← HW8.out]
          exact (((Turn.refl (fun _ => False) w9).drewN _).drewN _).below (fun _ _ h => h)
      · have e2 : decide ((k : Int) < (m.size : Int)) = false := by simp; omega
        have e3 : ¬ ((k : Int) < (m.size : Int)) := by omega
        clear hv hval f3 f4
        have HK := Lib.hid hk
        clear hk
        go_enter Tryz.func77, Tryz.ntmps77
        go_wp2_with fail
        refine C.out.mono ?_
        rintro e w9 ⟨rfl, h9⟩
        subst h9
        go_wp2_with fail
        go_step3
        go_wp2_with fail
        rw [show ((Utf8.encode r).size : Int) - 1 = (k : Int) from by rw [HK.out]; simp]
        go_loopw [9] (fun b wx => b = .int .i64 (k : Int) ∧ w9 = wx) (fun _ _ => 0)
        case atStart => exact ⟨rfl, rfl⟩
        case round =>
          obtain ⟨rfl, rfl⟩ := hrel
          go_wp2_with fail
          rw [Exit.noGoto_ret]
          go_wp2
          go_ret
          exact ⟨rfl, Below.refl _ _⟩

theorem contains_high (m : ByteArray) (hm : ∀ c ∈ bl m, c.toNat < 128) (hz : m.size ≤ 1000) (r : Int) (w : World) (h1 : 128 ≤ r) (h2 : r ≤ 2147483647) : Calls Tryz.prog 56 #[.string m, .int .i32 r] w fun e w' => e = .returned (.bool false) ∧ Below w.heap.size w w' := by
  have C := Lib.hid (index_high m hm hz r w h1 h2)
  clear hm hz
  go_enter Tryz.func56, Tryz.ntmps56
  go_wp2_with fail
  refine C.out.mono ?_
  rintro e w9 ⟨rfl, b9⟩
  go_wp2_with fail
  go_ret
  exact ⟨rfl, b9⟩
theorem index_mem (l : List UInt8) (c : UInt8) : decide (0 ≤ Lib.indexByte l c) = l.contains c := by
  by_cases hc : c ∈ l
  · rw [show l.contains c = true by simpa using hc]
    rw [decide_eq_true_eq]
    have h1 := Lib.indexByte_ge l c
    by_cases he : Lib.indexByte l c = -1
    · obtain ⟨k, hk, e⟩ := List.mem_iff_getElem.1 hc
      exact absurd (by rw [List.getElem?_eq_getElem hk, e]) (Lib.indexByte_none he k)
    · omega
  · rw [show l.contains c = false by simpa using hc, indexByte_far l c (fun d hd e => hc (e ▸ hd))]
    rfl
theorem contains_low (m : ByteArray) (c : UInt8) (w : World) (h : c.toNat < 128) : Calls Tryz.prog 56 #[.string m, .int .i32 (c.toNat : Int)] w fun e w' => e = .returned (.bool ((bl m).contains c)) ∧ Below w.heap.size w w' := by
  refine (Tryz.strings_ContainsRune_ascii m (c.toNat : Int) w (by omega) (by omega)).mono ?_
  rintro e w' ⟨rfl, rfl⟩
  refine ⟨ret_bool ?_, Below.refl _ _⟩
  have : ((c.toNat : Int)).toNat.toUInt8 = c := by simp
  rw [this]
  exact index_mem (bl m) c

def digR (r : Int) : Bool := decide (48 ≤ r) && decide (r ≤ 57)
theorem digit_any (r : Int) (w : World) : Calls Tryz.prog 109 #[.int .i32 r] w fun e w' => e = .returned (.bool (digR r)) ∧ w = w' := by
  have HS := Lib.hid (show digR r = (decide (48 ≤ r) && decide (r ≤ 57)) from rfl)
  go_enter Tryz.func109, Tryz.ntmps109
  go_wp2
  all_goals
    go_ret
    refine ⟨ret_bool ?_, rfl⟩
    rw [HS.out]
    clear HS
    rw [Bool.eq_iff_iff]
    simp
  all_goals omega
def letR (r : Int) : Bool := (decide (97 ≤ r) && decide (r ≤ 122)) || (decide (65 ≤ r) && decide (r ≤ 90))
def labR (r : Int) : Bool := digR r || (decide (97 ≤ r) && decide (r ≤ 122)) || (r == 45)
theorem label1_any (r : Int) (w : World) : Calls Tryz.prog 108 #[.int .i32 r] w fun e w' => e = .returned (.bool (labR r)) ∧ w = w' := by
  have HS := Lib.hid (show labR r = (digR r || (decide (97 ≤ r) && decide (r ≤ 122)) || (r == 45)) from rfl)
  have C := Lib.hid (fun X : World => digit_any r X)
  cases hd : digR r
  all_goals
    rw [hd] at C HS
    clear hd
    go_enter Tryz.func108, Tryz.ntmps108
    go_wp2_with fail
    refine (C.out _).mono ?_
    rintro e w' ⟨rfl, rfl⟩
    go_wp2
  all_goals
    go_ret
    refine ⟨ret_bool ?_, rfl⟩
    rw [HS.out]
    clear HS C
    rw [Bool.eq_iff_iff]
    simp
  all_goals (try simp only [beq_eq_false_iff_ne, beq_iff_eq, ne_eq] at *)
  all_goals omega
def hexR (r : Int) : Bool := digR r || (decide (97 ≤ r) && decide (r ≤ 102)) || (decide (65 ≤ r) && decide (r ≤ 70))
def numR (b : Bool) (r : Int) : Bool := digR r || ((b && decide (97 ≤ r)) && decide (r ≤ 102))
theorem numeric1_any (r : Int) (g : Nat) (b : Bool) (w : World) (hg : w.cell? ⟨g, 0, none⟩ = some (.bool b)) : Calls Tryz.prog 111 #[.int .i32 r, .pointer (some ⟨g, 0, none⟩)] w fun e w' => e = .returned (.bool (numR b r)) ∧ w = w' := by
  have HS := Lib.hid (show numR b r = (digR r || ((b && decide (97 ≤ r)) && decide (r ≤ 102))) from rfl)
  have C := Lib.hid (fun X : World => digit_any r X)
  cases hd : digR r
  all_goals
    cases b
    all_goals
      rw [hd] at C HS
      clear hd
      go_enter Tryz.func111, Tryz.ntmps111
      go_wp2_with fail
      refine (C.out _).mono ?_
      rintro e w' ⟨rfl, rfl⟩
      go_wp2
  all_goals
    go_ret
    refine ⟨ret_bool ?_, rfl⟩
    rw [HS.out]
    clear HS C
    rw [Bool.eq_iff_iff]
    simp
  all_goals omega
end Go.Proofs.YtopanahgeeolbaaGreatDoor.Uri
