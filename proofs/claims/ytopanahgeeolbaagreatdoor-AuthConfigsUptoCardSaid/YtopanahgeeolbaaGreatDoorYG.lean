/-
  What package uri's all, label, numeric, escaped, number, octet do, call by call.
  Conditions: those that each theorem names; where a number is written, Go's table of powers of ten is as its text lays it.
-/
import Derived.Test.YtopanahgeeolbaaGreatDoorYD
import Derived.Test.YtopanahgeeolbaaGreatDoorYE
import Derived.Test.YtopanahgeeolbaaGreatDoorNC
import Derived.Test.YtopanahgeeolbaaGreatDoorNF
import Derived.Lib.AtoiErrMem
namespace Go.Proofs.YtopanahgeeolbaaGreatDoor.Uri
open Go.RowKit

theorem all_no (l : List UInt8) (p : UInt8 → Bool) (c : UInt8) (k : Nat) (h : l[k]? = some c) (hc : p c = false) : l.all p = false := by
  rw [Bool.eq_false_iff]
  intro hall
  have := List.all_eq_true.1 hall c (List.mem_of_getElem? h)
  rw [hc] at this
  cases this
/-- What a function of a rune, handed on, says of a byte; none of those above 7f. -/
structure Says (f : FuncId) (p : UInt8 → Bool) : Prop where
  low : ∀ (c : UInt8) (w : World), c.toNat < 128 → Calls Tryz.prog f #[.int .i32 (c.toNat : Int)] w fun e w' => e = .returned (.bool (p c)) ∧ Below w.heap.size w w'
  high : ∀ (r : Int) (w : World), 128 ≤ r → r ≤ 2147483647 → Calls Tryz.prog f #[.int .i32 r] w fun e w' => e = .returned (.bool false) ∧ Below w.heap.size w w'
  same : ∀ c : UInt8, 128 ≤ c.toNat → p c = false
/-- The same of the one that reads a cell. -/
structure SaysN (f : FuncId) (g : Nat) (b : Bool) (p : UInt8 → Bool) : Prop where
  low : ∀ (c : UInt8) (w : World), w.cell? ⟨g, 0, none⟩ = some (.bool b) → c.toNat < 128 → Calls Tryz.prog f #[.int .i32 (c.toNat : Int), .pointer (some ⟨g, 0, none⟩)] w fun e w' => e = .returned (.bool (p c)) ∧ Below w.heap.size w w'
  high : ∀ (r : Int) (w : World), w.cell? ⟨g, 0, none⟩ = some (.bool b) → 128 ≤ r → r ≤ 2147483647 → Calls Tryz.prog f #[.int .i32 r, .pointer (some ⟨g, 0, none⟩)] w fun e w' => e = .returned (.bool false) ∧ Below w.heap.size w w'
  same : ∀ c : UInt8, 128 ≤ c.toNat → p c = false

set_option maxHeartbeats 2000000 in
set_option maxRecDepth 100000 in
theorem all_any (f : FuncId) (hf : f = 108 ∨
    False) (p : UInt8 → Bool) (hp : Says f p) (s : ByteArray) (w : World) :
    Calls Tryz.prog 107 #[.string s, .func (.func f) #[] #[]] w fun e w' => e = .returned (.bool ((bl s).all p)) ∧ Below w.heap.size w w' := by
  have CL := Lib.hid hp.low
  have CH := Lib.hid hp.high
  have CS := Lib.hid hp.same
  clear hp
  first | (rcases hf with rfl | ⟨⟨⟩⟩) | (rcases hf with rfl | rfl | rfl | ⟨⟨⟩⟩)
  all_goals
    go_enter Tryz.func107, Tryz.ntmps107
    go_wp2_with fail
    go_loopw [6] (fun _ wx => ∃ k : Nat, k ≤ s.size ∧ AtIter wx w.heap.size s k ∧ Below w.heap.size w wx ∧ ((bl s).take k).all p = true) (fun _ wx => s.size - wx.iterPos w.heap.size)
    case atStart => exact ⟨0, Nat.zero_le _, AtIter.start _ _, (Below.refl _ _).alloc (Nat.le_refl _) _, rfl⟩
    case round =>
      obtain ⟨k, hk, hit, hB, hall⟩ := hrel
      have HALL := Lib.hid hall
      have HM := Lib.hid hit.pos
      clear hall
      by_cases hlt : k < s.size
      · rcases decode_step s k hlt with ⟨hc, hd⟩ | ⟨hc, r, n, hd, hr1, hr2, hn, hw⟩
        · obtain ⟨w1, hnx, hit1, t1, z1⟩ := next_some (P := Tryz.prog) hit hlt hd
          have hB1 : Below w.heap.size w w1 := hB.trans ⟨t1.os, t1.tape, t1.output, t1.size, fun b hb => t1.block b (by have := hB.size; omega) (by omega)⟩
          clear hd z1 t1
          have C := Lib.hid (CL.out s[k] w1 hc)
          have HG := Lib.hid (bl_get s k hlt)
          have HTK := Lib.hid (bl_take s k hlt)
          generalize s[k] = c at *
          cases hpc : p c with
          | true =>
            rw [hpc] at C
            have HP := Lib.hid hpc
            clear hpc
            go_wp2_with fail
            refine C.out.mono ?_
            rintro e w2 ⟨rfl, b2⟩
            have hit2 : AtIter w2 w.heap.size s (k + 1) := hit1.kept (Turn.of_below (S := fun _ => False) b2) (fun h => h)
            go_wp2_with fail
            go_roundw
            case rel => exact ⟨k + 1, hlt, hit2, hB1.trans (b2.mono hB1.size), by rw [HTK.out, List.all_append, HALL.out]; simp [HP.out]⟩
            case measure => rw [hit2.pos, HM.out]; omega
          | false =>
            rw [hpc] at C
            have HP := Lib.hid hpc
            clear hpc
            go_wp2_with fail
            refine C.out.mono ?_
            rintro e w2 ⟨rfl, b2⟩
            go_wp2_with fail
            go_ret
            exact ⟨ret_bool (all_no _ _ c k HG.out HP.out).symm, hB1.trans (b2.mono hB1.size)⟩
        · obtain ⟨w1, hnx, hit1, t1, z1⟩ := next_some (P := Tryz.prog) hit hlt hd
          have hB1 : Below w.heap.size w w1 := hB.trans ⟨t1.os, t1.tape, t1.output, t1.size, fun b hb => t1.block b (by have := hB.size; omega) (by omega)⟩
          have HG := Lib.hid (bl_get s k hlt)
          clear hd z1 t1 hw
          have C := Lib.hid (CH.out (r : Int) w1 (by omega) (by omega))
          have HC := Lib.hid (CS.out s[k] hc)
          generalize s[k] = c at *
          go_wp2_with fail
          refine C.out.mono ?_
          rintro e w2 ⟨rfl, b2⟩
          go_wp2_with fail
          go_ret
          exact ⟨ret_bool (all_no _ _ c k HG.out HC.out).symm, hB1.trans (b2.mono hB1.size)⟩
      · have hnx := next_none (P := Tryz.prog) hit hlt
        have HF := Lib.hid (show (bl s).all p = true by
          have := HALL.out
          rw [List.take_of_length_le (by rw [bl_length]; omega)] at this
          exact this)
        go_wp2_with fail
        go_ret
        exact ⟨ret_bool HF.out.symm, hB⟩

set_option maxHeartbeats 2000000 in
set_option maxRecDepth 100000 in
theorem all_cap (g : Nat) (b : Bool) (p : UInt8 → Bool) (hp : SaysN 111 g b p) (s : ByteArray) (w : World) (hg : w.cell? ⟨g, 0, none⟩ = some (.bool b)) :
    Calls Tryz.prog 107 #[.string s, .func (.func 111) #[] #[.pointer (some ⟨g, 0, none⟩)]] w fun e w' => e = .returned (.bool ((bl s).all p)) ∧ Below w.heap.size w w' := by
  have CL := Lib.hid hp.low
  have CH := Lib.hid hp.high
  have CS := Lib.hid hp.same
  clear hp
  have HGC := Lib.hid hg
  clear hg
  all_goals
    go_enter Tryz.func107, Tryz.ntmps107
    go_wp2_with fail
    go_loopw [6] (fun _ wx => ∃ k : Nat, k ≤ s.size ∧ AtIter wx w.heap.size s k ∧ Below w.heap.size w wx ∧ ((bl s).take k).all p = true) (fun _ wx => s.size - wx.iterPos w.heap.size)
    case atStart => exact ⟨0, Nat.zero_le _, AtIter.start _ _, (Below.refl _ _).alloc (Nat.le_refl _) _, rfl⟩
    case round =>
      obtain ⟨k, hk, hit, hB, hall⟩ := hrel
      have HALL := Lib.hid hall
      have HM := Lib.hid hit.pos
      clear hall
      by_cases hlt : k < s.size
      · rcases decode_step s k hlt with ⟨hc, hd⟩ | ⟨hc, r, n, hd, hr1, hr2, hn, hw⟩
        · obtain ⟨w1, hnx, hit1, t1, z1⟩ := next_some (P := Tryz.prog) hit hlt hd
          have hB1 : Below w.heap.size w w1 := hB.trans ⟨t1.os, t1.tape, t1.output, t1.size, fun b hb => t1.block b (by have := hB.size; omega) (by omega)⟩
          clear hd z1 t1
          have C := Lib.hid (CL.out s[k] w1 ((hB1.cell (Lib.lt_of_cell HGC.out)).trans HGC.out) hc)
          have HG := Lib.hid (bl_get s k hlt)
          have HTK := Lib.hid (bl_take s k hlt)
          generalize s[k] = c at *
          cases hpc : p c with
          | true =>
            rw [hpc] at C
            have HP := Lib.hid hpc
            clear hpc
            go_wp2_with fail
            refine C.out.mono ?_
            rintro e w2 ⟨rfl, b2⟩
            have hit2 : AtIter w2 w.heap.size s (k + 1) := hit1.kept (Turn.of_below (S := fun _ => False) b2) (fun h => h)
            go_wp2_with fail
            go_roundw
            case rel => exact ⟨k + 1, hlt, hit2, hB1.trans (b2.mono hB1.size), by rw [HTK.out, List.all_append, HALL.out]; simp [HP.out]⟩
            case measure => rw [hit2.pos, HM.out]; omega
          | false =>
            rw [hpc] at C
            have HP := Lib.hid hpc
            clear hpc
            go_wp2_with fail
            refine C.out.mono ?_
            rintro e w2 ⟨rfl, b2⟩
            go_wp2_with fail
            go_ret
            exact ⟨ret_bool (all_no _ _ c k HG.out HP.out).symm, hB1.trans (b2.mono hB1.size)⟩
        · obtain ⟨w1, hnx, hit1, t1, z1⟩ := next_some (P := Tryz.prog) hit hlt hd
          have hB1 : Below w.heap.size w w1 := hB.trans ⟨t1.os, t1.tape, t1.output, t1.size, fun b hb => t1.block b (by have := hB.size; omega) (by omega)⟩
          have HG := Lib.hid (bl_get s k hlt)
          clear hd z1 t1 hw
          have C := Lib.hid (CH.out (r : Int) w1 ((hB1.cell (Lib.lt_of_cell HGC.out)).trans HGC.out) (by omega) (by omega))
          have HC := Lib.hid (CS.out s[k] hc)
          generalize s[k] = c at *
          go_wp2_with fail
          refine C.out.mono ?_
          rintro e w2 ⟨rfl, b2⟩
          go_wp2_with fail
          go_ret
          exact ⟨ret_bool (all_no _ _ c k HG.out HC.out).symm, hB1.trans (b2.mono hB1.size)⟩
      · have hnx := next_none (P := Tryz.prog) hit hlt
        have HF := Lib.hid (show (bl s).all p = true by
          have := HALL.out
          rw [List.take_of_length_le (by rw [bl_length]; omega)] at this
          exact this)
        go_wp2_with fail
        go_ret
        exact ⟨ret_bool HF.out.symm, hB⟩

/-! ## The closures say -/
theorem rune_low {p : UInt8 → Bool} {q : Int → Bool} (h : (List.range 256).all (fun n => !decide (n < 128) || (q ((UInt8.ofNat n).toNat : Int) == p (UInt8.ofNat n))) = true) (c : UInt8) (hc : c.toNat < 128) : q (c.toNat : Int) = p c := by
  have h1 := List.all_eq_true.1 h c.toNat (by simpa using UInt8.toNat_lt c)
  have h2 : UInt8.ofNat c.toNat = c := by simp
  rw [h2, decide_eq_true hc] at h1
  simpa using h1
theorem byte_high {p : UInt8 → Bool} (h : (List.range 256).all (fun n => decide (n < 128) || !p (UInt8.ofNat n)) = true) (c : UInt8) (hc : 128 ≤ c.toNat) : p c = false := by
  have h1 := List.all_eq_true.1 h c.toNat (by simpa using UInt8.toNat_lt c)
  have h2 : UInt8.ofNat c.toNat = c := by simp
  rw [h2, decide_eq_false (by omega)] at h1
  simpa using h1
theorem says_label : Says 108 hostB where
  low c w hc := (label1_any (c.toNat : Int) w).mono fun e w' h => ⟨by rw [h.1, rune_low (p := hostB) (q := labR) (by decide +kernel) c hc], h.2 ▸ Below.refl _ _⟩
  high r w h1 _ := (label1_any r w).mono fun e w' h => ⟨by rw [h.1]; refine ret_bool ?_; unfold labR digR; simp; omega, h.2 ▸ Below.refl _ _⟩
  same c hc := byte_high (by decide +kernel) c hc
def lowHexB (b : Bool) (c : UInt8) : Bool := if b = true then hexLB c else digB10 c
theorem says_num (g : Nat) (b : Bool) : SaysN 111 g b (lowHexB b) where
  low c w hg hc := (numeric1_any (c.toNat : Int) g b w hg).mono fun e w' h => ⟨by
    rw [h.1]
    refine ret_bool ?_
    cases b
    · exact rune_low (p := lowHexB false) (q := numR false) (by decide +kernel) c hc
    · exact rune_low (p := lowHexB true) (q := numR true) (by decide +kernel) c hc, h.2 ▸ Below.refl _ _⟩
  high r w hg h1 _ := (numeric1_any r g b w hg).mono fun e w' h => ⟨by rw [h.1]; refine ret_bool ?_; unfold numR digR; simp; omega, h.2 ▸ Below.refl _ _⟩
  same c hc := by
    cases b
    · exact byte_high (p := lowHexB false) (by decide +kernel) c hc
    · exact byte_high (p := lowHexB true) (by decide +kernel) c hc

/-- The path's marks. -/
def markS : ByteArray := ⟨#[45, 46, 95, 126, 33, 36, 38, 39, 40, 41, 42, 43, 44, 59, 61, 58, 64, 47, 63]⟩
theorem markS_low : ∀ c ∈ bl markS, c.toNat < 128 := by decide
theorem path_split3 (c : UInt8) (h : c.toNat < 128) : pathB c = (letR c.toNat || digR c.toNat || (bl markS).contains c) := by
  exact (rune_low (p := pathB) (q := fun r => letR r || digR r || (bl markS).contains (UInt8.ofNat r.toNat)) (by decide +kernel) c h).symm.trans (by simp)

/-! ## Labels -/
theorem label_any (s : ByteArray) (w : World) : Calls Tryz.prog 99 #[.string s] w fun e w' => e = .returned (.bool (labF (bl s))) ∧ Below w.heap.size w w' := by
  have C := Lib.hid (fun X : World => all_any 108 (.inl rfl) hostB says_label s X)
  by_cases h0 : 0 < s.size
  · have e1 : s.toList.isEmpty = false := toList_some s h0
    have HL := Lib.hid (show labF (bl s) = (bl s).all hostB by
      unfold labF
      cases h : bl s with
      | nil => exact absurd h (bl_ne s h0)
      | cons a l => rfl)
    generalize (bl s).all hostB = b at *
    clear h0
    go_enter Tryz.func99, Tryz.ntmps99
    go_wp2_with fail
    refine (C.out _).mono ?_
    rintro e w' ⟨rfl, b'⟩
    go_wp2_with fail
    go_ret
    exact ⟨ret_bool HL.out.symm, b'⟩
  · have e1 : s.toList = [] := toList_none s h0
    have HL := Lib.hid (show labF (bl s) = false by rw [show bl s = [] from (Lib.toList_data s).symm.trans e1]; rfl)
    go_enter Tryz.func99, Tryz.ntmps99
    go_wp2_with fail
    go_ret
    exact ⟨ret_bool HL.out.symm, Below.refl _ _⟩
set_option maxHeartbeats 1000000 in
theorem numeric_any (s : ByteArray) (w : World) : Calls Tryz.prog 100 #[.string s] w fun e w' => e = .returned (.bool (numericF (bl s))) ∧ Below w.heap.size w w' := by
  have C0 := cutpre_any s w
  by_cases h : (bl s).take 2 = [48, 120]
  · have C1 := C0.mono fun e w' (hg : PreGot (bl s) w e w') => (show e = .returned (.tuple #[.string ⟨((bl s).drop 2).toArray⟩, .bool true]) ∧ Below w.heap.size w w' from ⟨by have := hg.1; rw [if_pos h] at this; exact this, hg.2⟩)
    have C := Lib.hid C1
    have HL := Lib.hid (show numericF (bl s) = ((bl s).drop 2).all (lowHexB true) by unfold numericF; rw [if_pos h]; rfl)
    clear C0 C1 h
    generalize (bl s).drop 2 = d at *
    go_enter Tryz.func100, Tryz.ntmps100
    go_wp2_with fail
    refine C.out.mono ?_
    rintro e w1 ⟨rfl, b1⟩
    go_wp2_with fail
    have i1 := Is.made w1 4 [.bool true]
    have CA := Lib.hid (all_cap w1.heap.size true (lowHexB true) (says_num _ _) ⟨d.toArray⟩ _ (i1.cell 0))
    rw [bl_mk] at CA
    have B1 := Lib.hid b1
    have B2 := Lib.hid (b1.alloc b1.size (.cells #[.bool true] 4))
    clear i1 b1
    refine CA.out.mono ?_
    rintro e w' ⟨rfl, b'⟩
    go_wp2_with fail
    go_ret
    exact ⟨ret_bool HL.out.symm, B2.out.trans (b'.mono B2.out.size)⟩
  · have C1 := C0.mono fun e w' (hg : PreGot (bl s) w e w') => (show e = .returned (.tuple #[.string ⟨(bl s).toArray⟩, .bool false]) ∧ Below w.heap.size w w' from ⟨by have := hg.1; rw [if_neg h] at this; exact this, hg.2⟩)
    have C := Lib.hid C1
    have HL := Lib.hid (show numericF (bl s) = (bl s).all (lowHexB false) by unfold numericF; rw [if_neg h]; rfl)
    clear C0 C1 h
    generalize bl s = d at *
    go_enter Tryz.func100, Tryz.ntmps100
    go_wp2_with fail
    refine C.out.mono ?_
    rintro e w1 ⟨rfl, b1⟩
    go_wp2_with fail
    have i1 := Is.made w1 4 [.bool false]
    have CA := Lib.hid (all_cap w1.heap.size false (lowHexB false) (says_num _ _) ⟨d.toArray⟩ _ (i1.cell 0))
    rw [bl_mk] at CA
    have B2 := Lib.hid (b1.alloc b1.size (.cells #[.bool false] 4))
    clear i1 b1
    refine CA.out.mono ?_
    rintro e w' ⟨rfl, b'⟩
    go_wp2_with fail
    go_ret
    exact ⟨ret_bool HL.out.symm, B2.out.trans (b'.mono B2.out.size)⟩
end Go.Proofs.YtopanahgeeolbaaGreatDoor.Uri
