/-
  What package num's Decimal and Hex answer to any text.
  Conditions: those that each theorem names.
-/
import Derived.Test.YtdcbcjljmjnopaaGreatDoorNA
import Derived.Test.YtdcbcjljmjnopaaGreatDoorUA
namespace Go.Proofs.YtdcbcjljmjnopaaGreatDoor
open Go.RowKit

/-- Two results: a number, and whether it is one. -/
def Worth (d : Nat) (t : Bool) (w : World) (e : Ending) (w' : World) : Prop := e = .returned (.tuple #[.int .u64 (d : Int), .bool t]) ∧ w = w'
theorem Worth.mk {a : Int} {d : Nat} {t : Bool} {w : World} (h : a = d) : Worth d t w (.returned (.tuple #[.int .u64 a, .bool t])) w := ⟨by rw [h], rfl⟩

structure Worths (f : FuncId) (b : Nat) : Prop where
  yes : ∀ (c : UInt8) (w : World), worth c < b → Calls Tryz.prog f #[.int .i32 (c.toNat : Int)] w (Worth (worth c) true w)
  no : ∀ (c : UInt8) (w : World), c.toNat < 128 → ¬ worth c < b → Calls Tryz.prog f #[.int .i32 (c.toNat : Int)] w (Worth 0 false w)
  high : ∀ (r : Int) (w : World), 128 ≤ r → r ≤ 2147483647 → Calls Tryz.prog f #[.int .i32 r] w (Worth 0 false w)

set_option maxHeartbeats 1000000 in
set_option maxRecDepth 100000 in
theorem dec_yes (c : UInt8) (w : World) (h : worth c < 10) : Calls Tryz.prog 71 #[.int .i32 (c.toNat : Int)] w (Worth (worth c) true w) := by
  have hc : 48 ≤ c.toNat ∧ c.toNat ≤ 57 ∧ worth c = c.toNat - 48 := by
    unfold worth at *
    split at h
    · rename_i h'; exact ⟨h'.1, h'.2, by rw [if_pos h']⟩
    · repeat' split at h
      all_goals omega
  obtain ⟨h1, h2, h3⟩ := hc
  have H3 := Lib.hid h3
  clear h3 h
  have e1 : decide ((48 : Int) ≤ (c.toNat : Int)) = true := by simp; omega
  have e2 : decide ((c.toNat : Int) ≤ 57) = true := by simp; omega
  go_enter Tryz.func71, Tryz.ntmps71
  go_wp2
  go_ret2
  exact Worth.mk (by rw [H3.out]; omega)
set_option maxHeartbeats 1000000 in
set_option maxRecDepth 100000 in
theorem dec_no (r : Int) (w : World) (h : r < 48 ∨ 57 < r) : Calls Tryz.prog 71 #[.int .i32 r] w (Worth 0 false w) := by
  by_cases h1 : 48 ≤ r
  · have e1 : decide ((48 : Int) ≤ r) = true := by simpa using h1
    have e2 : decide (r ≤ 57) = false := by simp; omega
    clear h h1
    go_enter Tryz.func71, Tryz.ntmps71
    go_wp2
    go_ret2
    exact Worth.mk rfl
  · have e1 : decide ((48 : Int) ≤ r) = false := by simpa using h1
    clear h h1
    go_enter Tryz.func71, Tryz.ntmps71
    go_wp2
    go_ret2
    exact Worth.mk rfl
theorem dec_worths : Worths 71 10 := by
  refine ⟨dec_yes, fun c w _ h => dec_no _ w ?_, fun r w h1 _ => dec_no _ w (.inr (by omega))⟩
  unfold worth at h
  split at h
  · omega
  · omega


/-- Two results: a number, and an error. -/
def Read (p : Nat × Nat) (w : World) (e : Ending) (w' : World) : Prop := e = .returned (.tuple #[.int .u64 (p.1 : Int), .int .i64 (p.2 : Int)]) ∧ Below w.heap.size w w'
theorem Read.mk {a b : Int} {p q : Nat} {r : Nat × Nat} {w w' : World} (h : r = (p, q)) (ha : a = p) (hb : b = q) (hB : Below w.heap.size w w') : Read r w (.returned (.tuple #[.int .u64 a, .int .i64 b])) w' := ⟨by rw [h, ha, hb], hB⟩

/-- What stands in n: what was read, or one more than the greatest number. -/
def capF (v : Nat) : Nat := min v 9007199254740992
theorem capF_step (b v d : Nat) (hb : 1 ≤ b) : capF (v * b + d) = min (capF v * b + d) 9007199254740992 := by
  unfold capF
  by_cases h : v ≤ 9007199254740992
  · rw [Nat.min_eq_left h]
  · rw [Nat.min_eq_right (show 9007199254740992 ≤ v by omega)]
    have h1 := Nat.mul_le_mul_left v hb
    have h2 := Nat.mul_le_mul_left 9007199254740992 hb
    omega

end Go.Proofs.YtdcbcjljmjnopaaGreatDoor

namespace Go.Proofs.YtdcbcjljmjnopaaGreatDoor
open Go.RowKit

theorem all_snoc (b : Nat) (l : List UInt8) (c : UInt8) (h : l.all (digB b) = true) (hc : worth c < b) : (l ++ [c]).all (digB b) = true := by
  rw [List.all_append, h]
  simp [digB, hc]
theorem capF_le (v : Nat) : capF v ≤ 9007199254740992 := Nat.min_le_right _ _
theorem capF_eq (v : Nat) (h : v ≤ Most) : capF v = v := Nat.min_eq_left (by unfold Most at h; omega)
theorem capF_gt (v : Nat) (h : ¬ v ≤ Most) : capF v = 9007199254740992 := Nat.min_eq_right (by unfold Most at h; omega)
theorem bl_ne (s : ByteArray) (h : 0 < s.size) : bl s ≠ [] := by
  intro e
  have := bl_length s
  rw [e] at this
  simp at this
  omega
theorem toList_some (s : ByteArray) (h : 0 < s.size) : s.toList.isEmpty = false := by
  rw [Lib.toList_data]
  cases hl : bl s with
  | nil => exact absurd hl (bl_ne s h)
  | cons c l => exact (show (bl s).isEmpty = false by rw [hl]; rfl)
theorem toList_none (s : ByteArray) (h : ¬ 0 < s.size) : s.toList = [] := by
  rw [Lib.toList_data]
  exact List.eq_nil_of_length_eq_zero (by have := bl_length s; unfold bl at this; omega)
theorem high_worth (s : ByteArray) (k : Nat) (hlt : k < s.size) (h : 128 ≤ (s[k]'hlt).toNat) (b : Nat) (hb : b ≤ 16) : ¬ worth (s[k]'hlt) < b := by
  rw [worth_high _ h]
  omega
/-- All was read. -/
theorem read_end (b : Nat) (l : List UInt8) (w w' : World) (hne : l ≠ []) (hall : l.all (digB b) = true) (hB : Below w.heap.size w w') :
    (valF b l ≤ Most → Read (readF b l) w (.returned (.tuple #[.int .u64 (capF (valF b l) : Int), .int .i64 0])) w') ∧ (¬ valF b l ≤ Most → Read (readF b l) w (.returned (.tuple #[.int .u64 0, .int .i64 3])) w') :=
  ⟨fun h => Read.mk (readF_ok b l hne hall h) (by rw [capF_eq _ h]) rfl hB, fun h => Read.mk (readF_long b l hne hall h) rfl rfl hB⟩

set_option maxHeartbeats 2000000 in
set_option maxRecDepth 100000 in
theorem read_10 (s : ByteArray) (w : World) (h0 : 0 < s.size) :
    Calls Tryz.prog 70 #[.string s, .int .u64 10, .func (.func 71) #[] #[]] w (Read (readF 10 (bl s)) w) := by
  have CY := Lib.hid (dec_worths).yes
  have CN := Lib.hid (dec_worths).no
  have CH := Lib.hid (dec_worths).high
  have HNE := Lib.hid (bl_ne s h0)
  have e1 := toList_some s h0
  clear h0
  go_enter Tryz.func70, Tryz.ntmps70
  go_wp2_with fail
  go_loopw [8] (fun n wx => ∃ k : Nat, k ≤ s.size ∧ AtIter wx w.heap.size s k ∧ Below w.heap.size w wx ∧ ((bl s).take k).all (digB 10) = true ∧ n = .int .u64 (capF (valF 10 ((bl s).take k)) : Int)) (fun _ wx => s.size - wx.iterPos w.heap.size)
  case atStart => exact ⟨0, Nat.zero_le _, AtIter.start _ _, (Below.refl _ _).alloc (Nat.le_refl _) _, rfl, rfl⟩
  case round =>
    obtain ⟨k, hk, hit, hB, hall, rfl⟩ := hrel
    have HALL := Lib.hid hall
    have HM := Lib.hid hit.pos
    have hcap := capF_le (valF 10 ((bl s).take k))
    clear hall
    by_cases hlt : k < s.size
    · have HG := Lib.hid (bl_get s k hlt)
      have HTK := Lib.hid (bl_take s k hlt)
      rcases decode_step s k hlt with ⟨hc, hd⟩ | ⟨hc, r, n, hd, hr1, hr2, hn, hw⟩
      · obtain ⟨w1, hnx, hit1, t1, z1⟩ := next_some (P := Tryz.prog) hit hlt hd
        have hB1 : Below w.heap.size w w1 := hB.trans ⟨t1.os, t1.tape, t1.output, t1.size, fun b hb => t1.block b (by have := hB.size; omega) (by omega)⟩
        have hlt1 := hit1.lt
        clear hd z1 t1
        generalize s[k] = c at *
        by_cases hwc : worth c < 10
        · have C := Lib.hid (CY.out c w1 hwc)
          have HCS := Lib.hid (capF_step 10 (valF 10 ((bl s).take k)) (worth c) (by omega))
          have HWC := Lib.hid hwc
          generalize hm : capF (valF 10 ((bl s).take k)) = m at *
          clear hm
          generalize hdd : worth c = d at *
          have HDD := Lib.hid hdd
          clear hdd
          go_wp2_with fail
          refine C.out.mono ?_
          rintro e w2 ⟨rfl, rfl⟩
          by_cases hmin : (m : Int) * 10 + d < 9007199254740992
          · go_wp2_with fail
            go_roundw
            case rel =>
              refine ⟨k + 1, hlt, hit1, hB1, ?_, ?_⟩
              · rw [HTK.out]
                exact all_snoc _ _ _ HALL.out (by rw [HDD.out]; exact HWC.out)
              · rw [HTK.out, valF_snoc, HDD.out, HCS.out, Nat.min_eq_left (by omega)]
                go_num
            case measure => rw [hit1.pos, HM.out]; omega
          · go_wp2_with fail
            go_roundw
            case rel =>
              refine ⟨k + 1, hlt, hit1, hB1, ?_, ?_⟩
              · rw [HTK.out]
                exact all_snoc _ _ _ HALL.out (by rw [HDD.out]; exact HWC.out)
              · rw [HTK.out, valF_snoc, HDD.out, HCS.out, Nat.min_eq_right (by omega)]
                go_num
            case measure => rw [hit1.pos, HM.out]; omega
        · have C := Lib.hid (CN.out c w1 hc hwc)
          have HF := Lib.hid (readF_form 10 (bl s) c k HG.out hwc)
          generalize capF (valF 10 ((bl s).take k)) = m at *
          clear hwc
          go_wp2_with fail
          refine C.out.mono ?_
          rintro e w2 ⟨rfl, rfl⟩
          go_wp2_with fail
          go_ret2
          exact Read.mk HF.out rfl rfl hB1
      · obtain ⟨w1, hnx, hit1, t1, z1⟩ := next_some (P := Tryz.prog) hit hlt hd
        have hB1 : Below w.heap.size w w1 := hB.trans ⟨t1.os, t1.tape, t1.output, t1.size, fun b hb => t1.block b (by have := hB.size; omega) (by omega)⟩
        have hlt1 := hit1.lt
        have HF := Lib.hid (readF_form 10 (bl s) _ k HG.out (high_worth s k hlt hc 10 (by omega)))
        have C := Lib.hid (CH.out (r : Int) w1 (by omega) (by omega))
        clear hd z1 t1 hw
        generalize s[k] = c at *
        generalize capF (valF 10 ((bl s).take k)) = m at *
        go_wp2_with fail
        refine C.out.mono ?_
        rintro e w2 ⟨rfl, rfl⟩
        go_wp2_with fail
        go_ret2
        exact Read.mk HF.out rfl rfl hB1
    · have hnx := next_none (P := Tryz.prog) hit hlt
      have ht : (bl s).take k = bl s := List.take_of_length_le (by rw [bl_length]; omega)
      rw [ht] at HALL hcap
      rw [ht]
      have HE := Lib.hid (read_end 10 (bl s) w wr HNE.out HALL.out hB)
      by_cases hv : valF 10 (bl s) ≤ Most
      · have hv1 : (capF (valF 10 (bl s)) : Int) ≤ 9007199254740991 := by rw [capF_eq _ hv]; unfold Most at hv; omega
        have HE1 := Lib.hid (HE.out.1 hv)
        clear HE hv ht HALL
        generalize capF (valF 10 (bl s)) = m at *
        have e2 : decide ((9007199254740991 : Int) < (m : Int)) = false := by simp; omega
        go_wp2_with fail
        go_ret2
        exact HE1.out
      · have hv1 : ¬ (capF (valF 10 (bl s)) : Int) ≤ 9007199254740991 := by rw [capF_gt _ hv]; omega
        have HE1 := Lib.hid (HE.out.2 hv)
        clear HE hv ht HALL
        generalize capF (valF 10 (bl s)) = m at *
        have e2 : decide ((9007199254740991 : Int) < (m : Int)) = true := by simp; omega
        go_wp2_with fail
        go_ret2
        exact HE1.out
theorem decimal_any (s : ByteArray) (w : World) : Calls Tryz.prog 49 #[.string s] w (Read (readF 10 (bl s)) w) := by
  by_cases h0 : 0 < s.size
  · have C := Lib.hid (read_10 s w h0)
    clear h0
    generalize readF 10 (bl s) = p at *
    go_enter Tryz.func49, Tryz.ntmps49
    go_wp2_with fail
    refine C.out.mono ?_
    rintro e w' ⟨rfl, b⟩
    go_wp2_with fail
    go_ret2
    exact ⟨rfl, b⟩
  · have e1 := toList_none s h0
    have HF := Lib.hid (show readF 10 (bl s) = (0, 5) by
      have : bl s = [] := by rw [← e1, Lib.toList_data]; rfl
      rw [this]
      rfl)
    have C : Calls Tryz.prog 70 #[.string s, .int .u64 10, .func (.func 71) #[] #[]] w (Read (readF 10 (bl s)) w) := by
      go_enter Tryz.func70, Tryz.ntmps70
      go_wp2_with fail
      go_ret2
      exact Read.mk HF.out rfl rfl (Below.refl _ _)
    have C := Lib.hid C
    clear h0 e1 HF
    generalize readF 10 (bl s) = p at *
    go_enter Tryz.func49, Tryz.ntmps49
    go_wp2_with fail
    refine C.out.mono ?_
    rintro e w' ⟨rfl, b⟩
    go_wp2_with fail
    go_ret2
    exact ⟨rfl, b⟩

end Go.Proofs.YtdcbcjljmjnopaaGreatDoor
