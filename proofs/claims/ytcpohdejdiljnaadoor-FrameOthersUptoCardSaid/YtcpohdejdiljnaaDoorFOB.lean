/-
  The law's upper: capital letters for a to z.
  Conditions: those that each theorem names.
-/
import Derived.Test.YtcpohdejdiljnaaDoorFW
namespace Go.Proofs.YtcpohdejdiljnaaDoor
open Go.RowKit

def upB (c : UInt8) : UInt8 := if 97 ≤ c ∧ c ≤ 122 then c - 32 else c
def upF (l : List UInt8) : List UInt8 := l.map upB
theorem upB_yes (c : UInt8) (h : 97 ≤ (c.toNat : Int)) (h' : (c.toNat : Int) ≤ 122) : (c.toNat : Int) - 32 = ((upB c).toNat : Int) := by
  unfold upB
  rw [if_pos ⟨by rw [UInt8.le_iff_toNat_le]; show 97 ≤ c.toNat; omega, by rw [UInt8.le_iff_toNat_le]; show c.toNat ≤ 122; omega⟩, UInt8.toNat_sub]
  show _ = (((256 - 32 + c.toNat) % 256 : Nat) : Int)
  omega
theorem upB_no (c : UInt8) (h : ¬ (97 ≤ (c.toNat : Int) ∧ (c.toNat : Int) ≤ 122)) : upB c = c := by
  unfold upB
  rw [if_neg]
  rintro ⟨h1, h2⟩
  rw [UInt8.le_iff_toNat_le] at h1 h2
  have e1 : (97 : UInt8).toNat = 97 := rfl
  have e2 : (122 : UInt8).toNat = 122 := rfl
  omega
theorem low_up (c : UInt8) : lowB (upB c) = lowB c := by
  have h : ∀ n : Fin 256, lowB (upB (UInt8.ofNat n.val)) = lowB (UInt8.ofNat n.val) := by decide +kernel
  have := h ⟨c.toNat, c.toNat_lt⟩
  simpa using this
theorem low_upF (l : List UInt8) : lowF (upF l) = lowF l := by
  unfold lowF upF
  rw [List.map_map]
  exact List.map_congr_left fun c _ => low_up c
def upAt (s : ByteArray) (k : Nat) : List UInt8 := upF ((bl s).take k) ++ (bl s).drop k
theorem upAt_length (s : ByteArray) (k : Nat) : (upAt s k).length = s.size := by
  unfold upAt upF
  rw [List.length_append, List.length_map, ← List.length_append, List.take_append_drop, bl_length]
theorem upAt_get (s : ByteArray) (k : Nat) (h : k < s.size) : (upAt s k)[k]? = some s[k] := by
  unfold upAt upF
  have hl : ((bl s).take k).length = k := by rw [List.length_take, bl_length]; omega
  rw [List.getElem?_append_right (by rw [List.length_map, hl]; exact Nat.le_refl _), List.length_map, hl, Nat.sub_self, bl_drop s k h]
  rfl
theorem upAt_yes (s : ByteArray) (k : Nat) (h : k < s.size) : upAt s (k + 1) = (upAt s k).set k (upB s[k]) := by
  unfold upAt upF
  have hl : ((bl s).take k).length = k := by rw [List.length_take, bl_length]; omega
  rw [bl_take s k h, bl_drop s k h, List.map_append, List.append_assoc, List.set_append_right _ _ (by rw [List.length_map, hl]; exact Nat.le_refl _), List.length_map, hl, Nat.sub_self]
  rfl
theorem upAt_no (s : ByteArray) (k : Nat) (h : k < s.size) (hc : upB s[k] = s[k]) : upAt s (k + 1) = upAt s k := by
  unfold upAt upF
  rw [bl_take s k h, bl_drop s k h, List.map_append, List.append_assoc]
  simp [hc]

set_option maxHeartbeats 4000000 in
set_option maxRecDepth 100000 in
theorem upper_any (s : ByteArray) (W : World) (hs : s.size ≤ 1000000000) : Calls Tryd.prog 19 #[.string s] W (Text (upF (bl s)) W) := by
  obtain ⟨cap, w0, hcv, row0, b0, z0⟩ := run_to_bytes W s
  have R0 := Lib.hid row0
  have B0 := Lib.hid b0
  clear row0 b0 z0
  go_enter Tryd.func19, Tryd.ntmps19
  go_wp2_with fail
  go_loopw [10, 4, 5] (fun vi v1 v2 wr => ∃ k : Nat, vi = .int .i64 (k : Int) ∧ k ≤ s.size ∧ Hid (Row wr W.heap.size (upAt s k)) ∧ Hid (Below W.heap.size W wr)) (fun vi _ _ _ => s.size - (intOf vi).toNat)
  case atStart => exact ⟨0, rfl, Nat.zero_le _, R0, B0⟩
  case round =>
    clear hcv R0 B0
    obtain ⟨k, rfl, hk, HR, HB⟩ := hrel
    by_cases hlt : k < s.size
    · have hat := run_at 59 5 Tryd.underlying59 (by kernel_rfl) ⟨W.heap.size, 0, none⟩ s.size cap k hlt
      rw [add_at, Nat.zero_add] at hat
      have z := HR.out.cell k _ (upAt_get s k hlt)
      by_cases hup : 97 ≤ (s[k].toNat : Int) ∧ (s[k].toNat : Int) ≤ 122
      · have zf := HR.out.free k (by rw [upAt_length]; exact hlt)
        have row2 := HR.out.set k (upB s[k])
        rw [← upAt_yes s k hlt, ← upB_yes s[k] hup.1 hup.2] at row2
        have R2 := Lib.hid row2
        have c1 : decide ((97 : Int) ≤ (s[k].toNat : Int)) = true := decide_eq_true hup.1
        have c2 : decide ((s[k].toNat : Int) ≤ 122) = true := decide_eq_true hup.2
        clear row2
        go_wp2_with fail
        go_roundw
        case rel => exact ⟨k + 1, by go_num, hlt, R2, Lib.hid (HB.out.setCell (Nat.le_refl _) _)⟩
        case measure => simp [intOf]; omega
      · have HN := Lib.hid (upAt_no s k hlt (upB_no _ hup))
        have hc : decide ((97 : Int) ≤ (s[k].toNat : Int)) = false ∨ (decide ((97 : Int) ≤ (s[k].toNat : Int)) = true ∧ decide ((s[k].toNat : Int) ≤ 122) = false) := by
          by_cases h : 97 ≤ (s[k].toNat : Int)
          · exact .inr ⟨decide_eq_true h, decide_eq_false (fun h' => hup ⟨h, h'⟩)⟩
          · exact .inl (decide_eq_false h)
        clear hup
        rcases hc with c1 | ⟨c1, c2⟩
        all_goals
          go_wp2_with fail
          go_roundw
          case rel => exact ⟨k + 1, by go_num, hlt, by rw [HN.out]; exact HR, HB⟩
          case measure => simp [intOf]; omega
    · have hr := run_text wr (some ⟨W.heap.size, 0, none⟩) _ s.size cap (upAt_length s k) HR.out.src
      rw [show upAt s k = upF (bl s) by
        unfold upAt
        rw [List.take_of_length_le (by rw [bl_length]; omega), List.drop_of_length_le (by rw [bl_length]; omega), List.append_nil]] at hr
      go_wp2_with fail
      go_ret
      exact ⟨rfl, HB.out⟩
end Go.Proofs.YtcpohdejdiljnaaDoor
