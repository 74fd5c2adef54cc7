/-
  What the document's own Decimal and Hex (the reference) answer to any text.
  Conditions: those that each theorem names.
-/
import Derived.Test.YtdcbcjljmjnopaaGreatDoorNC
namespace Go.Proofs.YtdcbcjljmjnopaaGreatDoor
open Go.RowKit

theorem ret_i64 {a b : Int} (h : a = b) : Ending.returned (.int .i64 a) = .returned (.int .i64 b) := by rw [h]
theorem worth_cases (c : UInt8) : (48 ≤ c.toNat ∧ c.toNat ≤ 57 ∧ worth c = c.toNat - 48) ∨ (97 ≤ c.toNat ∧ c.toNat ≤ 102 ∧ worth c = c.toNat - 87) ∨ (65 ≤ c.toNat ∧ c.toNat ≤ 70 ∧ worth c = c.toNat - 55) ∨
    (¬ (48 ≤ c.toNat ∧ c.toNat ≤ 57) ∧ ¬ (97 ≤ c.toNat ∧ c.toNat ≤ 102) ∧ ¬ (65 ≤ c.toNat ∧ c.toNat ≤ 70) ∧ worth c = 99) := by
  have he : worth c = if 48 ≤ c.toNat ∧ c.toNat ≤ 57 then c.toNat - 48 else if 97 ≤ c.toNat ∧ c.toNat ≤ 102 then c.toNat - 87 else if 65 ≤ c.toNat ∧ c.toNat ≤ 70 then c.toNat - 55 else 99 := rfl
  generalize worth c = x at *
  repeat' split at he
  all_goals omega
/-- A digit's worth, or -1. -/
def digW (b : Nat) (c : UInt8) : Int := if worth c < b then (worth c : Int) else -1
theorem digW_yes (b : Nat) (c : UInt8) (h : worth c < b) : digW b c = (worth c : Int) := if_pos h
theorem digW_no (b : Nat) (c : UInt8) (h : ¬ worth c < b) : digW b c = -1 := if_neg h
/-- What stands in s while noughts are taken from its beginning. -/
def Bared (b : Nat) (s t : ByteArray) : Prop := 0 < t.size ∧ t.size ≤ s.size ∧ (bl t).all (digB b) = true ∧ valF b (bl t) = valF b (bl s)
theorem Bared.next {b : Nat} {s t : ByteArray} (h : Bared b s t) (h1 : 1 < t.size) (h2 : t[0] = 48) : Bared b s (t.extract 1 t.size) := by
  obtain ⟨_, hz, ha, hv⟩ := h
  have hb : bl (t.extract 1 t.size) = (bl t).drop 1 := by
    rw [bl_extract, bl_mk, piece, List.take_of_length_le]
    rw [List.length_drop, bl_length]
    omega
  have hd := bl_drop t 0 (by omega)
  rw [List.drop_zero, h2] at hd
  have hsz : (t.extract 1 t.size).size = t.size - 1 := by
    rw [← bl_length, hb, List.length_drop, bl_length]
  refine ⟨by omega, by omega, ?_, ?_⟩
  · rw [hb]
    rw [List.all_eq_true] at ha ⊢
    exact fun c hc => ha c (List.mem_of_mem_drop hc)
  · rw [hb, ← hv]
    rw [hd, List.drop_succ_cons, List.drop_zero, valF_nought]
theorem Bared.size {t : ByteArray} (h1 : 1 < t.size) : (t.extract 1 t.size).size = t.size - 1 := by
  rw [← bl_length, bl_extract, bl_mk, piece, List.length_take, List.length_drop, bl_length]
  omega
theorem Bared.long {b : Nat} {s t : ByteArray} (h : Bared b s t) (hb : 10 ≤ b) (h1 : 16 < t.size) (h2 : ¬ t[0] = 48) : ¬ valF b (bl s) ≤ Most := by
  have hd := bl_drop t 0 (by omega)
  rw [List.drop_zero] at hd
  have hl := valF_long b t[0] ((bl t).drop 1) h2
  rw [← hd, h.2.2.2, List.length_drop, bl_length] at hl
  have h3 : 10 ^ 16 ≤ b ^ (t.size - 1) := Nat.le_trans (Nat.pow_le_pow_left hb 16) (Nat.pow_le_pow_right (by omega) (by omega))
  unfold Most
  omega
theorem dig_at (b : Nat) (t : ByteArray) (k : Nat) (h : k < t.size) (ha : (bl t).all (digB b) = true) : worth t[k] < b := by
  have := List.all_eq_true.1 ha t[k] (List.mem_of_getElem? (bl_get t k h))
  simpa [digB] using this
def strLen : Value → Nat
  | .string t => t.size
  | _ => 0
theorem byte_ne (c d : UInt8) (h : ¬ c = d) : ((c.toNat : Int) == (d.toNat : Int)) = false := by
  have : ¬ c.toNat = d.toNat := fun e => h (UInt8.toNat_inj.1 e)
  exact beq_false_of_ne (by omega)
theorem byte_eq (c d : UInt8) (h : c = d) : ((c.toNat : Int) == (d.toNat : Int)) = true := by rw [h]; exact beq_self_eq_true _
/-- What the reference's read answers. -/
def RRead (p : Nat × Nat) (w : World) (e : Ending) (w' : World) : Prop := e = .returned (.tuple #[.int .u64 (p.1 : Int), .int .i64 (p.2 : Int)]) ∧ w = w'
theorem RRead.mk {a b : Int} {p q : Nat} {r : Nat × Nat} {w : World} (h : r = (p, q)) (ha : a = p) (hb : b = q) : RRead r w (.returned (.tuple #[.int .u64 a, .int .i64 b])) w := ⟨by rw [h, ha, hb], rfl⟩

set_option maxHeartbeats 4000000 in
set_option maxRecDepth 100000 in
theorem digit_10 (c : UInt8) (w : World) : Calls Tryz.prog 90 #[.int .u8 (c.toNat : Int), .int .u64 10] w fun e w' => e = .returned (.int .i64 (digW 10 c)) ∧ w = w' := by
  have HD := Lib.hid (show digW 10 c = if worth c < 10 then (worth c : Int) else -1 from rfl)
  have HW := Lib.hid (worth_cases c)
  have hc := UInt8.toNat_lt c
  generalize digW 10 c = dv at *
  go_enter Tryz.func90, Tryz.ntmps90
  go_wp2
  all_goals
    go_ret
    refine ⟨ret_i64 ?_, rfl⟩
    rw [HD.out]
    have h := HW.out
    clear HD HW
    split
    all_goals omega

set_option maxHeartbeats 4000000 in
set_option maxRecDepth 100000 in
theorem rread_10 (s : ByteArray) (w : World) (hs : s.size ≤ 140737488355328) (h0 : 0 < s.size) :
    Calls Tryz.prog 72 #[.string s, .int .u64 10] w (RRead (readF 10 (bl s)) w) := by
  have HNE := Lib.hid (bl_ne s h0)
  have CD := Lib.hid digit_10
  have e0 : ((s.size : Int) == 0) = false := beq_false_of_ne (by omega)
  go_enter Tryz.func72, Tryz.ntmps72
  go_wp2_with fail
  go_loop [6] (fun i => ∃ k : Nat, k ≤ s.size ∧ i = .int .i64 k ∧ ((bl s).take k).all (digB 10) = true) (fun i => s.size - (intOf i).toNat)
  case atStart => exact ⟨0, Nat.zero_le _, rfl, rfl⟩
  case round =>
    obtain ⟨k, hk, rfl, hall⟩ := hrel
    have HALL := Lib.hid hall
    clear hall
    by_cases hlt : k < s.size
    · have HG := Lib.hid (bl_get s k hlt)
      have HTK := Lib.hid (bl_take s k hlt)
      by_cases hwc : worth s[k] < 10
      · have HDW := Lib.hid (digW_yes 10 s[k] hwc)
        have HWC := Lib.hid hwc
        clear hwc
        have C := Lib.hid (fun W : World => CD.out s[k] W)
        rw [HDW.out] at C
        go_wp2_with (go_at_call 90; refine (C.out _).mono ?_; rintro e w' ⟨rfl, rfl⟩)
        go_round
        case rel => exact ⟨k + 1, hlt, by go_num, by rw [HTK.out]; exact all_snoc _ _ _ HALL.out HWC.out⟩
        case measure => simp [intOf]; omega
      · have HDW := Lib.hid (digW_no 10 s[k] hwc)
        have HF := Lib.hid (readF_form 10 (bl s) _ k HG.out hwc)
        clear hwc
        have C := Lib.hid (fun W : World => CD.out s[k] W)
        rw [HDW.out] at C
        go_wp2_with (go_at_call 90; refine (C.out _).mono ?_; rintro e w' ⟨rfl, rfl⟩)
        go_ret2
        exact RRead.mk HF.out rfl rfl
    · have ht : (bl s).take k = bl s := List.take_of_length_le (by rw [bl_length]; omega)
      rw [ht] at HALL
      clear ht
      go_wp2_with fail
      go_loop [0] (fun v => ∃ t : ByteArray, v = .string t ∧ Bared 10 s t) (fun v => strLen v)
      case atStart => exact ⟨s, rfl, h0, Nat.le_refl _, HALL.out, rfl⟩
      case round =>
        obtain ⟨t, rfl, hbar⟩ := hrel
        have hz0 : 0 < t.size := hbar.1
        have hz1 : t.size ≤ 140737488355328 := Nat.le_trans hbar.2.1 hs
        have HBAR := Lib.hid hbar
        clear hbar
        by_cases hx : 1 < t.size ∧ t[0] = 48
        · obtain ⟨h1, h2⟩ := hx
          have e1 : ((t[0].toNat : Int) == 48) = true := by rw [h2]; rfl
          have HN := Lib.hid (HBAR.out.next h1 h2)
          have HSZ := Lib.hid (Bared.size h1)
          clear h2
          go_wp2_with fail
          go_round
          case rel => exact ⟨_, rfl, HN.out⟩
          case measure => simp only [strLen]; rw [HSZ.out]; omega
        · by_cases h1 : 1 < t.size
          · have h2 : ¬ t[0] = 48 := fun h => hx ⟨h1, h⟩
            have e1 : ((t[0].toNat : Int) == 48) = false := byte_ne _ 48 h2
            by_cases h16 : 16 < t.size
            · have HL := Lib.hid (readF_long 10 (bl s) HNE.out HALL.out (HBAR.out.long (by omega) h16 h2))
              clear h2 hx
              go_wp2_with fail
              go_ret2
              exact RRead.mk HL.out rfl rfl
            · clear h2 hx
              go_wp2_with fail
              go_loop [7, 8] (fun n i => ∃ j : Nat, j ≤ t.size ∧ i = .int .i64 j ∧ n = .int .u64 (valF 10 ((bl t).take j) : Int) ∧ valF 10 ((bl t).take j) ≤ 9007199254740991) (fun _ i => t.size - (intOf i).toNat)
              case atStart => exact ⟨0, Nat.zero_le _, rfl, rfl, by simp [valF]⟩
              case round =>
                obtain ⟨j, hj, rfl, rfl, hcap⟩ := hrel
                by_cases hlt : j < t.size
                · have HDW := Lib.hid (digW_yes 10 t[j] (dig_at 10 t j hlt HBAR.out.2.2.1))
                  have hwc := dig_at 10 t j hlt HBAR.out.2.2.1
                  have HTK := Lib.hid (show valF 10 ((bl t).take (j + 1)) = valF 10 ((bl t).take j) * 10 + worth t[j] by rw [bl_take t j hlt, valF_snoc])
                  have HMO := Lib.hid (show valF 10 ((bl t).take (j + 1)) ≤ valF 10 (bl s) by
                    rw [← HBAR.out.2.2.2]
                    have := valF_mono 10 (by omega) ((bl t).take (j + 1)) ((bl t).drop (j + 1))
                    rwa [List.take_append_drop] at this)
                  have C := Lib.hid (fun W : World => CD.out t[j] W)
                  rw [HDW.out] at C
                  clear HDW
                  generalize hm : valF 10 ((bl t).take j) = m at *
                  clear hm
                  generalize hdd : worth t[j] = d at *
                  clear hdd
                  by_cases hgt : (9007199254740991 : Int) < 10 * (m : Int) + (d : Int)
                  · have HL := Lib.hid (readF_long 10 (bl s) HNE.out HALL.out (by have := HMO.out; rw [HTK.out] at this; unfold Most; omega))
                    go_wp2_with (go_at_call 90; refine (C.out _).mono ?_; rintro e w' ⟨rfl, rfl⟩)
                    go_ret2
                    exact RRead.mk HL.out rfl rfl
                  · go_wp2_with (go_at_call 90; refine (C.out _).mono ?_; rintro e w' ⟨rfl, rfl⟩)
                    go_round
                    case rel => exact ⟨j + 1, hlt, by go_num, by rw [HTK.out]; go_num, by rw [HTK.out]; omega⟩
                    case measure => simp [intOf]; omega
                · have ht : (bl t).take j = bl t := List.take_of_length_le (by rw [bl_length]; omega)
                  rw [ht, HBAR.out.2.2.2] at hcap
                  rw [ht, HBAR.out.2.2.2]
                  have HL := Lib.hid (readF_ok 10 (bl s) HNE.out HALL.out hcap)
                  clear ht
                  generalize valF 10 (bl s) = m at *
                  go_wp2_with fail
                  go_ret2
                  exact RRead.mk HL.out rfl rfl
          · clear hx
            go_wp2_with fail
            go_loop [7, 8] (fun n i => ∃ j : Nat, j ≤ t.size ∧ i = .int .i64 j ∧ n = .int .u64 (valF 10 ((bl t).take j) : Int) ∧ valF 10 ((bl t).take j) ≤ 9007199254740991) (fun _ i => t.size - (intOf i).toNat)
            case atStart => exact ⟨0, Nat.zero_le _, rfl, rfl, by simp [valF]⟩
            case round =>
              obtain ⟨j, hj, rfl, rfl, hcap⟩ := hrel
              by_cases hlt : j < t.size
              · have HDW := Lib.hid (digW_yes 10 t[j] (dig_at 10 t j hlt HBAR.out.2.2.1))
                have hwc := dig_at 10 t j hlt HBAR.out.2.2.1
                have HTK := Lib.hid (show valF 10 ((bl t).take (j + 1)) = valF 10 ((bl t).take j) * 10 + worth t[j] by rw [bl_take t j hlt, valF_snoc])
                have HMO := Lib.hid (show valF 10 ((bl t).take (j + 1)) ≤ valF 10 (bl s) by
                  rw [← HBAR.out.2.2.2]
                  have := valF_mono 10 (by omega) ((bl t).take (j + 1)) ((bl t).drop (j + 1))
                  rwa [List.take_append_drop] at this)
                have C := Lib.hid (fun W : World => CD.out t[j] W)
                rw [HDW.out] at C
                clear HDW
                generalize hm : valF 10 ((bl t).take j) = m at *
                clear hm
                generalize hdd : worth t[j] = d at *
                clear hdd
                by_cases hgt : (9007199254740991 : Int) < 10 * (m : Int) + (d : Int)
                · have HL := Lib.hid (readF_long 10 (bl s) HNE.out HALL.out (by have := HMO.out; rw [HTK.out] at this; unfold Most; omega))
                  go_wp2_with (go_at_call 90; refine (C.out _).mono ?_; rintro e w' ⟨rfl, rfl⟩)
                  go_ret2
                  exact RRead.mk HL.out rfl rfl
                · go_wp2_with (go_at_call 90; refine (C.out _).mono ?_; rintro e w' ⟨rfl, rfl⟩)
                  go_round
                  case rel => exact ⟨j + 1, hlt, by go_num, by rw [HTK.out]; go_num, by rw [HTK.out]; omega⟩
                  case measure => simp [intOf]; omega
              · have ht : (bl t).take j = bl t := List.take_of_length_le (by rw [bl_length]; omega)
                rw [ht, HBAR.out.2.2.2] at hcap
                rw [ht, HBAR.out.2.2.2]
                have HL := Lib.hid (readF_ok 10 (bl s) HNE.out HALL.out hcap)
                clear ht
                generalize valF 10 (bl s) = m at *
                go_wp2_with fail
                go_ret2
                exact RRead.mk HL.out rfl rfl
theorem rdecimal_any (s : ByteArray) (w : World) (hs : s.size ≤ 140737488355328) : Calls Tryz.prog 50 #[.string s] w (RRead (readF 10 (bl s)) w) := by
  by_cases h0 : 0 < s.size
  · have C := Lib.hid (rread_10 s w hs h0)
    clear h0
    generalize readF 10 (bl s) = p at *
    go_enter Tryz.func50, Tryz.ntmps50
    go_wp2_with fail
    refine C.out.mono ?_
    rintro e w' ⟨rfl, rfl⟩
    go_wp2_with fail
    go_ret2
    exact ⟨rfl, rfl⟩
  · have hz : ¬ s.size = 0 ∨ s.size = 0 := by omega
    have HF := Lib.hid (show readF 10 (bl s) = (0, 5) by
      have : bl s = [] := by rw [← toList_none s h0, Lib.toList_data]; rfl
      rw [this]
      rfl)
    have e0 : ((s.size : Int) == 0) = true := beq_iff_eq.2 (by omega)
    have C : Calls Tryz.prog 72 #[.string s, .int .u64 10] w (RRead (readF 10 (bl s)) w) := by
      go_enter Tryz.func72, Tryz.ntmps72
      go_wp2_with fail
      go_ret2
      exact RRead.mk HF.out rfl rfl
    have C := Lib.hid C
    clear h0 HF hz e0
    generalize readF 10 (bl s) = p at *
    go_enter Tryz.func50, Tryz.ntmps50
    go_wp2_with fail
    refine C.out.mono ?_
    rintro e w' ⟨rfl, rfl⟩
    go_wp2_with fail
    go_ret2
    exact ⟨rfl, rfl⟩

set_option maxHeartbeats 4000000 in
set_option maxRecDepth 100000 in
theorem digit_16 (c : UInt8) (w : World) : Calls Tryz.prog 90 #[.int .u8 (c.toNat : Int), .int .u64 16] w fun e w' => e = .returned (.int .i64 (digW 16 c)) ∧ w = w' := by
  have HD := Lib.hid (show digW 16 c = if worth c < 16 then (worth c : Int) else -1 from rfl)
  have HW := Lib.hid (worth_cases c)
  have hc := UInt8.toNat_lt c
  generalize digW 16 c = dv at *
  go_enter Tryz.func90, Tryz.ntmps90
  go_wp2
  all_goals
    go_ret
    refine ⟨ret_i64 ?_, rfl⟩
    rw [HD.out]
    have h := HW.out
    clear HD HW
    split
    all_goals omega

set_option maxHeartbeats 4000000 in
set_option maxRecDepth 100000 in
theorem rread_16 (s : ByteArray) (w : World) (hs : s.size ≤ 140737488355328) (h0 : 0 < s.size) :
    Calls Tryz.prog 72 #[.string s, .int .u64 16] w (RRead (readF 16 (bl s)) w) := by
  have HNE := Lib.hid (bl_ne s h0)
  have CD := Lib.hid digit_16
  have e0 : ((s.size : Int) == 0) = false := beq_false_of_ne (by omega)
  go_enter Tryz.func72, Tryz.ntmps72
  go_wp2_with fail
  go_loop [6] (fun i => ∃ k : Nat, k ≤ s.size ∧ i = .int .i64 k ∧ ((bl s).take k).all (digB 16) = true) (fun i => s.size - (intOf i).toNat)
  case atStart => exact ⟨0, Nat.zero_le _, rfl, rfl⟩
  case round =>
    obtain ⟨k, hk, rfl, hall⟩ := hrel
    have HALL := Lib.hid hall
    clear hall
    by_cases hlt : k < s.size
    · have HG := Lib.hid (bl_get s k hlt)
      have HTK := Lib.hid (bl_take s k hlt)
      by_cases hwc : worth s[k] < 16
      · have HDW := Lib.hid (digW_yes 16 s[k] hwc)
        have HWC := Lib.hid hwc
        clear hwc
        have C := Lib.hid (fun W : World => CD.out s[k] W)
        rw [HDW.out] at C
        go_wp2_with (go_at_call 90; refine (C.out _).mono ?_; rintro e w' ⟨rfl, rfl⟩)
        go_round
        case rel => exact ⟨k + 1, hlt, by go_num, by rw [HTK.out]; exact all_snoc _ _ _ HALL.out HWC.out⟩
        case measure => simp [intOf]; omega
      · have HDW := Lib.hid (digW_no 16 s[k] hwc)
        have HF := Lib.hid (readF_form 16 (bl s) _ k HG.out hwc)
        clear hwc
        have C := Lib.hid (fun W : World => CD.out s[k] W)
        rw [HDW.out] at C
        go_wp2_with (go_at_call 90; refine (C.out _).mono ?_; rintro e w' ⟨rfl, rfl⟩)
        go_ret2
        exact RRead.mk HF.out rfl rfl
    · have ht : (bl s).take k = bl s := List.take_of_length_le (by rw [bl_length]; omega)
      rw [ht] at HALL
      clear ht
      go_wp2_with fail
      go_loop [0] (fun v => ∃ t : ByteArray, v = .string t ∧ Bared 16 s t) (fun v => strLen v)
      case atStart => exact ⟨s, rfl, h0, Nat.le_refl _, HALL.out, rfl⟩
      case round =>
        obtain ⟨t, rfl, hbar⟩ := hrel
        have hz0 : 0 < t.size := hbar.1
        have hz1 : t.size ≤ 140737488355328 := Nat.le_trans hbar.2.1 hs
        have HBAR := Lib.hid hbar
        clear hbar
        by_cases hx : 1 < t.size ∧ t[0] = 48
        · obtain ⟨h1, h2⟩ := hx
          have e1 : ((t[0].toNat : Int) == 48) = true := by rw [h2]; rfl
          have HN := Lib.hid (HBAR.out.next h1 h2)
          have HSZ := Lib.hid (Bared.size h1)
          clear h2
          go_wp2_with fail
          go_round
          case rel => exact ⟨_, rfl, HN.out⟩
          case measure => simp only [strLen]; rw [HSZ.out]; omega
        · by_cases h1 : 1 < t.size
          · have h2 : ¬ t[0] = 48 := fun h => hx ⟨h1, h⟩
            have e1 : ((t[0].toNat : Int) == 48) = false := byte_ne _ 48 h2
            by_cases h16 : 16 < t.size
            · have HL := Lib.hid (readF_long 16 (bl s) HNE.out HALL.out (HBAR.out.long (by omega) h16 h2))
              clear h2 hx
              go_wp2_with fail
              go_ret2
              exact RRead.mk HL.out rfl rfl
            · clear h2 hx
              go_wp2_with fail
              go_loop [7, 8] (fun n i => ∃ j : Nat, j ≤ t.size ∧ i = .int .i64 j ∧ n = .int .u64 (valF 16 ((bl t).take j) : Int) ∧ valF 16 ((bl t).take j) ≤ 9007199254740991) (fun _ i => t.size - (intOf i).toNat)
              case atStart => exact ⟨0, Nat.zero_le _, rfl, rfl, by simp [valF]⟩
              case round =>
                obtain ⟨j, hj, rfl, rfl, hcap⟩ := hrel
                by_cases hlt : j < t.size
                · have HDW := Lib.hid (digW_yes 16 t[j] (dig_at 16 t j hlt HBAR.out.2.2.1))
                  have hwc := dig_at 16 t j hlt HBAR.out.2.2.1
                  have HTK := Lib.hid (show valF 16 ((bl t).take (j + 1)) = valF 16 ((bl t).take j) * 16 + worth t[j] by rw [bl_take t j hlt, valF_snoc])
                  have HMO := Lib.hid (show valF 16 ((bl t).take (j + 1)) ≤ valF 16 (bl s) by
                    rw [← HBAR.out.2.2.2]
                    have := valF_mono 16 (by omega) ((bl t).take (j + 1)) ((bl t).drop (j + 1))
                    rwa [List.take_append_drop] at this)
                  have C := Lib.hid (fun W : World => CD.out t[j] W)
                  rw [HDW.out] at C
                  clear HDW
                  generalize hm : valF 16 ((bl t).take j) = m at *
                  clear hm
                  generalize hdd : worth t[j] = d at *
                  clear hdd
                  by_cases hgt : (9007199254740991 : Int) < 16 * (m : Int) + (d : Int)
                  · have HL := Lib.hid (readF_long 16 (bl s) HNE.out HALL.out (by have := HMO.out; rw [HTK.out] at this; unfold Most; omega))
                    go_wp2_with (go_at_call 90; refine (C.out _).mono ?_; rintro e w' ⟨rfl, rfl⟩)
                    go_ret2
                    exact RRead.mk HL.out rfl rfl
                  · go_wp2_with (go_at_call 90; refine (C.out _).mono ?_; rintro e w' ⟨rfl, rfl⟩)
                    go_round
                    case rel => exact ⟨j + 1, hlt, by go_num, by rw [HTK.out]; go_num, by rw [HTK.out]; omega⟩
                    case measure => simp [intOf]; omega
                · have ht : (bl t).take j = bl t := List.take_of_length_le (by rw [bl_length]; omega)
                  rw [ht, HBAR.out.2.2.2] at hcap
                  rw [ht, HBAR.out.2.2.2]
                  have HL := Lib.hid (readF_ok 16 (bl s) HNE.out HALL.out hcap)
                  clear ht
                  generalize valF 16 (bl s) = m at *
                  go_wp2_with fail
                  go_ret2
                  exact RRead.mk HL.out rfl rfl
          · clear hx
            go_wp2_with fail
            go_loop [7, 8] (fun n i => ∃ j : Nat, j ≤ t.size ∧ i = .int .i64 j ∧ n = .int .u64 (valF 16 ((bl t).take j) : Int) ∧ valF 16 ((bl t).take j) ≤ 9007199254740991) (fun _ i => t.size - (intOf i).toNat)
            case atStart => exact ⟨0, Nat.zero_le _, rfl, rfl, by simp [valF]⟩
            case round =>
              obtain ⟨j, hj, rfl, rfl, hcap⟩ := hrel
              by_cases hlt : j < t.size
              · have HDW := Lib.hid (digW_yes 16 t[j] (dig_at 16 t j hlt HBAR.out.2.2.1))
                have hwc := dig_at 16 t j hlt HBAR.out.2.2.1
                have HTK := Lib.hid (show valF 16 ((bl t).take (j + 1)) = valF 16 ((bl t).take j) * 16 + worth t[j] by rw [bl_take t j hlt, valF_snoc])
                have HMO := Lib.hid (show valF 16 ((bl t).take (j + 1)) ≤ valF 16 (bl s) by
                  rw [← HBAR.out.2.2.2]
                  have := valF_mono 16 (by omega) ((bl t).take (j + 1)) ((bl t).drop (j + 1))
                  rwa [List.take_append_drop] at this)
                have C := Lib.hid (fun W : World => CD.out t[j] W)
                rw [HDW.out] at C
                clear HDW
                generalize hm : valF 16 ((bl t).take j) = m at *
                clear hm
                generalize hdd : worth t[j] = d at *
                clear hdd
                by_cases hgt : (9007199254740991 : Int) < 16 * (m : Int) + (d : Int)
                · have HL := Lib.hid (readF_long 16 (bl s) HNE.out HALL.out (by have := HMO.out; rw [HTK.out] at this; unfold Most; omega))
                  go_wp2_with (go_at_call 90; refine (C.out _).mono ?_; rintro e w' ⟨rfl, rfl⟩)
                  go_ret2
                  exact RRead.mk HL.out rfl rfl
                · go_wp2_with (go_at_call 90; refine (C.out _).mono ?_; rintro e w' ⟨rfl, rfl⟩)
                  go_round
                  case rel => exact ⟨j + 1, hlt, by go_num, by rw [HTK.out]; go_num, by rw [HTK.out]; omega⟩
                  case measure => simp [intOf]; omega
              · have ht : (bl t).take j = bl t := List.take_of_length_le (by rw [bl_length]; omega)
                rw [ht, HBAR.out.2.2.2] at hcap
                rw [ht, HBAR.out.2.2.2]
                have HL := Lib.hid (readF_ok 16 (bl s) HNE.out HALL.out hcap)
                clear ht
                generalize valF 16 (bl s) = m at *
                go_wp2_with fail
                go_ret2
                exact RRead.mk HL.out rfl rfl
end Go.Proofs.YtdcbcjljmjnopaaGreatDoor
