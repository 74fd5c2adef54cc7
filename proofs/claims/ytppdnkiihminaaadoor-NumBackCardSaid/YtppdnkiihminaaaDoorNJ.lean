/-
  The law NumBack: its walk.
  Conditions: the two tables of Go's library that are read hold what its text lays.
-/
import Derived.Test.YtppdnkiihminaaaDoorNI
namespace Go.Proofs.YtppdnkiihminaaaDoor
open Go.RowKit

theorem repeat_one : ∀ k : Nat, Lib.repeatL [48] k = List.replicate k (48 : UInt8)
  | 0 => rfl
  | k + 1 => by rw [Lib.repeatL, repeat_one k]; rfl
theorem worth_upper (c : UInt8) (h : worth c < 16) : worth (Lib.upperB c) = worth c := by
  have := byte_every (fun c => decide (worth c < 16 → worth (Lib.upperB c) = worth c)) (by decide +kernel) c
  exact (of_decide_eq_true this) h
theorem val_upper : ∀ (l : List UInt8) (n : Nat), l.all (digB 16) = true → (Lib.toUpperA l).foldl (fun n c => n * 16 + worth c) n = l.foldl (fun n c => n * 16 + worth c) n
  | [], _, _ => rfl
  | c :: l, n, h => by
    simp only [List.all_cons, Bool.and_eq_true, digB, decide_eq_true_eq] at h
    show ((Lib.upperB c) :: Lib.toUpperA l).foldl _ n = _
    rw [List.foldl_cons, List.foldl_cons, worth_upper c h.1]
    exact val_upper l _ (by simpa [digB] using h.2)
theorem all_upper (l : List UInt8) (h : l.all (digB 16) = true) : (Lib.toUpperA l).all (digB 16) = true := by
  rw [List.all_eq_true] at h ⊢
  intro c hc
  obtain ⟨d, hd, rfl⟩ := List.mem_map.1 hc
  have h1 := h d hd
  simp only [digB, decide_eq_true_eq] at h1 ⊢
  rw [worth_upper d h1]
  exact h1
theorem all_noughts (b : Nat) (hb : 1 ≤ b) (k : Nat) (l : List UInt8) (h : l.all (digB b) = true) : (List.replicate k 48 ++ l).all (digB b) = true := by
  rw [List.all_append, h, Bool.and_true, List.all_eq_true]
  intro c hc
  rw [List.eq_of_mem_replicate hc]
  have : worth 48 = 0 := by decide
  simp only [digB, decide_eq_true_eq, this]
  omega
theorem bl_append (a b : ByteArray) : bl (a ++ b) = bl a ++ bl b := by simp [bl, ByteArray.data_append]
theorem size_mk (l : List UInt8) : (⟨l.toArray⟩ : ByteArray).size = l.length := by rw [← bl_length, bl_mk]
theorem dig_low (b : Nat) (hb : b ≤ 16) (l : List UInt8) (h : l.all (digB b) = true) : ∀ (j : Nat) (c : UInt8), l[j]? = some c → c.toNat < 128 := by
  intro j c hc
  have := List.all_eq_true.1 h c (List.mem_of_getElem? hc)
  rcases Nat.lt_or_ge c.toNat 128 with h' | h'
  · exact h'
  · rw [digB, worth_high c h'] at this
    simp at this
    omega
theorem num_short (b : Nat) (hb : 10 ≤ b) (n : Nat) (hn : n ≤ Most) : (numF b n).length ≤ 16 := by
  have hp : Most < b ^ (15 + 1) := Nat.lt_of_lt_of_le (show Most < 10 ^ 16 by decide) (Nat.pow_le_pow_left hb 16)
  exact numG_length b (by omega) _ n 15 (by omega)
/-- One digit more. -/
theorem read_more (b : Nat) (hb : 10 ≤ b) (hb' : b ≤ 16) (n d : Nat) (hd : d < b) : readF b (numF b n ++ [dg d]) = if n * b + d ≤ Most then (n * b + d, 0) else (0, 3) := by
  obtain ⟨h1, h2⟩ := numF_val b (by omega) hb' n
  have h3 : valF b (numF b n ++ [dg d]) = n * b + d := by rw [valF_snoc, h1, worth_dg d (by omega)]
  have h4 : (numF b n ++ [dg d]).all (digB b) = true := all_snoc b _ _ h2 (by rw [worth_dg d (by omega)]; exact hd)
  split
  · rw [readF_ok b _ (by simp) h4 (by rw [h3]; assumption), h3]
  · rw [readF_long b _ (by simp) h4 (by rw [h3]; assumption)]
theorem read_lead (b : Nat) (hb : 10 ≤ b) (hb' : b ≤ 16) (k n : Nat) (hn : n ≤ Most) : readF b (List.replicate k 48 ++ numF b n) = (n, 0) := by
  obtain ⟨h1, h2⟩ := numF_val b (by omega) hb' n
  have h3 : valF b (List.replicate k 48 ++ numF b n) = n := by rw [valF_noughts, h1]
  rw [readF_ok b _ (by simp [numF_ne b n (by omega)]) (all_noughts b (by omega) k _ h2) (by rw [h3]; exact hn), h3]
theorem read_upper (k n : Nat) (hn : n ≤ Most) : readF 16 (List.replicate k 48 ++ Lib.toUpperA (numF 16 n)) = (n, 0) := by
  obtain ⟨h1, h2⟩ := numF_val 16 (by omega) (by omega) n
  have h0 : valF 16 (Lib.toUpperA (numF 16 n)) = n := by
    exact (val_upper _ 0 h2).trans h1
  have h3 : valF 16 (List.replicate k 48 ++ Lib.toUpperA (numF 16 n)) = n := by rw [valF_noughts, h0]
  rw [readF_ok 16 _ (by simp [Lib.toUpperA, numF_ne 16 n (by omega)]) (all_noughts 16 (by omega) k _ (all_upper _ h2)) (by rw [h3]; exact hn), h3]
/-- How a digit is made of its number. -/
theorem enc_dec (d : Nat) (h : d < 10) : Utf8.encode (48 + (d : Int)) = ⟨#[dg d]⟩ := by
  have : ∀ d : Fin 10, Utf8.encode (48 + ((d.val : Nat) : Int)) = ⟨#[dg d.val]⟩ := by decide +kernel
  exact this ⟨d, h⟩
theorem enc_hex (d : Nat) (h : d < digs16.size) : Utf8.encode ((digs16[d]'h).toNat : Int) = ⟨#[dg d]⟩ := by
  rw [digs16_at d h, encode_one _ (dg_low d h)]

set_option maxHeartbeats 2000000 in
set_option maxRecDepth 100000 in
theorem back_no (n k d : Nat) (hn : ¬ n ≤ Most) (w : World) (ht : Tabs w) : Calls Tryd.prog 5 #[.int .u64 (n : Int), .int .u8 (k : Int), .int .u8 (d : Int)] w fun e w' => e = .returned (.bool true) ∧ Below w.heap.size w w' := by
  have HT := Lib.hid ht
  clear ht
  have CW := Lib.hid (fun (W : World) (h : Tabs W) => text_at (n : Int) n rfl ⟨#[]⟩ 1 (by rw [writeF_no 10 n hn]; exact ⟨rfl, rfl⟩) W h)
  have CV := Lib.hid (fun (W : World) (h : Tabs W) => hextext_at (n : Int) n rfl ⟨#[]⟩ 1 (by rw [writeF_no 16 n hn]; exact ⟨rfl, rfl⟩) W h)
  have e1 : (9007199254740991 : Int) < (n : Int) := by unfold Most at hn; omega
  clear hn
  go_enter Tryd.func5, Tryd.ntmps5
  go_wp2_with fail
  refine (CW.out _ HT.out).mono ?_
  rintro e w1 ⟨rfl, b1⟩
  have B1 := Lib.hid b1
  clear b1
  go_wp2_with fail
  refine (CV.out _ (HT.out.below B1.out)).mono ?_
  rintro e w2 ⟨rfl, b2⟩
  have B2 := Lib.hid (B1.out.trans (b2.mono B1.out.size))
  clear b2 B1
  go_wp2_with fail
  refine (awake_any _ (HT.out.below B2.out)).mono ?_
  rintro e w3 ⟨rfl, b3⟩
  have B3 := Lib.hid (B2.out.trans (b3.mono B2.out.size))
  clear b3 B2
  go_wp2_with fail
  go_ret
  exact ⟨rfl, B3.out⟩
/-- The long way. -/
theorem hex_by (s : ByteArray) (p : Nat × Nat) (hp : readF 16 (bl s) = p) (a b : Int) (h1 : (p.1 : Int) = a) (h2 : (p.2 : Int) = b) (w : World) : Calls Tryd.prog 10 #[.string s] w fun e w' => e = .returned (.tuple #[.int .u64 a, .int .i64 b]) ∧ Below w.heap.size w w' := hex_at s a b (by rw [hp]; exact ⟨h1, h2⟩) w
theorem x16 (d : Nat) : d % 16 < digs16.size := Nat.mod_lt _ (by decide)
theorem back_reads (n k d : Nat) (hn : n ≤ Most) :
    readF 10 (bl ((⟨(List.replicate k 48).toArray⟩ : ByteArray) ++ ⟨(numF 10 n).toArray⟩)) = (n, 0) ∧ readF 16 (bl ((⟨(List.replicate k 48).toArray⟩ : ByteArray) ++ ⟨(Lib.toUpperA (numF 16 n)).toArray⟩)) = (n, 0) ∧
    readF 10 (bl ((⟨(numF 10 n).toArray⟩ : ByteArray) ++ Utf8.encode (48 + (d : Int) % 10))) = (if n * 10 + d % 10 ≤ Most then (n * 10 + d % 10, 0) else (0, 3)) ∧
    readF 16 (bl ((⟨(numF 16 n).toArray⟩ : ByteArray) ++ Utf8.encode ((digs16[d % 16]'(x16 d)).toNat : Int))) = (if n * 16 + d % 16 ≤ Most then (n * 16 + d % 16, 0) else (0, 3)) := by
  refine ⟨?_, ?_, ?_, ?_⟩
  · rw [bl_append, bl_mk, bl_mk]
    exact read_lead 10 (by omega) (by omega) k n hn
  · rw [bl_append, bl_mk, bl_mk]
    exact read_upper k n hn
  · have e : (48 + (d : Int) % 10) = 48 + ((d % 10 : Nat) : Int) := by omega
    rw [e, enc_dec (d % 10) (Nat.mod_lt _ (by omega)), bl_append, bl_mk]
    exact read_more 10 (by omega) (by omega) n (d % 10) (Nat.mod_lt _ (by omega))
  · rw [enc_hex, bl_append, bl_mk]
    exact read_more 16 (by omega) (by omega) n (d % 16) (Nat.mod_lt _ (by omega))
theorem back_sizes (n k d : Nat) (hn : n ≤ Most) (hk : k < 51) :
    (⟨(List.replicate k 48).toArray⟩ : ByteArray).size ≤ 50 ∧ (⟨(numF 10 n).toArray⟩ : ByteArray).size ≤ 16 ∧ (⟨(numF 16 n).toArray⟩ : ByteArray).size ≤ 16 ∧ (⟨(Lib.toUpperA (numF 16 n)).toArray⟩ : ByteArray).size ≤ 16 ∧
    (Utf8.encode (48 + (d : Int) % 10)).size ≤ 1 ∧ (Utf8.encode ((digs16[d % 16]'(x16 d)).toNat : Int)).size ≤ 1 := by
  refine ⟨?_, ?_, ?_, ?_, ?_, ?_⟩
  · rw [size_mk, List.length_replicate]; omega
  · rw [size_mk]; exact num_short 10 (by omega) n hn
  · rw [size_mk]; exact num_short 16 (by omega) n hn
  · rw [size_mk, Lib.toUpperA, List.length_map]; exact num_short 16 (by omega) n hn
  · have e : (48 + (d : Int) % 10) = 48 + ((d % 10 : Nat) : Int) := by omega
    rw [e, enc_dec (d % 10) (Nat.mod_lt _ (by omega))]
    exact Nat.le_refl _
  · rw [enc_hex]
    exact Nat.le_refl _

set_option maxHeartbeats 8000000 in
set_option maxRecDepth 100000 in
theorem back_yes (n k d : Nat) (hn : n ≤ Most) (hk : k < 256) (hd : d < 256) (w : World) (ht : Tabs w) : Calls Tryd.prog 5 #[.int .u64 (n : Int), .int .u8 (k : Int), .int .u8 (d : Int)] w fun e w' => e = .returned (.bool true) ∧ Below w.heap.size w w' := by
  have HT := Lib.hid ht
  clear ht
  have CW := Lib.hid (fun (W : World) (h : Tabs W) => text_at (n : Int) n rfl ⟨(numF 10 n).toArray⟩ 0 (by rw [writeF_ok 10 n hn]; exact ⟨rfl, rfl⟩) W h)
  have CV := Lib.hid (fun (W : World) (h : Tabs W) => hextext_at (n : Int) n rfl ⟨(numF 16 n).toArray⟩ 0 (by rw [writeF_ok 16 n hn]; exact ⟨rfl, rfl⟩) W h)
  have hk51 : k % 51 < 51 := Nat.mod_lt _ (by omega)
  obtain ⟨r1, r2, r3, r4⟩ := back_reads n (k % 51) d hn
  obtain ⟨z1, z2, z3, z4, z5, z6⟩ := back_sizes n (k % 51) d hn hk51
  have hkc : ((k : Int) % 51) = ((k % 51 : Nat) : Int) := by omega
  have CR : ∀ W : World, Calls Tryd.prog 17 #[.string ⟨#[48]⟩, .int .i64 ((k : Int) % 51)] W fun e w' => e = .returned (.string ⟨(List.replicate (k % 51) 48).toArray⟩) ∧ Below W.heap.size W w' := by
    intro W
    have := Tryd.strings_Repeat ⟨#[48]⟩ (k % 51) W (by omega) (by rw [show (⟨#[48]⟩ : ByteArray).size = 1 from rfl]; omega)
    have e : Lib.repeatL (⟨#[48]⟩ : ByteArray).data.toList (k % 51) = List.replicate (k % 51) 48 := repeat_one _
    rw [e] at this
    rw [hkc]
    exact this
  have CU : ∀ W : World, Calls Tryd.prog 18 #[.string ⟨(numF 16 n).toArray⟩] W fun e w' => e = .returned (.string ⟨(Lib.toUpperA (numF 16 n)).toArray⟩) ∧ Below W.heap.size W w' := by
    intro W
    exact Tryd.strings_ToUpper_ascii ⟨(numF 16 n).toArray⟩ W (by omega) (by simpa using dig_low 16 (by omega) _ (numF_val 16 (by omega) (by omega) n).2)
  have CR := Lib.hid CR
  have CU := Lib.hid CU
  have D1 := Lib.hid (dec_at _ (n : Int) 0 (by rw [r1]; exact ⟨rfl, rfl⟩))
  have H1 := Lib.hid (hex_at _ (n : Int) 0 (by rw [r2]; exact ⟨rfl, rfl⟩))
  have R3 := Lib.hid r3
  have R4 := Lib.hid r4
  clear r1 r2 r3 r4 hkc
  unfold digs16 at R4 z6
  have hn' : n ≤ 9007199254740991 := hn
  clear hn
  generalize (⟨(List.replicate (k % 51) 48).toArray⟩ : ByteArray) = ls at *
  generalize (⟨(Lib.toUpperA (numF 16 n)).toArray⟩ : ByteArray) = us at *
  generalize (⟨(numF 10 n).toArray⟩ : ByteArray) = ss at *
  generalize (⟨(numF 16 n).toArray⟩ : ByteArray) = hs at *
  have e0 : decide ((9007199254740991 : Int) < (n : Int)) = false := by simp; omega
  have l1 : ¬ 9223372036854775807 < ls.size + ss.size := by omega
  have l2 : ¬ 9223372036854775807 < ls.size + us.size := by omega
  have l3 : ¬ 9223372036854775807 < ss.size + (Utf8.encode (48 + (d : Int) % 10)).size := by omega
  have l4 : ¬ 9223372036854775807 < hs.size + (Utf8.encode (({ data := #[48, 49, 50, 51, 52, 53, 54, 55, 56, 57, 97, 98, 99, 100, 101, 102] } : ByteArray)[d % 16]'(Nat.mod_lt _ (by decide))).toNat).size := by omega
  clear z1 z2 z3 z4 z5 z6
  go_enter Tryd.func5, Tryd.ntmps5
  go_wp2_with fail
  refine (CW.out _ HT.out).mono ?_
  rintro e w1 ⟨rfl, b1⟩
  have B1 := Lib.hid b1
  clear b1
  go_wp2_with fail
  refine (CV.out _ (HT.out.below B1.out)).mono ?_
  rintro e w2 ⟨rfl, b2⟩
  have B2 := Lib.hid (B1.out.trans (b2.mono B1.out.size))
  clear b2 B1
  go_wp2_with fail
  refine (CR.out _).mono ?_
  rintro e w3 ⟨rfl, b3⟩
  have B3 := Lib.hid (B2.out.trans (b3.mono B2.out.size))
  clear b3 B2
  go_wp2_with fail
  refine (D1.out _).mono ?_
  rintro e w4 ⟨rfl, b4⟩
  have B4 := Lib.hid (B3.out.trans (b4.mono B3.out.size))
  clear b4 B3
  go_wp2_with fail
  refine (CU.out _).mono ?_
  rintro e w5 ⟨rfl, b5⟩
  have B5 := Lib.hid (B4.out.trans (b5.mono B4.out.size))
  clear b5 B4
  go_wp2_with fail
  refine (H1.out _).mono ?_
  rintro e w6 ⟨rfl, b6⟩
  have B6 := Lib.hid (B5.out.trans (b6.mono B5.out.size))
  clear b6 B5
  unfold Most at R3 R4
  by_cases m1 : n * 10 + d % 10 ≤ 9007199254740991
  · have D2 := Lib.hid (dec_at (ss ++ Utf8.encode (48 + (d : Int) % 10)) ((n : Int) * 10 + (d : Int) % 10) 0 (by rw [R3.out, if_pos m1]; exact ⟨by push_cast; rfl, rfl⟩))
    have f1 : (n : Int) * 10 + (d : Int) % 10 ≤ 9007199254740991 := by omega
    by_cases m2 : n * 16 + d % 16 ≤ 9007199254740991
    · have H2 := Lib.hid (hex_by _ _ R4.out ((n : Int) * 16 + (d : Int) % 16) 0 (by rw [if_pos m2]; push_cast; rfl) (by rw [if_pos m2]; rfl))
      have f2 : (n : Int) * 16 + (d : Int) % 16 ≤ 9007199254740991 := by omega
      clear m1 m2
      go_wp2_with fail
      refine (D2.out _).mono ?_
      rintro e w7 ⟨rfl, b7⟩
      have B7 := Lib.hid (B6.out.trans (b7.mono B6.out.size))
      clear b7 B6
      go_wp2_with fail
      refine (H2.out _).mono ?_
      rintro e w8 ⟨rfl, b8⟩
      have B8 := Lib.hid (B7.out.trans (b8.mono B7.out.size))
      clear b8 B7
      go_wp2_with fail
      refine (awake_any _ (HT.out.below B8.out)).mono ?_
      rintro e w9 ⟨rfl, b9⟩
      have B9 := Lib.hid (B8.out.trans (b9.mono B8.out.size))
      clear b9 B8
      go_wp2_with fail
      go_ret
      exact ⟨rfl, B9.out⟩
    · have H2 := Lib.hid (hex_by _ _ R4.out 0 3 (by rw [if_neg m2]; rfl) (by rw [if_neg m2]; rfl))
      have f2 : ¬ (n : Int) * 16 + (d : Int) % 16 ≤ 9007199254740991 := by omega
      clear m1 m2
      go_wp2_with fail
      refine (D2.out _).mono ?_
      rintro e w7 ⟨rfl, b7⟩
      have B7 := Lib.hid (B6.out.trans (b7.mono B6.out.size))
      clear b7 B6
      go_wp2_with fail
      refine (H2.out _).mono ?_
      rintro e w8 ⟨rfl, b8⟩
      have B8 := Lib.hid (B7.out.trans (b8.mono B7.out.size))
      clear b8 B7
      go_wp2_with fail
      refine (awake_any _ (HT.out.below B8.out)).mono ?_
      rintro e w9 ⟨rfl, b9⟩
      have B9 := Lib.hid (B8.out.trans (b9.mono B8.out.size))
      clear b9 B8
      go_wp2_with fail
      go_ret
      exact ⟨rfl, B9.out⟩
  · have D2 := Lib.hid (dec_at (ss ++ Utf8.encode (48 + (d : Int) % 10)) 0 3 (by rw [R3.out, if_neg m1]; exact ⟨rfl, rfl⟩))
    have f1 : ¬ (n : Int) * 10 + (d : Int) % 10 ≤ 9007199254740991 := by omega
    have m2 : ¬ n * 16 + d % 16 ≤ 9007199254740991 := by omega
    have H2 := Lib.hid (hex_by _ _ R4.out 0 3 (by rw [if_neg m2]; rfl) (by rw [if_neg m2]; rfl))
    have f2 : ¬ (n : Int) * 16 + (d : Int) % 16 ≤ 9007199254740991 := by omega
    clear m1 m2
    go_wp2_with fail
    refine (D2.out _).mono ?_
    rintro e w7 ⟨rfl, b7⟩
    have B7 := Lib.hid (B6.out.trans (b7.mono B6.out.size))
    clear b7 B6
    go_wp2_with fail
    refine (H2.out _).mono ?_
    rintro e w8 ⟨rfl, b8⟩
    have B8 := Lib.hid (B7.out.trans (b8.mono B7.out.size))
    clear b8 B7
    go_wp2_with fail
    refine (awake_any _ (HT.out.below B8.out)).mono ?_
    rintro e w9 ⟨rfl, b9⟩
    have B9 := Lib.hid (B8.out.trans (b9.mono B8.out.size))
    clear b9 B8
    go_wp2_with fail
    go_ret
    exact ⟨rfl, B9.out⟩
theorem back_law (n k d : Nat) (hk : k < 256) (hd : d < 256) (w : World) (ht : Tabs w) : Calls Tryd.prog 5 #[.int .u64 (n : Int), .int .u8 (k : Int), .int .u8 (d : Int)] w fun e w' => e = .returned (.bool true) ∧ Below w.heap.size w w' := by
  by_cases hn : n ≤ Most
  · exact back_yes n k d hn hk hd w ht
  · exact back_no n k d hn w ht
end Go.Proofs.YtppdnkiihminaaaDoor
