/-
  What strconv.FormatUint tells to the base 16.
  Conditions: those that each theorem names.
-/
import Derived.Test.YtopanahgeeolbaaGreatDoorNE
import Derived.Laws.BitsLemmas
namespace Go.Proofs.YtopanahgeeolbaaGreatDoor
open Go.RowKit Go.Sort

def bruijn64 : List Int := [0, 1, 56, 2, 57, 49, 28, 3, 61, 58, 42, 50, 38, 29, 17, 4, 62, 47, 59, 36, 45, 43, 51, 22, 53, 39, 33, 30, 24, 18, 12, 5, 63, 55, 48, 27, 60, 41, 37, 16, 46, 35, 44, 21, 52, 32, 23, 11, 54, 26, 40, 15, 34, 20, 31, 10, 25, 14, 19, 9, 13, 8, 7, 6]
def ZeroTab (w : World) : Prop := Lib.TabIs Tryz.prog w "math/bits.deBruijn64tab" .u8 bruijn64
theorem ZeroTab.below {w w' : World} (h : ZeroTab w) (hb : Below w.heap.size w w') : ZeroTab w' := Lib.tabBelow_of_tabIs h w' hb

theorem mask16 (v : Nat) (h : v < 9223372036854775808) : bits .and .u64 (v : Int) 15 = ((v % 16 : Nat) : Int) := by
  have h := bits_mask .u64 63 (by decide) (fun n h0 h1 => by rw [IntKind.wrap_u64]; omega) 4 (by decide) (v : Int) (by omega) (by omega)
  have e : ((2 : Int) ^ 4 - 1) = 15 := by decide
  have e2 : ((2 : Int) ^ 4) = 16 := by decide
  rw [e, e2] at h
  rw [h]
  omega

set_option maxHeartbeats 1000000 in
theorem zeros_any (w : World) (h : ZeroTab w) : Calls Tryz.prog 137 #[.int .u64 16] w fun e w' => e = .returned (.int .i64 4) ∧ w = w' := by
  have hc : w.cell? ⟨5, 15, none⟩ = some (.int .u8 4) := by
    have := Lib.TabIs.cell h (show Tryz.prog.globalNamed "math/bits.deBruijn64tab" = some 5 by kernel_rfl) 15 (by decide)
    exact this
  clear h
  have e1 : IntKind.u64.wrap (-16) = 18446744073709551600 := by decide
  have e2 : bits BinOp.and IntKind.u64 16 18446744073709551600 = 16 := by decide
  have e3 : IntKind.u64.wrap (16 * 285870213051353865) = 4573923408821661840 := by decide
  go_enter Tryz.func137, Tryz.ntmps137
  go_wp2
  go_ret
  exact ⟨rfl, rfl⟩
theorem tz_any (w : World) (h : ZeroTab w) : Calls Tryz.prog 135 #[.int .u64 16] w fun e w' => e = .returned (.int .i64 4) ∧ w = w' := by
  have C := Lib.hid (zeros_any w h)
  clear h
  go_enter Tryz.func135, Tryz.ntmps135
  go_wp2_with (go_at_call 137; refine C.out.mono ?_; rintro e w' ⟨rfl, rfl⟩)
  go_ret
  exact ⟨rfl, rfl⟩
theorem pow_any (w : World) : Calls Tryz.prog 134 #[.int .i64 16] w fun e w' => e = .returned (.bool true) ∧ w = w' := by
  have e2 : bits BinOp.and IntKind.i64 16 15 = 0 := by decide
  go_enter Tryz.func134, Tryz.ntmps134
  go_wp2
  go_ret
  exact ⟨rfl, rfl⟩

/-- The array while digits are laid into it from its end. -/
def Laid (W : World) (n : Nat) (u i : Value) (wx : World) : Prop :=
  ∃ (v m : Nat) (tail : List UInt8), u = .int .u64 (v : Int) ∧ v < 9223372036854775808 ∧ i = .int .i64 ((m : Int) + 1) ∧ m + 1 + tail.length = 65 ∧ tail.length ≤ 16 ∧ numF 16 n = numF 16 v ++ tail ∧
    Is wx W.heap.size 131 (vals (List.replicate (m + 1) 0 ++ tail)) ∧ Below W.heap.size W wx ∧ W.heap.size < wx.heap.size
theorem laid_set (m : Nat) (tail : List UInt8) (c : UInt8) : (vals (List.replicate (m + 1) 0 ++ tail)).set m (B c) = vals (List.replicate m 0 ++ (c :: tail)) := by
  rw [List.replicate_succ', vals, vals, List.append_assoc, List.map_append, List.map_append, List.set_append_right _ _ (by simp)]
  simp
theorem laid_get (m : Nat) (tail : List UInt8) : (vals (List.replicate (m + 1) 0 ++ tail))[m]? = some (.int .u8 0) := by
  rw [vals_get, List.getElem?_append_left (by simp)]
  simp [B]
theorem numG_length (b : Nat) (hb : 2 ≤ b) : ∀ (f n k : Nat), n < b ^ (k + 1) → (numG b f n).length ≤ k + 1
  | 0, _, _, _ => by simp [numG]
  | f + 1, n, k, h => by
    unfold numG
    split
    · simp
    · rename_i hn
      cases k with
      | zero => simp at h; omega
      | succ k =>
        have h2 : n / b < b ^ (k + 1) := by
          rw [Nat.div_lt_iff_lt_mul (by omega)]
          rw [Nat.pow_succ] at h
          exact h
        have := numG_length b hb f (n / b) k h2
        simp
        omega
theorem tail_short (n v : Nat) (tail : List UInt8) (hn : n < 9223372036854775808) (h : numF 16 n = numF 16 v ++ tail) (hv : 16 ≤ v) : tail.length + 2 ≤ 16 := by
  have h1 : (numF 16 n).length ≤ 15 + 1 := numG_length 16 (by omega) _ n 15 (Nat.lt_of_lt_of_le hn (by decide))
  rw [h, List.length_append] at h1
  have h2 := numF_ne 16 (v / 16) (by omega)
  have h3 : 0 < (numF 16 (v / 16)).length := List.length_pos_iff.2 h2
  rw [numF_great 16 v (by omega) (by omega), List.length_append, List.length_singleton] at h1
  omega
/-- The digits that are written. -/
def digs : ByteArray := ⟨#[48, 49, 50, 51, 52, 53, 54, 55, 56, 57, 97, 98, 99, 100, 101, 102, 103, 104, 105, 106, 107, 108, 109, 110, 111, 112, 113, 114, 115, 116, 117, 118, 119, 120, 121, 122]⟩
theorem digs_at (d : Nat) (h : d < digs.size) (h' : d < 16) : digs[d] = dg d := by
  have : ∀ d : Fin 16, digs[d.val]'(Nat.lt_of_lt_of_le d.isLt (by decide)) = dg d.val := by decide
  exact this ⟨d, h'⟩
set_option maxHeartbeats 4000000 in
set_option maxRecDepth 100000 in
theorem bits_any (n : Nat) (hn : n < 9223372036854775808) (w : World) (h : ZeroTab w) : Calls Tryz.prog 130 #[.slice none 0 0, .int .u64 (n : Int), .int .i64 16, .bool false, .bool false] w fun e w' => e = .returned (.tuple #[.slice none 0 0, .string ⟨(numF 16 n).toArray⟩]) ∧ Below w.heap.size w w' := by
  have CT := Lib.hid (tz_any)
  have HT := Lib.hid h
  clear h
  go_enter Tryz.func130, Tryz.ntmps130
  go_wp2_with (first | (go_at_call 134; refine (pow_any _).mono ?_; rintro e w' ⟨rfl, rfl⟩) | (go_at_call 135; refine (CT.out _ (HT.out.below ((Below.refl _ _).alloc (Nat.le_refl _) _))).mono ?_; rintro e w' ⟨rfl, rfl⟩))
  go_loopw [1, 13] (fun u i wx => Laid w n u i wx) (fun u _ _ => (intOf u).toNat)
  case atStart => exact ⟨n, 64, [], rfl, hn, rfl, by simp, by simp, by simp, Is.made w _ (vals (List.replicate 65 0)), (Below.refl _ _).alloc (Nat.le_refl _) _, by simp⟩
  case round =>
    obtain ⟨v, m, tail, rfl, hv, rfl, hm, hlen, hnum, his, hB, hz⟩ := hrel
    have hcl : wr.cell? ⟨w.heap.size, m, none⟩ = some (.int .u8 0) := by rw [his.cell, laid_get]
    have hfr : wr.frozen? ⟨w.heap.size, m, none⟩ = false := his.free m
    by_cases hge : 16 ≤ v
    · have HTS := Lib.hid (tail_short n v tail hn hnum hge)
      have HN := Lib.hid (show numF 16 n = numF 16 (v / 16) ++ dg (v % 16) :: tail by rw [hnum, numF_great 16 v (by omega) (by omega)]; simp)
      have HL := Lib.hid his
      have HM := Lib.hid hm
      have hm' : m ≤ 64 := by omega
      have hd := mask16 v hv
      have hd16 : v % 16 < 16 := Nat.mod_lt _ (by omega)
      clear hnum his hm
      generalize v % 16 = d at *
      go_wp2_with fail
      have HDG := Lib.hid (digs_at d (Nat.lt_of_lt_of_le hd16 (by decide)) hd16)
      refine ⟨?_, by simp only [intOf]; omega⟩
      obtain ⟨k, rfl⟩ : ∃ k, m = k + 1 := ⟨m - 1, by have := HM.out; have := HTS.out; omega⟩
      refine ⟨v / 16, k, dg d :: tail, rfl, by omega, rfl, by have := HM.out; simp; omega, by have := HTS.out; simp; omega, HN.out, ?_, hB.setCell (Nat.le_refl _) _, by simpa [World.setCell] using hz⟩
      have h1 := HL.out.set (k + 1) (B (dg d))
      rw [laid_set] at h1
      rw [← HDG.out] at h1 ⊢
      exact h1
    · have HN := Lib.hid (show numF 16 n = dg v :: tail by rw [hnum, numF_small 16 v (by omega)]; rfl)
      have HDG := Lib.hid (digs_at v (Nat.lt_of_lt_of_le (show v < 16 by omega) (by decide)) (by omega))
      have hm' : m ≤ 64 := by omega
      have his1 := his.set m (B (dg v))
      rw [laid_set] at his1
      have hal : Tryz.prog.arrayLen 131 = 65 := by kernel_rfl
      have hsl : ∀ W, (Instr.sliceAt 131 (.pointer (some ⟨w.heap.size, 0, none⟩)) (some (.int .i64 (m : Int))) none none).run Tryz.prog W = .ok (.slice (some ⟨w.heap.size, m, none⟩) (65 - m) (65 - m)) W := fun W => by
        rw [run_sliceAt_array_l W 131 ⟨w.heap.size, 0, none⟩ (by kernel_rfl) .i64 (m : Int) (by omega) (by rw [hal]; omega)]
        go_simp
        omega
      have hcv : (convert 47 9 (.slice (some ⟨w.heap.size, m, none⟩) (65 - m) (65 - m))).run Tryz.prog (wr.setCell ⟨w.heap.size, m, none⟩ (B (dg v))) = .ok (.string ⟨(numF 16 n).toArray⟩) (wr.setCell ⟨w.heap.size, m, none⟩ (B (dg v))) := by
        have h := run_convert_bytes_back (P := Tryz.prog) (wr.setCell ⟨w.heap.size, m, none⟩ (B (dg v))) 47 9 5 ⟨w.heap.size, m, none⟩ (65 - m) (dg v :: tail) Tryz.underlying47 Tryz.underlying5 Tryz.underlying9 (fun j hj => by
          rw [add_at, his1.cell, vals_get, List.getElem?_append_right (by simp), List.length_replicate, Nat.add_sub_cancel_left, List.getElem?_eq_getElem hj]
          rfl)
        rw [List.length_cons, show tail.length + 1 = 65 - m by omega] at h
        rw [HN.out]
        exact h
      have hB1 := hB.setCell (p := ⟨w.heap.size, m, none⟩) (Nat.le_refl _) (B (dg v))
      have hBv : B (dg v) = .int .u8 ((digs[v]'(Nat.lt_of_lt_of_le (show v < 16 by omega) (by decide))).toNat : Int) := by rw [HDG.out]; rfl
      rw [hBv] at hcv hB1
      clear his his1 hnum hal hBv HDG
      have HB1 := Lib.hid hB1
      clear hB1
      unfold digs at hcv HB1
      go_wp2_with fail
      go_ret2
      exact ⟨rfl, HB1.out⟩

theorem fmt_hex (n : Nat) (hn : n < 9223372036854775808) (w : World) (h : ZeroTab w) : Calls Tryz.prog 126 #[.int .u64 (n : Int), .int .i64 16] w (Told (numF 16 n) w) := by
  have C := Lib.hid (bits_any n hn w h)
  clear h
  generalize numF 16 n = out at *
  go_enter Tryz.func126, Tryz.ntmps126
  go_wp2_with fail
  refine C.out.mono ?_
  rintro e w' ⟨rfl, b⟩
  go_wp2_with fail
  go_ret
  exact ⟨rfl, b⟩
theorem fmt_hex_any (n : Nat) (hn : n < 9223372036854775808) (w : World) (h : ZeroTab w) : Calls Tryz.prog 125 #[.int .u64 (n : Int), .int .i64 16] w (Told (numF 16 n) w) := by
  have C := Lib.hid (fmt_hex n hn w h)
  clear h
  generalize numF 16 n = out at *
  go_enter Tryz.func125, Tryz.ntmps125
  go_wp2_with fail
  refine C.out.mono ?_
  rintro e w' ⟨rfl, b⟩
  go_wp2_with fail
  go_ret
  exact ⟨rfl, b⟩

/-- Two results: a text, and an error. -/
def Wrote (p : List UInt8 × Nat) (w : World) (e : Ending) (w' : World) : Prop := e = .returned (.tuple #[.string ⟨p.1.toArray⟩, .int .i64 (p.2 : Int)]) ∧ Below w.heap.size w w'
/-- What a number is written as. -/
def writeF (b n : Nat) : List UInt8 × Nat := if n ≤ Most then (numF b n, 0) else ([], 1)
theorem writeF_ok (b n : Nat) (h : n ≤ Most) : writeF b n = (numF b n, 0) := if_pos h
theorem writeF_no (b n : Nat) (h : ¬ n ≤ Most) : writeF b n = ([], 1) := if_neg h
theorem write_no (bi : Int) (b n : Nat) (h : ¬ n ≤ Most) (w : World) : Calls Tryz.prog 124 #[.int .u64 (n : Int), .int .i64 bi] w (Wrote (writeF b n) w) := by
  rw [writeF_no b n h]
  have e1 : (9007199254740991 : Int) < (n : Int) := by unfold Most at h; omega
  clear h
  go_enter Tryz.func124, Tryz.ntmps124
  go_wp2_with fail
  go_ret2
  exact ⟨rfl, Below.refl _ _⟩
theorem write_yes (bi : Int) (b n : Nat) (h : n ≤ Most) (w : World) (hC : Calls Tryz.prog 125 #[.int .u64 (n : Int), .int .i64 bi] w (Told (numF b n) w)) : Calls Tryz.prog 124 #[.int .u64 (n : Int), .int .i64 bi] w (Wrote (writeF b n) w) := by
  rw [writeF_ok b n h]
  have e1 : ¬ (9007199254740991 : Int) < (n : Int) := by unfold Most at h; omega
  clear h
  have C := Lib.hid hC
  clear hC
  generalize numF b n = out at *
  go_enter Tryz.func124, Tryz.ntmps124
  go_wp2_with fail
  refine C.out.mono ?_
  rintro e w' ⟨rfl, b⟩
  go_wp2_with fail
  go_ret2
  exact ⟨rfl, b⟩
theorem text_any (n : Nat) (w : World) (h : PowTab w) : Calls Tryz.prog 119 #[.int .u64 (n : Int)] w (Wrote (writeF 10 n) w) := by
  have hC : Calls Tryz.prog 124 #[.int .u64 (n : Int), .int .i64 10] w (Wrote (writeF 10 n) w) := by
    by_cases hm : n ≤ Most
    · exact write_yes 10 10 n hm w (fmt_ten_any n (by unfold Most at hm; omega) w h)
    · exact write_no 10 10 n hm w
  have C := Lib.hid hC
  clear hC h
  generalize writeF 10 n = p at *
  go_enter Tryz.func119, Tryz.ntmps119
  go_wp2_with fail
  refine C.out.mono ?_
  rintro e w' ⟨rfl, b⟩
  go_wp2_with fail
  go_ret2
  exact ⟨rfl, b⟩
end Go.Proofs.YtopanahgeeolbaaGreatDoor
