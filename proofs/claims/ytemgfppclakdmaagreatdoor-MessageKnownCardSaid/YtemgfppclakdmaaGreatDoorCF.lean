/-
  What the laws of stage 8 ask besides: the word of the landed code's contracts, bytes.Equal, bytes turned round in place.
  Conditions: those that each theorem names.
-/
import Derived.Test.YtemgfppclakdmaaGreatDoorNA
import Derived.Test.YtemgfppclakdmaaGreatDoorUA
import Derived.Test.YtemgfppclakdmaaGreatDoorShelf
import Derived.Lib.ItoaMem
import Derived.Lib.AppendIntMem
import Derived.Lib.Walk
import Derived.BigCall
import Derived.BigGuard
import Derived.Laws.BitsLemmas
import Derived.Test.YtemgfppclakdmaaGreatDoorND
import Derived.Test.YtemgfppclakdmaaGreatDoorCB
import Derived.Test.YtemgfppclakdmaaGreatDoorTP
import Derived.Test.YtemgfppclakdmaaGreatDoorHI
import Derived.Test.YtemgfppclakdmaaGreatDoorCD
import Derived.Lib.SlBytesConst
namespace Go.Proofs.YtemgfppclakdmaaGreatDoor
open Go.RowKit Go.Sort

/-- A text is told; nothing that was there has turned. -/
def Told (l : List UInt8) (w : World) (e : Ending) (w' : World) : Prop := e = .returned (.string ⟨l.toArray⟩) ∧ Below w.heap.size w w'
def PowTab (w : World) : Prop := Lib.TabIs Tryz.prog w "internal/strconv.uint64pow10" .u64 Lib.pow10Tab
theorem PowTab.below {w w' : World} (h : PowTab w) (hb : Below w.heap.size w w') : PowTab w' := Lib.tabBelow_of_tabIs h w' hb

theorem holds_front (w : World) (T : TypeId) (nd : Nat) (hs : nd ≤ 24) : Holds (fun (b : UInt8) => Value.int .u8 (b.toNat : Int)) (w.alloc (.cells Lib.zeros24 T)) w.heap.size 0 (Array.replicate nd (0 : UInt8)) := fun j hj => by
  have hj' : j < nd := by simpa using hj
  refine ⟨?_, World.frozen?_alloc_new _ _ _ _⟩
  rw [World.cell?_alloc_new, Lib.zeros24_at _ (by omega), getElem!_pos _ j hj]
  simp
theorem below_put (w : World) (o : Obj) (off : Nat) (dk : Array UInt8) (k : Nat) : Below w.heap.size w ((putRow (fun (b : UInt8) => Value.int .u8 (b.toNat : Int)) (w.alloc o) w.heap.size off dk).drewN k) := by
  rw [alloc_eq_grow]
  obtain ⟨os', _, e⟩ := putRow_grow_new (fun (b : UInt8) => Value.int .u8 (b.toNat : Int)) w #[o] w.heap.size off dk (Nat.le_refl _)
  rw [e]
  exact Lib.below_grow _ w (Nat.le_refl _) k os'

set_option maxHeartbeats 6400000 in
set_option maxRecDepth 100000 in
theorem fmt_ten (u : Nat) (hu64 : u < 18446744073709551616) (w : World) (htab : PowTab w) : Calls Tryz.prog 160 #[.int .u64 (u : Int), .int .i64 10] w (Told (numF 10 u) w) := by
  rw [← dec_numF]
  by_cases hs : u < 100
  · go_enter Tryz.func160, Tryz.ntmps160
    go_wp2_with (go_at_call 162; refine (Tryz.internal_strconv_small u hs _).mono ?_; rintro e w' ⟨rfl, rfl⟩)
    go_ret
    exact ⟨rfl, Below.refl _ _⟩
  · have hu1 : 1 ≤ u := by omega
    have hnd20 : Lib.nDigits u ≤ 20 := by have := Lib.numDigits_eq u hu1 hu64; split at this <;> omega
    have hal : Tryz.prog.arrayLen 203 = 24 := by kernel_rfl
    have hsl1 : ∀ W, (Instr.sliceAt 203 (.pointer (some ⟨w.heap.size, 0, none⟩)) none (some (.int .i64 (Lib.nDigits u : Int))) none).run Tryz.prog W = .ok (.slice (some ⟨w.heap.size, 0, none⟩) (Lib.nDigits u) 24) W := fun W => by
      rw [run_sliceAt_array_h W 203 ⟨w.heap.size, 0, none⟩ (by kernel_rfl) .i64 (Lib.nDigits u : Int) (by omega) (by rw [hal]; omega)]
      go_simp
    have hH0 := holds_front w 203 (Lib.nDigits u) (by omega)
    have hfmt := Tryz.internal_strconv_formatBase10 w.heap.size 0 24 u (Array.replicate (Lib.nDigits u) 0) (w.alloc (.cells Lib.zeros24 203)) hH0 (by rw [Array.size_replicate]; exact Lib.lt_pow_nDigits u) hu64 (by rw [Array.size_replicate]; omega)
    rw [Array.size_replicate] at hfmt
    have HH0 := Lib.hid hH0
    have HF := Lib.hid hfmt
    have HT := Lib.hid htab
    clear hH0 hal hfmt htab
    go_enter Tryz.func160, Tryz.ntmps160
    go_wp2_with (go_at_call 163; refine (Tryz.internal_strconv_numDigits u hu1 hu64 _ (Lib.tabIs_alloc HT.out _)).mono ?_; rintro e w' ⟨rfl, rfl⟩)
    refine HF.out.mono ?_
    rintro e w' ⟨rfl, k, v', dk, rfl, hFI⟩
    have hcv : (convert 22 9 (.slice (some ⟨w.heap.size, 0, none⟩) (Lib.nDigits u) 24)).run Tryz.prog ((putRow (fun (b : UInt8) => Value.int .u8 (b.toNat : Int)) (w.alloc (.cells Lib.zeros24 203)) w.heap.size 0 dk).drewN k) = .ok (.string ⟨(Lib.decDigits u).toArray⟩) ((putRow (fun (b : UInt8) => Value.int .u8 (b.toNat : Int)) (w.alloc (.cells Lib.zeros24 203)) w.heap.size 0 dk).drewN k) := by
      have h := run_convert_bytes_back (P := Tryz.prog) ((putRow (fun (b : UInt8) => Value.int .u8 (b.toNat : Int)) (w.alloc (.cells Lib.zeros24 203)) w.heap.size 0 dk).drewN k) 22 9 5 ⟨w.heap.size, 0, none⟩ 24 (Lib.decDigits u) Tryz.underlying22 Tryz.underlying5 Tryz.underlying9 (fun j hj => by
        rw [Lib.row_is_numeral hFI j hj, Lib.add_plain, World.cell?_drewN]
        exact cell?_putRow (fun (b : UInt8) => Value.int .u8 (b.toNat : Int)) _ w.heap.size 0 _ dk HH0.out (by rw [hFI.size, Array.size_replicate]) j (by rw [hFI.size]; rw [Lib.decDigits_length] at hj; exact hj))
      rw [Lib.decDigits_length] at h
      exact h
    have HB := Lib.hid (below_put w (.cells Lib.zeros24 203) 0 dk k)
    clear hFI HH0 HF HT
    generalize (putRow (fun (b : UInt8) => Value.int .u8 (b.toNat : Int)) (w.alloc (.cells Lib.zeros24 203)) w.heap.size 0 dk).drewN k = w9 at *
    go_wp2_with fail
    go_ret
    exact ⟨rfl, HB.out⟩
theorem fmt_ten_any (u : Nat) (hu64 : u < 18446744073709551616) (w : World) (htab : PowTab w) : Calls Tryz.prog 137 #[.int .u64 (u : Int), .int .i64 10] w (Told (numF 10 u) w) := by
  have C := Lib.hid (fmt_ten u hu64 w htab)
  clear htab
  go_enter Tryz.func137, Tryz.ntmps137
  go_wp2_with fail
  refine C.out.mono ?_
  rintro e w' ⟨rfl, b⟩
  go_wp2_with fail
  go_ret
  exact ⟨rfl, b⟩
end Go.Proofs.YtemgfppclakdmaaGreatDoor

namespace Go.Proofs.YtemgfppclakdmaaGreatDoor
open Go.RowKit Go.Sort

def bruijn64 : List Int := [0, 1, 56, 2, 57, 49, 28, 3, 61, 58, 42, 50, 38, 29, 17, 4, 62, 47, 59, 36, 45, 43, 51, 22, 53, 39, 33, 30, 24, 18, 12, 5, 63, 55, 48, 27, 60, 41, 37, 16, 46, 35, 44, 21, 52, 32, 23, 11, 54, 26, 40, 15, 34, 20, 31, 10, 25, 14, 19, 9, 13, 8, 7, 6]
def ZeroTab (w : World) : Prop := Lib.TabIs Tryz.prog w "math/bits.deBruijn64tab" .u8 bruijn64
theorem ZeroTab.below {w w' : World} (h : ZeroTab w) (hb : Below w.heap.size w w') : ZeroTab w' := Lib.tabBelow_of_tabIs h w' hb

theorem mask16 (v : Nat) (h : v < 9223372036854775808) : bits .and .u64 (v : Int) 15 = ((v % 16 : Nat) : Int) := by
  have h := bits_mask .u64 63 (by decide) (fun n h0 h1 => by rw [IntKind.wrap_u64]; omega) 4 (by decide) (v : Int) (by omega) (by omega)
  have e : ((2 : Int) ^ 4 - 1) = 15 := by decide
  have e2 : ((2 : Int) ^ 4) = 16 := by decide
  rw [e, e2] at h
  rw [h]
  omega

set_option maxHeartbeats 1000000 in
theorem zeros_any (w : World) (h : ZeroTab w) : Calls Tryz.prog 191 #[.int .u64 16] w fun e w' => e = .returned (.int .i64 4) ∧ w = w' := by
  have hc : w.cell? ⟨5, 15, none⟩ = some (.int .u8 4) := by
    have := Lib.TabIs.cell h (show Tryz.prog.globalNamed "math/bits.deBruijn64tab" = some 5 by kernel_rfl) 15 (by decide)
    exact this
  clear h
  have e1 : IntKind.u64.wrap (-16) = 18446744073709551600 := by decide
  have e2 : bits BinOp.and IntKind.u64 16 18446744073709551600 = 16 := by decide
  have e3 : IntKind.u64.wrap (16 * 285870213051353865) = 4573923408821661840 := by decide
  go_enter Tryz.func191, Tryz.ntmps191
  go_wp2
  go_ret
  exact ⟨rfl, rfl⟩
theorem tz_any (w : World) (h : ZeroTab w) : Calls Tryz.prog 184 #[.int .u64 16] w fun e w' => e = .returned (.int .i64 4) ∧ w = w' := by
  have C := Lib.hid (zeros_any w h)
  clear h
  go_enter Tryz.func184, Tryz.ntmps184
  go_wp2_with (go_at_call 191; refine C.out.mono ?_; rintro e w' ⟨rfl, rfl⟩)
  go_ret
  exact ⟨rfl, rfl⟩
theorem pow_any (w : World) : Calls Tryz.prog 183 #[.int .i64 16] w fun e w' => e = .returned (.bool true) ∧ w = w' := by
  have e2 : bits BinOp.and IntKind.i64 16 15 = 0 := by decide
  go_enter Tryz.func183, Tryz.ntmps183
  go_wp2
  go_ret
  exact ⟨rfl, rfl⟩

/-- The array while digits are laid into it from its end. -/
def Laid (W : World) (n : Nat) (u i : Value) (wx : World) : Prop :=
  ∃ (v m : Nat) (tail : List UInt8), u = .int .u64 (v : Int) ∧ v < 9223372036854775808 ∧ i = .int .i64 ((m : Int) + 1) ∧ m + 1 + tail.length = 65 ∧ tail.length ≤ 16 ∧ numF 16 n = numF 16 v ++ tail ∧
    Is wx W.heap.size 224 (vals (List.replicate (m + 1) 0 ++ tail)) ∧ Below W.heap.size W wx ∧ W.heap.size < wx.heap.size
theorem laid_set (m : Nat) (tail : List UInt8) (c : UInt8) : (vals (List.replicate (m + 1) 0 ++ tail)).set m (B c) = vals (List.replicate m 0 ++ (c :: tail)) := by
  rw [List.replicate_succ', vals, vals, List.append_assoc, List.map_append, List.map_append, List.set_append_right _ _ (by simp)]
  simp
theorem laid_get (m : Nat) (tail : List UInt8) : (vals (List.replicate (m + 1) 0 ++ tail))[m]? = some (.int .u8 0) := by
  rw [vals_get, List.getElem?_append_left (by simp)]
  simp [B]
theorem numG_length (b : Nat) (hb : 2 ≤ b) : ∀ (f n k : Nat), n < b ^ (k + 1) → (numG b f n).length ≤ k + 1
  | 0, _, _, _ => by simp [numG]
  | f + 1, n, k, h => by
    unfold numG
    split
    · simp
    · rename_i hn
      cases k with
      | zero => simp at h; omega
      | succ k =>
        have h2 : n / b < b ^ (k + 1) := by
          rw [Nat.div_lt_iff_lt_mul (by omega)]
          rw [Nat.pow_succ] at h
          exact h
        have := numG_length b hb f (n / b) k h2
        simp
        omega
theorem tail_short (n v : Nat) (tail : List UInt8) (hn : n < 9223372036854775808) (h : numF 16 n = numF 16 v ++ tail) (hv : 16 ≤ v) : tail.length + 2 ≤ 16 := by
  have h1 : (numF 16 n).length ≤ 15 + 1 := numG_length 16 (by omega) _ n 15 (Nat.lt_of_lt_of_le hn (by decide))
  rw [h, List.length_append] at h1
  have h2 := numF_ne 16 (v / 16) (by omega)
  have h3 : 0 < (numF 16 (v / 16)).length := List.length_pos_iff.2 h2
  rw [numF_great 16 v (by omega) (by omega), List.length_append, List.length_singleton] at h1
  omega
/-- The digits that are written. -/
def digs : ByteArray := ⟨#[48, 49, 50, 51, 52, 53, 54, 55, 56, 57, 97, 98, 99, 100, 101, 102, 103, 104, 105, 106, 107, 108, 109, 110, 111, 112, 113, 114, 115, 116, 117, 118, 119, 120, 121, 122]⟩
theorem digs_at (d : Nat) (h : d < digs.size) (h' : d < 16) : digs[d] = dg d := by
  have : ∀ d : Fin 16, digs[d.val]'(Nat.lt_of_lt_of_le d.isLt (by decide)) = dg d.val := by decide
  exact this ⟨d, h'⟩
set_option maxHeartbeats 4000000 in
set_option maxRecDepth 100000 in
theorem bits_any (n : Nat) (hn : n < 9223372036854775808) (w : World) (h : ZeroTab w) : Calls Tryz.prog 165 #[.slice none 0 0, .int .u64 (n : Int), .int .i64 16, .bool false, .bool false] w fun e w' => e = .returned (.tuple #[.slice none 0 0, .string ⟨(numF 16 n).toArray⟩]) ∧ Below w.heap.size w w' := by
  have CT := Lib.hid (tz_any)
  have HT := Lib.hid h
  clear h
  go_enter Tryz.func165, Tryz.ntmps165
  go_wp2_with (first | (go_at_call 183; refine (pow_any _).mono ?_; rintro e w' ⟨rfl, rfl⟩) | (go_at_call 184; refine (CT.out _ (HT.out.below ((Below.refl _ _).alloc (Nat.le_refl _) _))).mono ?_; rintro e w' ⟨rfl, rfl⟩))
  go_loopw [1, 13] (fun u i wx => Laid w n u i wx) (fun u _ _ => (intOf u).toNat)
  case atStart => exact ⟨n, 64, [], rfl, hn, rfl, by simp, by simp, by simp, Is.made w _ (vals (List.replicate 65 0)), (Below.refl _ _).alloc (Nat.le_refl _) _, by simp⟩
  case round =>
    obtain ⟨v, m, tail, rfl, hv, rfl, hm, hlen, hnum, his, hB, hz⟩ := hrel
    have hcl : wr.cell? ⟨w.heap.size, m, none⟩ = some (.int .u8 0) := by rw [his.cell, laid_get]
    have hfr : wr.frozen? ⟨w.heap.size, m, none⟩ = false := his.free m
    by_cases hge : 16 ≤ v
    · have HTS := Lib.hid (tail_short n v tail hn hnum hge)
      have HN := Lib.hid (show numF 16 n = numF 16 (v / 16) ++ dg (v % 16) :: tail by rw [hnum, numF_great 16 v (by omega) (by omega)]; simp)
      have HL := Lib.hid his
      have HM := Lib.hid hm
      have hm' : m ≤ 64 := by omega
      have hd := mask16 v hv
      have hd16 : v % 16 < 16 := Nat.mod_lt _ (by omega)
      clear hnum his hm
      generalize v % 16 = d at *
      go_wp2_with fail
      have HDG := Lib.hid (digs_at d (Nat.lt_of_lt_of_le hd16 (by decide)) hd16)
      refine ⟨?_, by simp only [intOf]; omega⟩
      obtain ⟨k, rfl⟩ : ∃ k, m = k + 1 := ⟨m - 1, by have := HM.out; have := HTS.out; omega⟩
      refine ⟨v / 16, k, dg d :: tail, rfl, by omega, rfl, by have := HM.out; simp; omega, by have := HTS.out; simp; omega, HN.out, ?_, hB.setCell (Nat.le_refl _) _, by simpa [World.setCell] using hz⟩
      have h1 := HL.out.set (k + 1) (B (dg d))
      rw [laid_set] at h1
      rw [← HDG.out] at h1 ⊢
      exact h1
    · have HN := Lib.hid (show numF 16 n = dg v :: tail by rw [hnum, numF_small 16 v (by omega)]; rfl)
      have HDG := Lib.hid (digs_at v (Nat.lt_of_lt_of_le (show v < 16 by omega) (by decide)) (by omega))
      have hm' : m ≤ 64 := by omega
      have his1 := his.set m (B (dg v))
      rw [laid_set] at his1
      have hal : Tryz.prog.arrayLen 224 = 65 := by kernel_rfl
      have hsl : ∀ W, (Instr.sliceAt 224 (.pointer (some ⟨w.heap.size, 0, none⟩)) (some (.int .i64 (m : Int))) none none).run Tryz.prog W = .ok (.slice (some ⟨w.heap.size, m, none⟩) (65 - m) (65 - m)) W := fun W => by
        rw [run_sliceAt_array_l W 224 ⟨w.heap.size, 0, none⟩ (by kernel_rfl) .i64 (m : Int) (by omega) (by rw [hal]; omega)]
        go_simp
        omega
      have hcv : (convert 22 9 (.slice (some ⟨w.heap.size, m, none⟩) (65 - m) (65 - m))).run Tryz.prog (wr.setCell ⟨w.heap.size, m, none⟩ (B (dg v))) = .ok (.string ⟨(numF 16 n).toArray⟩) (wr.setCell ⟨w.heap.size, m, none⟩ (B (dg v))) := by
        have h := run_convert_bytes_back (P := Tryz.prog) (wr.setCell ⟨w.heap.size, m, none⟩ (B (dg v))) 22 9 5 ⟨w.heap.size, m, none⟩ (65 - m) (dg v :: tail) Tryz.underlying22 Tryz.underlying5 Tryz.underlying9 (fun j hj => by
          rw [add_at, his1.cell, vals_get, List.getElem?_append_right (by simp), List.length_replicate, Nat.add_sub_cancel_left, List.getElem?_eq_getElem hj]
          rfl)
        rw [List.length_cons, show tail.length + 1 = 65 - m by omega] at h
        rw [HN.out]
        exact h
      have hB1 := hB.setCell (p := ⟨w.heap.size, m, none⟩) (Nat.le_refl _) (B (dg v))
      have hBv : B (dg v) = .int .u8 ((digs[v]'(Nat.lt_of_lt_of_le (show v < 16 by omega) (by decide))).toNat : Int) := by rw [HDG.out]; rfl
      rw [hBv] at hcv hB1
      clear his his1 hnum hal hBv HDG
      have HB1 := Lib.hid hB1
      clear hB1
      unfold digs at hcv HB1
      go_wp2_with fail
      go_ret2
      exact ⟨rfl, HB1.out⟩

theorem fmt_hex (n : Nat) (hn : n < 9223372036854775808) (w : World) (h : ZeroTab w) : Calls Tryz.prog 160 #[.int .u64 (n : Int), .int .i64 16] w (Told (numF 16 n) w) := by
  have C := Lib.hid (bits_any n hn w h)
  clear h
  generalize numF 16 n = out at *
  go_enter Tryz.func160, Tryz.ntmps160
  go_wp2_with fail
  refine C.out.mono ?_
  rintro e w' ⟨rfl, b⟩
  go_wp2_with fail
  go_ret
  exact ⟨rfl, b⟩
theorem fmt_hex_any (n : Nat) (hn : n < 9223372036854775808) (w : World) (h : ZeroTab w) : Calls Tryz.prog 137 #[.int .u64 (n : Int), .int .i64 16] w (Told (numF 16 n) w) := by
  have C := Lib.hid (fmt_hex n hn w h)
  clear h
  generalize numF 16 n = out at *
  go_enter Tryz.func137, Tryz.ntmps137
  go_wp2_with fail
  refine C.out.mono ?_
  rintro e w' ⟨rfl, b⟩
  go_wp2_with fail
  go_ret
  exact ⟨rfl, b⟩

/-- Two results: a text, and an error. -/
def Wrote (p : List UInt8 × Nat) (w : World) (e : Ending) (w' : World) : Prop := e = .returned (.tuple #[.string ⟨p.1.toArray⟩, .int .i64 (p.2 : Int)]) ∧ Below w.heap.size w w'
/-- What a number is written as. -/
def writeF (b n : Nat) : List UInt8 × Nat := if n ≤ Most then (numF b n, 0) else ([], 1)
theorem writeF_ok (b n : Nat) (h : n ≤ Most) : writeF b n = (numF b n, 0) := if_pos h
theorem writeF_no (b n : Nat) (h : ¬ n ≤ Most) : writeF b n = ([], 1) := if_neg h
theorem write_no (bi : Int) (b n : Nat) (h : ¬ n ≤ Most) (w : World) : Calls Tryz.prog 111 #[.int .u64 (n : Int), .int .i64 bi] w (Wrote (writeF b n) w) := by
  rw [writeF_no b n h]
  have e1 : (9007199254740991 : Int) < (n : Int) := by unfold Most at h; omega
  clear h
  go_enter Tryz.func111, Tryz.ntmps111
  go_wp2_with fail
  go_ret2
  exact ⟨rfl, Below.refl _ _⟩
theorem write_yes (bi : Int) (b n : Nat) (h : n ≤ Most) (w : World) (hC : Calls Tryz.prog 137 #[.int .u64 (n : Int), .int .i64 bi] w (Told (numF b n) w)) : Calls Tryz.prog 111 #[.int .u64 (n : Int), .int .i64 bi] w (Wrote (writeF b n) w) := by
  rw [writeF_ok b n h]
  have e1 : ¬ (9007199254740991 : Int) < (n : Int) := by unfold Most at h; omega
  clear h
  have C := Lib.hid hC
  clear hC
  generalize numF b n = out at *
  go_enter Tryz.func111, Tryz.ntmps111
  go_wp2_with fail
  refine C.out.mono ?_
  rintro e w' ⟨rfl, b⟩
  go_wp2_with fail
  go_ret2
  exact ⟨rfl, b⟩
theorem text_any (n : Nat) (w : World) (h : PowTab w) : Calls Tryz.prog 73 #[.int .u64 (n : Int)] w (Wrote (writeF 10 n) w) := by
  have hC : Calls Tryz.prog 111 #[.int .u64 (n : Int), .int .i64 10] w (Wrote (writeF 10 n) w) := by
    by_cases hm : n ≤ Most
    · exact write_yes 10 10 n hm w (fmt_ten_any n (by unfold Most at hm; omega) w h)
    · exact write_no 10 10 n hm w
  have C := Lib.hid hC
  clear hC h
  generalize writeF 10 n = p at *
  go_enter Tryz.func73, Tryz.ntmps73
  go_wp2_with fail
  refine C.out.mono ?_
  rintro e w' ⟨rfl, b⟩
  go_wp2_with fail
  go_ret2
  exact ⟨rfl, b⟩
end Go.Proofs.YtemgfppclakdmaaGreatDoor

namespace Go.Proofs.YtemgfppclakdmaaGreatDoor
open Go.RowKit

def digs16 : ByteArray := ⟨#[48, 49, 50, 51, 52, 53, 54, 55, 56, 57, 97, 98, 99, 100, 101, 102]⟩
theorem digs16_at (d : Nat) (h : d < digs16.size) : digs16[d] = dg d := by
  have : ∀ d : Fin 16, digs16[d.val]'d.isLt = dg d.val := by decide
  exact this ⟨d, h⟩
theorem dg_low (d : Nat) (h : d < 16) : (dg d).toNat < 128 := by
  have : ∀ d : Fin 16, (dg d.val).toNat < 128 := by decide
  exact this ⟨d, h⟩
theorem encode_one (c : UInt8) (h : c.toNat < 128) : Utf8.encode (c.toNat : Int) = ⟨#[c]⟩ := by
  have := byte_every (fun c => decide (c.toNat < 128 → Utf8.encode (c.toNat : Int) = ⟨#[c]⟩)) (by decide +kernel) c
  exact (of_decide_eq_true this) h
theorem one_append (c : UInt8) (l : List UInt8) : (⟨#[c]⟩ : ByteArray) ++ ⟨l.toArray⟩ = ⟨(c :: l).toArray⟩ := by
  have h : bl ((⟨#[c]⟩ : ByteArray) ++ ⟨l.toArray⟩) = c :: l := by simp [bl, ByteArray.data_append]
  rw [← mk_bl ((⟨#[c]⟩ : ByteArray) ++ ⟨l.toArray⟩), h]
theorem enc_at (d : Nat) (h : d < digs16.size) (tail : List UInt8) : Utf8.encode ((digs16[d]'h).toNat : Int) ++ ⟨tail.toArray⟩ = ⟨(dg d :: tail).toArray⟩ := by
  rw [digs16_at d h, encode_one _ (dg_low d h), one_append]
def RWrote (p : List UInt8 × Nat) (w : World) (e : Ending) (w' : World) : Prop := e = .returned (.tuple #[.string ⟨p.1.toArray⟩, .int .i64 (p.2 : Int)]) ∧ w = w'
theorem rtail_short (b : Nat) (hb : 10 ≤ b) (n v : Nat) (tail : List UInt8) (hn : n ≤ Most) (h : numF b n = numF b v ++ tail) : tail.length ≤ 15 := by
  have hp : Most < b ^ (15 + 1) := Nat.lt_of_lt_of_le (show Most < 10 ^ 16 by decide) (Nat.pow_le_pow_left hb 16)
  have h1 : (numF b n).length ≤ 15 + 1 := numG_length b (by omega) _ n 15 (by omega)
  rw [h, List.length_append] at h1
  have h3 : 0 < (numF b v).length := List.length_pos_iff.2 (numF_ne b v (by omega))
  omega


end Go.Proofs.YtemgfppclakdmaaGreatDoor

namespace Go.Proofs.YtemgfppclakdmaaGreatDoor
open Go.RowKit

/-- A slice value's address reads these slices of bytes. -/
def SrcL (w : World) (A : Option Addr) (ps : List (List UInt8)) : Prop :=
  0 < ps.length → ∃ ad : Addr, A = some ad ∧ ad.block < w.heap.size ∧ ∀ i x, ps[i]? = some x → ∃ Ax cx, w.cell? (ad.add i) = some (.slice Ax x.length cx) ∧ x.length ≤ cx ∧ Src w (fun _ => True) Ax x
theorem SrcL.at {w wr : World} {A : Option Addr} {ps : List (List UInt8)} {n c k : Nat} (h : SrcL w A ps) (hn : ps.length = n) (hlt : k < n) (hB : Below w.heap.size w wr) :
    ∃ (p : Addr) (x : List UInt8) (Ax : Option Addr) (cx : Nat), ps[k]? = some x ∧ (∀ Wx, (Instr.indexAt 166 (.slice A n c) (.int .i64 (k : Int))).run Tryz.prog Wx = .ok (.pointer (some p)) Wx) ∧ wr.cell? p = some (.slice Ax x.length cx) ∧ p.block < w.heap.size ∧ x.length ≤ cx ∧ Src wr (fun _ => True) Ax x := by
  obtain ⟨ad, hA, hadb, hc⟩ := h (by omega)
  obtain ⟨x, hx⟩ : ∃ x, ps[k]? = some x := ⟨ps[k]'(by omega), List.getElem?_eq_getElem _⟩
  obtain ⟨Ax, cx, c1, c2, c3⟩ := hc k x hx
  have hblk : (ad.add k).block = ad.block := by unfold Addr.add; split <;> rfl
  refine ⟨ad.add k, x, Ax, cx, hx, fun Wx => ?_, (hB.cell (by rw [hblk]; exact hadb)).trans c1, by rw [hblk]; exact hadb, c2, c3.kept (Turn.of_below (S := fun _ => False) hB) (fun _ _ h => h)⟩
  rw [hA]
  exact run_at 166 22 Tryz.underlying166 (by kernel_rfl) ad n c k hlt Wx
theorem totalF_take (ps : List (List UInt8)) (k : Nat) : totalF (ps.take k) ≤ totalF ps := by
  unfold totalF
  rw [List.map_take]
  have := List.take_append_drop k (ps.map List.length)
  have h : ((ps.map List.length).take k ++ (ps.map List.length).drop k).sum = (ps.map List.length).sum := by rw [this]
  rw [List.sum_append] at h
  omega
theorem totalF_snoc (ps : List (List UInt8)) (x : List UInt8) : totalF (ps ++ [x]) = totalF ps + x.length := by simp [totalF]
theorem chunks_length (ps : List (List UInt8)) (h : totalF ps ≤ 4096) : (ps.flatMap chunkF).length ≤ 9 * totalF ps := by
  induction ps with
  | nil => simp
  | cons p r ih =>
    have e : totalF (p :: r) = p.length + totalF r := by simp [totalF]
    rw [e] at h ⊢
    rw [List.flatMap_cons, List.length_append]
    have h1 := ih (by omega)
    have h2 : (chunkF p).length ≤ 9 * p.length := by
      unfold chunkF
      split
      · simp
      · next hp =>
        have hp0 : p.length ≠ 0 := fun e => hp (List.eq_nil_of_length_eq_zero e)
        have := hex_length p.length (by omega)
        simp
        omega
    omega
/-- What Put tells, as memory. -/
def PutGot8 (R : List UInt8 × Nat) (w : World) (e : Ending) (w' : World) : Prop :=
  ∃ v o, e = .returned (.tuple #[v, .int .i64 (R.2 : Int)]) ∧ Own w' v o R.1 ∧ (∀ b, o = some b → w.heap.size ≤ b) ∧ Below w.heap.size w w'

end Go.Proofs.YtemgfppclakdmaaGreatDoor

namespace Go.Proofs.YtemgfppclakdmaaGreatDoor
open Go.RowKit


theorem text_eq (x y : List UInt8) : ((⟨x.toArray⟩ : ByteArray).toList == (⟨y.toArray⟩ : ByteArray).toList) = (x == y) := by
  rw [Lib.toList_data, Lib.toList_data]
set_option maxHeartbeats 4000000 in
set_option maxRecDepth 100000 in
theorem bequal_any {P P' : Nat → Prop} (w : World) (A A' : Option Addr) (x y : List UInt8) (n c n' c' : Nat) (hn : x.length = n) (hn' : y.length = n') (hx : Src w P A x) (hy : Src w P' A' y) :
    Calls Tryz.prog 16 #[.slice A n c, .slice A' n' c'] w fun e w' => e = .returned (.bool (x == y)) ∧ w = w' := by
  have h1 := run_text w A x n c hn hx
  have h2 := run_text w A' y n' c' hn' hy
  have HE := Lib.hid (text_eq x y)
  obtain ⟨S, hS⟩ : ∃ S : ByteArray, S = ⟨x.toArray⟩ := ⟨_, rfl⟩
  obtain ⟨S', hS'⟩ : ∃ S : ByteArray, S = ⟨y.toArray⟩ := ⟨_, rfl⟩
  rw [← hS] at h1 HE
  rw [← hS'] at h2 HE
  clear hn hn' hx hy hS hS'
  cases hq : (S.toList == S'.toList) with
  | false =>
    have HQ := Lib.hid (show (x == y) = false by rw [← HE.out, hq])
    go_enter Tryz.func16, Tryz.ntmps16
    go_wp2_with fail
    go_ret
    exact ⟨ret_bool HQ.out.symm, rfl⟩
  | true =>
    have HQ := Lib.hid (show (x == y) = true by rw [← HE.out, hq])
    go_enter Tryz.func16, Tryz.ntmps16
    go_wp2_with fail
    go_ret
    exact ⟨ret_bool HQ.out.symm, rfl⟩
theorem xor_byte (d : UInt8) : ∃ d' : UInt8, bits .xor .u8 (d.toNat : Int) 255 = (d'.toNat : Int) := by
  have h : ∀ n : Fin 256, bits .xor .u8 ((UInt8.ofNat n.val).toNat : Int) 255 = ((UInt8.ofNat n.val ^^^ 255).toNat : Int) := by decide +kernel
  have := h ⟨d.toNat, d.toNat_lt⟩
  simp only [UInt8.ofNat_toNat] at this
  exact ⟨_, this⟩
/-- A block's first n cells are bytes. -/
def BytesAt (X : World) (g n : Nat) : Prop := ∃ cl : List Value, Is X g 5 cl ∧ n ≤ cl.length ∧ ∀ i, i < n → ∃ d : UInt8, cl[i]? = some (.int .u8 (d.toNat : Int))
theorem BytesAt.cell {X : World} {g n : Nat} (h : BytesAt X g n) (i : Nat) (hi : i < n) : ∃ d : UInt8, X.cell? ⟨g, i, none⟩ = some (.int .u8 (d.toNat : Int)) ∧ X.frozen? ⟨g, i, none⟩ = false := by
  obtain ⟨cl, h1, _, h3⟩ := h
  obtain ⟨d, hd⟩ := h3 i hi
  exact ⟨d, (h1.cell i).trans hd, h1.free i⟩
theorem BytesAt.set {X : World} {g n : Nat} (h : BytesAt X g n) (i : Nat) (d : UInt8) : BytesAt (X.setCell ⟨g, i, none⟩ (.int .u8 (d.toNat : Int))) g n := by
  obtain ⟨cl, h1, h2, h3⟩ := h
  refine ⟨cl.set i (.int .u8 (d.toNat : Int)), h1.set i _, by simpa using h2, fun j hj => ?_⟩
  by_cases hij : i = j
  · subst hij
    exact ⟨d, by rw [List.getElem?_set_self (by omega)]⟩
  · rw [List.getElem?_set_ne hij]
    exact h3 j hj
theorem BytesAt.kept {X X' : World} {g n : Nat} {S : Nat → Prop} (h : BytesAt X g n) (ht : Turn S X X') (hg : ¬ S g) : BytesAt X' g n := by
  obtain ⟨cl, h1, h2⟩ := h
  exact ⟨cl, h1.kept ht hg, h2⟩
/-- Bytes of the call's own: empty, or a block's first ones. -/
theorem Own.block {X : World} {v : Value} {o : Option Nat} {bs : List UInt8} (h : Own X v o bs) : ∃ A c, v = .slice A bs.length c ∧ bs.length ≤ c ∧ Src X (fun _ => True) A bs ∧ (0 < bs.length → ∃ g, A = some ⟨g, 0, none⟩ ∧ o = some g ∧ BytesAt X g bs.length) := by
  obtain ⟨A, c, hv, hs⟩ := h.src (fun _ => True) (fun _ _ => trivial)
  obtain ⟨⟨h1, h2⟩, h3⟩ := h
  refine ⟨A, c, hv, ?_, hs, fun h0 => ?_⟩
  · rcases h2 with ⟨_, hn⟩ | ⟨g, cap, cur, hv2, _, hh, hnc, _⟩
    · rw [hn]; exact Nat.zero_le _
    · rw [hv2] at hv
      injection hv with _ _ hcc
      omega
  rcases h2 with ⟨_, hn⟩ | ⟨g, cap, cur, hv2, _, hh, hnc, _, hsz, htk⟩
  · omega
  · rw [hv2] at hv h3
    injection hv with hA
    refine ⟨g, hA.symm, h3.symm, cur.toList, by unfold Is; simpa using hh, by simp; omega, fun i hi => ?_⟩
    have hx : (vals bs)[i]? = some (.int .u8 (bs[i].toNat : Int)) := by rw [vals_get, List.getElem?_eq_getElem hi]; rfl
    rw [← htk, List.getElem?_take] at hx
    split at hx
    · exact ⟨_, hx⟩
    · cases hx
/-- An empty list of bytes of the call's own. -/
theorem Own.built (w : World) : Own (w.alloc (.cells #[] 5)) (.slice (some ⟨w.heap.size, 0, none⟩) 0 0) (some w.heap.size) [] :=
  ⟨⟨rfl, .inr ⟨w.heap.size, 0, #[], rfl, Nat.zero_le _, heap_alloc_new w _, Nat.le_refl _, Nat.zero_le _, rfl, rfl⟩⟩, rfl⟩
/-- []byte of a constant text: the row, marked. -/
theorem const_any (cur : Array Value) (n : Nat) (hn : cur.size = n) (X : World) (g : Nat) (hg : X.heap.size = g) : (convert 22 22 (.slice (some ⟨g, 0, none⟩) n n)).run Tryz.prog (X.alloc (.cells cur 5)) = .ok (.slice (some ⟨g, 0, none⟩) n n) (X.alloc (.cells cur 5 (n, n + 1))) := by
  subst hn hg
  exact Lib.run_convert_bytes_const X 22 5 cur _ _ Tryz.underlying22 Tryz.underlying5
theorem src_marked (X : World) (bs : List UInt8) (cur : Array Value) (hc : (vals bs).toArray = cur) (fz : Nat × Nat) : Src (X.alloc (.cells cur 5 fz)) (fun _ => True) (some ⟨X.heap.size, 0, none⟩) bs := fun _ => by
  subst hc
  refine ⟨_, rfl, trivial, by simp, fun i v hv => ?_⟩
  rw [add_at, Nat.zero_add]
  have e : (X.alloc (.cells (vals bs).toArray 5 fz)).cell? ⟨X.heap.size, i, none⟩ = (vals bs).toArray[i]? := by simp [World.alloc, World.cell?, -World.alloc_eq]
  rw [e]
  simpa using hv
end Go.Proofs.YtemgfppclakdmaaGreatDoor
