/-
  What the document's own Text and HexText (the reference) tell of any number.
  Conditions: those that each theorem names.
-/
import Derived.Test.YtilgljnmdfejmaaDoorNF
import Derived.Test.YtilgljnmdfejmaaDoorND
namespace Go.Proofs.YtilgljnmdfejmaaDoor
open Go.RowKit

def digs16 : ByteArray := ⟨#[48, 49, 50, 51, 52, 53, 54, 55, 56, 57, 97, 98, 99, 100, 101, 102]⟩
theorem digs16_at (d : Nat) (h : d < digs16.size) : digs16[d] = dg d := by
  have : ∀ d : Fin 16, digs16[d.val]'d.isLt = dg d.val := by decide
  exact this ⟨d, h⟩
theorem dg_low (d : Nat) (h : d < 16) : (dg d).toNat < 128 := by
  have : ∀ d : Fin 16, (dg d.val).toNat < 128 := by decide
  exact this ⟨d, h⟩
theorem encode_one (c : UInt8) (h : c.toNat < 128) : Utf8.encode (c.toNat : Int) = ⟨#[c]⟩ := by
  have := byte_every (fun c => decide (c.toNat < 128 → Utf8.encode (c.toNat : Int) = ⟨#[c]⟩)) (by decide +kernel) c
  exact (of_decide_eq_true this) h
theorem one_append (c : UInt8) (l : List UInt8) : (⟨#[c]⟩ : ByteArray) ++ ⟨l.toArray⟩ = ⟨(c :: l).toArray⟩ := by
  have h : bl ((⟨#[c]⟩ : ByteArray) ++ ⟨l.toArray⟩) = c :: l := by simp [bl, ByteArray.data_append]
  rw [← mk_bl ((⟨#[c]⟩ : ByteArray) ++ ⟨l.toArray⟩), h]
theorem enc_at (d : Nat) (h : d < digs16.size) (tail : List UInt8) : Utf8.encode ((digs16[d]'h).toNat : Int) ++ ⟨tail.toArray⟩ = ⟨(dg d :: tail).toArray⟩ := by
  rw [digs16_at d h, encode_one _ (dg_low d h), one_append]
def RWrote (p : List UInt8 × Nat) (w : World) (e : Ending) (w' : World) : Prop := e = .returned (.tuple #[.string ⟨p.1.toArray⟩, .int .i64 (p.2 : Int)]) ∧ w = w'
theorem rtail_short (b : Nat) (hb : 10 ≤ b) (n v : Nat) (tail : List UInt8) (hn : n ≤ Most) (h : numF b n = numF b v ++ tail) : tail.length ≤ 15 := by
  have hp : Most < b ^ (15 + 1) := Nat.lt_of_lt_of_le (show Most < 10 ^ 16 by decide) (Nat.pow_le_pow_left hb 16)
  have h1 : (numF b n).length ≤ 15 + 1 := numG_length b (by omega) _ n 15 (by omega)
  rw [h, List.length_append] at h1
  have h3 : 0 < (numF b v).length := List.length_pos_iff.2 (numF_ne b v (by omega))
  omega

set_option maxHeartbeats 2000000 in
set_option maxRecDepth 100000 in
theorem rwrite_10 (n : Nat) (hn : n ≤ Most) (w : World) : Calls Tryd.prog 39 #[.int .u64 (n : Int), .int .u64 10] w (RWrote (writeF 10 n) w) := by
  rw [writeF_ok 10 n hn]
  have e1 : ¬ (9007199254740991 : Int) < (n : Int) := by unfold Most at hn; omega
  have e2 : decide ((9007199254740991 : Int) < (n : Int)) = false := by simpa using e1
  clear e1
  go_enter Tryd.func39, Tryd.ntmps39
  go_wp2_with fail
  go_loop [0, 6] (fun u t => ∃ (v : Nat) (tail : List UInt8), u = .int .u64 (v : Int) ∧ t = .string ⟨tail.toArray⟩ ∧ v ≤ 9007199254740991 ∧ numF 10 n = numF 10 v ++ tail) (fun u _ => (intOf u).toNat)
  case atStart => exact ⟨n, [], rfl, rfl, hn, by simp⟩
  case round =>
    obtain ⟨v, tail, rfl, rfl, hv, hnum⟩ := hrel
    have hz := rtail_short 10 (by omega) n v tail hn hnum
    have hd16 : v % 10 < 10 := Nat.mod_lt _ (by omega)
    have HDG := Lib.hid (digs16_at (v % 10) (Nat.lt_of_lt_of_le hd16 (by decide)))
    have hen : Utf8.encode ((digs16[v % 10]'(Nat.lt_of_lt_of_le hd16 (by decide))).toNat : Int) = ⟨#[dg (v % 10)]⟩ := by
      rw [HDG.out]
      exact encode_one _ (dg_low _ (by omega))
    have hsz : ¬ 9223372036854775807 < (Utf8.encode ((digs16[v % 10]'(Nat.lt_of_lt_of_le hd16 (by decide))).toNat : Int)).size + tail.length := by
      rw [hen]
      have : (⟨#[dg (v % 10)]⟩ : ByteArray).size = 1 := rfl
      omega
    unfold digs16 at hsz
    clear HDG hen
    by_cases hge : 10 ≤ v
    · have e3 : (((v : Int) / 10) == 0) = false := beq_false_of_ne (by omega)
      have HN := Lib.hid (show numF 10 n = numF 10 (v / 10) ++ dg (v % 10) :: tail by rw [hnum, numF_great 10 v (by omega) (by omega)]; simp)
      clear hnum
      go_wp2_with fail
      go_round
      case rel => exact ⟨v / 10, dg (v % 10) :: tail, rfl, by rw [← enc_at _ (Nat.lt_of_lt_of_le hd16 (by decide))]; rfl, by omega, HN.out⟩
      case measure => simp only [intOf]; omega
    · have e3 : (((v : Int) / 10) == 0) = true := beq_iff_eq.2 (by omega)
      have hvm : v % 10 = v := Nat.mod_eq_of_lt (by omega)
      have HN := Lib.hid (show numF 10 n = dg (v % 10) :: tail by rw [hnum, hvm, numF_small 10 v (by omega)]; rfl)
      clear hnum hvm
      go_wp2_with fail
      go_ret2
      exact ⟨by rw [HN.out, ← enc_at _ (Nat.lt_of_lt_of_le hd16 (by decide))]; rfl, rfl⟩

set_option maxHeartbeats 2000000 in
set_option maxRecDepth 100000 in
theorem rwrite_16 (n : Nat) (hn : n ≤ Most) (w : World) : Calls Tryd.prog 39 #[.int .u64 (n : Int), .int .u64 16] w (RWrote (writeF 16 n) w) := by
  rw [writeF_ok 16 n hn]
  have e1 : ¬ (9007199254740991 : Int) < (n : Int) := by unfold Most at hn; omega
  have e2 : decide ((9007199254740991 : Int) < (n : Int)) = false := by simpa using e1
  clear e1
  go_enter Tryd.func39, Tryd.ntmps39
  go_wp2_with fail
  go_loop [0, 6] (fun u t => ∃ (v : Nat) (tail : List UInt8), u = .int .u64 (v : Int) ∧ t = .string ⟨tail.toArray⟩ ∧ v ≤ 9007199254740991 ∧ numF 16 n = numF 16 v ++ tail) (fun u _ => (intOf u).toNat)
  case atStart => exact ⟨n, [], rfl, rfl, hn, by simp⟩
  case round =>
    obtain ⟨v, tail, rfl, rfl, hv, hnum⟩ := hrel
    have hz := rtail_short 16 (by omega) n v tail hn hnum
    have hd16 : v % 16 < 16 := Nat.mod_lt _ (by omega)
    have HDG := Lib.hid (digs16_at (v % 16) (Nat.lt_of_lt_of_le hd16 (by decide)))
    have hen : Utf8.encode ((digs16[v % 16]'(Nat.lt_of_lt_of_le hd16 (by decide))).toNat : Int) = ⟨#[dg (v % 16)]⟩ := by
      rw [HDG.out]
      exact encode_one _ (dg_low _ (by omega))
    have hsz : ¬ 9223372036854775807 < (Utf8.encode ((digs16[v % 16]'(Nat.lt_of_lt_of_le hd16 (by decide))).toNat : Int)).size + tail.length := by
      rw [hen]
      have : (⟨#[dg (v % 16)]⟩ : ByteArray).size = 1 := rfl
      omega
    unfold digs16 at hsz
    clear HDG hen
    by_cases hge : 16 ≤ v
    · have e3 : (((v : Int) / 16) == 0) = false := beq_false_of_ne (by omega)
      have HN := Lib.hid (show numF 16 n = numF 16 (v / 16) ++ dg (v % 16) :: tail by rw [hnum, numF_great 16 v (by omega) (by omega)]; simp)
      clear hnum
      go_wp2_with fail
      go_round
      case rel => exact ⟨v / 16, dg (v % 16) :: tail, rfl, by rw [← enc_at _ (Nat.lt_of_lt_of_le hd16 (by decide))]; rfl, by omega, HN.out⟩
      case measure => simp only [intOf]; omega
    · have e3 : (((v : Int) / 16) == 0) = true := beq_iff_eq.2 (by omega)
      have hvm : v % 16 = v := Nat.mod_eq_of_lt (by omega)
      have HN := Lib.hid (show numF 16 n = dg (v % 16) :: tail by rw [hnum, hvm, numF_small 16 v (by omega)]; rfl)
      clear hnum hvm
      go_wp2_with fail
      go_ret2
      exact ⟨by rw [HN.out, ← enc_at _ (Nat.lt_of_lt_of_le hd16 (by decide))]; rfl, rfl⟩
theorem rhextext_any (n : Nat) (w : World) : Calls Tryd.prog 22 #[.int .u64 (n : Int)] w (RWrote (writeF 16 n) w) := by
  have hC : Calls Tryd.prog 39 #[.int .u64 (n : Int), .int .u64 16] w (RWrote (writeF 16 n) w) := by
    by_cases hm : n ≤ Most
    · exact rwrite_16 n hm w
    · rw [writeF_no 16 n hm]
      have e1 : (9007199254740991 : Int) < (n : Int) := by unfold Most at hm; omega
      clear hm
      go_enter Tryd.func39, Tryd.ntmps39
      go_wp2_with fail
      go_ret2
      exact ⟨rfl, rfl⟩
  have C := Lib.hid hC
  clear hC
  generalize writeF 16 n = p at *
  go_enter Tryd.func22, Tryd.ntmps22
  go_wp2_with fail
  refine C.out.mono ?_
  rintro e w' ⟨rfl, rfl⟩
  go_wp2_with fail
  go_ret2
  exact ⟨rfl, rfl⟩
end Go.Proofs.YtilgljnmdfejmaaDoor
