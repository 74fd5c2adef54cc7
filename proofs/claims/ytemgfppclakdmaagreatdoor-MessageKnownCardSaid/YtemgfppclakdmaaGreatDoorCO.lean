/-
  What the landed chunk.sizeOf answers to bytes: the calls of the library that it makes, then itself.
  Conditions: those that each theorem names.
-/
import Derived.Test.YtemgfppclakdmaaGreatDoorCD
import Derived.Test.YtemgfppclakdmaaGreatDoorNC
import Derived.Test.YtemgfppclakdmaaGreatDoorUC
import Derived.Test.YtemgfppclakdmaaGreatDoorShelf
import Derived.Shelf.Bytes.SlIndexAt
import Derived.Lib.Bytealg
namespace Go.Proofs.YtemgfppclakdmaaGreatDoor
open Go.RowKit

theorem find_hit (d : UInt8) : ∀ (m r : List UInt8), d ∉ m → Lib.indexByte (m ++ d :: r) d = m.length
  | [], r, _ => by simp [Lib.indexByte]
  | c :: m, r, h => by
    have hc : (c == d) = false := by simp; exact fun e => h (by simp [e])
    have hm : d ∉ m := fun e => h (by simp [e])
    have := find_hit d m r hm
    simp only [List.cons_append, Lib.indexByte, hc, this]
    have h1 : ((m.length : Int) == -1) = false := by simp
    rw [h1]
    simp
theorem find_miss (d : UInt8) : ∀ (l : List UInt8), d ∉ l → Lib.indexByte l d = -1
  | [], _ => rfl
  | c :: l, h => by
    have hc : (c == d) = false := by simp; exact fun e => h (by simp [e])
    have hm : d ∉ l := fun e => h (by simp [e])
    simp [Lib.indexByte, hc, find_miss d l hm]
theorem cut_where : ∀ (l : List UInt8), (59 ∉ l ∧ l.takeWhile (· != 59) = l ∧ l.dropWhile (· != 59) = []) ∨ ∃ m r, l = m ++ 59 :: r ∧ 59 ∉ m ∧ l.takeWhile (· != 59) = m ∧ l.dropWhile (· != 59) = 59 :: r
  | [] => .inl ⟨by simp, rfl, rfl⟩
  | c :: l => by
    by_cases hc : c = 59
    · subst hc
      exact .inr ⟨[], l, rfl, by simp, rfl, rfl⟩
    · have hb : (c != 59) = true := by simpa using hc
      rw [List.takeWhile_cons, if_pos hb, List.dropWhile_cons, if_pos hb]
      rcases cut_where l with ⟨h1, h2, h3⟩ | ⟨m, r, h1, h2, h3, h4⟩
      · refine .inl ⟨?_, by rw [h2], h3⟩
        simp only [List.mem_cons, not_or]
        exact ⟨fun e => hc e.symm, h1⟩
      · refine .inr ⟨c :: m, r, by rw [h1]; rfl, ?_, by rw [h3], h4⟩
        simp only [List.mem_cons, not_or]
        exact ⟨fun e => hc e.symm, h2⟩

/-- strings.Cut at a ';'. -/
def CutGot8 (l : List UInt8) (w : World) (e : Ending) (w' : World) : Prop :=
  ∃ f : Bool, e = .returned (.tuple #[.string ⟨(l.takeWhile (· != 59)).toArray⟩, .string ⟨((l.dropWhile (· != 59)).drop 1).toArray⟩, .bool f]) ∧ Below w.heap.size w w'
set_option maxHeartbeats 2000000 in
theorem cut_in8 (s : ByteArray) (w : World) (hs : s.size ≤ 281474976710656) : Calls Tryz.prog 86 #[.string s, .string ⟨#[59]⟩] w (CutGot8 (bl s) w) := by
  have C0 := Tryz.stringslite_Index_one s 59 w
  rcases cut_where (bl s) with ⟨hm, h1, h2⟩ | ⟨m, r, hl, hm, h1, h2⟩
  · rw [show Lib.indexByte s.data.toList 59 = -1 from find_miss 59 _ hm] at C0
    have C := Lib.hid C0
    have H1 := Lib.hid h1
    have H2 := Lib.hid h2
    clear C0 hm h1 h2
    go_enter Tryz.func86, Tryz.ntmps86
    go_wp2_with fail
    refine C.out.mono ?_
    rintro e w' ⟨rfl, rfl⟩
    go_wp2_with fail
    go_ret3
    refine ⟨false, ?_, Below.refl _ _⟩
    rw [H1.out, H2.out, mk_bl]
    rfl
  · rw [show Lib.indexByte s.data.toList 59 = (m.length : Int) by rw [show s.data.toList = m ++ 59 :: r from hl]; exact find_hit 59 _ _ hm] at C0
    have C := Lib.hid C0
    have H1 := Lib.hid h1
    have H2 := Lib.hid h2
    have hsz : s.size = m.length + 1 + r.length := by rw [← bl_length, hl]; simp; omega
    have x1 : s.extract 0 m.length = ⟨m.toArray⟩ := by
      rw [← mk_bl (s.extract 0 m.length), extract_bl, piece_front, hl, List.take_left' rfl]
    have x2 : s.extract (m.length + 1) s.size = ⟨r.toArray⟩ := by
      rw [← mk_bl (s.extract (m.length + 1) s.size), extract_bl, piece_back, hl, show m ++ 59 :: r = (m ++ [59]) ++ r by simp, List.drop_left' (by simp)]
    have X1 := Lib.hid x1
    have X2 := Lib.hid x2
    clear C0 hm h1 h2 hl x1 x2
    have c1 : (0 : Int) ≤ (m.length : Int) := by omega
    have c2 : (m.length : Int) ≤ (s.size : Int) := by omega
    have c3 : (0 : Int) ≤ (m.length : Int) + 1 := by omega
    have c4 : (m.length : Int) + 1 ≤ (s.size : Int) := by omega
    have c5 : IntKind.i64.wrap ((m.length : Int) + 1) = (m.length : Int) + 1 := by rw [IntKind.wrap_i64]; omega
    have c6 : ((m.length : Int) + 1).toNat = m.length + 1 := by omega
    clear hsz
    go_enter Tryz.func86, Tryz.ntmps86
    go_wp2_with fail
    refine C.out.mono ?_
    rintro e v ⟨rfl, rfl⟩
    go_wp2_with fail
    go_quiet (fail)
    have HB : Hid (Below v.heap.size v (v.drewN nq)) := Lib.hid (below_drewN (Below.refl _ _) nq)
    go_wp2_with fail
    go_ret3
    refine ⟨true, ?_, HB.out⟩
    rw [H1.out, H2.out, ← X1.out, List.drop_one, List.tail_cons, ← X2.out]
    rfl
set_option maxHeartbeats 1000000 in
theorem cut_any8 (s : ByteArray) (w : World) (hs : s.size ≤ 281474976710656) : Calls Tryz.prog 52 #[.string s, .string ⟨#[59]⟩] w (CutGot8 (bl s) w) := by
  have C := Lib.hid (cut_in8 s w hs)
  unfold CutGot8 at C ⊢
  generalize (bl s).takeWhile (· != 59) = a at *
  generalize ((bl s).dropWhile (· != 59)).drop 1 = b at *
  go_enter Tryz.func52, Tryz.ntmps52
  go_wp2_with fail
  refine C.out.mono ?_
  rintro e w9 ⟨f, rfl, b9⟩
  go_wp2_with fail
  go_ret3
  exact ⟨f, rfl, b9⟩

set_option maxHeartbeats 1000000 in
set_option maxRecDepth 100000 in
theorem bindex_any {P : Nat → Prop} (w : World) (A : Option Addr) (bs : List UInt8) (n c : Nat) (hn : bs.length = n) (h : Src w P A bs) : Calls Tryz.prog 80 #[.slice A n c, .int .u8 10] w fun e w' => e = .returned (.int .i64 (Lib.indexByte bs 10)) ∧ w = w' := by
  have hrun : (Extern.BytealgIndexByte.indexByte #[.slice A n c, .int .u8 10]).run Tryz.prog w = .ok (.int .i64 (Lib.indexByte bs 10)) w := by
    cases A with
    | none =>
      have hb : bs = [] := by
        cases bs with
        | nil => rfl
        | cons b l => obtain ⟨ad, hA, _⟩ := h (by simp); cases hA
      subst hb
      exact Lib.run_indexByteNil w n c 10
    | some a =>
      have hx := Lib.run_indexByteAt (P := Tryz.prog) w a n c (bs.map fun x => (x.toNat : Int)) (by rw [List.length_map]; exact hn) (fun i hi => by
        obtain ⟨ad, hA, _, _, hc⟩ := h (by omega)
        injection hA with hA
        subst hA
        refine hc i _ ?_
        rw [vals_get, List.getElem?_eq_getElem (by omega), List.getD_eq_getElem?_getD, List.getElem?_map, List.getElem?_eq_getElem (by omega)]
        rfl) 10
      rw [hx]
      have e : Lib.bytesOf (bs.map fun x => (x.toNat : Int)) = bs := by
        unfold Lib.bytesOf
        rw [List.map_map]
        exact (List.map_congr_left (g := id) (fun x _ => by simp)).trans (List.map_id bs)
      rw [e]
      rfl
  have HR := Lib.hid hrun
  clear hrun h hn
  go_enter Tryz.func80, Tryz.ntmps80
  go_wp2
  rw [run_callFunc_extern Tryz.func115 (by kernel_rfl) (by kernel_rfl) (by kernel_rfl) (e := Extern.BytealgIndexByte.indexByte) (by kernel_rfl), HR.out]
  simp only [Result.andThen]
  rw [Oper.upon_value]
  go_wp2
  go_ret
  exact ⟨rfl, rfl⟩

/-- strings.CutSuffix of an end of a line. -/
def sufF (t : List UInt8) : List UInt8 × Bool := if t.getLast? = some 13 then (t.dropLast, true) else (t ++ [10], false)
theorem suffix_any (t : List UInt8) (ht : t.length ≤ 1000) (w : World) : Calls Tryz.prog 82 #[.string ⟨(t ++ [10]).toArray⟩, .string ⟨#[13, 10]⟩] w fun e w' => e = .returned (.tuple #[.string ⟨(sufF t).1.toArray⟩, .bool (sufF t).2]) ∧ w' = w := by
  have hz : (⟨(t ++ [10]).toArray⟩ : ByteArray).size ≤ 9223372036854775807 := by
    rw [← bl_length, bl_mk, List.length_append, List.length_singleton]
    omega
  have C := Tryz.strings_CutSuffix ⟨(t ++ [10]).toArray⟩ ⟨#[13, 10]⟩ w hz
  refine C.mono ?_
  intro e w' hq
  obtain ⟨he, hw⟩ := hq
  refine ⟨?_, hw⟩
  have hs : Lib.hasSuffix (t ++ [10]) [13, 10] = decide (t.getLast? = some 13) := by
    unfold Lib.hasSuffix
    rw [Bool.eq_iff_iff, List.isSuffixOf_iff_suffix, decide_eq_true_iff]
    constructor
    · rintro ⟨u, hu⟩
      have h1 : t = u ++ [13] := by
        have : u ++ [13] ++ [10] = t ++ [10] := by simpa using hu
        exact (List.append_cancel_right this).symm
      rw [h1]; simp
    · intro h
      obtain ⟨u, rfl⟩ := List.getLast?_eq_some_iff.1 h
      exact ⟨u, by simp⟩
  have e1 : (⟨(t ++ [10]).toArray⟩ : ByteArray).data.toList = t ++ [10] := List.toList_toArray
  have e2 : (⟨#[13, 10]⟩ : ByteArray).data.toList = [13, 10] := rfl
  rw [e1, e2] at he
  rw [he]
  clear he e1 e2
  unfold Lib.trimSuffix sufF
  rw [hs]
  by_cases h : t.getLast? = some 13
  · rw [if_pos (by simpa using h), if_pos h]
    obtain ⟨u, rfl⟩ := List.getLast?_eq_some_iff.1 h
    simp
  · rw [if_neg (by simpa using h), if_neg h]
    simp [h]

/-- What sizeOf tells. -/
def lineO (bs : List UInt8) (room : Nat) : Nat × Nat × Nat :=
  match lfF 64 bs with
  | none => (0, 0, if 64 ≤ bs.length then 21 else 8)
  | some k => if (sizeF (bs.take k)).2 ≠ 0 then (0, 0, (sizeF (bs.take k)).2) else if room < (sizeF (bs.take k)).1 then (0, 0, 21) else ((sizeF (bs.take k)).1, k + 1, 0)
theorem lineO_none {bs : List UInt8} {room : Nat} (h : lfF 64 bs = none) : lineO bs room = (0, 0, if 64 ≤ bs.length then 21 else 8) := by unfold lineO; rw [h]
theorem lineO_some {bs : List UInt8} {room k nn e : Nat} (h : lfF 64 bs = some k) (hs : sizeF (bs.take k) = (nn, e)) : lineO bs room = if e ≠ 0 then (0, 0, e) else if room < nn then (0, 0, 21) else (nn, k + 1, 0) := by
  unfold lineO; rw [h]; simp only [hs]
def SizeGot (L : Nat × Nat × Nat) (w : World) (e : Ending) (w' : World) : Prop := e = .returned (.tuple #[.int .i64 (L.1 : Int), .int .i64 (L.2.1 : Int), .int .i64 (L.2.2 : Int)]) ∧ Below w.heap.size w w'
theorem SizeGot.mk {L : Nat × Nat × Nat} {a b c : Nat} {x y z : Int} {w w' : World} (h : L = (a, b, c)) (hx : x = a) (hy : y = b) (hz : z = c) (hB : Below w.heap.size w w') : SizeGot L w (.returned (.tuple #[.int .i64 x, .int .i64 y, .int .i64 z])) w' := ⟨by rw [h, hx, hy, hz], hB⟩
theorem readF_err (b : Nat) (l : List UInt8) : (readF b l).2 = 0 ∨ (readF b l).2 = 3 ∨ (readF b l).2 = 5 := by
  unfold readF
  repeat' split
  all_goals simp
theorem sizeF_cut (u : List UInt8) : sizeF (u ++ [13]) = if visF ((u.dropWhile (· != 59)).drop 1) = false then (0, 20) else hexK (readF 16 (u.takeWhile (· != 59))) := by
  unfold sizeF hexK
  rw [if_neg (by simp), List.dropLast_concat]
  by_cases h : u.dropWhile (· != 59) = []
  · rw [h]
    rfl
  · simp only [h, ne_eq, not_false_eq_true, true_and]
theorem run_front8 (A : Option Addr) (n c k : Nat) (hk : k ≤ c) : ∃ A', (∀ W : World, (Instr.slice 22 (.slice A n c) none (some (.int .i64 (k : Int))) none).run Tryz.prog W = .ok (.slice A' k c) W) ∧
    ∀ (w : World) (P : Nat → Prop) (bs : List UInt8), bs.length = n → k ≤ n → Src w P A bs → Src w P A' (bs.take k) := by
  refine ⟨if c = 0 then A else A.map (·.add (0 * 1)), fun W => ?_, fun w P bs hn hkn h => ?_⟩
  · simp [Instr.slice, run_underlying Tryz.underlying22, Instr.sliceBounds, Instr.sliceBound, asIntOf, hk]
  · intro h0
    rw [List.length_take] at h0
    obtain ⟨ad, rfl, hP, hlt, hc⟩ := h (by omega)
    rw [if_neg (by omega)]
    refine ⟨ad.add (0 * 1), rfl, ?_, ?_, fun i v hv => ?_⟩
    · unfold Addr.add; split <;> exact hP
    · unfold Addr.add; split <;> exact hlt
    · rw [add_add_at, Nat.zero_mul, Nat.zero_add]
      refine hc _ v ?_
      rw [vals_take, List.getElem?_take] at hv
      split at hv
      · exact hv
      · cases hv

theorem run_tail8 (A : Option Addr) (n c k : Nat) (hk : k ≤ n) (hn : n ≤ c) : ∃ A', (∀ W : World, (Instr.slice 22 (.slice A n c) (some (.int .i64 (k : Int))) none none).run Tryz.prog W = .ok (.slice A' (n - k) (c - k)) W) ∧
    ∀ (w : World) (P : Nat → Prop) (bs : List UInt8), bs.length = n → Src w P A bs → Src w P A' (bs.drop k) := by
  obtain ⟨A', h1, h2⟩ := run_cut A n c k hk hn
  refine ⟨A', h1, fun w P bs hb h h0 => ?_⟩
  rw [List.length_drop] at h0
  have := h.part k (n - k) (by omega)
  rw [List.take_of_length_le (by rw [List.length_drop]; omega)] at this
  obtain ⟨ad, hA, r⟩ := this (by rw [List.length_drop]; omega)
  exact ⟨ad, by rw [h2 (by omega)]; exact hA, r⟩

set_option maxHeartbeats 4000000 in
set_option maxRecDepth 100000 in
theorem sizeOf_any {P : Nat → Prop} (w : World) (A : Option Addr) (bs : List UInt8) (n c room : Nat) (hn : bs.length = n) (hnc : n ≤ c) (hmax : n ≤ 140737488355328) (hroom : room ≤ 4096) (h : Src w P A bs) :
    Calls Tryz.prog 119 #[.slice A n c, .int .i64 (room : Int)] w (SizeGot (lineO bs room) w) := by
  obtain ⟨m, hm⟩ : ∃ m, min n 64 = m := ⟨_, rfl⟩
  obtain ⟨R, hR⟩ : ∃ R, lineO bs room = R := ⟨_, rfl⟩
  obtain ⟨A1, hs1, hsrc1⟩ := run_front8 A n c m (by omega)
  have S1 := hsrc1 w P bs hn (by omega) h
  have hl1 : (bs.take m).length = m := by rw [List.length_take]; omega
  have C1 := bindex_any w A1 (bs.take m) m c hl1 S1
  rw [hR]
  have wroom : IntKind.u64.wrap (room : Int) = (room : Int) := by rw [IntKind.wrap_u64]; omega
  cases hk : lfF 64 bs with
  | none =>
    have hmiss := find_miss 10 (bs.take m) (fun hx => by
      obtain ⟨i, hi, hx⟩ := List.getElem_of_mem hx
      rw [hl1] at hi
      have := (lf_none 64 bs).1 hk i (by omega)
      apply this
      rw [← hx, List.getElem_take, List.getElem?_eq_getElem])
    rw [hmiss] at C1
    rw [lineO_none hk] at hR
    have C := Lib.hid C1
    have HR := Lib.hid hR
    have S0 : Src w P A (bs.take m) := by
      intro h0
      obtain ⟨ad, hA, hP, hlt, hc⟩ := h (by rw [List.length_take] at h0; omega)
      refine ⟨ad, hA, hP, hlt, fun i v hv => hc i v ?_⟩
      rw [vals_take, List.getElem?_take] at hv
      split at hv
      · exact hv
      · cases hv
    have C0 := bindex_any w A (bs.take m) m c hl1 S0
    rw [hmiss] at C0
    clear C1 S1 S0 hsrc1 h hk hR
    by_cases h64 : m = 64
    · subst h64
      have C2 := Lib.hid C0
      clear C0
      have HF := Lib.hid (show R = (0, 0, 21) by rw [← HR.out, if_pos (by omega)])
      have hmin : min (n : Int) 64 = ((64 : Nat) : Int) := by omega
      go_enter Tryz.func119, Tryz.ntmps119
      go_wp2_with fail
      refine C2.out.mono ?_
      rintro e w' ⟨rfl, rfl⟩
      go_wp2_with fail
      go_ret3
      exact SizeGot.mk HF.out rfl rfl rfl (Below.refl _ _)
    · clear C0
      have e1 : ((m : Int) == 64) = false := by simp; omega
      have HF := Lib.hid (show R = (0, 0, 8) by rw [← HR.out, if_neg (by omega)])
      have hmin : min (n : Int) 64 = (m : Int) := by omega
      go_enter Tryz.func119, Tryz.ntmps119
      go_wp2_with fail
      refine C.out.mono ?_
      rintro e w' ⟨rfl, rfl⟩
      go_wp2_with fail
      go_ret3
      exact SizeGot.mk HF.out rfl rfl rfl (Below.refl _ _)
  | some k =>
    obtain ⟨k1, k2, k3, k4⟩ := lf_some 64 bs k hk
    have hkm : k < m := by omega
    obtain ⟨t, ht⟩ : ∃ t, bs.take k = t := ⟨_, rfl⟩
    have htl : t.length = k := by rw [← ht, List.length_take]; omega
    have hsplit : (bs.take m).take (k + 1) = t ++ [10] := by
      rw [List.take_take, Nat.min_eq_left (by omega), List.take_add_one, k3, ht]
      rfl
    have hidx : Lib.indexByte (bs.take m) 10 = (k : Int) := by
      have h1 : bs.take m = t ++ 10 :: (bs.take m).drop (k + 1) := by
        conv => lhs; rw [← List.take_append_drop (k + 1) (bs.take m), hsplit]
        simp
      rw [h1, find_hit 10 t _ (fun hx => by
        obtain ⟨i, hi, hx⟩ := List.getElem_of_mem hx
        refine k4 i (by omega) ?_
        rw [← hx]
        simp only [← ht]
        rw [List.getElem_take, List.getElem?_eq_getElem]), htl]
    rw [hidx] at C1
    obtain ⟨A2, hs2, hsrc2⟩ := run_front8 A1 m c (k + 1) (by omega)
    have S2 := hsrc2 w P (bs.take m) hl1 (by omega) S1
    rw [hsplit] at S2
    have T2 := run_text w A2 (t ++ [10]) (k + 1) c (by simp; omega) S2
    have hs3 : ∀ X : World, (Instr.slice 22 (.slice A1 m c) none (some (.int .i64 ((k : Int) + 1))) none).run Tryz.prog X = .ok (.slice A2 (k + 1) c) X := fun X => by
      have := hs2 X
      rwa [show ((k + 1 : Nat) : Int) = (k : Int) + 1 by omega] at this
    have C := Lib.hid C1
    have CX := Lib.hid (suffix_any t (by omega) w)
    obtain ⟨x, q, hxq⟩ : ∃ x q, sufF t = (x, q) := ⟨_, _, rfl⟩
    have hxl : x.length ≤ 1000 := by
      have : (sufF t).1.length ≤ 1000 := by
        unfold sufF
        split
        · simp; omega
        · simp; omega
      rw [hxq] at this
      exact this
    rw [hxq] at CX
    have CC := Lib.hid (fun X : World => cut_any8 ⟨x.toArray⟩ X (by rw [← bl_length, bl_mk]; omega))
    rw [bl_mk] at CC
    unfold CutGot8 at CC
    have CH := Lib.hid (fun X : World => hex_any ⟨(x.takeWhile (· != 59)).toArray⟩ X)
    have CV := Lib.hid (fun X : World => ty_visible ⟨((x.dropWhile (· != 59)).drop 1).toArray⟩ X)
    rw [bl_mk] at CH CV
    unfold Read at CH
    have HK := Lib.hid (lineO_some (room := room) hk (show sizeF (bs.take k) = ((sizeF t).1, (sizeF t).2) by rw [ht]))
    rw [hR] at HK
    have HQ := Lib.hid (show q = false → sizeF t = (0, 20) from fun hq => by
      unfold sufF at hxq
      unfold sizeF
      by_cases h13 : t.getLast? = some 13
      · rw [if_pos h13] at hxq
        rw [hq] at hxq
        cases hxq
      · rw [if_pos h13])
    have HT := Lib.hid (show q = true → sizeF t = if visF ((x.dropWhile (· != 59)).drop 1) = false then (0, 20) else hexK (readF 16 (x.takeWhile (· != 59))) from fun hq => by
      unfold sufF at hxq
      by_cases h13 : t.getLast? = some 13
      · rw [if_pos h13] at hxq
        injection hxq with h1 h2
        obtain ⟨u, rfl⟩ := List.getLast?_eq_some_iff.1 h13
        rw [List.dropLast_concat] at h1
        rw [← h1]
        exact sizeF_cut u
      · rw [if_neg h13, hq] at hxq
        cases hxq)
    have HE := Lib.hid (readF_err 16 (x.takeWhile (· != 59)))
    have HM := Lib.hid (readF_some 16 (x.takeWhile (· != 59)))
    clear C1 S1 S2 hsrc1 hsrc2 h hk hR hidx hsplit ht hxq hs2 k3 k4
    generalize visF ((x.dropWhile (· != 59)).drop 1) = vis at *
    generalize readF 16 (x.takeWhile (· != 59)) = r at *
    generalize sizeF t = z at *
    generalize x.takeWhile (· != 59) = dg at *
    generalize (x.dropWhile (· != 59)).drop 1 = bh at *
    obtain ⟨nn, ee⟩ := r
    simp only at CH HE HM CX
    have hnn : nn ≤ 9007199254740991 := by rcases HM.out with h | h <;> unfold Most at * <;> omega
    have wnn : IntKind.i64.wrap (nn : Int) = (nn : Int) := by rw [IntKind.wrap_i64]; omega
    have wk : IntKind.i64.wrap ((k : Int) + 1) = (k : Int) + 1 := by rw [IntKind.wrap_i64]; omega
    have e0 : (((k : Int) + 1) == 0) = false := by simp; omega
    have hmin : min (n : Int) 64 = (m : Int) := by omega
    have eroom : ((0 : Int) == 0) = true := rfl
    have HZ := Lib.hid (show q = true → z = if vis = false then (0, 20) else hexK (nn, ee) from HT.out)
    clear HT
    go_enter Tryz.func119, Tryz.ntmps119
    go_wp2_with fail
    refine C.out.mono ?_
    rintro e w' ⟨rfl, rfl⟩
    go_wp2_with fail
    refine CX.out.mono ?_
    rintro e w1 ⟨rfl, rfl⟩
    go_wp2_with fail
    refine (CC.out _).mono ?_
    rintro e w2 ⟨fl, rfl, b2⟩
    have B2 := Lib.hid b2
    clear b2
    go_wp2_with fail
    refine (CH.out _).mono ?_
    rintro e w3 ⟨rfl, b3⟩
    have B3 := Lib.hid (B2.out.trans (b3.mono B2.out.size))
    clear b3
    cases q with
    | false =>
      have HF := Lib.hid (show R = (0, 0, 20) by rw [HK.out, HQ.out rfl]; rfl)
      go_wp2_with fail
      go_ret3
      exact SizeGot.mk HF.out rfl rfl rfl B3.out
    | true =>
      by_cases h5 : ee = 5
      · have d : ((ee : Int) == 5) = true := by simp; omega
        have HF := Lib.hid (show R = (0, 0, 20) by
          rw [HK.out, HZ.out rfl, h5]
          cases vis <;> rfl)
        clear h5
        go_wp2_with fail
        go_ret3
        exact SizeGot.mk HF.out rfl rfl rfl B3.out
      · have d : ((ee : Int) == 5) = false := by simp; omega
        cases vis with
        | false =>
          have HF := Lib.hid (show R = (0, 0, 20) by
            rw [HK.out, HZ.out rfl]; rfl)
          clear h5
          go_wp2_with fail
          refine (CV.out _).mono ?_
          rintro e w4 ⟨rfl, b4⟩
          have B4 := Lib.hid (B3.out.trans (b4.mono B3.out.size))
          clear b4
          go_wp2_with fail
          go_ret3
          exact SizeGot.mk HF.out rfl rfl rfl B4.out
        | true =>
          have HY := Lib.hid (show R = if (hexK (nn, ee)).2 ≠ 0 then (0, 0, (hexK (nn, ee)).2) else if room < (hexK (nn, ee)).1 then (0, 0, 21) else ((hexK (nn, ee)).1, k + 1, 0) by rw [HK.out, HZ.out rfl]; rfl)
          by_cases h3 : ee = 3
          · have d1 : ((ee : Int) != 0) = true := by simp; omega
            have HF := Lib.hid (show R = (0, 0, 21) by
              rw [HY.out, h3]; rfl)
            clear h5 h3
            go_wp2_with fail
            refine (CV.out _).mono ?_
            rintro e w4 ⟨rfl, b4⟩
            have B4 := Lib.hid (B3.out.trans (b4.mono B3.out.size))
            clear b4
            go_wp2_with fail
            go_ret3
            exact SizeGot.mk HF.out rfl rfl rfl B4.out
          · have h0 : ee = 0 := by rcases HE.out with h | h | h <;> omega
            have d1 : ((ee : Int) != 0) = false := by simp; omega
            have hx : hexK (nn, ee) = (nn, 0) := by unfold hexK; rw [if_neg h3, if_pos h0]
            by_cases hb : room < nn
            · have d2 : decide ((room : Int) < (nn : Int)) = true := decide_eq_true (by omega)
              have HF := Lib.hid (show R = (0, 0, 21) by
                rw [HY.out, hx, if_neg (by simp), if_pos hb])
              have d2n : decide (room < nn) = true := by simpa using hb
              clear h5 h3 h0 hx
              go_wp2_with fail
              refine (CV.out _).mono ?_
              rintro e w4 ⟨rfl, b4⟩
              have B4 := Lib.hid (B3.out.trans (b4.mono B3.out.size))
              clear b4
              go_wp2_with fail
              go_ret3
              exact SizeGot.mk HF.out rfl rfl rfl B4.out
            · have d2 : decide ((room : Int) < (nn : Int)) = false := decide_eq_false (by omega)
              have HF := Lib.hid (show R = (nn, k + 1, 0) by
                rw [HY.out, hx, if_neg (by simp), if_neg hb])
              have d2n : decide (room < nn) = false := by simpa using hb
              clear h5 h3 h0 hx
              go_wp2_with fail
              refine (CV.out _).mono ?_
              rintro e w4 ⟨rfl, b4⟩
              have B4 := Lib.hid (B3.out.trans (b4.mono B3.out.size))
              clear b4
              go_wp2_with fail
              go_ret3
              exact SizeGot.mk HF.out rfl (by omega) rfl B4.out
end Go.Proofs.YtemgfppclakdmaaGreatDoor
