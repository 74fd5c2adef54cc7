/-
  The landed chunk.Take: the walk from label to label.
  Conditions: those that each theorem names.
-/
import Derived.Test.YtilgljnmdfejmaaDoorCD
import Derived.Test.YtilgljnmdfejmaaDoorNC
import Derived.Test.YtilgljnmdfejmaaDoorUC
import Derived.Test.YtilgljnmdfejmaaDoorShelf
import Derived.Shelf.Bytes.SlIndexAt
import Derived.Lib.Bytealg
import Derived.Test.YtilgljnmdfejmaaDoorJ
import Derived.Test.YtilgljnmdfejmaaDoorKC
import Derived.Test.YtilgljnmdfejmaaDoorCG
import Derived.StillTailTactics
namespace Go.Proofs.YtilgljnmdfejmaaDoor
open Go.RowKit

theorem find_hit (d : UInt8) : ∀ (m r : List UInt8), d ∉ m → Lib.indexByte (m ++ d :: r) d = m.length
  | [], r, _ => by simp [Lib.indexByte]
  | c :: m, r, h => by
    have hc : (c == d) = false := by simp; exact fun e => h (by simp [e])
    have hm : d ∉ m := fun e => h (by simp [e])
    have := find_hit d m r hm
    simp only [List.cons_append, Lib.indexByte, hc, this]
    have h1 : ((m.length : Int) == -1) = false := by simp
    rw [h1]
    simp
theorem find_miss (d : UInt8) : ∀ (l : List UInt8), d ∉ l → Lib.indexByte l d = -1
  | [], _ => rfl
  | c :: l, h => by
    have hc : (c == d) = false := by simp; exact fun e => h (by simp [e])
    have hm : d ∉ l := fun e => h (by simp [e])
    simp [Lib.indexByte, hc, find_miss d l hm]
theorem cut_where : ∀ (l : List UInt8), (59 ∉ l ∧ l.takeWhile (· != 59) = l ∧ l.dropWhile (· != 59) = []) ∨ ∃ m r, l = m ++ 59 :: r ∧ 59 ∉ m ∧ l.takeWhile (· != 59) = m ∧ l.dropWhile (· != 59) = 59 :: r
  | [] => .inl ⟨by simp, rfl, rfl⟩
  | c :: l => by
    by_cases hc : c = 59
    · subst hc
      exact .inr ⟨[], l, rfl, by simp, rfl, rfl⟩
    · have hb : (c != 59) = true := by simpa using hc
      rw [List.takeWhile_cons, if_pos hb, List.dropWhile_cons, if_pos hb]
      rcases cut_where l with ⟨h1, h2, h3⟩ | ⟨m, r, h1, h2, h3, h4⟩
      · refine .inl ⟨?_, by rw [h2], h3⟩
        simp only [List.mem_cons, not_or]
        exact ⟨fun e => hc e.symm, h1⟩
      · refine .inr ⟨c :: m, r, by rw [h1]; rfl, ?_, by rw [h3], h4⟩
        simp only [List.mem_cons, not_or]
        exact ⟨fun e => hc e.symm, h2⟩

/-- strings.Cut at a ';'. -/
def CutGot8 (l : List UInt8) (w : World) (e : Ending) (w' : World) : Prop :=
  ∃ f : Bool, e = .returned (.tuple #[.string ⟨(l.takeWhile (· != 59)).toArray⟩, .string ⟨((l.dropWhile (· != 59)).drop 1).toArray⟩, .bool f]) ∧ Below w.heap.size w w'
set_option maxHeartbeats 2000000 in
theorem cut_in8 (s : ByteArray) (w : World) (hs : s.size ≤ 281474976710656) : Calls Tryd.prog 44 #[.string s, .string ⟨#[59]⟩] w (CutGot8 (bl s) w) := by
  have C0 := Tryd.stringslite_Index_one s 59 w
  rcases cut_where (bl s) with ⟨hm, h1, h2⟩ | ⟨m, r, hl, hm, h1, h2⟩
  · rw [show Lib.indexByte s.data.toList 59 = -1 from find_miss 59 _ hm] at C0
    have C := Lib.hid C0
    have H1 := Lib.hid h1
    have H2 := Lib.hid h2
    clear C0 hm h1 h2
    go_enter Tryd.func44, Tryd.ntmps44
    go_wp2_with fail
    refine C.out.mono ?_
    rintro e w' ⟨rfl, rfl⟩
    go_wp2_with fail
    go_ret3
    refine ⟨false, ?_, Below.refl _ _⟩
    rw [H1.out, H2.out, mk_bl]
    rfl
  · rw [show Lib.indexByte s.data.toList 59 = (m.length : Int) by rw [show s.data.toList = m ++ 59 :: r from hl]; exact find_hit 59 _ _ hm] at C0
    have C := Lib.hid C0
    have H1 := Lib.hid h1
    have H2 := Lib.hid h2
    have hsz : s.size = m.length + 1 + r.length := by rw [← bl_length, hl]; simp; omega
    have x1 : s.extract 0 m.length = ⟨m.toArray⟩ := by
      rw [← mk_bl (s.extract 0 m.length), extract_bl, piece_front, hl, List.take_left' rfl]
    have x2 : s.extract (m.length + 1) s.size = ⟨r.toArray⟩ := by
      rw [← mk_bl (s.extract (m.length + 1) s.size), extract_bl, piece_back, hl, show m ++ 59 :: r = (m ++ [59]) ++ r by simp, List.drop_left' (by simp)]
    have X1 := Lib.hid x1
    have X2 := Lib.hid x2
    clear C0 hm h1 h2 hl x1 x2
    have c1 : (0 : Int) ≤ (m.length : Int) := by omega
    have c2 : (m.length : Int) ≤ (s.size : Int) := by omega
    have c3 : (0 : Int) ≤ (m.length : Int) + 1 := by omega
    have c4 : (m.length : Int) + 1 ≤ (s.size : Int) := by omega
    have c5 : IntKind.i64.wrap ((m.length : Int) + 1) = (m.length : Int) + 1 := by rw [IntKind.wrap_i64]; omega
    have c6 : ((m.length : Int) + 1).toNat = m.length + 1 := by omega
    clear hsz
    go_enter Tryd.func44, Tryd.ntmps44
    go_wp2_with fail
    refine C.out.mono ?_
    rintro e v ⟨rfl, rfl⟩
    go_wp2_with fail
    go_quiet (fail)
    have HB : Hid (Below v.heap.size v (v.drewN nq)) := Lib.hid (below_drewN (Below.refl _ _) nq)
    go_wp2_with fail
    go_ret3
    refine ⟨true, ?_, HB.out⟩
    rw [H1.out, H2.out, ← X1.out, List.drop_one, List.tail_cons, ← X2.out]
    rfl
set_option maxHeartbeats 1000000 in
theorem cut_any8 (s : ByteArray) (w : World) (hs : s.size ≤ 281474976710656) : Calls Tryd.prog 27 #[.string s, .string ⟨#[59]⟩] w (CutGot8 (bl s) w) := by
  have C := Lib.hid (cut_in8 s w hs)
  unfold CutGot8 at C ⊢
  generalize (bl s).takeWhile (· != 59) = a at *
  generalize ((bl s).dropWhile (· != 59)).drop 1 = b at *
  go_enter Tryd.func27, Tryd.ntmps27
  go_wp2_with fail
  refine C.out.mono ?_
  rintro e w9 ⟨f, rfl, b9⟩
  go_wp2_with fail
  go_ret3
  exact ⟨f, rfl, b9⟩

set_option maxHeartbeats 1000000 in
set_option maxRecDepth 100000 in
theorem bindex_any {P : Nat → Prop} (w : World) (A : Option Addr) (bs : List UInt8) (n c : Nat) (hn : bs.length = n) (h : Src w P A bs) : Calls Tryd.prog 25 #[.slice A n c, .int .u8 10] w fun e w' => e = .returned (.int .i64 (Lib.indexByte bs 10)) ∧ w = w' := by
  have hrun : (Extern.BytealgIndexByte.indexByte #[.slice A n c, .int .u8 10]).run Tryd.prog w = .ok (.int .i64 (Lib.indexByte bs 10)) w := by
    cases A with
    | none =>
      have hb : bs = [] := by
        cases bs with
        | nil => rfl
        | cons b l => obtain ⟨ad, hA, _⟩ := h (by simp); cases hA
      subst hb
      exact Lib.run_indexByteNil w n c 10
    | some a =>
      have hx := Lib.run_indexByteAt (P := Tryd.prog) w a n c (bs.map fun x => (x.toNat : Int)) (by rw [List.length_map]; exact hn) (fun i hi => by
        obtain ⟨ad, hA, _, _, hc⟩ := h (by omega)
        injection hA with hA
        subst hA
        refine hc i _ ?_
        rw [vals_get, List.getElem?_eq_getElem (by omega), List.getD_eq_getElem?_getD, List.getElem?_map, List.getElem?_eq_getElem (by omega)]
        rfl) 10
      rw [hx]
      have e : Lib.bytesOf (bs.map fun x => (x.toNat : Int)) = bs := by
        unfold Lib.bytesOf
        rw [List.map_map]
        exact (List.map_congr_left (g := id) (fun x _ => by simp)).trans (List.map_id bs)
      rw [e]
      rfl
  have HR := Lib.hid hrun
  clear hrun h hn
  go_enter Tryd.func25, Tryd.ntmps25
  go_wp2
  rw [run_callFunc_extern Tryd.func42 (by kernel_rfl) (by kernel_rfl) (by kernel_rfl) (e := Extern.BytealgIndexByte.indexByte) (by kernel_rfl), HR.out]
  simp only [Result.andThen]
  rw [Oper.upon_value]
  go_wp2
  go_ret
  exact ⟨rfl, rfl⟩

/-- strings.CutSuffix of an end of a line. -/
def sufF (t : List UInt8) : List UInt8 × Bool := if t.getLast? = some 13 then (t.dropLast, true) else (t ++ [10], false)
theorem suffix_any (t : List UInt8) (ht : t.length ≤ 1000) (w : World) : Calls Tryd.prog 26 #[.string ⟨(t ++ [10]).toArray⟩, .string ⟨#[13, 10]⟩] w fun e w' => e = .returned (.tuple #[.string ⟨(sufF t).1.toArray⟩, .bool (sufF t).2]) ∧ w' = w := by
  have hz : (⟨(t ++ [10]).toArray⟩ : ByteArray).size ≤ 9223372036854775807 := by
    rw [← bl_length, bl_mk, List.length_append, List.length_singleton]
    omega
  have C := Tryd.strings_CutSuffix ⟨(t ++ [10]).toArray⟩ ⟨#[13, 10]⟩ w hz
  refine C.mono ?_
  intro e w' hq
  obtain ⟨he, hw⟩ := hq
  refine ⟨?_, hw⟩
  have hs : Lib.hasSuffix (t ++ [10]) [13, 10] = decide (t.getLast? = some 13) := by
    unfold Lib.hasSuffix
    rw [Bool.eq_iff_iff, List.isSuffixOf_iff_suffix, decide_eq_true_iff]
    constructor
    · rintro ⟨u, hu⟩
      have h1 : t = u ++ [13] := by
        have : u ++ [13] ++ [10] = t ++ [10] := by simpa using hu
        exact (List.append_cancel_right this).symm
      rw [h1]; simp
    · intro h
      obtain ⟨u, rfl⟩ := List.getLast?_eq_some_iff.1 h
      exact ⟨u, by simp⟩
  have e1 : (⟨(t ++ [10]).toArray⟩ : ByteArray).data.toList = t ++ [10] := List.toList_toArray
  have e2 : (⟨#[13, 10]⟩ : ByteArray).data.toList = [13, 10] := rfl
  rw [e1, e2] at he
  rw [he]
  clear he e1 e2
  unfold Lib.trimSuffix sufF
  rw [hs]
  by_cases h : t.getLast? = some 13
  · rw [if_pos (by simpa using h), if_pos h]
    obtain ⟨u, rfl⟩ := List.getLast?_eq_some_iff.1 h
    simp
  · rw [if_neg (by simpa using h), if_neg h]
    simp [h]

/-- What sizeOf tells. -/
def lineO (bs : List UInt8) (room : Nat) : Nat × Nat × Nat :=
  match lfF 64 bs with
  | none => (0, 0, if 64 ≤ bs.length then 21 else 8)
  | some k => if (sizeF (bs.take k)).2 ≠ 0 then (0, 0, (sizeF (bs.take k)).2) else if room < (sizeF (bs.take k)).1 then (0, 0, 21) else ((sizeF (bs.take k)).1, k + 1, 0)
theorem lineO_none {bs : List UInt8} {room : Nat} (h : lfF 64 bs = none) : lineO bs room = (0, 0, if 64 ≤ bs.length then 21 else 8) := by unfold lineO; rw [h]
theorem lineO_some {bs : List UInt8} {room k nn e : Nat} (h : lfF 64 bs = some k) (hs : sizeF (bs.take k) = (nn, e)) : lineO bs room = if e ≠ 0 then (0, 0, e) else if room < nn then (0, 0, 21) else (nn, k + 1, 0) := by
  unfold lineO; rw [h]; simp only [hs]
def SizeGot (L : Nat × Nat × Nat) (w : World) (e : Ending) (w' : World) : Prop := e = .returned (.tuple #[.int .i64 (L.1 : Int), .int .i64 (L.2.1 : Int), .int .i64 (L.2.2 : Int)]) ∧ Below w.heap.size w w'
theorem SizeGot.mk {L : Nat × Nat × Nat} {a b c : Nat} {x y z : Int} {w w' : World} (h : L = (a, b, c)) (hx : x = a) (hy : y = b) (hz : z = c) (hB : Below w.heap.size w w') : SizeGot L w (.returned (.tuple #[.int .i64 x, .int .i64 y, .int .i64 z])) w' := ⟨by rw [h, hx, hy, hz], hB⟩
theorem readF_err (b : Nat) (l : List UInt8) : (readF b l).2 = 0 ∨ (readF b l).2 = 3 ∨ (readF b l).2 = 5 := by
  unfold readF
  repeat' split
  all_goals simp
theorem sizeF_cut (u : List UInt8) : sizeF (u ++ [13]) = if visF ((u.dropWhile (· != 59)).drop 1) = false then (0, 20) else hexK (readF 16 (u.takeWhile (· != 59))) := by
  unfold sizeF hexK
  rw [if_neg (by simp), List.dropLast_concat]
  by_cases h : u.dropWhile (· != 59) = []
  · rw [h]
    rfl
  · simp only [h, ne_eq, not_false_eq_true, true_and]
theorem run_front8 (A : Option Addr) (n c k : Nat) (hk : k ≤ c) : ∃ A', (∀ W : World, (Instr.slice 22 (.slice A n c) none (some (.int .i64 (k : Int))) none).run Tryd.prog W = .ok (.slice A' k c) W) ∧
    ∀ (w : World) (P : Nat → Prop) (bs : List UInt8), bs.length = n → k ≤ n → Src w P A bs → Src w P A' (bs.take k) := by
  refine ⟨if c = 0 then A else A.map (·.add (0 * 1)), fun W => ?_, fun w P bs hn hkn h => ?_⟩
  · simp [Instr.slice, run_underlying Tryd.underlying22, Instr.sliceBounds, Instr.sliceBound, asIntOf, hk]
  · intro h0
    rw [List.length_take] at h0
    obtain ⟨ad, rfl, hP, hlt, hc⟩ := h (by omega)
    rw [if_neg (by omega)]
    refine ⟨ad.add (0 * 1), rfl, ?_, ?_, fun i v hv => ?_⟩
    · unfold Addr.add; split <;> exact hP
    · unfold Addr.add; split <;> exact hlt
    · rw [add_add_at, Nat.zero_mul, Nat.zero_add]
      refine hc _ v ?_
      rw [vals_take, List.getElem?_take] at hv
      split at hv
      · exact hv
      · cases hv

set_option maxHeartbeats 4000000 in
set_option maxRecDepth 100000 in
theorem sizeOf_any {P : Nat → Prop} (w : World) (A : Option Addr) (bs : List UInt8) (n c room : Nat) (hn : bs.length = n) (hnc : n ≤ c) (hmax : n ≤ 140737488355328) (hroom : room ≤ 4096) (h : Src w P A bs) :
    Calls Tryd.prog 16 #[.slice A n c, .int .i64 (room : Int)] w (SizeGot (lineO bs room) w) := by
  obtain ⟨m, hm⟩ : ∃ m, min n 64 = m := ⟨_, rfl⟩
  obtain ⟨R, hR⟩ : ∃ R, lineO bs room = R := ⟨_, rfl⟩
  obtain ⟨A1, hs1, hsrc1⟩ := run_front8 A n c m (by omega)
  have S1 := hsrc1 w P bs hn (by omega) h
  have hl1 : (bs.take m).length = m := by rw [List.length_take]; omega
  have C1 := bindex_any w A1 (bs.take m) m c hl1 S1
  rw [hR]
  have wroom : IntKind.u64.wrap (room : Int) = (room : Int) := by rw [IntKind.wrap_u64]; omega
  cases hk : lfF 64 bs with
  | none =>
    have hmiss := find_miss 10 (bs.take m) (fun hx => by
      obtain ⟨i, hi, hx⟩ := List.getElem_of_mem hx
      rw [hl1] at hi
      have := (lf_none 64 bs).1 hk i (by omega)
      apply this
      rw [← hx, List.getElem_take, List.getElem?_eq_getElem])
    rw [hmiss] at C1
    rw [lineO_none hk] at hR
    have C := Lib.hid C1
    have HR := Lib.hid hR
    have S0 : Src w P A (bs.take m) := by
      intro h0
      obtain ⟨ad, hA, hP, hlt, hc⟩ := h (by rw [List.length_take] at h0; omega)
      refine ⟨ad, hA, hP, hlt, fun i v hv => hc i v ?_⟩
      rw [vals_take, List.getElem?_take] at hv
      split at hv
      · exact hv
      · cases hv
    have C0 := bindex_any w A (bs.take m) m c hl1 S0
    rw [hmiss] at C0
    clear C1 S1 S0 hsrc1 h hk hR
    by_cases h64 : m = 64
    · subst h64
      have C2 := Lib.hid C0
      clear C0
      have HF := Lib.hid (show R = (0, 0, 21) by rw [← HR.out, if_pos (by omega)])
      have hmin : min (n : Int) 64 = ((64 : Nat) : Int) := by omega
      go_enter Tryd.func16, Tryd.ntmps16
      go_wp2_with fail
      refine C2.out.mono ?_
      rintro e w' ⟨rfl, rfl⟩
      go_wp2_with fail
      go_ret3
      exact SizeGot.mk HF.out rfl rfl rfl (Below.refl _ _)
    · clear C0
      have e1 : ((m : Int) == 64) = false := by simp; omega
      have HF := Lib.hid (show R = (0, 0, 8) by rw [← HR.out, if_neg (by omega)])
      have hmin : min (n : Int) 64 = (m : Int) := by omega
      go_enter Tryd.func16, Tryd.ntmps16
      go_wp2_with fail
      refine C.out.mono ?_
      rintro e w' ⟨rfl, rfl⟩
      go_wp2_with fail
      go_ret3
      exact SizeGot.mk HF.out rfl rfl rfl (Below.refl _ _)
  | some k =>
    obtain ⟨k1, k2, k3, k4⟩ := lf_some 64 bs k hk
    have hkm : k < m := by omega
    obtain ⟨t, ht⟩ : ∃ t, bs.take k = t := ⟨_, rfl⟩
    have htl : t.length = k := by rw [← ht, List.length_take]; omega
    have hsplit : (bs.take m).take (k + 1) = t ++ [10] := by
      rw [List.take_take, Nat.min_eq_left (by omega), List.take_add_one, k3, ht]
      rfl
    have hidx : Lib.indexByte (bs.take m) 10 = (k : Int) := by
      have h1 : bs.take m = t ++ 10 :: (bs.take m).drop (k + 1) := by
        conv => lhs; rw [← List.take_append_drop (k + 1) (bs.take m), hsplit]
        simp
      rw [h1, find_hit 10 t _ (fun hx => by
        obtain ⟨i, hi, hx⟩ := List.getElem_of_mem hx
        refine k4 i (by omega) ?_
        rw [← hx]
        simp only [← ht]
        rw [List.getElem_take, List.getElem?_eq_getElem]), htl]
    rw [hidx] at C1
    obtain ⟨A2, hs2, hsrc2⟩ := run_front8 A1 m c (k + 1) (by omega)
    have S2 := hsrc2 w P (bs.take m) hl1 (by omega) S1
    rw [hsplit] at S2
    have T2 := run_text w A2 (t ++ [10]) (k + 1) c (by simp; omega) S2
    have hs3 : ∀ X : World, (Instr.slice 22 (.slice A1 m c) none (some (.int .i64 ((k : Int) + 1))) none).run Tryd.prog X = .ok (.slice A2 (k + 1) c) X := fun X => by
      have := hs2 X
      rwa [show ((k + 1 : Nat) : Int) = (k : Int) + 1 by omega] at this
    have C := Lib.hid C1
    have CX := Lib.hid (suffix_any t (by omega) w)
    obtain ⟨x, q, hxq⟩ : ∃ x q, sufF t = (x, q) := ⟨_, _, rfl⟩
    have hxl : x.length ≤ 1000 := by
      have : (sufF t).1.length ≤ 1000 := by
        unfold sufF
        split
        · simp; omega
        · simp; omega
      rw [hxq] at this
      exact this
    rw [hxq] at CX
    have CC := Lib.hid (fun X : World => cut_any8 ⟨x.toArray⟩ X (by rw [← bl_length, bl_mk]; omega))
    rw [bl_mk] at CC
    unfold CutGot8 at CC
    have CH := Lib.hid (fun X : World => hex_any ⟨(x.takeWhile (· != 59)).toArray⟩ X)
    have CV := Lib.hid (fun X : World => ty_visible ⟨((x.dropWhile (· != 59)).drop 1).toArray⟩ X)
    rw [bl_mk] at CH CV
    unfold Read at CH
    have HK := Lib.hid (lineO_some (room := room) hk (show sizeF (bs.take k) = ((sizeF t).1, (sizeF t).2) by rw [ht]))
    rw [hR] at HK
    have HQ := Lib.hid (show q = false → sizeF t = (0, 20) from fun hq => by
      unfold sufF at hxq
      unfold sizeF
      by_cases h13 : t.getLast? = some 13
      · rw [if_pos h13] at hxq
        rw [hq] at hxq
        cases hxq
      · rw [if_pos h13])
    have HT := Lib.hid (show q = true → sizeF t = if visF ((x.dropWhile (· != 59)).drop 1) = false then (0, 20) else hexK (readF 16 (x.takeWhile (· != 59))) from fun hq => by
      unfold sufF at hxq
      by_cases h13 : t.getLast? = some 13
      · rw [if_pos h13] at hxq
        injection hxq with h1 h2
        obtain ⟨u, rfl⟩ := List.getLast?_eq_some_iff.1 h13
        rw [List.dropLast_concat] at h1
        rw [← h1]
        exact sizeF_cut u
      · rw [if_neg h13, hq] at hxq
        cases hxq)
    have HE := Lib.hid (readF_err 16 (x.takeWhile (· != 59)))
    have HM := Lib.hid (readF_some 16 (x.takeWhile (· != 59)))
    clear C1 S1 S2 hsrc1 hsrc2 h hk hR hidx hsplit ht hxq hs2 k3 k4
    generalize visF ((x.dropWhile (· != 59)).drop 1) = vis at *
    generalize readF 16 (x.takeWhile (· != 59)) = r at *
    generalize sizeF t = z at *
    generalize x.takeWhile (· != 59) = dg at *
    generalize (x.dropWhile (· != 59)).drop 1 = bh at *
    obtain ⟨nn, ee⟩ := r
    simp only at CH HE HM CX
    have hnn : nn ≤ 9007199254740991 := by rcases HM.out with h | h <;> unfold Most at * <;> omega
    have wnn : IntKind.i64.wrap (nn : Int) = (nn : Int) := by rw [IntKind.wrap_i64]; omega
    have wk : IntKind.i64.wrap ((k : Int) + 1) = (k : Int) + 1 := by rw [IntKind.wrap_i64]; omega
    have e0 : (((k : Int) + 1) == 0) = false := by simp; omega
    have hmin : min (n : Int) 64 = (m : Int) := by omega
    have eroom : ((0 : Int) == 0) = true := rfl
    have HZ := Lib.hid (show q = true → z = if vis = false then (0, 20) else hexK (nn, ee) from HT.out)
    clear HT
    go_enter Tryd.func16, Tryd.ntmps16
    go_wp2_with fail
    refine C.out.mono ?_
    rintro e w' ⟨rfl, rfl⟩
    go_wp2_with fail
    refine CX.out.mono ?_
    rintro e w1 ⟨rfl, rfl⟩
    go_wp2_with fail
    refine (CC.out _).mono ?_
    rintro e w2 ⟨fl, rfl, b2⟩
    have B2 := Lib.hid b2
    clear b2
    go_wp2_with fail
    refine (CH.out _).mono ?_
    rintro e w3 ⟨rfl, b3⟩
    have B3 := Lib.hid (B2.out.trans (b3.mono B2.out.size))
    clear b3
    cases q with
    | false =>
      have HF := Lib.hid (show R = (0, 0, 20) by rw [HK.out, HQ.out rfl]; rfl)
      go_wp2_with fail
      go_ret3
      exact SizeGot.mk HF.out rfl rfl rfl B3.out
    | true =>
      by_cases h5 : ee = 5
      · have d : ((ee : Int) == 5) = true := by simp; omega
        have HF := Lib.hid (show R = (0, 0, 20) by
          rw [HK.out, HZ.out rfl, h5]
          cases vis <;> rfl)
        clear h5
        go_wp2_with fail
        go_ret3
        exact SizeGot.mk HF.out rfl rfl rfl B3.out
      · have d : ((ee : Int) == 5) = false := by simp; omega
        cases vis with
        | false =>
          have HF := Lib.hid (show R = (0, 0, 20) by
            rw [HK.out, HZ.out rfl]; rfl)
          clear h5
          go_wp2_with fail
          refine (CV.out _).mono ?_
          rintro e w4 ⟨rfl, b4⟩
          have B4 := Lib.hid (B3.out.trans (b4.mono B3.out.size))
          clear b4
          go_wp2_with fail
          go_ret3
          exact SizeGot.mk HF.out rfl rfl rfl B4.out
        | true =>
          have HY := Lib.hid (show R = if (hexK (nn, ee)).2 ≠ 0 then (0, 0, (hexK (nn, ee)).2) else if room < (hexK (nn, ee)).1 then (0, 0, 21) else ((hexK (nn, ee)).1, k + 1, 0) by rw [HK.out, HZ.out rfl]; rfl)
          by_cases h3 : ee = 3
          · have d1 : ((ee : Int) != 0) = true := by simp; omega
            have HF := Lib.hid (show R = (0, 0, 21) by
              rw [HY.out, h3]; rfl)
            clear h5 h3
            go_wp2_with fail
            refine (CV.out _).mono ?_
            rintro e w4 ⟨rfl, b4⟩
            have B4 := Lib.hid (B3.out.trans (b4.mono B3.out.size))
            clear b4
            go_wp2_with fail
            go_ret3
            exact SizeGot.mk HF.out rfl rfl rfl B4.out
          · have h0 : ee = 0 := by rcases HE.out with h | h | h <;> omega
            have d1 : ((ee : Int) != 0) = false := by simp; omega
            have hx : hexK (nn, ee) = (nn, 0) := by unfold hexK; rw [if_neg h3, if_pos h0]
            by_cases hb : room < nn
            · have d2 : decide ((room : Int) < (nn : Int)) = true := decide_eq_true (by omega)
              have HF := Lib.hid (show R = (0, 0, 21) by
                rw [HY.out, hx, if_neg (by simp), if_pos hb])
              have d2n : decide (room < nn) = true := by simpa using hb
              clear h5 h3 h0 hx
              go_wp2_with fail
              refine (CV.out _).mono ?_
              rintro e w4 ⟨rfl, b4⟩
              have B4 := Lib.hid (B3.out.trans (b4.mono B3.out.size))
              clear b4
              go_wp2_with fail
              go_ret3
              exact SizeGot.mk HF.out rfl rfl rfl B4.out
            · have d2 : decide ((room : Int) < (nn : Int)) = false := decide_eq_false (by omega)
              have HF := Lib.hid (show R = (nn, k + 1, 0) by
                rw [HY.out, hx, if_neg (by simp), if_neg hb])
              have d2n : decide (room < nn) = false := by simpa using hb
              clear h5 h3 h0 hx
              go_wp2_with fail
              refine (CV.out _).mono ?_
              rintro e w4 ⟨rfl, b4⟩
              have B4 := Lib.hid (B3.out.trans (b4.mono B3.out.size))
              clear b4
              go_wp2_with fail
              go_ret3
              exact SizeGot.mk HF.out rfl (by omega) rfl B4.out
end Go.Proofs.YtilgljnmdfejmaaDoor

namespace Go.Proofs.YtilgljnmdfejmaaDoor
open Go.RowKit

/-- Two labels. -/
theorem wp_scope_two {P : Program} {a : Act} {w : World} {Q : Exit → Act → World → Prop} {c : Code} (J : Nat → Nat → Act → World → Prop) (hJ : ∀ l m a w, J l m a w → l < 2) (p1 : Pass P c Q J 1) (p0 : Pass P c Q J 0)
    (first : Pass P c Q J 0 → c.wp P (jumpTo (fun l a w => ∃ m, J l m a w) Q) a w) : (Code.scope c).wp P Q a w := by
  refine wp_scope_labels J (first p0) fun l m a w h => ?_
  have hl := hJ l m a w h
  match l, hl, h with
  | 0, _, h => exact p0.whole h
  | 1, _, h => exact p1.whole h
set_option maxHeartbeats 1000000 in
set_option maxRecDepth 100000 in
theorem clone8_any (w : World) (a : Addr) (bs : List UInt8) (n c : Nat) (hn : bs.length = n) (hmax : n ≤ 140737488355328) (h : Src w (fun _ => True) (some a) bs) :
    Calls Tryd.prog 18 #[.slice (some a) n c] w fun e w' => ∃ v o, e = .returned v ∧ Own w' v o bs ∧ (∀ b, o = some b → w.heap.size ≤ b) ∧ Below w.heap.size w w' := by
  have b0 : Below w.heap.size w (w.alloc (.cells #[] 5)) := (Below.refl _ _).alloc (Nat.le_refl _) _
  obtain ⟨v1, w1, o1, hrun, own1, t1, f1⟩ := run_append_src (w.alloc (.cells #[] 5)) _ _ [] bs (Own.built w) (some a) n c hn (h.kept (Turn.of_below (S := fun _ => False) b0) (fun _ _ h => h)) (by simp; omega)
  rw [List.nil_append] at own1
  have b1 : Below w.heap.size w w1 := below_own b0 (fun b hb => by injection hb with hb; omega) t1
  have R1 := Lib.hid hrun
  have B1 := Lib.hid b1
  have O1 := Lib.hid own1
  have F1 := Lib.hid (show ∀ b, o1 = some b → w.heap.size ≤ b from fun b hb => by
    rcases f1 with h | h
    · rw [h] at hb; injection hb with hb; omega
    · rw [h] at hb; injection hb with hb; have := b0.size; omega)
  have hnil : ∀ X : World, (binOp .eql 22 (.slice (some a) n c) (.slice none 0 0)).run Tryd.prog X = .ok (.bool false) X := fun X => Lib.run_eql_slice_nil X 22 5 (some a) n c 0 0 Tryd.underlying22
  clear b0 hrun own1 t1 f1 b1 h
  go_enter Tryd.func18, Tryd.ntmps18
  go_wp2_with (at_builtin; refine append_by rfl (.tmp 5) (.tmp 6) 22 rfl _ _ v1 w1 rfl rfl R1.out ?_)
  go_ret
  exact ⟨v1, o1, rfl, O1.out, F1.out, B1.out⟩

/-- A copy whose run is known, at a step of a region that draws its order. -/
theorem step_copy_by {P : Program} {w : World} {ops : Array Oper} {o : Oper} {a : Act} {K : Act → World → Prop} {Q : Exit → Act → World → Prop} {E : Prop} (hgd : o.guard = none) (s x : Operand) (t t' : TypeId)
    (ho : o.op = .call { callee := .builtin .copy, args := #[s, x], argTypes := #[t, t'] }) (v xv v' : Value) (w' : World) (hs : a.eval s = v) (hx : a.eval x = xv)
    (hrun : (Builtin.copy_ #[t, t'] o.type #[v, xv]).run P w = .ok v' w') (h : K (a.put o.dst v') w') : if Region.wanted o (yielded ops a.tmps) = true then Oper.wp P o a w K Q else E := by
  have hw : Region.wanted o (yielded ops a.tmps) = true := by simp [Region.wanted, hgd]
  rw [if_pos hw]
  unfold Oper.wp execOp
  simp only [ho, resolve, invoke, builtin, Sem.run_bind, Sem.run_pure, Result.andThen_ok, List.map_toArray, List.map_cons, List.map_nil, hs, hx, hrun]
  exact h
/-- A copy whose run is known, at its place in a walk. -/
theorem copy_by {P : Program} {w : World} {ops : Array Oper} {rest : List Oper} {o : Oper} {a : Act} {Q : Exit → Act → World → Prop} (hgd : o.guard = none) (s x : Operand) (t t' : TypeId)
    (ho : o.op = .call { callee := .builtin .copy, args := #[s, x], argTypes := #[t, t'] }) (v xv v' : Value) (w' : World) (hs : a.eval s = v) (hx : a.eval x = xv)
    (hrun : (Builtin.copy_ #[t, t'] o.type #[v, xv]).run P w = .ok v' w') (h : wpList P ops Q rest (a.put o.dst v') w') : wpList P ops Q (o :: rest) a w := by
  refine wpList_plain hgd fun K hK => ?_
  unfold Oper.wp execOp
  simp only [ho, resolve, invoke, builtin, Sem.run_bind, Sem.run_pure, Result.andThen_ok, List.map_toArray, List.map_cons, List.map_nil, hs, hx, hrun]
  exact hK _ _ h

/-- The array of the body. -/
def RoomAt (g : Nat) (body : List UInt8) (w : World) : Prop := ∃ rest : List UInt8, Is w g 43 (vals (body ++ rest)) ∧ (body ++ rest).length = 4096
theorem room_run (W : World) : (Instr.alloc 43 true (.tuple #[])).run Tryd.prog W = .ok (.pointer (some ⟨W.heap.size, 0, none⟩)) (W.alloc (.cells Tryd.zeroCells43 43)) := by
  unfold Instr.alloc
  rw [Sem.run_bind, Tryd.zeroValue43]
  rfl
theorem room_cells : Tryd.zeroCells43 = (vals (List.replicate 4096 0)).toArray := by kernel_rfl
theorem room_made (W : World) : RoomAt W.heap.size [] (W.alloc (.cells Tryd.zeroCells43 43)) := by
  refine ⟨List.replicate 4096 0, ?_, by rw [List.nil_append, List.length_replicate]⟩
  rw [room_cells, List.nil_append]
  exact Is.made W _ _
theorem RoomAt.kept {g : Nat} {body : List UInt8} {w w' : World} {S : Nat → Prop} (h : RoomAt g body w) (ht : Turn S w w') (hg : ¬ S g) : RoomAt g body w' := by
  obtain ⟨rest, h1, h2⟩ := h
  exact ⟨rest, h1.kept ht hg, h2⟩
theorem RoomAt.lt {g : Nat} {body : List UInt8} {w : World} (h : RoomAt g body w) : g < w.heap.size := by
  obtain ⟨rest, h1, h2⟩ := h
  exact h1.lt
theorem RoomAt.src {g : Nat} {body : List UInt8} {w : World} (h : RoomAt g body w) : Src w (fun _ => True) (some ⟨g, 0, none⟩) body := by
  obtain ⟨rest, h1, h2⟩ := h
  intro h0
  refine ⟨_, rfl, trivial, h1.lt, fun i v hv => ?_⟩
  rw [add_at, Nat.zero_add, h1.cell, vals_append]
  have hi := (List.getElem?_eq_some_iff.1 hv).1
  rw [List.getElem?_append_left hi]
  exact hv
theorem splice_room (body rest x : List UInt8) (k : Nat) (hk : body.length = k) : splice (vals (body ++ rest)) k (vals x) = vals ((body ++ x) ++ rest.drop x.length) := by
  subst hk
  unfold splice
  rw [vals_append, List.take_left' (vals_length body), vals_length, List.drop_append, vals_length]
  rw [List.drop_of_length_le (by rw [vals_length]; omega), List.nil_append, show body.length + x.length - body.length = x.length by omega, ← vals_drop, vals_append, vals_append, List.append_assoc]
/-- Bytes are copied behind those that the array has. -/
theorem room_copy (w : World) (g : Nat) (body x : List UInt8) (k sz dLen dCap sLen sCap : Nat) (A : Option Addr) (hr : RoomAt g body w) (hk : body.length = k) (hx : x.length = sz) (hfit : k + sz ≤ 4096) (hd : sz ≤ dLen) (hs : sLen = sz) (hsrc : Src w (fun b => b < g) A x) :
    ∃ w', (Builtin.copy_ #[22, 22] 3 #[.slice (some ⟨g, k, none⟩) dLen dCap, .slice A sLen sCap]).run Tryd.prog w = .ok (.int .i64 (sz : Int)) w' ∧ RoomAt g (body ++ x) w' ∧ Turn (· = g) w w' := by
  obtain ⟨rest, h1, h2⟩ := hr
  rw [List.length_append] at h2
  obtain ⟨w', hrun, his, ht, _⟩ := run_copy_in (P := Tryd.prog) w 22 22 3 5 Tryd.underlying22 byteSize (some ⟨g, k, none⟩) A dLen dCap sLen sCap sz g k (vals (body ++ rest)) 43 h1 (vals x) (by rw [vals_length]; exact hx)
    (by rw [hs]; exact (Nat.min_eq_left hd).symm) (fun h0 => by
      obtain ⟨ad, hA, _, _, hc⟩ := hsrc (by omega)
      exact ⟨rfl, ad, hA, hc⟩) (by rw [vals_length, List.length_append]; omega) (vals_one x)
  rw [splice_room body rest x k hk] at his
  exact ⟨w', hrun, ⟨rest.drop x.length, his, by simp; omega⟩, ht⟩

/-- The trailer, from a place on. -/
def trailG (bs body : List UInt8) (at1 : Nat) : Tk := if (parseH (bs.drop at1)).2.2 = 0 then (body, at1 + (parseH (bs.drop at1)).2.1, 0) else ([], 0, (parseH (bs.drop at1)).2.2)
/-- One round of the plain machine, by what the size line tells. -/
theorem line_take (bs body : List UInt8) (at0 f : Nat) (hb : body.length ≤ 4096) (L : Nat × Nat × Nat) (hL : lineO (bs.drop at0) (4096 - body.length) = L) :
    (L.2.2 ≠ 0 → takeG (f + 1) at0 body (bs.drop at0) = ([], 0, L.2.2)) ∧
    (L.2.2 = 0 → 0 < L.2.1 ∧ at0 + L.2.1 ≤ bs.length ∧ body.length + L.1 ≤ 4096 ∧ takeG (f + 1) at0 body (bs.drop at0) =
      if L.1 = 0 then trailG bs body (at0 + L.2.1)
      else if bs.length < at0 + L.2.1 + L.1 + 2 then ([], 0, 8)
      else if bs[at0 + L.2.1 + L.1]? ≠ some 13 ∨ bs[at0 + L.2.1 + L.1 + 1]? ≠ some 10 then ([], 0, 20)
      else takeG f (at0 + L.2.1 + L.1 + 2) (body ++ (bs.drop (at0 + L.2.1)).take L.1) (bs.drop (at0 + L.2.1 + L.1 + 2))) := by
  cases hk : lfF 64 (bs.drop at0) with
  | none =>
    rw [lineO_none hk] at hL
    rw [takeG_none hk, ← hL]
    refine ⟨fun _ => rfl, fun h => ?_⟩
    simp only at h
    split at h <;> cases h
  | some k =>
    obtain ⟨_, hkl, _, _⟩ := lf_some 64 _ k hk
    rw [List.length_drop] at hkl
    obtain ⟨nn, e, hs⟩ : ∃ nn e, sizeF ((bs.drop at0).take k) = (nn, e) := ⟨_, _, rfl⟩
    rw [lineO_some hk hs] at hL
    have hr := take_round bs body at0 (at0 + k) f nn e (by omega) (by omega) (by rw [Nat.add_sub_cancel_left]; exact hk) (by rw [Nat.add_sub_cancel_left]; exact hs)
    rw [hr]
    by_cases he : e = 0
    · rw [if_neg (by omega)] at hL
      rw [if_neg (by omega)]
      by_cases hb2 : 4096 < body.length + nn
      · rw [if_pos (by omega)] at hL
        rw [if_pos hb2, ← hL]
        exact ⟨fun _ => rfl, fun h => by cases h⟩
      · rw [if_neg (by omega)] at hL
        rw [if_neg hb2, ← hL]
        refine ⟨fun h => absurd rfl h, fun _ => ⟨by simp, by simp only; omega, by simp only; omega, ?_⟩⟩
        simp only [← Nat.add_assoc]
        rfl
    · rw [if_pos he] at hL
      rw [if_pos he, ← hL]
      exact ⟨fun _ => rfl, fun h => absurd h he⟩
theorem two_at (bs : List UInt8) (k : Nat) (x y : UInt8) (hx : bs[k]? = some x) (hy : bs[k + 1]? = some y) : (bs.drop k).take 2 = [x, y] := by
  obtain ⟨h1, h2⟩ := List.getElem?_eq_some_iff.1 hx
  obtain ⟨h3, h4⟩ := List.getElem?_eq_some_iff.1 hy
  rw [List.drop_eq_getElem_cons h1, List.drop_eq_getElem_cons h3, h2, h4]
  rfl

/-- The frame, wherever the run stands. -/
def PF8 (A : Option Addr) (n c g : Nat) (vh va : Value) (a : Act) : Prop := ∃ u : Nat → Value, a = { tmps := #[.slice A n c, u 1, u 2, u 3, u 4, .pointer (some ⟨g, 0, none⟩), vh, va, u 8, u 9, u 10, u 11, u 12, u 13, u 14, u 15, u 16, u 17, u 18, u 19, u 20, u 21, u 22, u 23, u 24, u 25, u 26, u 27, u 28, u 29, u 30, u 31, u 32, u 33, u 34, u 35, u 36, u 37, u 38, u 39, u 40, u 41, u 42, u 43, u 44, u 45, u 46, u 47, u 48, u 49, u 50, u 51, u 52, u 53, u 54, u 55, u 56, u 57, u 58, u 59, u 60, u 61, u 62, u 63, u 64, u 65, u 66, u 67, u 68, u 69, u 70, u 71, u 72, u 73, u 74, u 75, u 76, u 77, u 78], defers := [] }
theorem PF8.mk {A : Option Addr} {n c g : Nat} {vh va : Value} {x1 x2 x3 x4 x8 x9 x10 x11 x12 x13 x14 x15 x16 x17 x18 x19 x20 x21 x22 x23 x24 x25 x26 x27 x28 x29 x30 x31 x32 x33 x34 x35 x36 x37 x38 x39 x40 x41 x42 x43 x44 x45 x46 x47 x48 x49 x50 x51 x52 x53 x54 x55 x56 x57 x58 x59 x60 x61 x62 x63 x64 x65 x66 x67 x68 x69 x70 x71 x72 x73 x74 x75 x76 x77 x78 : Value} : PF8 A n c g vh va { tmps := #[.slice A n c, x1, x2, x3, x4, .pointer (some ⟨g, 0, none⟩), vh, va, x8, x9, x10, x11, x12, x13, x14, x15, x16, x17, x18, x19, x20, x21, x22, x23, x24, x25, x26, x27, x28, x29, x30, x31, x32, x33, x34, x35, x36, x37, x38, x39, x40, x41, x42, x43, x44, x45, x46, x47, x48, x49, x50, x51, x52, x53, x54, x55, x56, x57, x58, x59, x60, x61, x62, x63, x64, x65, x66, x67, x68, x69, x70, x71, x72, x73, x74, x75, x76, x77, x78], defers := [] } := ⟨fun i => ([undef, x1, x2, x3, x4, undef, undef, undef, x8, x9, x10, x11, x12, x13, x14, x15, x16, x17, x18, x19, x20, x21, x22, x23, x24, x25, x26, x27, x28, x29, x30, x31, x32, x33, x34, x35, x36, x37, x38, x39, x40, x41, x42, x43, x44, x45, x46, x47, x48, x49, x50, x51, x52, x53, x54, x55, x56, x57, x58, x59, x60, x61, x62, x63, x64, x65, x66, x67, x68, x69, x70, x71, x72, x73, x74, x75, x76, x77, x78] : List Value).getD i undef, rfl⟩
/-- What holds wherever the run stands. -/
structure Cm8 (W : World) (g : Nat) (A : Option Addr) (bs body : List UInt8) (w : World) : Prop where
  room : RoomAt g body w
  below : Below W.heap.size W w
  size : W.heap.size = g
  src : Src w (fun b => b < g) A bs
theorem Cm8.stay {W : World} {g : Nat} {A : Option Addr} {bs body : List UInt8} {w w' : World} (h : Cm8 W g A bs body w) (hb : Below w.heap.size w w') : Cm8 W g A bs body w' := by
  have ht : Turn (fun _ => False) w w' := Turn.of_below hb
  exact ⟨h.room.kept ht (fun h => h), h.below.trans (hb.mono h.below.size), h.size, h.src.kept ht (fun _ _ h => h)⟩
theorem Cm8.turn {W : World} {g : Nat} {A : Option Addr} {bs body body' : List UInt8} {w w' : World} (h : Cm8 W g A bs body w) (ht : Turn (· = g) w w') (hr : RoomAt g body' w') : Cm8 W g A bs body' w' := by
  have hs := h.size
  exact ⟨hr, h.below.trans ⟨ht.os, ht.tape, ht.output, ht.size, fun b hb => ht.block b (by have := h.below.size; omega) (by omega)⟩, h.size, h.src.kept ht (fun b hb e => by omega)⟩
/-- What holds at a jump to a label. -/
def JP8 (W : World) (g : Nat) (A : Option Addr) (n c : Nat) (bs : List UInt8) (R : Tk) (lb m : Nat) (a : Act) (w : World) : Prop :=
  ∃ (at0 : Nat) (body : List UInt8), PF8 A n c g (.int .i64 (body.length : Int)) (.int .i64 (at0 : Int)) a ∧ Cm8 W g A bs body w ∧ at0 ≤ n ∧ body.length ≤ 4096 ∧
    match lb with
    | 0 => m = n - at0 + 1 ∧ ∃ f, n - at0 < f ∧ takeG f at0 body (bs.drop at0) = R
    | 1 => m = 0 ∧ trailG bs body at0 = R
    | _ => False
theorem JP8.at0 {W w : World} {g : Nat} {A : Option Addr} {n c : Nat} {bs body : List UInt8} {R : Tk} {a : Act} {vh : Value} {at0 f : Nat} (hv : vh = .int .i64 (body.length : Int)) {va : Value} (hva : va = .int .i64 (at0 : Int)) (hf : PF8 A n c g vh va a) (hc : Cm8 W g A bs body w) (h1 : at0 ≤ n) (h2 : body.length ≤ 4096) (h3 : n - at0 < f) (h4 : takeG f at0 body (bs.drop at0) = R) : JP8 W g A n c bs R 0 (n - at0 + 1) a w :=
  ⟨at0, body, by rw [← hv, ← hva]; exact hf, hc, h1, h2, rfl, f, h3, h4⟩
theorem JP8.at1 {W w : World} {g : Nat} {A : Option Addr} {n c : Nat} {bs body : List UInt8} {R : Tk} {a : Act} {at0 : Nat} {va : Value} (hva : va = .int .i64 (at0 : Int)) (hf : PF8 A n c g (.int .i64 (body.length : Int)) va a) (hc : Cm8 W g A bs body w) (h1 : at0 ≤ n) (h2 : body.length ≤ 4096) (h4 : trailG bs body at0 = R) : JP8 W g A n c bs R 1 0 a w :=
  ⟨at0, body, by rw [← hva]; exact hf, hc, h1, h2, rfl, h4⟩
theorem run_tail8 (A : Option Addr) (n c k : Nat) (hk : k ≤ n) (hn : n ≤ c) : ∃ A', (∀ W : World, (Instr.slice 22 (.slice A n c) (some (.int .i64 (k : Int))) none none).run Tryd.prog W = .ok (.slice A' (n - k) (c - k)) W) ∧
    ∀ (w : World) (P : Nat → Prop) (bs : List UInt8), bs.length = n → Src w P A bs → Src w P A' (bs.drop k) := by
  obtain ⟨A', h1, h2⟩ := run_cut A n c k hk hn
  refine ⟨A', h1, fun w P bs hb h h0 => ?_⟩
  rw [List.length_drop] at h0
  have := h.part k (n - k) (by omega)
  rw [List.take_of_length_le (by rw [List.length_drop]; omega)] at this
  obtain ⟨ad, hA, r⟩ := this (by rw [List.length_drop]; omega)
  exact ⟨ad, by rw [h2 (by omega)]; exact hA, r⟩

set_option maxHeartbeats 16000000 in
set_option maxRecDepth 100000 in
theorem take_any (W : World) (A : Option Addr) (bs : List UInt8) (n c : Nat) (hn : bs.length = n) (hnc : n ≤ c) (hmax : n ≤ 140737488351232) (h : Src W (fun _ => True) A bs) :
    Calls Tryd.prog 8 #[.slice A n c] W (TakeGot (takeF bs) W) := by
  obtain ⟨R, hR⟩ : ∃ R, takeF bs = R := ⟨_, rfl⟩
  obtain ⟨g, hg⟩ : ∃ g, W.heap.size = g := ⟨_, rfl⟩
  have HS0 := Lib.hid (h.mono (P' := fun b => b < g) (fun k hk _ => by omega))
  have HG := Lib.hid hg
  have HN := Lib.hid hn
  have HR := Lib.hid hR
  rw [hR]
  clear h hg hn hR
  go_enter Tryd.func8, Tryd.ntmps8
  go_wp2_with fail
  refine wp_scope_two (JP8 W g A n c bs R) ?hJ ?p1 ?p0 ?first
  case hJ =>
    rintro l m a w ⟨at0, body, _, _, _, _, hm⟩
    match l, hm with
    | 0, _ => omega
    | 1, _ => omega
  case p1 =>
    rintro m a w ⟨at0, body, ⟨u, rfl⟩, hcm, hat, hbl, rfl, htr⟩
    refine ⟨_, rfl, ?_⟩
    obtain ⟨A1, hs1, hsrc1⟩ := run_tail8 A n c at0 hat hnc
    have HTR := Lib.hid htr
    have CP := Lib.hid (parse_any w A1 (bs.drop at0) (n - at0) (c - at0) (by rw [List.length_drop, HN.out]) (by omega) (by omega) (hsrc1 w _ bs HN.out hcm.src))
    have HPU := run_used (bs.drop at0)
    rw [List.length_drop, HN.out] at HPU
    have hsl : ∀ X : World, (Instr.sliceAt 43 (.pointer (some ⟨g, 0, none⟩)) none (some (.int .i64 (body.length : Int))) none).run Tryd.prog X = .ok (.slice (some ⟨g, 0, none⟩) body.length 4096) X := fun X => by
      have hal : Tryd.prog.arrayLen 43 = 4096 := by kernel_rfl
      rw [run_sliceAt_array_h X 43 ⟨g, 0, none⟩ (by kernel_rfl) .i64 (body.length : Int) (by omega) (by rw [hal]; omega)]
      go_simp
    unfold HeadGot at CP
    unfold trailG at HTR
    generalize parseH (bs.drop at0) = q at *
    obtain ⟨ql, qu, qe⟩ := q
    simp only at CP HTR HPU
    have HCM := Lib.hid hcm
    clear hcm htr hsrc1
    go_wp2_with fail
    refine CP.out.mono ?_
    rintro e w1 ⟨v1, o1, rfl, own1, f1, b1⟩
    have HC1 := Lib.hid (HCM.out.stay b1)
    clear own1 f1 b1
    by_cases hq : qe = 0
    · have e0 : ((qe : Int) != 0) = false := by subst hq; rfl
      have HF := Lib.hid (HTR.out.symm.trans (if_pos hq))
      have wr : IntKind.i64.wrap ((at0 : Int) + (qu : Int)) = (at0 : Int) + (qu : Int) := by rw [IntKind.wrap_i64]; omega
      have CC := Lib.hid (clone8_any w1 ⟨g, 0, none⟩ body body.length 4096 rfl (by omega) HC1.out.room.src)
      clear hq HTR
      go_wp2_with fail
      refine CC.out.mono ?_
      rintro e w2 ⟨v2, o2, rfl, own2, f2, b2⟩
      have O2 := Lib.hid own2
      have F2 := Lib.hid f2
      have B2 := Lib.hid (HC1.out.below.trans (b2.mono HC1.out.below.size))
      have Z1 := Lib.hid HC1.out.below.size
      clear own2 f2 b2
      go_wp2_with fail
      rw [jumpTo_ret]
      go_ret3
      refine ⟨v2, o2, take_tell HF.out (by omega), by rw [HF.out]; exact O2.out, fun b hb => ?_, B2.out⟩
      have := F2.out b hb
      have := Z1.out
      omega
    · have e0 : ((qe : Int) != 0) = true := by simp; omega
      have HF := Lib.hid (HTR.out.symm.trans (if_neg hq))
      have B1 := Lib.hid HC1.out.below
      clear hq HTR
      go_wp2_with fail
      rw [jumpTo_ret]
      go_ret3
      exact take_stop HF.out rfl B1.out
  case p0 =>
    rintro m a w ⟨at0, body, ⟨u, rfl⟩, hcm, hat, hbl, rfl, f, hf, hrun⟩
    refine ⟨_, rfl, ?_⟩
    obtain ⟨f, rfl⟩ : ∃ f', f = f' + 1 := ⟨f - 1, by omega⟩
    obtain ⟨A1, hs1, hsrc1⟩ := run_tail8 A n c at0 hat hnc
    have CZ0 := sizeOf_any w A1 (bs.drop at0) (n - at0) (c - at0) (4096 - body.length) (by rw [List.length_drop, HN.out]) (by omega) (by omega) (by omega) (hsrc1 w _ bs HN.out hcm.src)
    rw [show ((4096 - body.length : Nat) : Int) = 4096 - (body.length : Int) by omega] at CZ0
    obtain ⟨L, hL⟩ : ∃ L, lineO (bs.drop at0) (4096 - body.length) = L := ⟨_, rfl⟩
    obtain ⟨hlt1, hlt2⟩ := line_take bs body at0 f hbl L hL
    rw [hL] at CZ0
    rw [hrun, HN.out] at hlt2
    rw [hrun] at hlt1
    obtain ⟨sz, us, er⟩ := L
    unfold SizeGot at CZ0
    simp only at CZ0 hlt1 hlt2
    have CZ := Lib.hid CZ0
    have HL1 := Lib.hid hlt1
    have HL2 := Lib.hid hlt2
    have HCM := Lib.hid hcm
    have wr0 : IntKind.i64.wrap (4096 - (body.length : Int)) = 4096 - (body.length : Int) := by rw [IntKind.wrap_i64]; omega
    clear hcm hrun hL hlt1 hlt2 CZ0 hsrc1
    go_wp2_with fail
    refine CZ.out.mono ?_
    rintro e w1 ⟨rfl, b1⟩
    have HC1 := Lib.hid (HCM.out.stay b1)
    clear b1
    by_cases he : er = 0
    · obtain ⟨hu0, hun, hbs, hR2⟩ := HL2.out he
      have e0 : ((er : Int) != 0) = false := by subst he; rfl
      obtain ⟨at1, hat1⟩ : ∃ k, at0 + us = k := ⟨_, rfl⟩
      rw [hat1] at hun hR2
      have wr1 : IntKind.i64.wrap ((at0 : Int) + (us : Int)) = (at1 : Int) := by rw [IntKind.wrap_i64]; omega
      have HR2 := Lib.hid hR2
      have hlt : at0 < at1 := by omega
      clear he hR2 HL1 HL2 CZ HCM hs1 wr0 hu0
      by_cases hz : sz = 0
      · have ez : ((sz : Int) == 0) = true := by subst hz; rfl
        have HF := Lib.hid (HR2.out.trans (if_pos hz)).symm
        clear hz
        go_wp2_with fail
        go_step3
        exact ⟨0, by omega, JP8.at1 rfl PF8.mk HC1.out hun hbl HF.out⟩
      · have ez : ((sz : Int) == 0) = false := by simp; omega
        have HR3 := Lib.hid (HR2.out.trans (if_neg hz))
        have wr2 : IntKind.i64.wrap ((n : Int) - (at1 : Int)) = (n : Int) - (at1 : Int) := by rw [IntKind.wrap_i64]; omega
        have wr3 : IntKind.i64.wrap ((sz : Int) + 2) = (sz : Int) + 2 := by rw [IntKind.wrap_i64]; omega
        clear HR2
        by_cases hsh : n < at1 + sz + 2
        · have es : decide ((n : Int) - (at1 : Int) < (sz : Int) + 2) = true := decide_eq_true (by omega)
          have HF := Lib.hid (HR3.out.trans (if_pos hsh))
          have B1 := Lib.hid HC1.out.below
          clear hsh hz
          go_wp2_with fail
          rw [jumpTo_ret]
          go_ret3
          exact take_stop HF.out rfl B1.out
        · have es : decide ((n : Int) - (at1 : Int) < (sz : Int) + 2) = false := decide_eq_false (by omega)
          have HR4 := Lib.hid (HR3.out.trans (if_neg hsh))
          obtain ⟨x1, hx1⟩ : ∃ x, bs[at1 + sz]? = some x := ⟨bs[at1 + sz]'(by rw [HN.out]; omega), List.getElem?_eq_getElem _⟩
          obtain ⟨x2, hx2⟩ : ∃ x, bs[at1 + sz + 1]? = some x := ⟨bs[at1 + sz + 1]'(by rw [HN.out]; omega), List.getElem?_eq_getElem _⟩
          obtain ⟨A2, hs2, hsrc2⟩ := run_part A n c (at1 + sz) (at1 + sz + 2) (by omega) (by omega)
          have S2 := hsrc2 w1 _ bs HN.out (by omega) HC1.out.src
          rw [Nat.add_sub_cancel_left, two_at bs _ x1 x2 hx1 hx2] at S2
          have hs2' : ∀ X : World, (Instr.slice 22 (.slice A n c) (some (.int .i64 ((at1 : Int) + (sz : Int)))) (some (.int .i64 ((at1 : Int) + (sz : Int) + 2))) none).run Tryd.prog X = .ok (.slice A2 2 (c - (at1 + sz))) X := fun X => by
            have := hs2 X
            rwa [Nat.add_sub_cancel_left, show ((at1 + sz : Nat) : Int) = (at1 : Int) + (sz : Int) by omega, show ((at1 + sz + 2 : Nat) : Int) = (at1 : Int) + (sz : Int) + 2 by omega] at this
          obtain ⟨cs, hcs⟩ : ∃ cs : ByteArray, cs = ⟨[x1, x2].toArray⟩ := ⟨_, rfl⟩
          have T2 := run_text w1 A2 [x1, x2] 2 (c - (at1 + sz)) rfl S2
          rw [← hcs] at T2
          have hE : (cs.toList == [13, 10]) = decide (x1 = 13 ∧ x2 = 10) := by
            rw [hcs, Lib.toList_data, Bool.eq_iff_iff]
            simp
          have wr4 : IntKind.i64.wrap ((at1 : Int) + (sz : Int)) = (at1 : Int) + (sz : Int) := by rw [IntKind.wrap_i64]; omega
          have wr5 : IntKind.i64.wrap ((at1 : Int) + (sz : Int) + 2) = (at1 : Int) + (sz : Int) + 2 := by rw [IntKind.wrap_i64]; omega
          clear hs2 hsrc2 S2 hcs HR3
          by_cases hbad : bs[at1 + sz]? ≠ some 13 ∨ bs[at1 + sz + 1]? ≠ some 10
          · have HF := Lib.hid (HR4.out.trans (if_pos hbad))
            have eE : (cs.toList == [13, 10]) = false := by
              rw [hE]
              rw [hx1, hx2] at hbad
              simp only [ne_eq, Option.some.injEq] at hbad
              rw [decide_eq_false_iff_not]
              rintro ⟨h1, h2⟩
              rcases hbad with h | h
              · exact h h1
              · exact h h2
            have B1 := Lib.hid HC1.out.below
            clear hbad hE hx1 hx2 hsh hz HR4
            go_wp2_with fail
            rw [jumpTo_ret]
            go_ret3
            exact take_stop HF.out rfl B1.out
          · have HF := Lib.hid (HR4.out.trans (if_neg hbad)).symm
            have eE : (cs.toList == [13, 10]) = true := by
              rw [hE]
              rw [hx1, hx2] at hbad
              simp only [ne_eq, Option.some.injEq, not_or, Decidable.not_not] at hbad
              exact decide_eq_true hbad
            clear hbad hE hx1 hx2 HR4
            have hsl : ∀ X : World, (Instr.sliceAt 43 (.pointer (some ⟨g, 0, none⟩)) (some (.int .i64 (body.length : Int))) none none).run Tryd.prog X = .ok (.slice (some ⟨g, body.length, none⟩) (4096 - body.length) (4096 - body.length)) X := fun X => by
              have hal : Tryd.prog.arrayLen 43 = 4096 := by kernel_rfl
              rw [run_sliceAt_array_l X 43 ⟨g, 0, none⟩ (by kernel_rfl) .i64 (body.length : Int) (by omega) (by rw [hal]; omega)]
              go_simp
              omega
            obtain ⟨A3, hs3, hsrc3⟩ := run_part A n c at1 (at1 + sz) (by omega) (by omega)
            have hs3' : ∀ X : World, (Instr.slice 22 (.slice A n c) (some (.int .i64 (at1 : Int))) (some (.int .i64 ((at1 : Int) + (sz : Int)))) none).run Tryd.prog X = .ok (.slice A3 sz (c - at1)) X := fun X => by
              have := hs3 X
              rwa [Nat.add_sub_cancel_left, show ((at1 + sz : Nat) : Int) = (at1 : Int) + (sz : Int) by omega] at this
            have hxl : ((bs.drop at1).take sz).length = sz := by rw [List.length_take, List.length_drop, HN.out]; omega
            have HCP := Lib.hid (fun (X : World) (hB : Below w1.heap.size w1 X) => room_copy X g body ((bs.drop at1).take sz) body.length sz (4096 - body.length) (4096 - body.length) sz (c - at1) A3 (HC1.out.stay hB).room rfl hxl (by omega) (by omega) rfl (by
              have := hsrc3 X _ bs HN.out (by omega) (HC1.out.stay hB).src
              rwa [Nat.add_sub_cancel_left] at this))
            have BD : Hid (Below w1.heap.size w1 w1.drew) := Lib.hid (below_drewN (Below.refl _ _) 1)
            have wr6 : IntKind.i64.wrap ((body.length : Int) + (sz : Int)) = (body.length : Int) + (sz : Int) := by rw [IntKind.wrap_i64]; omega
            have wr7 : IntKind.i64.wrap ((at1 : Int) + ((sz : Int) + 2)) = (at1 : Int) + ((sz : Int) + 2) := by rw [IntKind.wrap_i64]; omega
            have HXL := Lib.hid hxl
            have HLE := Lib.hid (show at1 + sz + 2 ≤ n by omega)
            clear hs3 hsrc3 hz hsh hxl
            generalize (bs.drop at1).take sz = x at *
            go_wp2_with fail
            obtain ⟨w9, hrun9, hr9, t9⟩ := HCP.out w1.drew BD.out
            have HC9 := Lib.hid ((HC1.out.stay BD.out).turn t9 hr9)
            have HRUN9 := Lib.hid hrun9
            clear hr9 t9 hrun9 HCP hs2' T2 wr2 wr3 wr5 es ez eE hun hat1 wr1 e0
            go_region_held3 (fun _ => True) (trivial)
              (first
                | (refine step_copy_by rfl (.tmp 49) (.tmp 55) 22 22 rfl _ _ _ w9 rfl rfl HRUN9.out ?_))
            go_wp2_with fail
            go_step3
            have hle := HLE.out
            have hxl := HXL.out
            exact ⟨_, by omega, JP8.at0 (at0 := at1 + sz + 2) (f := f) (by rw [List.length_append, hxl]; rfl) (by rw [show ((at1 + sz + 2 : Nat) : Int) = (at1 : Int) + ((sz : Int) + 2) by omega]) PF8.mk HC9.out hle (by rw [List.length_append]; omega) (by omega) HF.out⟩
    · have e0 : ((er : Int) != 0) = true := by simp; omega
      have HF := Lib.hid (HL1.out he)
      have B1 := Lib.hid HC1.out.below
      clear he HL1 HL2
      go_wp2_with fail
      rw [jumpTo_ret]
      go_ret3
      exact take_stop HF.out rfl B1.out
  case first =>
    intro h0
    have hcm : Cm8 W g A bs [] (W.alloc (.cells Tryd.zeroCells43 43)) := by
      have hg := HG.out
      have hb : Below W.heap.size W (W.alloc (.cells Tryd.zeroCells43 43)) := (Below.refl _ _).alloc (Nat.le_refl _) _
      have hr := room_made W
      rw [hg] at hr
      exact ⟨hr, hb, hg, HS0.out.kept (Turn.of_below (S := fun _ => False) hb) (fun _ _ h => h)⟩
    have HCM := Lib.hid hcm
    clear hcm
    go_wp2_with fail
    simp only [HG.out]
    go_step3
    rename_i hK
    refine hK _ _ ?_
    exact Pass.begin h0 rfl (JP8.at0 (body := []) (at0 := 0) (f := n + 1) rfl rfl PF8.mk HCM.out (Nat.zero_le _) (by simp) (by omega) (by rw [← HR.out, ← HN.out]; rfl))
end Go.Proofs.YtilgljnmdfejmaaDoor
