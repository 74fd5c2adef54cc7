/-
  What the landed message.PutRequest and PutResponse answer; the word of the landed code's contracts is met.
  Conditions: those that each theorem names.
-/
import Derived.Test.YtemgfppclakdmaaGreatDoorKF
import Derived.Test.YtemgfppclakdmaaGreatDoorCF
import Derived.Lib.AppendZerosOnto
import Derived.Laws.AppendOwn
import Derived.Test.YtemgfppclakdmaaGreatDoorMJ
import Derived.Test.YtemgfppclakdmaaGreatDoorML
import Derived.Test.YtemgfppclakdmaaGreatDoorMC
import Derived.Test.YtemgfppclakdmaaGreatDoorKE
import Derived.Test.YtemgfppclakdmaaGreatDoorMB
import Derived.Test.YtemgfppclakdmaaGreatDoorHC
import Derived.Laws.Rows
import Derived.Test.YtemgfppclakdmaaGreatDoorMV
namespace Go.Proofs.YtemgfppclakdmaaGreatDoor
open Go.RowKit

/-- Drop's test of one name. -/
theorem drop11_any (x f1 : ByteArray) (g : Nat) (X : World) (hc : X.cell? ⟨g, 0, none⟩ = some (.string f1)) :
    Calls Tryz.prog 140 #[.string x, .pointer (some ⟨g, 0, none⟩)] X fun e w' => e = .returned (.bool (lowF (bl f1) == lowF (bl x))) ∧ Below X.heap.size X w' := by
  have CS := Lib.hid (fun W : World => ty_same f1 x W)
  generalize (lowF (bl f1) == lowF (bl x)) = b at *
  go_enter Tryz.func140, Tryz.ntmps140
  go_wp2_with fail
  refine (CS.out _).mono ?_
  rintro e w' ⟨rfl, b'⟩
  go_wp2_with fail
  go_ret
  exact ⟨rfl, b'⟩

set_option maxHeartbeats 4000000 in
theorem index_any {P' : Nat → Prop} (X : World) (A' : Option Addr) (names : List (List UInt8)) (q c' : Nat) (hq : names.length = q) (hqm : q ≤ 140737488351232) (h' : SrcS X P' A' names) (f1 : ByteArray) (g : Nat) (hc : X.cell? ⟨g, 0, none⟩ = some (.string f1)) :
    Calls Tryz.prog 161 #[.slice A' q c', .func (.func 140) #[] #[.pointer (some ⟨g, 0, none⟩)]] X fun e w' => ∃ i : Int, e = .returned (.int .i64 i) ∧ decide (0 ≤ i) = names.any (fun nm => lowF (bl f1) == lowF nm) ∧ Below X.heap.size X w' := by
  have HQ := Lib.hid hq
  have H' := Lib.hid h'
  have HC := Lib.hid hc
  clear hq h' hc
  go_enter Tryz.func161, Tryz.ntmps161
  go_wp2_with fail
  go_loopw [8] (fun vi wr => ∃ k : Nat, vi = .int .i64 (k : Int) ∧ k ≤ q ∧ Hid ((names.take k).any (fun nm => lowF (bl f1) == lowF nm) = false) ∧ Hid (Below X.heap.size X wr)) (fun vi _ => q - (intOf vi).toNat)
  case atStart => exact ⟨0, rfl, Nat.zero_le _, Lib.hid rfl, Lib.hid (Below.refl _ _)⟩
  case round =>
    obtain ⟨k, rfl, hk, HE, HB⟩ := hrel
    by_cases hlt : k < q
    · obtain ⟨p', x, hx, hat', y2, _, _⟩ := H'.out.at (c := c') HQ.out hlt HB.out
      have HTK := Lib.hid (show (names.take (k + 1)).any (fun nm => lowF (bl f1) == lowF nm) = (lowF (bl f1) == lowF x) by rw [take_snoc names k x hx, List.any_append, HE.out]; simp)
      have HIN := Lib.hid (List.mem_of_getElem? hx)
      obtain ⟨Xs, hXs⟩ : ∃ Xs : ByteArray, Xs = ⟨x.toArray⟩ := ⟨_, rfl⟩
      have hbx : x = bl Xs := by rw [hXs, bl_mk]
      rw [← hXs] at y2
      have CD := Lib.hid (fun W : World => drop11_any Xs f1 g W)
      have y3 : wr.cell? ⟨g, 0, none⟩ = some (.string f1) := (HB.out.cell (Lib.lt_of_cell HC.out)).trans HC.out
      rw [← hbx] at CD
      clear hXs hbx hx
      cases hb : (lowF (bl f1) == lowF x) with
      | false =>
        rw [hb] at CD HTK
        clear hb
        go_wp2_with fail
        refine (CD.out _ y3).mono ?_
        rintro e w5 ⟨rfl, b5⟩
        have B5 := Lib.hid (HB.out.trans (b5.mono HB.out.size))
        clear b5
        go_wp2_with fail
        go_roundw
        case rel => exact ⟨k + 1, by go_num, hlt, HTK, B5⟩
        case measure => simp [intOf]; omega
      | true =>
        rw [hb] at CD
        have HY := Lib.hid (show names.any (fun nm => lowF (bl f1) == lowF nm) = true from List.any_eq_true.2 ⟨x, HIN.out, hb⟩)
        clear hb
        go_wp2_with fail
        refine (CD.out _ y3).mono ?_
        rintro e w5 ⟨rfl, b5⟩
        have B5 := Lib.hid (HB.out.trans (b5.mono HB.out.size))
        clear b5
        go_wp2_with fail
        go_ret
        exact ⟨(k : Int), rfl, by rw [HY.out]; simp, B5.out⟩
    · have HN := Lib.hid (show names.any (fun nm => lowF (bl f1) == lowF nm) = false by rw [← HE.out, List.take_of_length_le (by rw [HQ.out]; omega)])
      go_wp2_with fail
      go_ret
      exact ⟨-1, rfl, by rw [HN.out]; rfl, HB.out⟩
theorem contains_any {P' : Nat → Prop} (X : World) (A' : Option Addr) (names : List (List UInt8)) (q c' : Nat) (hq : names.length = q) (hqm : q ≤ 140737488351232) (h' : SrcS X P' A' names) (f1 : ByteArray) (g : Nat) (hc : X.cell? ⟨g, 0, none⟩ = some (.string f1)) :
    Calls Tryz.prog 139 #[.slice A' q c', .func (.func 140) #[] #[.pointer (some ⟨g, 0, none⟩)]] X fun e w' => e = .returned (.bool (names.any (fun nm => lowF (bl f1) == lowF nm))) ∧ Below X.heap.size X w' := by
  have CI := Lib.hid (index_any X A' names q c' hq hqm h' f1 g hc)
  clear hq hqm h' hc
  generalize names.any (fun nm => lowF (bl f1) == lowF nm) = b at *
  go_enter Tryz.func139, Tryz.ntmps139
  go_wp2_with fail
  refine CI.out.mono ?_
  rintro e w' ⟨i, rfl, hi, b'⟩
  go_wp2_with fail
  go_ret
  first | exact ⟨ret_bool hi, b'⟩ | exact ⟨rfl, b'⟩

/-- Drop's test. -/
theorem drop1_any {P' : Nat → Prop} (f : Fld) (A' : Option Addr) (names : List (List UInt8)) (q c' : Nat) (hq : names.length = q) (hqm : q ≤ 140737488351232) (g : Nat) (X : World) (hc : X.cell? ⟨g, 0, none⟩ = some (.slice A' q c')) (h' : SrcS X P' A' names) :
    Calls Tryz.prog 138 #[fldA f, .pointer (some ⟨g, 0, none⟩)] X fun e w' => e = .returned (.bool (!goneF names f)) ∧ Below X.heap.size X w' := by
  unfold fldA
  have hb : Below X.heap.size X (X.alloc (.cells #[.string ⟨f.1.toArray⟩, .string ⟨f.2.toArray⟩] 58)) := (Below.refl _ X).alloc (Nat.le_refl _) _
  have z : (X.alloc (.cells #[.string ⟨f.1.toArray⟩, .string ⟨f.2.toArray⟩] 58)).cell? ⟨g, 0, none⟩ = some (.slice A' q c') := (hb.cell (Lib.lt_of_cell hc)).trans hc
  have i0 := Is.made X 58 [.string ⟨f.1.toArray⟩, .string ⟨f.2.toArray⟩]
  have CC := Lib.hid (contains_any (X.alloc (.cells #[.string ⟨f.1.toArray⟩, .string ⟨f.2.toArray⟩] 58)) A' names q c' hq hqm (h'.below hb) ⟨f.1.toArray⟩ X.heap.size (i0.cell 0))
  rw [bl_mk] at CC
  rw [show goneF names f = names.any (fun nm => lowF f.1 == lowF nm) from rfl]
  have HB := Lib.hid hb
  generalize names.any (fun nm => lowF f.1 == lowF nm) = b at *
  clear hc i0 hb hq hqm h'
  generalize f.1 = f1 at *
  generalize f.2 = f2 at *
  go_enter Tryz.func138, Tryz.ntmps138
  go_wp2_with fail
  refine CC.out.mono ?_
  rintro e w' ⟨rfl, b'⟩
  go_wp2_with fail
  go_ret
  exact ⟨rfl, HB.out.trans (b'.mono HB.out.size)⟩

theorem drop_any {P P' : Nat → Prop} (w : World) (A A' : Option Addr) (ls : List Fld) (names : List (List UInt8)) (n c q c' : Nat) (hn : ls.length = n) (hq : names.length = q) (hmax : n * 32 ≤ 140737488355328) (hqm : q ≤ 140737488351232) (h : SrcF w P A ls) (h' : SrcS w P' A' names) (hs : Slim ls) :
    Calls Tryz.prog 112 #[.slice A n c, .slice A' q c'] w (GotF (dropF ls names) w) := by
  have hb0 : Below w.heap.size w (w.alloc (.cells #[.slice A' q c'] 114)) := (Below.refl _ _).alloc (Nat.le_refl _) _
  have i0 := Is.made w 114 [.slice A' q c']
  have CK := Lib.hid (keep_any 138 (.inr rfl) (.pointer (some ⟨w.heap.size, 0, none⟩)) (fun f => !goneF names f) (w.alloc (.cells #[.slice A' q c'] 114)) A ls n c hn hmax (h.below hb0) hs (fun f _ X hX =>
    drop1_any f A' names q c' hq hqm w.heap.size X ((i0.kept (Turn.of_below (S := fun _ => False) hX) (fun h => h)).cell 0) ((h'.below hb0).below hX)))
  rw [show ls.filter (fun f => !goneF names f) = dropF ls names from rfl] at CK
  have HB0 := Lib.hid hb0
  clear hb0 i0 h h' hs hn hq
  generalize dropF ls names = fs at *
  go_enter Tryz.func112, Tryz.ntmps112
  go_wp2_with fail
  refine CK.out.mono ?_
  rintro e w1 ⟨v1, o1, rfl, own1, ob1, b1⟩
  go_wp2_with fail
  go_ret
  exact ⟨v1, o1, rfl, own1, fun b hb => Nat.le_trans HB0.out.size (ob1 b hb), HB0.out.trans (b1.mono HB0.out.size)⟩

set_option maxHeartbeats 4000000 in
theorem with_any {P : Nat → Prop} (w : World) (A : Option Addr) (ls : List Fld) (n c : Nat) (hn : ls.length = n) (hmax : (n + 1) * 32 ≤ 140737488355328) (h : SrcF w P A ls) (hs : Slim ls) (nm v : List UInt8) (hnm : nm.length ≤ 140737488351232) (hv : v.length ≤ 140737488351232) :
    Calls Tryz.prog 74 #[.slice A n c, .string ⟨nm.toArray⟩, .string ⟨v.toArray⟩] w (GotF (withF ls nm v) w) := by
  have hb0 : Below w.heap.size w (w.alloc (.cells #[.string ⟨nm.toArray⟩] 9)) := (Below.refl _ _).alloc (Nat.le_refl _) _
  have CD := Lib.hid (drop_any (w.alloc (.cells #[.string ⟨nm.toArray⟩] 9)) A (some ⟨w.heap.size, 0, none⟩) ls [nm] n c 1 1 hn rfl (by omega) (by omega) (h.below hb0) (srcs_one w nm) hs)
  have HB0 := Lib.hid hb0
  have HL := Lib.hid (show (dropF ls [nm]).length ≤ n by have := dropF_length ls [nm]; omega)
  have HW := Lib.hid (show withF ls nm v = dropF ls [nm] ++ [(nm, v)] from rfl)
  have z1 : (⟨nm.toArray⟩ : ByteArray).size ≤ 281474976710656 := by rw [← bl_length, bl_mk]; omega
  have z2 : (⟨v.toArray⟩ : ByteArray).size ≤ 281474976710656 := by rw [← bl_length, bl_mk]; omega
  have K1 := Lib.hid (fun X : World => clone_any ⟨nm.toArray⟩ X z1)
  have K2 := Lib.hid (fun X : World => clone_any ⟨v.toArray⟩ X z2)
  clear hb0 h hs hnm hn z1 z2 hv
  generalize dropF ls [nm] = r at *
  generalize withF ls nm v = r' at *
  go_enter Tryz.func74, Tryz.ntmps74
  go_wp2_with fail
  refine CD.out.mono ?_
  rintro e w1 ⟨v1, o, rfl, own, hob, b1⟩
  have OW := Lib.hid own
  have HOB := Lib.hid (fun b hb => Nat.le_trans HB0.out.size (hob b hb))
  have B1 := Lib.hid (HB0.out.trans (b1.mono HB0.out.size))
  clear own hob b1 HB0
  go_wp2_with fail
  refine (K1.out _).mono ?_
  rintro e w2 ⟨rfl, b2⟩
  go_wp2_with fail
  refine (K2.out _).mono ?_
  rintro e w3 ⟨rfl, b3⟩
  have B3 := Lib.hid ((B1.out.trans (b2.mono B1.out.size)).trans (b3.mono (B1.out.trans (b2.mono B1.out.size)).size))
  have O3 := Lib.hid ((OW.out.kept (Turn.of_below (S := fun _ => False) b2) (fun _ _ h => h)).kept (Turn.of_below (S := fun _ => False) b3) (fun _ _ h => h))
  clear b2 b3 B1 OW
  obtain ⟨v', w', o', hrun, own', t', ho'⟩ := run_push_fld w3 v1 o r (nm, v) O3.out (by have := HL.out; omega)
  have HR5 := Lib.hid hrun
  have OO := Lib.hid own'
  have TT := Lib.hid (own_turn B3.out HOB.out t' ho')
  clear hrun own' t' ho'
  simp only at HR5
  go_wp2_with (at_builtin; refine append_by rfl (.tmp 10) (.tmp 16) 23 rfl _ _ v' w' rfl rfl HR5.out ?_)
  go_ret
  exact ⟨_, o', rfl, by rw [HW.out]; exact OO.out, TT.out.2, TT.out.1⟩
end Go.Proofs.YtemgfppclakdmaaGreatDoor

namespace Go.Proofs.YtemgfppclakdmaaGreatDoor
open Go.RowKit

/-- []byte(s), its capacity told. -/
theorem run_to_bytes9 (w : World) (s : ByteArray) : ∃ (cap : Nat) (w1 : World), (convert 9 22 (.string s)).run Tryz.prog w = .ok (.slice (some ⟨w.heap.size, 0, none⟩) s.size cap) w1 ∧ Row w1 w.heap.size (bl s) ∧ Below w.heap.size w w1 ∧ w1.heap.size = w.heap.size + 1 :=
  run_to_bytes w s
/-- A slice value's address reads these slices of bytes. -/
def SrcB (w : World) (A : Option Addr) (ps : List (List UInt8)) : Prop :=
  0 < ps.length → ∃ ad : Addr, A = some ad ∧ ad.block < w.heap.size ∧ ∀ i x, ps[i]? = some x → ∃ Ax cx, w.cell? (ad.add i) = some (.slice Ax x.length cx) ∧ Src w (fun _ => True) Ax x
theorem SrcB.at {w wr : World} {A : Option Addr} {ps : List (List UInt8)} {n c k : Nat} (h : SrcB w A ps) (hn : ps.length = n) (hlt : k < n) (hB : Below w.heap.size w wr) :
    ∃ (p : Addr) (x : List UInt8) (Ax : Option Addr) (cx : Nat), ps[k]? = some x ∧ (∀ Wx, (Instr.indexAt 166 (.slice A n c) (.int .i64 (k : Int))).run Tryz.prog Wx = .ok (.pointer (some p)) Wx) ∧ wr.cell? p = some (.slice Ax x.length cx) ∧ Src wr (fun _ => True) Ax x := by
  obtain ⟨ad, hA, hadb, hc⟩ := h (by omega)
  obtain ⟨x, hx⟩ : ∃ x, ps[k]? = some x := ⟨ps[k]'(by omega), List.getElem?_eq_getElem _⟩
  obtain ⟨Ax, cx, c1, c3⟩ := hc k x hx
  have hblk : (ad.add k).block = ad.block := by unfold Addr.add; split <;> rfl
  refine ⟨ad.add k, x, Ax, cx, hx, fun Wx => ?_, (hB.cell (by rw [hblk]; exact hadb)).trans c1, c3.kept (Turn.of_below (S := fun _ => False) hB) (fun _ _ h => h)⟩
  rw [hA]
  exact run_at 166 22 Tryz.underlying166 (by kernel_rfl) ad n c k hlt Wx
def sumB (ps : List (List UInt8)) : Nat := (ps.map List.length).sum
theorem sumB_take (ps : List (List UInt8)) (k : Nat) : sumB (ps.take k) ≤ sumB ps := by
  unfold sumB
  have h : ((ps.map List.length).take k ++ (ps.map List.length).drop k).sum = (ps.map List.length).sum := by rw [List.take_append_drop]
  rw [List.sum_append, ← List.map_take] at h
  omega
theorem sumB_snoc (ps : List (List UInt8)) (x : List UInt8) : sumB (ps ++ [x]) = sumB ps + x.length := by simp [sumB]
theorem sumB_flat (ps : List (List UInt8)) : ps.flatten.length = sumB ps := by simp [sumB, List.length_flatten]

set_option maxHeartbeats 4000000 in
set_option maxRecDepth 100000 in
theorem grow9_any (w : World) (n : Nat) (hn : n ≤ 1000000) :
    Calls Tryz.prog 113 #[.slice none 0 0, .int .i64 (n : Int)] w fun e w' => ∃ v o, e = .returned v ∧ Own w' v o [] ∧ (∀ b, o = some b → w.heap.size ≤ b) ∧ Below w.heap.size w w' := by
  have w1 : IntKind.i64.wrap ((0 : Int) - 0) = 0 := by rw [IntKind.wrap_i64]; omega
  have w2 : IntKind.i64.wrap ((n : Int) - 0) = (n : Int) := by rw [IntKind.wrap_i64]; omega
  have d0 : decide ((n : Int) < 0) = false := decide_eq_false (by omega)
  by_cases h0 : n = 0
  · subst h0
    go_enter Tryz.func113, Tryz.ntmps113
    go_wp2_with fail
    go_ret
    exact ⟨_, none, rfl, Own.nil _, fun _ h => (by cases h), Below.refl _ _⟩
  · have d1 : decide ((0 : Int) < (n : Int)) = true := decide_eq_true (by omega)
    have d1n : decide (0 < n) = true := decide_eq_true (by omega)
    obtain ⟨i, hi, hz, hs, hb⟩ := byteParts
    have hrz := Lib.run_append_grow_zeros (P := Tryz.prog) w 22 3 22 5 i (.int .u8 0) .i64 .i64 Tryz.underlying22 Tryz.underlying3 hi hz none 0 0 [] (run_firstCells_none w.drew i.size 0 0 0) n (by omega) (by omega) (by omega) (by omega) (by rw [hb]; omega) (by rw [Nat.zero_add]; exact growslice_fits (by omega) (by rw [hb]; omega))
    rw [Nat.zero_add] at hrz
    have hge := grownCap_ge w n 0 5
    have hmx := grownCap_le_maxLen w n 0 5 (by unfold maxLen; omega)
    obtain ⟨G, hG⟩ : ∃ G, grownCap w n 0 5 = G := ⟨_, rfl⟩
    rw [hG] at hrz hge hmx
    obtain ⟨cur, hcur⟩ : ∃ cur, (([] : List Value).toArray ++ Builtin.zeroCells (Value.int .u8 0).cells n ++ Builtin.zeroCells (Value.int .u8 0).cells (G - n)) = cur := ⟨_, rfl⟩
    have hsz : cur.size = G := by
      rw [← hcur]
      simp only [Array.size_append, Builtin.zeroCells, Array.size_map, Array.size_range]
      have : (Value.int .u8 0).cells.size = 1 := rfl
      rw [this]
      simp
      omega
    rw [hcur] at hrz
    have HO := Lib.hid (show Own (w.drew.alloc (.cells cur 5)) (.slice (some ⟨w.heap.size, 0, none⟩) 0 G) (some w.heap.size) [] from
      ⟨⟨rfl, .inr ⟨w.heap.size, G, cur, rfl, Nat.zero_le _, heap_alloc_new w.drew _, Nat.zero_le _, hmx, by omega, rfl⟩⟩, rfl⟩)
    have HB := Lib.hid (show Below w.heap.size w (w.drew.alloc (.cells cur 5)) from (below_drewN (Below.refl w.heap.size w) 1).alloc (Nat.le_refl _) _)
    have hG63 : G ≤ 9223372036854775807 := by unfold maxLen at hmx; omega
    have RZ := Lib.hid hrz
    clear hrz hcur hsz hG hmx hge hi hz hs hb
    go_enter Tryz.func113, Tryz.ntmps113
    go_wp2_with (at_builtin; refine Lib.wpList_append_run _ rfl _ _ _ _ rfl _ _ rfl rfl _ _ RZ.out ?_)
    go_ret
    exact ⟨_, _, rfl, HO.out, fun b hb => by injection hb with hb; omega, HB.out⟩

set_option maxHeartbeats 8000000 in
set_option maxRecDepth 100000 in
theorem concat9_any (w : World) (A : Option Addr) (ps : List (List UInt8)) (n c : Nat) (hn : ps.length = n) (hmax : n ≤ 1000) (h : SrcB w A ps) (ht : sumB ps ≤ 1000000) :
    Calls Tryz.prog 76 #[.slice A n c] w fun e w' => ∃ v o, e = .returned v ∧ Own w' v o ps.flatten ∧ (∀ b, o = some b → w.heap.size ≤ b) ∧ Below w.heap.size w w' := by
  have HN := Lib.hid hn
  have H := Lib.hid h
  have HT := Lib.hid ht
  clear hn h ht
  go_enter Tryz.func76, Tryz.ntmps76
  go_wp2_with fail
  go_loopw [3, 11] (fun vt vi wr => ∃ k T : Nat, vi = .int .i64 (k : Int) ∧ vt = .int .i64 (T : Int) ∧ k ≤ n ∧ T ≤ 1000000 ∧ Hid (sumB (ps.take k) = T) ∧ Hid (Below w.heap.size w wr)) (fun _ vi _ => n - (intOf vi).toNat)
  case atStart => exact ⟨0, 0, rfl, rfl, Nat.zero_le _, by omega, Lib.hid rfl, Lib.hid (Below.refl _ _)⟩
  case round =>
    obtain ⟨k, T, rfl, rfl, hk, hT, HK, HB⟩ := hrel
    by_cases hlt : k < n
    · obtain ⟨p, x, Ax, cx, hx, hat, y0, hsx⟩ := H.out.at (c := c) HN.out hlt HB.out
      have h2 : sumB (ps.take (k + 1)) = T + x.length := by rw [take_snoc ps k x hx, sumB_snoc, HK.out]
      have h3 := sumB_take ps (k + 1)
      have h4 := HT.out
      have HK2 := Lib.hid h2
      have hT2 : T + x.length ≤ 1000000 := by omega
      have wr1 : IntKind.i64.wrap ((T : Int) + (x.length : Int)) = (T : Int) + (x.length : Int) := by rw [IntKind.wrap_i64]; omega
      have d1 : decide ((T : Int) + (x.length : Int) < 0) = false := decide_eq_false (by omega)
      clear hx hsx h2 h3 h4
      go_wp2_with fail
      go_roundw
      case rel => exact ⟨k + 1, T + x.length, by go_num, by simp, hlt, hT2, HK2, HB⟩
      case measure => simp [intOf]; omega
    · have HT2 := Lib.hid (show sumB ps = T by rw [← HK.out, List.take_of_length_le (by rw [HN.out]; omega)])
      have CG := Lib.hid (grow9_any wr T hT)
      obtain ⟨w0, rfl⟩ : ∃ w0, w0 = wr := ⟨_, rfl⟩
      have HB0 := HB
      clear HK HB
      go_wp2_with fail
      refine CG.out.mono ?_
      rintro e w1 ⟨v1, o1, rfl, own1, f1, b1⟩
      have O1 := Lib.hid own1
      have F1 := Lib.hid (show ∀ b, o1 = some b → w.heap.size ≤ b from fun b hb => Nat.le_trans HB0.out.size (f1 b hb))
      have B1 := Lib.hid (HB0.out.trans (b1.mono HB0.out.size))
      clear own1 f1 b1 CG
      go_wp2_with fail
      go_loopw [6, 27] (fun vo vi wr => ∃ (k : Nat) (o : Option Nat) (out : List UInt8), vi = .int .i64 (k : Int) ∧ k ≤ n ∧ Hid ((ps.take k).flatten = out) ∧ Hid (Own wr vo o out) ∧ Hid (∀ b, o = some b → w.heap.size ≤ b) ∧ Hid (Below w.heap.size w wr)) (fun _ vi _ => n - (intOf vi).toNat)
      case atStart => exact ⟨0, o1, [], rfl, Nat.zero_le _, Lib.hid rfl, O1, F1, B1⟩
      case round =>
        obtain ⟨k2, o, out, rfl, hk2, HO, HW, HF, HB⟩ := hrel
        have hol : out.length ≤ 1000000 := by
          have h1 := sumB_flat (ps.take k2)
          have h2 := sumB_take ps k2
          have h3 := HT.out
          rw [HO.out] at h1
          omega
        by_cases hlt2 : k2 < n
        · obtain ⟨p, x, Ax, cx, hx, hat, y0, hsx⟩ := H.out.at (c := c) HN.out hlt2 HB.out
          have HO2 := Lib.hid (show (ps.take (k2 + 1)).flatten = out ++ x by rw [take_snoc ps k2 x hx, List.flatten_append, HO.out]; simp)
          have hxl : x.length ≤ 1000000 := by
            have h1 := sumB_flat (ps.take (k2 + 1))
            have h2 := sumB_take ps (k2 + 1)
            have h3 := HT.out
            rw [HO2.out, List.length_append] at h1
            omega
          obtain ⟨v2, w2, o2, r2, own2, t2, f2⟩ := run_append_src wr _ o out x HW.out Ax x.length cx rfl hsx (by omega)
          have b2 := below_own HB.out HF.out t2
          have F2 := Lib.hid (show ∀ b, o2 = some b → w.heap.size ≤ b from fun b hb => by
            rcases f2 with h | h
            · exact HF.out b (by rw [← h]; exact hb)
            · rw [h] at hb; injection hb with hb; have := HB.out.size; omega)
          have R2 := Lib.hid r2
          have O2 := Lib.hid own2
          have B2 := Lib.hid b2
          clear r2 own2 t2 f2 b2 hsx hx
          go_wp2_with (at_builtin; refine append_by rfl (.tmp 31) (.tmp 32) 22 rfl _ _ v2 w2 rfl rfl R2.out ?_)
          go_roundw
          case rel => exact ⟨k2 + 1, o2, _, by go_num, hlt2, HO2, O2, F2, B2⟩
          case measure => simp [intOf]; omega
        · have h1 := HO.out
          rw [List.take_of_length_le (by rw [HN.out]; omega)] at h1
          have h2 := HW.out
          rw [← h1] at h2
          have HFF := Lib.hid h2
          clear h1 h2
          go_wp2_with fail
          go_ret
          exact ⟨_, o, rfl, HFF.out, HF.out, HB.out⟩
end Go.Proofs.YtemgfppclakdmaaGreatDoor

namespace Go.Proofs.YtemgfppclakdmaaGreatDoor
open Go.RowKit

def coU9 : List UInt8 := [84, 114, 97, 110, 115, 102, 101, 114, 45, 69, 110, 99, 111, 100, 105, 110, 103]
theorem same_cl : sameN clN9 = sameN lenN := by
  funext f
  unfold sameN
  rw [show lowF clN9 = lowF lenN from by decide]
theorem same_co : sameN coU9 = sameN codN := by
  funext f
  unfold sameN
  rw [show lowF coU9 = lowF codN from by decide]
theorem getF_cl (ls : List Fld) : getF ls clN9 = getF ls lenN := by unfold getF; rw [same_cl]
theorem getF_co (ls : List Fld) : getF ls coU9 = getF ls codN := by unfold getF; rw [same_co]
theorem get_pos {ls : List Fld} {nm : List UInt8} {f : Fld} (hf : f ∈ ls) (h : sameN nm f = true) : 0 < (getF ls nm).length := by
  have h1 : f ∈ ls.filter (sameN nm) := List.mem_filter.2 ⟨hf, h⟩
  unfold getF
  rw [List.length_map]
  exact List.length_pos_of_mem h1
theorem lc_yes {ls : List Fld} (h : 0 < (getF ls lenN).length + (getF ls codN).length) : ls.any isLC = true := by
  cases hq : ls.any isLC with
  | true => rfl
  | false =>
    obtain ⟨h1, h2⟩ := lc_no hq
    rw [h1, h2] at h
    cases h
theorem lc_not {ls : List Fld} (h : ¬ 0 < (getF ls lenN).length + (getF ls codN).length) : ls.any isLC = false := by
  rw [← Bool.not_eq_true]
  intro hq
  obtain ⟨f, hf, hi⟩ := List.any_eq_true.1 hq
  unfold isLC at hi
  rw [Bool.or_eq_true] at hi
  apply h
  rcases hi with hi | hi
  · have := get_pos hf hi; omega
  · have := get_pos hf hi; omega
theorem with_cl {ls : List Fld} (h : ls.any isLC = false) (k : Nat) : withF ls clN9 (numF 10 k) = withCL ls k true := by
  unfold withF withCL
  rw [if_pos rfl]
  congr 1
  unfold dropF
  rw [List.filter_eq_self]
  intro f hf
  have h1 := List.any_eq_false.1 h f hf
  unfold isLC at h1
  simp only [Bool.or_eq_true, not_or, Bool.not_eq_true] at h1
  have h2 := h1.1
  rw [← same_cl] at h2
  unfold sameN at h2
  unfold goneF
  simp [h2]
theorem num_len : ∀ k : Nat, (numF 10 k).length ≤ k + 1 := by
  intro k
  induction k using Nat.strongRecOn with
  | _ k ih =>
    by_cases h : k < 10
    · rw [numF_small 10 k h]; simp
    · rw [numF_great 10 k (by omega) h, List.length_append, List.length_singleton]
      have := ih (k / 10) (by omega)
      omega
theorem slim_with {ls : List Fld} (h : Slim ls) (k : Nat) (hk : k ≤ 4096) (q : Bool) : Slim (withCL ls k q) := by
  unfold withCL
  cases q with
  | false => exact h
  | true =>
    rw [if_pos rfl]
    intro f hf
    rcases List.mem_append.1 hf with hf | hf
    · exact h f hf
    · obtain rfl := List.mem_singleton.1 hf
      have := num_len k
      exact ⟨show clN9.length ≤ _ from by decide, show (numF 10 k).length ≤ _ from by omega⟩
theorem with_length (ls : List Fld) (k : Nat) (q : Bool) : (withCL ls k q).length ≤ ls.length + 1 := by
  unfold withCL
  cases q <;> simp
/-- What is put, as bytes that have room, in memory of the call's own. -/
def PutGot9F (R : List UInt8 × Nat) (w : World) (e : Ending) (w' : World) : Prop := ∃ A c, e = .returned (.tuple #[.slice A R.1.length c, .int .i64 (R.2 : Int)]) ∧ R.1.length ≤ c ∧ Src w' (fun b => w.heap.size ≤ b) A R.1 ∧ Below w.heap.size w w'
theorem PutGot9F.weak {R : List UInt8 × Nat} {w w' : World} {e : Ending} (h : PutGot9F R w e w') : PutGot9 R w e w' := by
  obtain ⟨A, c, h1, h2, h3, h4⟩ := h
  exact ⟨A, c, h1, h2, h3.mono (fun _ _ _ => trivial), h4⟩
theorem put_stop {R : List UInt8 × Nat} {w w' : World} {e : Nat} {b : Int} (h : R = ([], e)) (hb : b = e) (hB : Below w.heap.size w w') : PutGot9F R w (.returned (.tuple #[.slice none 0 0, .int .i64 b])) w' :=
  ⟨none, 0, by rw [h, hb]; rfl, by rw [h]; exact Nat.zero_le _, by rw [h]; exact fun h0 => absurd h0 (by simp), hB⟩
theorem srcb3 (X : World) (a b d : List UInt8) (A B C : Option Addr) (na nb nd ca cb cd : Nat) (ha : a.length = na) (hb : b.length = nb) (hd : d.length = nd) (sa : Src X (fun _ => True) A a) (sb : Src X (fun _ => True) B b) (sd : Src X (fun _ => True) C d) :
    SrcB (X.alloc (.cells #[.slice A na ca, .slice B nb cb, .slice C nd cd] 22)) (some ⟨X.heap.size, 0, none⟩) [a, b, d] := fun _ => by
  have hi := Is.made X 22 [.slice A na ca, .slice B nb cb, .slice C nd cd]
  have bx : Below X.heap.size X (X.alloc (.cells #[.slice A na ca, .slice B nb cb, .slice C nd cd] 22)) := (Below.refl _ _).alloc (Nat.le_refl _) _
  refine ⟨_, rfl, by simp, fun i x hx => ?_⟩
  have hlt : i < 3 := (List.getElem?_eq_some_iff.1 hx).1
  rw [add_at, Nat.zero_add]
  obtain rfl | rfl | rfl : i = 0 ∨ i = 1 ∨ i = 2 := by omega
  · obtain rfl : a = x := by simpa using hx
    exact ⟨A, ca, by rw [ha]; exact hi.cell 0, sa.kept (Turn.of_below (S := fun _ => False) bx) (fun _ _ h => h)⟩
  · obtain rfl : b = x := by simpa using hx
    exact ⟨B, cb, by rw [hb]; exact hi.cell 1, sb.kept (Turn.of_below (S := fun _ => False) bx) (fun _ _ h => h)⟩
  · obtain rfl : d = x := by simpa using hx
    exact ⟨C, cd, by rw [hd]; exact hi.cell 2, sd.kept (Turn.of_below (S := fun _ => False) bx) (fun _ _ h => h)⟩

set_option maxHeartbeats 16000000 in
set_option maxRecDepth 100000 in
theorem put_no (w : World) (line : ByteArray) (A D : Option Addr) (ls : List Fld) (bs : List UInt8) (n c l d : Nat) (hn : ls.length = n) (hl : bs.length = l) (hline : line.size ≤ 1000000) (hb : bulkF ls ≤ 1000000000) (hlm : l ≤ 140737488351232) (hs : SrcF w (fun _ => True) A ls) (hd : Src w (fun _ => True) D bs) :
    Calls Tryz.prog 45 #[.string line, .slice A n c, .slice D l d, .bool false] w (PutGot9F (putsM (bl line) ls bs false) w) := by
  obtain ⟨R, hR⟩ : ∃ R, putsM (bl line) ls bs false = R := ⟨_, rfl⟩
  rw [hR]
  unfold putsM at hR
  rw [bl_length] at hR
  have hfit := (Meek.small hb).fit
  have hsl := hfit.slim
  have hn9 : n ≤ 1000000000 := by have := bulk_len ls; omega
  have CM := Lib.hid (may_any w A ls n c hn (by omega) hs hsl)
  have CG1 := Lib.hid (fun (X : World) (hX : Below w.heap.size w X) => get_any X A ls n c hn (by omega) (hs.below hX) hsl ⟨#[67, 111, 110, 116, 101, 110, 116, 45, 76, 101, 110, 103, 116, 104]⟩)
  rw [show bl ⟨#[67, 111, 110, 116, 101, 110, 116, 45, 76, 101, 110, 103, 116, 104]⟩ = clN9 from rfl, getF_cl] at CG1
  have CG2 := Lib.hid (fun (X : World) (hX : Below w.heap.size w X) => get_any X A ls n c hn (by omega) (hs.below hX) hsl ⟨#[84, 114, 97, 110, 115, 102, 101, 114, 45, 69, 110, 99, 111, 100, 105, 110, 103]⟩)
  rw [show bl ⟨#[84, 114, 97, 110, 115, 102, 101, 114, 45, 69, 110, 99, 111, 100, 105, 110, 103]⟩ = coU9 from rfl, getF_co] at CG2
  unfold GotS at CG1 CG2
  have hk1 := getF_length ls lenN
  have hk2 := getF_length ls codN
  have HY := Lib.hid (lc_yes (ls := ls))
  have HNO := Lib.hid (lc_not (ls := ls))
  have HS := Lib.hid hs
  have HD := Lib.hid hd
  have HN := Lib.hid hn
  have HL := Lib.hid hl
  have HSL := Lib.hid hsl
  have HR := Lib.hid hR
  generalize hg1 : (getF ls lenN).length = k1 at *
  generalize hg2 : (getF ls codN).length = k2 at *
  have wr : IntKind.i64.wrap ((k1 : Int) + (k2 : Int)) = (k1 : Int) + (k2 : Int) := by rw [IntKind.wrap_i64]; omega
  clear hs hd hfit hsl hR
  cases hmay : mayF ls with
  | false =>
    have HF := Lib.hid (HR.out.symm.trans (if_pos (Or.inr hmay)))
    rw [hmay] at CM
    clear hn hl hg1 hg2 hmay
    go_enter Tryz.func45, Tryz.ntmps45
    go_wp2_with fail
    refine CM.out.mono ?_
    rintro e w1 ⟨rfl, b1⟩
    have B1 := Lib.hid b1
    clear b1
    go_wp2_with fail
    go_ret2
    exact put_stop HF.out rfl B1.out
  | true =>
    rw [hmay] at CM
    by_cases hk : 0 < k1 + k2
    · have HF := Lib.hid (HR.out.symm.trans (if_pos (Or.inl (HY.out hk))))
      have d0 : decide ((0 : Int) < (k1 : Int) + (k2 : Int)) = true := decide_eq_true (by omega)
      have d0n : decide (0 < k1 + k2) = true := decide_eq_true hk
      have HK1 := Lib.hid hg1
      have HK2 := Lib.hid hg2
      clear hn hl hmay hk hg1 hg2
      go_enter Tryz.func45, Tryz.ntmps45
      go_wp2_with fail
      refine CM.out.mono ?_
      rintro e w1 ⟨rfl, b1⟩
      have B1 := Lib.hid b1
      clear b1 CM
      go_wp2_with fail
      refine (CG1.out w1 B1.out).mono ?_
      rintro e w2 ⟨v2, o2, rfl, own2, f2, b2⟩
      obtain ⟨A2, c2, rfl, _⟩ := own2.src (fun _ => True) (fun _ _ => trivial)
      rw [HK1.out]
      have B2 := Lib.hid (B1.out.trans (b2.mono B1.out.size))
      clear own2 f2 b2 CG1
      go_wp2_with fail
      refine (CG2.out w2 B2.out).mono ?_
      rintro e w3 ⟨v3, o3, rfl, own3, f3, b3⟩
      obtain ⟨A3, c3, rfl, _⟩ := own3.src (fun _ => True) (fun _ _ => trivial)
      rw [HK2.out]
      have B3 := Lib.hid (B2.out.trans (b3.mono B2.out.size))
      clear own3 f3 b3 CG2
      go_wp2_with fail
      go_ret2
      exact put_stop HF.out rfl B3.out
    · have hlc := HNO.out hk
      have HR1 := HR.out.symm.trans (if_neg (fun h => h.elim (fun h => by rw [hlc] at h; cases h) (fun h => by rw [hmay] at h; cases h)))
      have d0 : decide ((0 : Int) < (k1 : Int) + (k2 : Int)) = false := decide_eq_false (by omega)
      have d0n : decide (0 < k1 + k2) = false := decide_eq_false hk
      have HK1 := Lib.hid hg1
      have HK2 := Lib.hid hg2
      have hn32 := (may_facts ls hmay).1
      rw [hn] at hn32
      by_cases hbig : 4096 < l
      · have HF := Lib.hid (HR1.trans (if_pos (by rw [hl]; exact hbig)))
        have d1 : decide ((4096 : Int) < (l : Int)) = true := decide_eq_true (by omega)
        have d1n : decide (4096 < l) = true := decide_eq_true hbig
        clear hn hl hmay hk hg1 hg2 HR1 hlc
        go_enter Tryz.func45, Tryz.ntmps45
        go_wp2_with fail
        refine CM.out.mono ?_
        rintro e w1 ⟨rfl, b1⟩
        have B1 := Lib.hid b1
        clear b1 CM
        go_wp2_with fail
        refine (CG1.out w1 B1.out).mono ?_
        rintro e w2 ⟨v2, o2, rfl, own2, f2, b2⟩
        obtain ⟨A2, c2, rfl, _⟩ := own2.src (fun _ => True) (fun _ _ => trivial)
        rw [HK1.out]
        have B2 := Lib.hid (B1.out.trans (b2.mono B1.out.size))
        clear own2 f2 b2 CG1
        go_wp2_with fail
        refine (CG2.out w2 B2.out).mono ?_
        rintro e w3 ⟨v3, o3, rfl, own3, f3, b3⟩
        obtain ⟨A3, c3, rfl, _⟩ := own3.src (fun _ => True) (fun _ _ => trivial)
        rw [HK2.out]
        have B3 := Lib.hid (B2.out.trans (b3.mono B2.out.size))
        clear own3 f3 b3 CG2
        go_wp2_with fail
        go_ret2
        exact put_stop HF.out rfl B3.out
      · have HR2 := HR1.trans (if_neg (by rw [hl]; exact hbig))
        rw [hl] at HR2
        have d1 : decide ((4096 : Int) < (l : Int)) = false := decide_eq_false (by omega)
        have d1n : decide (4096 < l) = false := decide_eq_false hbig
        have HSA := Lib.hid (slim_with HSL.out l (by omega) false)
        have HNA := with_length ls l false
        rw [hn] at HNA
        have hall : withCL ls l false = ls := rfl
        obtain ⟨all, hAL⟩ : ∃ all, withCL ls l false = all := ⟨_, rfl⟩
        rw [hAL] at HR2 HSA HNA
        obtain rfl : ls = all := hall.symm.trans hAL
        have HR3 := Lib.hid HR2
        have hl4 : l ≤ 4096 := by omega
        clear HR1 HR2 HR hAL hlc hmay hk hg1 hg2 hbig hall
        have hna : ls.length ≤ 33 := by omega
        clear HNA
        go_enter Tryz.func45, Tryz.ntmps45
        go_wp2_with fail
        refine CM.out.mono ?_
        rintro e w1 ⟨rfl, b1⟩
        have B1 := Lib.hid b1
        clear b1 CM
        go_wp2_with fail
        refine (CG1.out w1 B1.out).mono ?_
        rintro e w2 ⟨v2, o2, rfl, own2, f2, b2⟩
        obtain ⟨A2, c2, rfl, _⟩ := own2.src (fun _ => True) (fun _ _ => trivial)
        rw [HK1.out]
        have B2 := Lib.hid (B1.out.trans (b2.mono B1.out.size))
        clear own2 f2 b2 CG1
        go_wp2_with fail
        refine (CG2.out w2 B2.out).mono ?_
        rintro e w3 ⟨v3, o3, rfl, own3, f3, b3⟩
        obtain ⟨A3, c3, rfl, _⟩ := own3.src (fun _ => True) (fun _ _ => trivial)
        rw [HK2.out]
        have B3 := Lib.hid (B2.out.trans (b3.mono B2.out.size))
        clear own3 f3 b3 CG2
        have CP := Lib.hid (put_any w3 A ls n c hn (by omega) (HS.out.below B3.out) HSA.out)
        unfold PutOf putF at CP
        cases hm2 : mayF ls with
        | false =>
          have HF := Lib.hid (HR3.out.trans (if_pos hm2))
          rw [hm2] at CP
          simp only [Bool.false_eq_true, if_false, Option.getD_none, Option.isSome_none, List.length_nil] at CP
          go_wp2_with fail
          refine CP.out.mono ?_
          rintro e w6 ⟨A6, c6, rfl, _, _, b6⟩
          have B6 := Lib.hid (B3.out.trans (b6.mono B3.out.size))
          clear b6 CP
          go_wp2_with fail
          go_ret2
          exact put_stop HF.out rfl B6.out
        | true =>
          have HR4 := HR3.out.trans (if_neg (by rw [hm2]; simp))
          rw [hm2] at CP
          simp only [if_true, Option.getD_some, Option.isSome_some] at CP
          have hfl : (linesF ls ++ [13, 10]).length ≤ 2048 := by
            have h1 := linesF_length ls
            have h2 := (may_facts ls hm2).2.2
            rw [List.length_append, List.length_cons, List.length_cons, List.length_nil]
            omega
          obtain ⟨fs, hfs⟩ : ∃ fs, linesF ls ++ [13, 10] = fs := ⟨_, rfl⟩
          obtain ⟨nf, hnf⟩ : ∃ nf, fs.length = nf := ⟨_, rfl⟩
          rw [hfs] at CP HR4 hfl
          rw [hnf] at CP HR4 hfl
          have HR5 := Lib.hid HR4
          have HNF := Lib.hid hnf
          clear HR3 HR4 hfs hnf hm2
          obtain ⟨ln, hln⟩ : ∃ ln : ByteArray, line ++ (⟨#[13, 10]⟩ : ByteArray) = ln := ⟨_, rfl⟩
          have hls : ln.size = line.size + 2 := by rw [← hln, ByteArray.size_append]; rfl
          have HLB := Lib.hid (show bl ln = bl line ++ [13, 10] by rw [← hln]; simp [bl])
          have hz1 : ¬ 9223372036854775807 < line.size + (⟨#[13, 10]⟩ : ByteArray).size := by show ¬ 9223372036854775807 < line.size + 2; omega
          have hz2 : ¬ 9223372036854775807 < line.size + 2 := by omega
          have wrn : IntKind.i64.wrap ((ln.size : Int) + (nf : Int)) = (ln.size : Int) + (nf : Int) := by rw [IntKind.wrap_i64]; omega
          go_wp2_with fail
          refine CP.out.mono ?_
          rintro e w6 ⟨A6, c6, rfl, _, s6, b6⟩
          have B6 := Lib.hid (B3.out.trans (b6.mono B3.out.size))
          have S6 := Lib.hid (s6.mono (P' := fun _ => True) (fun _ _ _ => trivial))
          clear b6 CP s6
          by_cases h512 : 512 < ln.size
          · have HF := Lib.hid (HR5.out.trans (if_pos (Or.inl (by omega))))
            have d2 : decide ((512 : Int) < (ln.size : Int)) = true := decide_eq_true (by omega)
            have d2n : decide (512 < ln.size) = true := decide_eq_true h512
            clear h512 hls
            go_wp2_with fail
            go_ret2
            exact put_stop HF.out rfl B6.out
          · have d2 : decide ((512 : Int) < (ln.size : Int)) = false := decide_eq_false (by omega)
            have d2n : decide (512 < ln.size) = false := decide_eq_false h512
            by_cases h2k : 2048 < ln.size + nf
            · have HF := Lib.hid (HR5.out.trans (if_pos (Or.inr (by omega))))
              have d3 : decide ((2048 : Int) < (ln.size : Int) + (nf : Int)) = true := decide_eq_true (by omega)
              have d3n : decide (2048 < ln.size + nf) = true := decide_eq_true h2k
              clear h512 h2k hls
              go_wp2_with fail
              go_ret2
              exact put_stop HF.out rfl B6.out
            · have HF := Lib.hid (HR5.out.trans (if_neg (by omega)))
              have d3 : decide ((2048 : Int) < (ln.size : Int) + (nf : Int)) = false := decide_eq_false (by omega)
              have d3n : decide (2048 < ln.size + nf) = false := decide_eq_false h2k
              obtain ⟨cap, w7, hcv, row7, b7, z7⟩ := run_to_bytes9 w6 ln
              have B7 := Lib.hid (B6.out.trans (b7.mono B6.out.size))
              have SB := srcb3 w7 (bl ln) fs bs (some ⟨w6.heap.size, 0, none⟩) A6 D ln.size nf l cap c6 d (bl_length ln) HNF.out HL.out row7.src (S6.out.kept (Turn.of_below (S := fun _ => False) b7) (fun _ _ h => h)) (HD.out.kept (Turn.of_below (S := fun _ => False) B7.out) (fun _ _ h => h))
              have CC := Lib.hid (concat9_any _ _ [bl ln, fs, bs] 3 3 rfl (by omega) SB (by simp only [sumB, List.map_cons, List.map_nil, List.sum_cons, List.sum_nil, HNF.out, HL.out, bl_length]; omega))
              obtain ⟨out, hout⟩ : ∃ out, [bl ln, fs, bs].flatten = out := ⟨_, rfl⟩
              rw [hout] at CC
              have HOUT := Lib.hid hout
              clear hout
              have B8 := Lib.hid (B7.out.alloc B7.out.size (.cells #[.slice (some ⟨w6.heap.size, 0, none⟩) ln.size cap, .slice A6 nf c6, .slice D l d] 22))
              clear SB row7 b7 z7 h512 h2k hls
              go_wp2_with fail
              refine CC.out.mono ?_
              rintro e w9 ⟨v9, o9, rfl, own9, f9, b9⟩
              obtain ⟨M, cM, hM, hMc, _, _⟩ := own9.block
              have sM : Src w9 (fun b => w.heap.size ≤ b) M out := by
                obtain ⟨M2, cM2, hM2, sM2⟩ := own9.src (fun b => w.heap.size ≤ b) (fun b hb => Nat.le_trans B8.out.size (f9 b hb))
                rw [hM] at hM2
                injection hM2 with hM2 _ _
                rw [hM2]
                exact sM2
              clear f9
              have B9 := Lib.hid (B8.out.trans (b9.mono B8.out.size))
              subst hM
              have HFL := Lib.hid (show R = (out, 0) by rw [HF.out, ← HOUT.out, HLB.out]; simp)
              obtain ⟨no, hno⟩ : ∃ no, out.length = no := ⟨_, rfl⟩
              rw [hno] at hMc ⊢
              have HNO2 := Lib.hid hno
              clear hno
              have HMC := Lib.hid hMc
              have SM := Lib.hid sM
              clear own9 b9 CC hMc sM
              go_wp2_with fail
              go_ret2
              exact ⟨M, cM, by rw [HFL.out, ← HNO2.out]; rfl, by rw [HFL.out]; exact (show out.length ≤ cM by rw [HNO2.out]; exact HMC.out), by rw [HFL.out]; exact SM.out, B9.out⟩

set_option maxHeartbeats 16000000 in
set_option maxRecDepth 100000 in
theorem put_yes (w : World) (line : ByteArray) (A D : Option Addr) (ls : List Fld) (bs : List UInt8) (n c l d : Nat) (hn : ls.length = n) (hl : bs.length = l) (hline : line.size ≤ 1000000) (hb : bulkF ls ≤ 1000000000) (hlm : l ≤ 140737488351232) (hs : SrcF w (fun _ => True) A ls) (hd : Src w (fun _ => True) D bs) (hp : Sta.PowT w) :
    Calls Tryz.prog 45 #[.string line, .slice A n c, .slice D l d, .bool true] w (PutGot9F (putsM (bl line) ls bs true) w) := by
  obtain ⟨R, hR⟩ : ∃ R, putsM (bl line) ls bs true = R := ⟨_, rfl⟩
  rw [hR]
  unfold putsM at hR
  rw [bl_length] at hR
  have hfit := (Meek.small hb).fit
  have hsl := hfit.slim
  have hn9 : n ≤ 1000000000 := by have := bulk_len ls; omega
  have CM := Lib.hid (may_any w A ls n c hn (by omega) hs hsl)
  have CG1 := Lib.hid (fun (X : World) (hX : Below w.heap.size w X) => get_any X A ls n c hn (by omega) (hs.below hX) hsl ⟨#[67, 111, 110, 116, 101, 110, 116, 45, 76, 101, 110, 103, 116, 104]⟩)
  rw [show bl ⟨#[67, 111, 110, 116, 101, 110, 116, 45, 76, 101, 110, 103, 116, 104]⟩ = clN9 from rfl, getF_cl] at CG1
  have CG2 := Lib.hid (fun (X : World) (hX : Below w.heap.size w X) => get_any X A ls n c hn (by omega) (hs.below hX) hsl ⟨#[84, 114, 97, 110, 115, 102, 101, 114, 45, 69, 110, 99, 111, 100, 105, 110, 103]⟩)
  rw [show bl ⟨#[84, 114, 97, 110, 115, 102, 101, 114, 45, 69, 110, 99, 111, 100, 105, 110, 103]⟩ = coU9 from rfl, getF_co] at CG2
  unfold GotS at CG1 CG2
  have hk1 := getF_length ls lenN
  have hk2 := getF_length ls codN
  have HY := Lib.hid (lc_yes (ls := ls))
  have HNO := Lib.hid (lc_not (ls := ls))
  have HS := Lib.hid hs
  have HD := Lib.hid hd
  have HN := Lib.hid hn
  have HL := Lib.hid hl
  have HSL := Lib.hid hsl
  have HR := Lib.hid hR
  have HP := Lib.hid hp
  generalize hg1 : (getF ls lenN).length = k1 at *
  generalize hg2 : (getF ls codN).length = k2 at *
  have wr : IntKind.i64.wrap ((k1 : Int) + (k2 : Int)) = (k1 : Int) + (k2 : Int) := by rw [IntKind.wrap_i64]; omega
  clear hs hd hfit hsl hR hp
  cases hmay : mayF ls with
  | false =>
    have HF := Lib.hid (HR.out.symm.trans (if_pos (Or.inr hmay)))
    rw [hmay] at CM
    clear hn hl hg1 hg2 hmay
    go_enter Tryz.func45, Tryz.ntmps45
    go_wp2_with fail
    refine CM.out.mono ?_
    rintro e w1 ⟨rfl, b1⟩
    have B1 := Lib.hid b1
    clear b1
    go_wp2_with fail
    go_ret2
    exact put_stop HF.out rfl B1.out
  | true =>
    rw [hmay] at CM
    by_cases hk : 0 < k1 + k2
    · have HF := Lib.hid (HR.out.symm.trans (if_pos (Or.inl (HY.out hk))))
      have d0 : decide ((0 : Int) < (k1 : Int) + (k2 : Int)) = true := decide_eq_true (by omega)
      have d0n : decide (0 < k1 + k2) = true := decide_eq_true hk
      have HK1 := Lib.hid hg1
      have HK2 := Lib.hid hg2
      clear hn hl hmay hk hg1 hg2
      go_enter Tryz.func45, Tryz.ntmps45
      go_wp2_with fail
      refine CM.out.mono ?_
      rintro e w1 ⟨rfl, b1⟩
      have B1 := Lib.hid b1
      clear b1 CM
      go_wp2_with fail
      refine (CG1.out w1 B1.out).mono ?_
      rintro e w2 ⟨v2, o2, rfl, own2, f2, b2⟩
      obtain ⟨A2, c2, rfl, _⟩ := own2.src (fun _ => True) (fun _ _ => trivial)
      rw [HK1.out]
      have B2 := Lib.hid (B1.out.trans (b2.mono B1.out.size))
      clear own2 f2 b2 CG1
      go_wp2_with fail
      refine (CG2.out w2 B2.out).mono ?_
      rintro e w3 ⟨v3, o3, rfl, own3, f3, b3⟩
      obtain ⟨A3, c3, rfl, _⟩ := own3.src (fun _ => True) (fun _ _ => trivial)
      rw [HK2.out]
      have B3 := Lib.hid (B2.out.trans (b3.mono B2.out.size))
      clear own3 f3 b3 CG2
      go_wp2_with fail
      go_ret2
      exact put_stop HF.out rfl B3.out
    · have hlc := HNO.out hk
      have HR1 := HR.out.symm.trans (if_neg (fun h => h.elim (fun h => by rw [hlc] at h; cases h) (fun h => by rw [hmay] at h; cases h)))
      have d0 : decide ((0 : Int) < (k1 : Int) + (k2 : Int)) = false := decide_eq_false (by omega)
      have d0n : decide (0 < k1 + k2) = false := decide_eq_false hk
      have HK1 := Lib.hid hg1
      have HK2 := Lib.hid hg2
      have hn32 := (may_facts ls hmay).1
      rw [hn] at hn32
      by_cases hbig : 4096 < l
      · have HF := Lib.hid (HR1.trans (if_pos (by rw [hl]; exact hbig)))
        have d1 : decide ((4096 : Int) < (l : Int)) = true := decide_eq_true (by omega)
        have d1n : decide (4096 < l) = true := decide_eq_true hbig
        clear hn hl hmay hk hg1 hg2 HR1 hlc
        go_enter Tryz.func45, Tryz.ntmps45
        go_wp2_with fail
        refine CM.out.mono ?_
        rintro e w1 ⟨rfl, b1⟩
        have B1 := Lib.hid b1
        clear b1 CM
        go_wp2_with fail
        refine (CG1.out w1 B1.out).mono ?_
        rintro e w2 ⟨v2, o2, rfl, own2, f2, b2⟩
        obtain ⟨A2, c2, rfl, _⟩ := own2.src (fun _ => True) (fun _ _ => trivial)
        rw [HK1.out]
        have B2 := Lib.hid (B1.out.trans (b2.mono B1.out.size))
        clear own2 f2 b2 CG1
        go_wp2_with fail
        refine (CG2.out w2 B2.out).mono ?_
        rintro e w3 ⟨v3, o3, rfl, own3, f3, b3⟩
        obtain ⟨A3, c3, rfl, _⟩ := own3.src (fun _ => True) (fun _ _ => trivial)
        rw [HK2.out]
        have B3 := Lib.hid (B2.out.trans (b3.mono B2.out.size))
        clear own3 f3 b3 CG2
        go_wp2_with fail
        go_ret2
        exact put_stop HF.out rfl B3.out
      · have HR2 := HR1.trans (if_neg (by rw [hl]; exact hbig))
        rw [hl] at HR2
        have d1 : decide ((4096 : Int) < (l : Int)) = false := decide_eq_false (by omega)
        have d1n : decide (4096 < l) = false := decide_eq_false hbig
        have HSA := Lib.hid (slim_with HSL.out l (by omega) true)
        have HNA := with_length ls l true
        rw [hn] at HNA
        have wu : IntKind.u64.wrap (l : Int) = (l : Int) := by rw [IntKind.wrap_u64]; omega
        have CT := Lib.hid (fun (X : World) (hX : Below w.heap.size w X) => text_any l X (HP.out.below hX))
        rw [writeF_ok 10 l (by unfold Most; omega)] at CT
        unfold Wrote at CT
        simp only at CT
        have CW := Lib.hid (fun (X : World) (hX : Below w.heap.size w X) => with_any X A ls n c hn (by omega) (HS.out.below hX) HSL.out clN9 (numF 10 l) (by decide) (by have := num_len l; omega))
        rw [with_cl hlc] at CW
        unfold GotF at CW
        rw [show clN9.toArray = #[67, 111, 110, 116, 101, 110, 116, 45, 76, 101, 110, 103, 116, 104] from rfl] at CW
        obtain ⟨all, hAL⟩ : ∃ all, withCL ls l true = all := ⟨_, rfl⟩
        rw [hAL] at HR2 HSA HNA CW
        have HR3 := Lib.hid HR2
        have hl4 : l ≤ 4096 := by omega
        clear HR1 HR2 HR hAL hlc hmay hk hg1 hg2 hbig
        have hna : all.length ≤ 33 := by omega
        clear HNA
        go_enter Tryz.func45, Tryz.ntmps45
        go_wp2_with fail
        refine CM.out.mono ?_
        rintro e w1 ⟨rfl, b1⟩
        have B1 := Lib.hid b1
        clear b1 CM
        go_wp2_with fail
        refine (CG1.out w1 B1.out).mono ?_
        rintro e w2 ⟨v2, o2, rfl, own2, f2, b2⟩
        obtain ⟨A2, c2, rfl, _⟩ := own2.src (fun _ => True) (fun _ _ => trivial)
        rw [HK1.out]
        have B2 := Lib.hid (B1.out.trans (b2.mono B1.out.size))
        clear own2 f2 b2 CG1
        go_wp2_with fail
        refine (CG2.out w2 B2.out).mono ?_
        rintro e w3 ⟨v3, o3, rfl, own3, f3, b3⟩
        obtain ⟨A3, c3, rfl, _⟩ := own3.src (fun _ => True) (fun _ _ => trivial)
        rw [HK2.out]
        have B3 := Lib.hid (B2.out.trans (b3.mono B2.out.size))
        clear own3 f3 b3 CG2
        go_wp2_with fail
        refine (CT.out w3 B3.out).mono ?_
        rintro e w4 ⟨rfl, b4⟩
        have B4 := Lib.hid (B3.out.trans (b4.mono B3.out.size))
        clear b4 CT
        go_wp2_with fail
        refine (CW.out w4 B4.out).mono ?_
        rintro e w5 ⟨v5, o5, rfl, own5, f5, b5⟩
        obtain ⟨A5, c5, rfl, s5⟩ := own5.src (fun _ => True) (fun _ _ => trivial)
        have B5 := Lib.hid (B4.out.trans (b5.mono B4.out.size))
        have S5 := Lib.hid s5
        clear own5 f5 b5 s5 CW
        have CP := Lib.hid (put_any w5 A5 all all.length c5 rfl (by omega) S5.out HSA.out)
        obtain ⟨na, hnal⟩ : ∃ na, all.length = na := ⟨_, rfl⟩
        rw [hnal] at CP ⊢
        clear hna
        unfold PutOf putF at CP
        cases hm2 : mayF all with
        | false =>
          have HF := Lib.hid (HR3.out.trans (if_pos hm2))
          rw [hm2] at CP
          simp only [Bool.false_eq_true, if_false, Option.getD_none, Option.isSome_none, List.length_nil] at CP
          go_wp2_with fail
          refine CP.out.mono ?_
          rintro e w6 ⟨A6, c6, rfl, _, _, b6⟩
          have B6 := Lib.hid (B5.out.trans (b6.mono B5.out.size))
          clear b6 CP
          go_wp2_with fail
          go_ret2
          exact put_stop HF.out rfl B6.out
        | true =>
          have HR4 := HR3.out.trans (if_neg (by rw [hm2]; simp))
          rw [hm2] at CP
          simp only [if_true, Option.getD_some, Option.isSome_some] at CP
          have hfl : (linesF all ++ [13, 10]).length ≤ 2048 := by
            have h1 := linesF_length all
            have h2 := (may_facts all hm2).2.2
            rw [List.length_append, List.length_cons, List.length_cons, List.length_nil]
            omega
          obtain ⟨fs, hfs⟩ : ∃ fs, linesF all ++ [13, 10] = fs := ⟨_, rfl⟩
          obtain ⟨nf, hnf⟩ : ∃ nf, fs.length = nf := ⟨_, rfl⟩
          rw [hfs] at CP HR4 hfl
          rw [hnf] at CP HR4 hfl
          have HR5 := Lib.hid HR4
          have HNF := Lib.hid hnf
          clear HR3 HR4 hfs hnf hm2
          obtain ⟨ln, hln⟩ : ∃ ln : ByteArray, line ++ (⟨#[13, 10]⟩ : ByteArray) = ln := ⟨_, rfl⟩
          have hls : ln.size = line.size + 2 := by rw [← hln, ByteArray.size_append]; rfl
          have HLB := Lib.hid (show bl ln = bl line ++ [13, 10] by rw [← hln]; simp [bl])
          have hz1 : ¬ 9223372036854775807 < line.size + (⟨#[13, 10]⟩ : ByteArray).size := by show ¬ 9223372036854775807 < line.size + 2; omega
          have hz2 : ¬ 9223372036854775807 < line.size + 2 := by omega
          have wrn : IntKind.i64.wrap ((ln.size : Int) + (nf : Int)) = (ln.size : Int) + (nf : Int) := by rw [IntKind.wrap_i64]; omega
          go_wp2_with fail
          refine CP.out.mono ?_
          rintro e w6 ⟨A6, c6, rfl, _, s6, b6⟩
          have B6 := Lib.hid (B5.out.trans (b6.mono B5.out.size))
          have S6 := Lib.hid (s6.mono (P' := fun _ => True) (fun _ _ _ => trivial))
          clear b6 CP s6
          by_cases h512 : 512 < ln.size
          · have HF := Lib.hid (HR5.out.trans (if_pos (Or.inl (by omega))))
            have d2 : decide ((512 : Int) < (ln.size : Int)) = true := decide_eq_true (by omega)
            have d2n : decide (512 < ln.size) = true := decide_eq_true h512
            clear h512 hls
            go_wp2_with fail
            go_ret2
            exact put_stop HF.out rfl B6.out
          · have d2 : decide ((512 : Int) < (ln.size : Int)) = false := decide_eq_false (by omega)
            have d2n : decide (512 < ln.size) = false := decide_eq_false h512
            by_cases h2k : 2048 < ln.size + nf
            · have HF := Lib.hid (HR5.out.trans (if_pos (Or.inr (by omega))))
              have d3 : decide ((2048 : Int) < (ln.size : Int) + (nf : Int)) = true := decide_eq_true (by omega)
              have d3n : decide (2048 < ln.size + nf) = true := decide_eq_true h2k
              clear h512 h2k hls
              go_wp2_with fail
              go_ret2
              exact put_stop HF.out rfl B6.out
            · have HF := Lib.hid (HR5.out.trans (if_neg (by omega)))
              have d3 : decide ((2048 : Int) < (ln.size : Int) + (nf : Int)) = false := decide_eq_false (by omega)
              have d3n : decide (2048 < ln.size + nf) = false := decide_eq_false h2k
              obtain ⟨cap, w7, hcv, row7, b7, z7⟩ := run_to_bytes9 w6 ln
              have B7 := Lib.hid (B6.out.trans (b7.mono B6.out.size))
              have SB := srcb3 w7 (bl ln) fs bs (some ⟨w6.heap.size, 0, none⟩) A6 D ln.size nf l cap c6 d (bl_length ln) HNF.out HL.out row7.src (S6.out.kept (Turn.of_below (S := fun _ => False) b7) (fun _ _ h => h)) (HD.out.kept (Turn.of_below (S := fun _ => False) B7.out) (fun _ _ h => h))
              have CC := Lib.hid (concat9_any _ _ [bl ln, fs, bs] 3 3 rfl (by omega) SB (by simp only [sumB, List.map_cons, List.map_nil, List.sum_cons, List.sum_nil, HNF.out, HL.out, bl_length]; omega))
              obtain ⟨out, hout⟩ : ∃ out, [bl ln, fs, bs].flatten = out := ⟨_, rfl⟩
              rw [hout] at CC
              have HOUT := Lib.hid hout
              clear hout
              have B8 := Lib.hid (B7.out.alloc B7.out.size (.cells #[.slice (some ⟨w6.heap.size, 0, none⟩) ln.size cap, .slice A6 nf c6, .slice D l d] 22))
              clear SB row7 b7 z7 h512 h2k hls
              go_wp2_with fail
              refine CC.out.mono ?_
              rintro e w9 ⟨v9, o9, rfl, own9, f9, b9⟩
              obtain ⟨M, cM, hM, hMc, _, _⟩ := own9.block
              have sM : Src w9 (fun b => w.heap.size ≤ b) M out := by
                obtain ⟨M2, cM2, hM2, sM2⟩ := own9.src (fun b => w.heap.size ≤ b) (fun b hb => Nat.le_trans B8.out.size (f9 b hb))
                rw [hM] at hM2
                injection hM2 with hM2 _ _
                rw [hM2]
                exact sM2
              clear f9
              have B9 := Lib.hid (B8.out.trans (b9.mono B8.out.size))
              subst hM
              have HFL := Lib.hid (show R = (out, 0) by rw [HF.out, ← HOUT.out, HLB.out]; simp)
              obtain ⟨no, hno⟩ : ∃ no, out.length = no := ⟨_, rfl⟩
              rw [hno] at hMc ⊢
              have HNO2 := Lib.hid hno
              clear hno
              have HMC := Lib.hid hMc
              have SM := Lib.hid sM
              clear own9 b9 CC hMc sM
              go_wp2_with fail
              go_ret2
              exact ⟨M, cM, by rw [HFL.out, ← HNO2.out]; rfl, by rw [HFL.out]; exact (show out.length ≤ cM by rw [HNO2.out]; exact HMC.out), by rw [HFL.out]; exact SM.out, B9.out⟩
end Go.Proofs.YtemgfppclakdmaaGreatDoor

namespace Go.Proofs.YtemgfppclakdmaaGreatDoor
open Go.RowKit

set_option maxHeartbeats 4000000 in
set_option maxRecDepth 100000 in
theorem lsame9_any {P P' : Nat → Prop} (w : World) (A A' : Option Addr) (ls ls' : List Fld) (n n' c c' : Nat) (hn : ls.length = n) (hn' : ls'.length = n') (hmax : n ≤ 140737488351232) (h : SrcF w P A ls) (h' : SrcF w P' A' ls') :
    Calls Tryz.prog 43 #[.slice A n c, .slice A' n' c'] w fun e w' => e = .returned (.bool (ls == ls')) ∧ Below w.heap.size w w' := by
  have HN := Lib.hid hn
  have HN' := Lib.hid hn'
  have H := Lib.hid h
  have H' := Lib.hid h'
  by_cases hne : n = n'
  · subst hne
    have e0 : ((n : Int) != (n : Int)) = false := by simp
    clear hn hn' h h'
    go_enter Tryz.func43, Tryz.ntmps43
    go_wp2_with fail
    go_loopw [13] (fun vi wr => ∃ k : Nat, vi = .int .i64 (k : Int) ∧ k ≤ n ∧ Hid (ls.take k = ls'.take k) ∧ Hid (Below w.heap.size w wr)) (fun vi _ => n - (intOf vi).toNat)
    case atStart => exact ⟨0, rfl, Nat.zero_le _, Lib.hid rfl, Lib.hid (Below.refl _ _)⟩
    case round =>
      obtain ⟨k, rfl, hk, HE, HB⟩ := hrel
      by_cases hlt : k < n
      · obtain ⟨p, f, hf, hat, y0, y1, _, _⟩ := H.out.at (c := c) HN.out hlt HB.out
        obtain ⟨p', f', hf', hat', y0', y1', _, _⟩ := H'.out.at (c := c') HN'.out hlt HB.out
        have HX := Lib.hid hf
        have HY := Lib.hid hf'
        obtain ⟨Nm, hNm⟩ : ∃ Nm : ByteArray, Nm = ⟨f.1.toArray⟩ := ⟨_, rfl⟩
        obtain ⟨Vl, hVl⟩ : ∃ Vl : ByteArray, Vl = ⟨f.2.toArray⟩ := ⟨_, rfl⟩
        obtain ⟨Nm', hNm'⟩ : ∃ Nm : ByteArray, Nm = ⟨f'.1.toArray⟩ := ⟨_, rfl⟩
        obtain ⟨Vl', hVl'⟩ : ∃ Vl : ByteArray, Vl = ⟨f'.2.toArray⟩ := ⟨_, rfl⟩
        rw [← hNm] at y0
        rw [← hVl] at y1
        rw [← hNm'] at y0'
        rw [← hVl'] at y1'
        have HF := Lib.hid (show f = (bl Nm, bl Vl) by rw [hNm, hVl, bl_mk, bl_mk])
        have HF' := Lib.hid (show f' = (bl Nm', bl Vl') by rw [hNm', hVl', bl_mk, bl_mk])
        clear hf hf' hNm hVl hNm' hVl'
        have hg := fldGuard
        have hq := run_neq_fld Nm Vl Nm' Vl'
        by_cases hxy : f = f'
        · have HT := Lib.hid (show ls.take (k + 1) = ls'.take (k + 1) by rw [take_snoc ls k f HX.out, take_snoc ls' k f' HY.out, HE.out, hxy])
          have hb : (!(Nm.toList == Nm'.toList && Vl.toList == Vl'.toList)) = false := by
            have h1 := HF.out
            rw [hxy, HF'.out] at h1
            simp only [Prod.mk.injEq] at h1
            rw [Lib.toList_data, Lib.toList_data, Lib.toList_data, Lib.toList_data]
            have e1 : Nm'.data.toList = Nm.data.toList := h1.1
            have e2 : Vl'.data.toList = Vl.data.toList := h1.2
            rw [e1, e2]
            simp
          rw [hb] at hq
          clear hb hxy
          go_wp2_with fail
          go_quiet (fail)
          go_wp2_with fail
          go_roundw
          case rel => exact ⟨k + 1, by go_num, hlt, HT, Lib.hid (below_drewN HB.out _)⟩
          case measure => simp [intOf]; omega
        · have HD := Lib.hid (show (ls == ls') = false by
            rw [beq_eq_false_iff_ne]
            intro e
            have h1 := HX.out
            rw [e, HY.out] at h1
            exact hxy (Option.some.inj h1.symm))
          have hb : (!(Nm.toList == Nm'.toList && Vl.toList == Vl'.toList)) = true := by
            rw [Bool.not_eq_true', ← Bool.not_eq_true, Bool.and_eq_true, beq_iff_eq, beq_iff_eq, Lib.toList_data, Lib.toList_data, Lib.toList_data, Lib.toList_data]
            rintro ⟨e1, e2⟩
            apply hxy
            rw [HF.out, HF'.out]
            unfold bl
            rw [e1, e2]
          rw [hb] at hq
          clear hb hxy
          go_wp2_with fail
          go_quiet (fail)
          go_wp2_with fail
          go_ret
          exact ⟨ret_bool HD.out.symm, below_drewN HB.out _⟩
      · have HF := Lib.hid (show (ls == ls') = true by
          have := HE.out
          rw [List.take_of_length_le (by rw [HN.out]; omega), List.take_of_length_le (by rw [HN'.out]; omega)] at this
          rw [this]
          simp)
        go_wp2_with fail
        go_ret
        exact ⟨ret_bool HF.out.symm, HB.out⟩
  · have e0 : ((n : Int) != (n' : Int)) = true := by simp; omega
    have HF := Lib.hid (show (ls == ls') = false by
      rw [beq_eq_false_iff_ne]
      intro e
      rw [e] at hn
      omega)
    clear hn hn' h h' hne
    go_enter Tryz.func43, Tryz.ntmps43
    go_wp2_with fail
    go_ret
    exact ⟨ret_bool HF.out.symm, Below.refl _ _⟩
set_option maxHeartbeats 8000000 in
set_option maxRecDepth 100000 in
theorem samereq_any {P P' Q Q' : Nat → Prop} (w : World) (s0 s0' : ByteArray) (s1 s1' : ByteArray) (i2 i2' : Int) (A A' D D' : Option Addr) (ls ls' : List Fld) (bs bs' : List UInt8) (n n' c c' m m' d d' : Nat) (hn : ls.length = n) (hn' : ls'.length = n') (hmax : n ≤ 140737488351232) (hm : bs.length = m) (hm' : bs'.length = m') (h : SrcF w P A ls) (h' : SrcF w P' A' ls') (hb : Src w Q D bs) (hb' : Src w Q' D' bs') :
    Calls Tryz.prog 17 #[.agg #[.string s0, .string s1, .int .i64 i2, .slice A n c, .slice D m d], .agg #[.string s0', .string s1', .int .i64 i2', .slice A' n' c', .slice D' m' d']] w fun e w' => e = .returned (.bool (decide (bl s0 = bl s0' ∧ bl s1 = bl s1' ∧ i2 = i2' ∧ ls = ls' ∧ bs = bs'))) ∧ Below w.heap.size w w' := by
  obtain ⟨X, hX⟩ : ∃ X, X = ((w.alloc (.cells #[.string s0, .string s1, .int .i64 i2, .slice A n c, .slice D m d] 25)).alloc (.cells #[.string s0', .string s1', .int .i64 i2', .slice A' n' c', .slice D' m' d'] 25)) := ⟨_, rfl⟩
  have BX : Below w.heap.size w X := by rw [hX]; exact ((Below.refl _ _).alloc (Nat.le_refl _) _).alloc (Below.size ((Below.refl _ _).alloc (Nat.le_refl _) _)) _
  have I1 : Is X w.heap.size 25 [.string s0, .string s1, .int .i64 i2, .slice A n c, .slice D m d] := by rw [hX]; exact (Is.made w 25 [.string s0, .string s1, .int .i64 i2, .slice A n c, .slice D m d]).alloc _
  have I2 : Is X (w.heap.size + 1) 25 [.string s0', .string s1', .int .i64 i2', .slice A' n' c', .slice D' m' d'] := by
    rw [hX]
    have := Is.made (w.alloc (.cells #[.string s0, .string s1, .int .i64 i2, .slice A n c, .slice D m d] 25)) 25 [.string s0', .string s1', .int .i64 i2', .slice A' n' c', .slice D' m' d']
    rwa [show (w.alloc (.cells #[.string s0, .string s1, .int .i64 i2, .slice A n c, .slice D m d] 25)).heap.size = w.heap.size + 1 by simp] at this
  have CS := Lib.hid (lsame9_any X A A' ls ls' n n' c c' hn hn' hmax (h.below BX) (h'.below BX))
  have HS := Lib.hid (hb.kept (Turn.of_below (S := fun _ => False) BX) (fun _ _ h => h))
  have HS' := Lib.hid (hb'.kept (Turn.of_below (S := fun _ => False) BX) (fun _ _ h => h))
  have HB := Lib.hid BX
  have J1 := Lib.hid I1
  have J2 := Lib.hid I2
  have HM := Lib.hid hm
  have HM' := Lib.hid hm'
  have x0 : X.cell? ⟨w.heap.size, 0, none⟩ = some (.string s0) := J1.out.cell 0
  have x1 : X.cell? ⟨w.heap.size, 1, none⟩ = some (.string s1) := J1.out.cell 1
  have x2 : X.cell? ⟨w.heap.size, 2, none⟩ = some (.int .i64 i2) := J1.out.cell 2
  have x3 : X.cell? ⟨w.heap.size, 3, none⟩ = some (.slice A n c) := J1.out.cell 3
  have x4 : X.cell? ⟨w.heap.size, 4, none⟩ = some (.slice D m d) := J1.out.cell 4
  have y0 : X.cell? ⟨w.heap.size + 1, 0, none⟩ = some (.string s0') := J2.out.cell 0
  have y1 : X.cell? ⟨w.heap.size + 1, 1, none⟩ = some (.string s1') := J2.out.cell 1
  have y2 : X.cell? ⟨w.heap.size + 1, 2, none⟩ = some (.int .i64 i2') := J2.out.cell 2
  have y3 : X.cell? ⟨w.heap.size + 1, 3, none⟩ = some (.slice A' n' c') := J2.out.cell 3
  have y4 : X.cell? ⟨w.heap.size + 1, 4, none⟩ = some (.slice D' m' d') := J2.out.cell 4
  clear hn hn' hm hm' h h' hb hb' BX I1 I2
  by_cases q0 : bl s0 = bl s0'
  · have e0 : (s0.toList == s0'.toList) = true := by rw [Lib.toList_data, Lib.toList_data]; simpa [bl] using q0
    have Q0 := Lib.hid q0
    clear q0
    by_cases q1 : bl s1 = bl s1'
    · have e1 : (s1.toList == s1'.toList) = true := by rw [Lib.toList_data, Lib.toList_data]; simpa [bl] using q1
      have Q1 := Lib.hid q1
      clear q1
      by_cases q2 : i2 = i2'
      · have e2 : (i2 == i2') = true := by simpa using q2
        have Q2 := Lib.hid q2
        clear q2
        by_cases q3 : ls = ls'
        · rw [show (ls == ls') = true by simpa using q3] at CS
          go_enter Tryz.func17, Tryz.ntmps17
          go_upto_region 1 with fail
          rw [← hX]
          clear hX
          go_wp2_with fail
          refine CS.out.mono ?_
          rintro e w3 ⟨rfl, b3⟩
          have CB := Lib.hid (bequal_any w3 D D' bs bs' m d m' d' HM.out HM'.out (HS.out.kept (Turn.of_below (S := fun _ => False) b3) (fun _ _ h => h)) (HS'.out.kept (Turn.of_below (S := fun _ => False) b3) (fun _ _ h => h)))
          have J3 := Lib.hid (J1.out.kept (Turn.of_below (S := fun _ => False) b3) (fun h => h))
          have J4 := Lib.hid (J2.out.kept (Turn.of_below (S := fun _ => False) b3) (fun h => h))
          have z4 : w3.cell? ⟨w.heap.size, 4, none⟩ = some (.slice D m d) := J3.out.cell 4
          have t4 : w3.cell? ⟨w.heap.size + 1, 4, none⟩ = some (.slice D' m' d') := J4.out.cell 4
          have B3 := Lib.hid (HB.out.trans (b3.mono HB.out.size))
          have HR := Lib.hid (show decide (bl s0 = bl s0' ∧ bl s1 = bl s1' ∧ i2 = i2' ∧ ls = ls' ∧ bs = bs') = (bs == bs') by rw [Bool.eq_iff_iff]; simp [Q0.out, Q1.out, Q2.out, q3])
          clear b3
          generalize (bs == bs') = q at *
          go_wp2_with fail
          refine CB.out.mono ?_
          rintro e w4 ⟨rfl, rfl⟩
          go_wp2_with fail
          go_ret
          exact ⟨ret_bool HR.out.symm, B3.out⟩
        · rw [show (ls == ls') = false by simpa using q3] at CS
          have HR := Lib.hid (show decide (bl s0 = bl s0' ∧ bl s1 = bl s1' ∧ i2 = i2' ∧ ls = ls' ∧ bs = bs') = false by simp [q3])
          go_enter Tryz.func17, Tryz.ntmps17
          go_upto_region 1 with fail
          rw [← hX]
          clear hX
          go_wp2_with fail
          refine CS.out.mono ?_
          rintro e w3 ⟨rfl, b3⟩
          have B3 := Lib.hid (HB.out.trans (b3.mono HB.out.size))
          clear b3
          go_wp2_with fail
          go_ret
          exact ⟨ret_bool HR.out.symm, B3.out⟩
      · have e2 : (i2 == i2') = false := by simpa using q2
        have HR := Lib.hid (show decide (bl s0 = bl s0' ∧ bl s1 = bl s1' ∧ i2 = i2' ∧ ls = ls' ∧ bs = bs') = false by simp [q2])
        go_enter Tryz.func17, Tryz.ntmps17
        go_upto_region 1 with fail
        rw [← hX]
        clear hX
        go_wp2_with fail
        go_ret
        exact ⟨ret_bool HR.out.symm, HB.out⟩
    · have e1 : (s1.toList == s1'.toList) = false := by rw [Lib.toList_data, Lib.toList_data]; simpa [bl] using q1
      have HR := Lib.hid (show decide (bl s0 = bl s0' ∧ bl s1 = bl s1' ∧ i2 = i2' ∧ ls = ls' ∧ bs = bs') = false by simp [q1])
      go_enter Tryz.func17, Tryz.ntmps17
      go_upto_region 1 with fail
      rw [← hX]
      clear hX
      go_wp2_with fail
      go_ret
      exact ⟨ret_bool HR.out.symm, HB.out⟩
  · have e0 : (s0.toList == s0'.toList) = false := by rw [Lib.toList_data, Lib.toList_data]; simpa [bl] using q0
    have HR := Lib.hid (show decide (bl s0 = bl s0' ∧ bl s1 = bl s1' ∧ i2 = i2' ∧ ls = ls' ∧ bs = bs') = false by simp [q0])
    go_enter Tryz.func17, Tryz.ntmps17
    go_upto_region 1 with fail
    rw [← hX]
    clear hX
    go_wp2_with fail
    go_ret
    exact ⟨ret_bool HR.out.symm, HB.out⟩
set_option maxHeartbeats 8000000 in
set_option maxRecDepth 100000 in
theorem sameres_any {P P' Q Q' : Nat → Prop} (w : World) (i0 i0' : Int) (s1 s1' : ByteArray) (i2 i2' : Int) (A A' D D' : Option Addr) (ls ls' : List Fld) (bs bs' : List UInt8) (n n' c c' m m' d d' : Nat) (hn : ls.length = n) (hn' : ls'.length = n') (hmax : n ≤ 140737488351232) (hm : bs.length = m) (hm' : bs'.length = m') (h : SrcF w P A ls) (h' : SrcF w P' A' ls') (hb : Src w Q D bs) (hb' : Src w Q' D' bs') :
    Calls Tryz.prog 18 #[.agg #[.int .i64 i0, .string s1, .int .i64 i2, .slice A n c, .slice D m d], .agg #[.int .i64 i0', .string s1', .int .i64 i2', .slice A' n' c', .slice D' m' d']] w fun e w' => e = .returned (.bool (decide (i0 = i0' ∧ bl s1 = bl s1' ∧ i2 = i2' ∧ ls = ls' ∧ bs = bs'))) ∧ Below w.heap.size w w' := by
  obtain ⟨X, hX⟩ : ∃ X, X = ((w.alloc (.cells #[.int .i64 i0, .string s1, .int .i64 i2, .slice A n c, .slice D m d] 32)).alloc (.cells #[.int .i64 i0', .string s1', .int .i64 i2', .slice A' n' c', .slice D' m' d'] 32)) := ⟨_, rfl⟩
  have BX : Below w.heap.size w X := by rw [hX]; exact ((Below.refl _ _).alloc (Nat.le_refl _) _).alloc (Below.size ((Below.refl _ _).alloc (Nat.le_refl _) _)) _
  have I1 : Is X w.heap.size 32 [.int .i64 i0, .string s1, .int .i64 i2, .slice A n c, .slice D m d] := by rw [hX]; exact (Is.made w 32 [.int .i64 i0, .string s1, .int .i64 i2, .slice A n c, .slice D m d]).alloc _
  have I2 : Is X (w.heap.size + 1) 32 [.int .i64 i0', .string s1', .int .i64 i2', .slice A' n' c', .slice D' m' d'] := by
    rw [hX]
    have := Is.made (w.alloc (.cells #[.int .i64 i0, .string s1, .int .i64 i2, .slice A n c, .slice D m d] 32)) 32 [.int .i64 i0', .string s1', .int .i64 i2', .slice A' n' c', .slice D' m' d']
    rwa [show (w.alloc (.cells #[.int .i64 i0, .string s1, .int .i64 i2, .slice A n c, .slice D m d] 32)).heap.size = w.heap.size + 1 by simp] at this
  have CS := Lib.hid (lsame9_any X A A' ls ls' n n' c c' hn hn' hmax (h.below BX) (h'.below BX))
  have HS := Lib.hid (hb.kept (Turn.of_below (S := fun _ => False) BX) (fun _ _ h => h))
  have HS' := Lib.hid (hb'.kept (Turn.of_below (S := fun _ => False) BX) (fun _ _ h => h))
  have HB := Lib.hid BX
  have J1 := Lib.hid I1
  have J2 := Lib.hid I2
  have HM := Lib.hid hm
  have HM' := Lib.hid hm'
  have x0 : X.cell? ⟨w.heap.size, 0, none⟩ = some (.int .i64 i0) := J1.out.cell 0
  have x1 : X.cell? ⟨w.heap.size, 1, none⟩ = some (.string s1) := J1.out.cell 1
  have x2 : X.cell? ⟨w.heap.size, 2, none⟩ = some (.int .i64 i2) := J1.out.cell 2
  have x3 : X.cell? ⟨w.heap.size, 3, none⟩ = some (.slice A n c) := J1.out.cell 3
  have x4 : X.cell? ⟨w.heap.size, 4, none⟩ = some (.slice D m d) := J1.out.cell 4
  have y0 : X.cell? ⟨w.heap.size + 1, 0, none⟩ = some (.int .i64 i0') := J2.out.cell 0
  have y1 : X.cell? ⟨w.heap.size + 1, 1, none⟩ = some (.string s1') := J2.out.cell 1
  have y2 : X.cell? ⟨w.heap.size + 1, 2, none⟩ = some (.int .i64 i2') := J2.out.cell 2
  have y3 : X.cell? ⟨w.heap.size + 1, 3, none⟩ = some (.slice A' n' c') := J2.out.cell 3
  have y4 : X.cell? ⟨w.heap.size + 1, 4, none⟩ = some (.slice D' m' d') := J2.out.cell 4
  clear hn hn' hm hm' h h' hb hb' BX I1 I2
  by_cases q0 : i0 = i0'
  · have e0 : (i0 == i0') = true := by simpa using q0
    have Q0 := Lib.hid q0
    clear q0
    by_cases q1 : bl s1 = bl s1'
    · have e1 : (s1.toList == s1'.toList) = true := by rw [Lib.toList_data, Lib.toList_data]; simpa [bl] using q1
      have Q1 := Lib.hid q1
      clear q1
      by_cases q2 : i2 = i2'
      · have e2 : (i2 == i2') = true := by simpa using q2
        have Q2 := Lib.hid q2
        clear q2
        by_cases q3 : ls = ls'
        · rw [show (ls == ls') = true by simpa using q3] at CS
          go_enter Tryz.func18, Tryz.ntmps18
          go_upto_region 1 with fail
          rw [← hX]
          clear hX
          go_wp2_with fail
          refine CS.out.mono ?_
          rintro e w3 ⟨rfl, b3⟩
          have CB := Lib.hid (bequal_any w3 D D' bs bs' m d m' d' HM.out HM'.out (HS.out.kept (Turn.of_below (S := fun _ => False) b3) (fun _ _ h => h)) (HS'.out.kept (Turn.of_below (S := fun _ => False) b3) (fun _ _ h => h)))
          have J3 := Lib.hid (J1.out.kept (Turn.of_below (S := fun _ => False) b3) (fun h => h))
          have J4 := Lib.hid (J2.out.kept (Turn.of_below (S := fun _ => False) b3) (fun h => h))
          have z4 : w3.cell? ⟨w.heap.size, 4, none⟩ = some (.slice D m d) := J3.out.cell 4
          have t4 : w3.cell? ⟨w.heap.size + 1, 4, none⟩ = some (.slice D' m' d') := J4.out.cell 4
          have B3 := Lib.hid (HB.out.trans (b3.mono HB.out.size))
          have HR := Lib.hid (show decide (i0 = i0' ∧ bl s1 = bl s1' ∧ i2 = i2' ∧ ls = ls' ∧ bs = bs') = (bs == bs') by rw [Bool.eq_iff_iff]; simp [Q0.out, Q1.out, Q2.out, q3])
          clear b3
          generalize (bs == bs') = q at *
          go_wp2_with fail
          refine CB.out.mono ?_
          rintro e w4 ⟨rfl, rfl⟩
          go_wp2_with fail
          go_ret
          exact ⟨ret_bool HR.out.symm, B3.out⟩
        · rw [show (ls == ls') = false by simpa using q3] at CS
          have HR := Lib.hid (show decide (i0 = i0' ∧ bl s1 = bl s1' ∧ i2 = i2' ∧ ls = ls' ∧ bs = bs') = false by simp [q3])
          go_enter Tryz.func18, Tryz.ntmps18
          go_upto_region 1 with fail
          rw [← hX]
          clear hX
          go_wp2_with fail
          refine CS.out.mono ?_
          rintro e w3 ⟨rfl, b3⟩
          have B3 := Lib.hid (HB.out.trans (b3.mono HB.out.size))
          clear b3
          go_wp2_with fail
          go_ret
          exact ⟨ret_bool HR.out.symm, B3.out⟩
      · have e2 : (i2 == i2') = false := by simpa using q2
        have HR := Lib.hid (show decide (i0 = i0' ∧ bl s1 = bl s1' ∧ i2 = i2' ∧ ls = ls' ∧ bs = bs') = false by simp [q2])
        go_enter Tryz.func18, Tryz.ntmps18
        go_upto_region 1 with fail
        rw [← hX]
        clear hX
        go_wp2_with fail
        go_ret
        exact ⟨ret_bool HR.out.symm, HB.out⟩
    · have e1 : (s1.toList == s1'.toList) = false := by rw [Lib.toList_data, Lib.toList_data]; simpa [bl] using q1
      have HR := Lib.hid (show decide (i0 = i0' ∧ bl s1 = bl s1' ∧ i2 = i2' ∧ ls = ls' ∧ bs = bs') = false by simp [q1])
      go_enter Tryz.func18, Tryz.ntmps18
      go_upto_region 1 with fail
      rw [← hX]
      clear hX
      go_wp2_with fail
      go_ret
      exact ⟨ret_bool HR.out.symm, HB.out⟩
  · have e0 : (i0 == i0') = false := by simpa using q0
    have HR := Lib.hid (show decide (i0 = i0' ∧ bl s1 = bl s1' ∧ i2 = i2' ∧ ls = ls' ∧ bs = bs') = false by simp [q0])
    go_enter Tryz.func18, Tryz.ntmps18
    go_upto_region 1 with fail
    rw [← hX]
    clear hX
    go_wp2_with fail
    go_ret
    exact ⟨ret_bool HR.out.symm, HB.out⟩
end Go.Proofs.YtemgfppclakdmaaGreatDoor

namespace Go.Proofs.YtemgfppclakdmaaGreatDoor
open Go.RowKit

theorem putreq_len {n : Int} {m t line : List UInt8} (h : Sta.putReqF n m t = some line) : line.length ≤ 512 := by
  unfold Sta.putReqF at h
  split at h
  · rename_i h1
    injection h with h
    rw [← h]
    unfold Sta.reqL Sta.versL
    simp only [List.length_append, List.length_cons, List.length_nil]
    omega
  · cases h
theorem putstat_len {n st : Int} {r line : List UInt8} (h : Sta.putStatF n st r = some line) : line.length ≤ 512 ∧ (n = 0 ∨ n = 1) ∧ 100 ≤ st ∧ st ≤ 599 := by
  unfold Sta.putStatF at h
  split at h
  · rename_i h1
    injection h with h
    rw [← h]
    unfold Sta.statL Sta.versL Sta.digL
    simp only [List.length_append, List.length_cons, List.length_nil]
    omega
  · cases h
theorem srcf_nil (w : World) (P : Nat → Prop) (A : Option Addr) : SrcF w P A [] := fun h => absurd h (by simp)
theorem resK_nil {n st : Int} (m : List UInt8) (hn : n = 0 ∨ n = 1) (h1 : 100 ≤ st) (h2 : st ≤ 599) : resK st m (reqK n []) = if bodyF st m = true then (3, 0, 0) else (0, 0, 0) := by
  have h : reqK n [] = (0, 0, 0) := by
    unfold reqK
    rw [if_neg (by omega)]
    rfl
  rw [h]
  unfold resK
  rw [if_neg (by omega), if_neg (by simp)]
  cases bodyF st m <;> rfl

set_option maxHeartbeats 16000000 in
set_option maxRecDepth 100000 in
theorem putreq_land (w : World) (m t : ByteArray) (k : Int) (A D : Option Addr) (ls : List Fld) (bs : List UInt8) (n c l d : Nat) (hn : ls.length = n) (hl : bs.length = l) (hm : m.size ≤ 140737488351232) (ht : t.size ≤ 140737488351232) (hk : Sta.I64 k) (hb : bulkF ls ≤ 1000000000) (hlm : l ≤ 140737488351232) (hs : SrcF w (fun _ => True) A ls) (hd : Src w (fun _ => True) D bs) (hp : Sta.PowT w) :
    Calls Tryz.prog 19 #[.agg #[.string m, .string t, .int .i64 k, .slice A n c, .slice D l d]] w (PutGot9F (putReqM (bl m) (bl t) k ls bs) w) := by
  obtain ⟨g, hg⟩ : ∃ g, w.heap.size = g := ⟨_, rfl⟩
  obtain ⟨R, hR⟩ : ∃ R, putReqM (bl m) (bl t) k ls bs = R := ⟨_, rfl⟩
  rw [hR]
  unfold putReqM at hR
  have i0 := Is.made w 25 [.string m, .string t, .int .i64 k, .slice A n c, .slice D l d]
  rw [hg] at i0
  have I0 := Lib.hid i0
  have b0 : Below w.heap.size w (w.alloc (.cells #[.string m, .string t, .int .i64 k, .slice A n c, .slice D l d] 25)) := (Below.refl _ _).alloc (Nat.le_refl _) _
  have B0 := Lib.hid b0
  have CQ := Lib.hid (Sta.putreq_any m t k (w.alloc (.cells #[.string m, .string t, .int .i64 k, .slice A n c, .slice D l d] 25)) (by omega) (by omega) hk (hp.below b0))
  unfold Sta.PutGot at CQ
  have HS := Lib.hid hs
  have HD := Lib.hid hd
  have HP := Lib.hid hp
  have HG := Lib.hid hg
  clear i0 b0 hs hd hp hg
  cases hq : Sta.putReqF k (bl m) (bl t) with
  | none =>
    rw [hq] at CQ hR
    simp only at CQ hR
    have HF := Lib.hid hR.symm
    clear hR hn hl
    go_enter Tryz.func19, Tryz.ntmps19
    go_upto_region 1 with fail
    simp only [HG.out]
    generalize w.alloc _ = X0 at *
    have x0 : X0.cell? ⟨g, 0, none⟩ = some (.string m) := I0.out.cell 0
    have x1 : X0.cell? ⟨g, 1, none⟩ = some (.string t) := I0.out.cell 1
    have x2 : X0.cell? ⟨g, 2, none⟩ = some (.int .i64 k) := I0.out.cell 2
    go_wp2_with fail
    refine CQ.out.mono ?_
    rintro e w1 ⟨b1, rfl⟩
    have BX := Lib.hid (B0.out.trans (b1.mono B0.out.size))
    have I1 := Lib.hid (I0.out.kept (Turn.of_below (S := fun _ => False) b1) (fun h => h))
    clear b1 CQ B0 I0 x0 x1 x2
    go_wp2_with fail
    go_ret2
    exact put_stop HF.out rfl BX.out
  | some line =>
    have hlen := putreq_len hq
    rw [hq] at CQ hR
    simp only at CQ hR
    have hz : (⟨line.toArray⟩ : ByteArray).size ≤ 1000000 := by rw [← bl_length, bl_mk]; omega
    by_cases hl0 : 0 < l
    · have d0 : decide ((0 : Int) < (l : Int)) = true := decide_eq_true (by omega)
      have d0n : decide (0 < l) = true := decide_eq_true hl0
      have hne : decide (bs ≠ []) = true := decide_eq_true (fun h => by rw [h] at hl; simp at hl; omega)
      rw [hne] at hR
      have HF := Lib.hid hR
      have CPA := Lib.hid (fun (Y : World) (hY : Below w.heap.size w Y) => put_yes Y ⟨line.toArray⟩ A D ls bs n c l d hn hl hz hb hlm (HS.out.below hY) (HD.out.kept (Turn.of_below (S := fun _ => False) hY) (fun _ _ h => h)) (HP.out.below hY))
      rw [bl_mk] at CPA
      clear hR hn hl hl0 hne hq
      go_enter Tryz.func19, Tryz.ntmps19
      go_upto_region 1 with fail
      simp only [HG.out]
      generalize w.alloc _ = X0 at *
      have x0 : X0.cell? ⟨g, 0, none⟩ = some (.string m) := I0.out.cell 0
      have x1 : X0.cell? ⟨g, 1, none⟩ = some (.string t) := I0.out.cell 1
      have x2 : X0.cell? ⟨g, 2, none⟩ = some (.int .i64 k) := I0.out.cell 2
      go_wp2_with fail
      refine CQ.out.mono ?_
      rintro e w1 ⟨b1, rfl⟩
      have BX := Lib.hid (B0.out.trans (b1.mono B0.out.size))
      have I1 := Lib.hid (I0.out.kept (Turn.of_below (S := fun _ => False) b1) (fun h => h))
      clear b1 CQ B0 I0 x0 x1 x2
      have y3 : w1.cell? ⟨g, 3, none⟩ = some (.slice A n c) := I1.out.cell 3
      have y4 : w1.cell? ⟨g, 4, none⟩ = some (.slice D l d) := I1.out.cell 4
      have CP := Lib.hid (CPA.out w1 BX.out)
      clear CPA
      have HR2 := Lib.hid HF.out
      rw [HF.out] at CP
      unfold PutGot9F at CP
      obtain ⟨out, e9⟩ := R
      simp only at CP
      obtain ⟨no, hno⟩ : ∃ no, out.length = no := ⟨_, rfl⟩
      rw [hno] at CP
      have HNO := Lib.hid hno
      clear HR2 HF hno
      go_wp2_with fail
      refine CP.out.mono ?_
      rintro e w9 ⟨A9, c9, rfl, hc9, s9, b9⟩
      have C9 := Lib.hid hc9
      have S9 := Lib.hid (s9.mono (P' := fun b => w.heap.size ≤ b) (fun _ _ h => Nat.le_trans BX.out.size h))
      have B9 := Lib.hid (BX.out.trans (b9.mono BX.out.size))
      clear hc9 s9 b9 CP
      go_wp2_with fail
      go_ret2
      exact ⟨A9, c9, by rw [← HNO.out]; rfl, (show out.length ≤ c9 by rw [HNO.out]; exact C9.out), S9.out, B9.out⟩
    · have d0 : decide ((0 : Int) < (l : Int)) = false := decide_eq_false (by omega)
      have d0n : decide (0 < l) = false := decide_eq_false hl0
      have hne : decide (bs ≠ []) = false := decide_eq_false (fun h => h (List.eq_nil_of_length_eq_zero (by omega)))
      rw [hne] at hR
      have HF := Lib.hid hR
      have CPA := Lib.hid (fun (Y : World) (hY : Below w.heap.size w Y) => put_no Y ⟨line.toArray⟩ A D ls bs n c l d hn hl hz hb hlm (HS.out.below hY) (HD.out.kept (Turn.of_below (S := fun _ => False) hY) (fun _ _ h => h)))
      rw [bl_mk] at CPA
      clear hR hn hl hl0 hne hq
      go_enter Tryz.func19, Tryz.ntmps19
      go_upto_region 1 with fail
      simp only [HG.out]
      generalize w.alloc _ = X0 at *
      have x0 : X0.cell? ⟨g, 0, none⟩ = some (.string m) := I0.out.cell 0
      have x1 : X0.cell? ⟨g, 1, none⟩ = some (.string t) := I0.out.cell 1
      have x2 : X0.cell? ⟨g, 2, none⟩ = some (.int .i64 k) := I0.out.cell 2
      go_wp2_with fail
      refine CQ.out.mono ?_
      rintro e w1 ⟨b1, rfl⟩
      have BX := Lib.hid (B0.out.trans (b1.mono B0.out.size))
      have I1 := Lib.hid (I0.out.kept (Turn.of_below (S := fun _ => False) b1) (fun h => h))
      clear b1 CQ B0 I0 x0 x1 x2
      have y3 : w1.cell? ⟨g, 3, none⟩ = some (.slice A n c) := I1.out.cell 3
      have y4 : w1.cell? ⟨g, 4, none⟩ = some (.slice D l d) := I1.out.cell 4
      have CP := Lib.hid (CPA.out w1 BX.out)
      clear CPA
      have HR2 := Lib.hid HF.out
      rw [HF.out] at CP
      unfold PutGot9F at CP
      obtain ⟨out, e9⟩ := R
      simp only at CP
      obtain ⟨no, hno⟩ : ∃ no, out.length = no := ⟨_, rfl⟩
      rw [hno] at CP
      have HNO := Lib.hid hno
      clear HR2 HF hno
      go_wp2_with fail
      refine CP.out.mono ?_
      rintro e w9 ⟨A9, c9, rfl, hc9, s9, b9⟩
      have C9 := Lib.hid hc9
      have S9 := Lib.hid (s9.mono (P' := fun b => w.heap.size ≤ b) (fun _ _ h => Nat.le_trans BX.out.size h))
      have B9 := Lib.hid (BX.out.trans (b9.mono BX.out.size))
      clear hc9 s9 b9 CP
      go_wp2_with fail
      go_ret2
      exact ⟨A9, c9, by rw [← HNO.out]; rfl, (show out.length ≤ c9 by rw [HNO.out]; exact C9.out), S9.out, B9.out⟩
set_option maxHeartbeats 16000000 in
set_option maxRecDepth 100000 in
theorem putres_land (w : World) (st : Int) (r m : ByteArray) (k : Int) (A D : Option Addr) (ls : List Fld) (bs : List UInt8) (n c l d : Nat) (hn : ls.length = n) (hl : bs.length = l) (hr : r.size ≤ 140737488351232) (_hm : m.size ≤ 140737488351232) (hk : Sta.I64 k) (_hst : Sta.I64 st) (hb : bulkF ls ≤ 1000000000) (hlm : l ≤ 140737488351232) (hs : SrcF w (fun _ => True) A ls) (hd : Src w (fun _ => True) D bs) (hp : Sta.PowT w) :
    Calls Tryz.prog 20 #[.agg #[.int .i64 st, .string r, .int .i64 k, .slice A n c, .slice D l d], .string m] w (PutGot9F (putResM k st (bl r) ls bs (bl m)) w) := by
  obtain ⟨g, hg⟩ : ∃ g, w.heap.size = g := ⟨_, rfl⟩
  obtain ⟨R, hR⟩ : ∃ R, putResM k st (bl r) ls bs (bl m) = R := ⟨_, rfl⟩
  rw [hR]
  unfold putResM bareM at hR
  have i0 := Is.made w 32 [.int .i64 st, .string r, .int .i64 k, .slice A n c, .slice D l d]
  rw [hg] at i0
  have I0 := Lib.hid i0
  have b0 : Below w.heap.size w (w.alloc (.cells #[.int .i64 st, .string r, .int .i64 k, .slice A n c, .slice D l d] 32)) := (Below.refl _ _).alloc (Nat.le_refl _) _
  have B0 := Lib.hid b0
  have CQ := Lib.hid (Sta.putstat_any k st r (w.alloc (.cells #[.int .i64 st, .string r, .int .i64 k, .slice A n c, .slice D l d] 32)) (by omega) hk (hp.below b0))
  unfold Sta.PutGot at CQ
  have HS := Lib.hid hs
  have HD := Lib.hid hd
  have HP := Lib.hid hp
  have HG := Lib.hid hg
  clear i0 b0 hs hd hp hg
  cases hq : Sta.putStatF k st (bl r) with
  | none =>
    rw [hq] at CQ hR
    simp only at CQ hR
    have HF := Lib.hid hR.symm
    clear hR hn hl
    go_enter Tryz.func20, Tryz.ntmps20
    go_upto_region 1 with fail
    simp only [HG.out]
    generalize w.alloc _ = X0 at *
    have x0 : X0.cell? ⟨g, 0, none⟩ = some (.int .i64 st) := I0.out.cell 0
    have x1 : X0.cell? ⟨g, 1, none⟩ = some (.string r) := I0.out.cell 1
    have x2 : X0.cell? ⟨g, 2, none⟩ = some (.int .i64 k) := I0.out.cell 2
    go_wp2_with fail
    refine CQ.out.mono ?_
    rintro e w1 ⟨b1, rfl⟩
    have BY := Lib.hid (B0.out.trans (b1.mono B0.out.size))
    have I1 := Lib.hid (I0.out.kept (Turn.of_below (S := fun _ => False) b1) (fun h => h))
    clear b1 CQ B0 I0 x0 x1 x2
    go_wp2_with fail
    go_ret2
    exact put_stop HF.out rfl BY.out
  | some line =>
    obtain ⟨hlen, hk01, hs1, hs2⟩ := putstat_len hq
    rw [hq] at CQ hR
    simp only at CQ hR
    have hz : (⟨line.toArray⟩ : ByteArray).size ≤ 1000000 := by rw [← bl_length, bl_mk]; omega
    have CR := Lib.hid (fun Y : World => response_any st m k Y none [] 0 0 rfl (srcf_nil Y (fun _ => True) none) (Meek.small (ls := []) (by decide)).fit)
    rw [resK_nil (bl m) hk01 hs1 hs2] at CR
    unfold Tells kdV at CR
    cases hbf : bodyF st (bl m) with
    | false =>
      rw [hbf] at CR hR
      simp only [Bool.not_false, Bool.false_eq_true, if_false, true_and] at CR hR
      by_cases hl0 : 0 < l
      · have d0 : decide ((0 : Int) < (l : Int)) = true := decide_eq_true (by omega)
        have d0n : decide (0 < l) = true := decide_eq_true hl0
        have hne : bs ≠ [] := fun h => by rw [h] at hl; simp at hl; omega
        have HF := Lib.hid (show R = ([], 1) by rw [← hR]; simp [hne])
        clear hR hn hl hl0 hne hq hbf
        go_enter Tryz.func20, Tryz.ntmps20
        go_upto_region 1 with fail
        simp only [HG.out]
        generalize w.alloc _ = X0 at *
        have x0 : X0.cell? ⟨g, 0, none⟩ = some (.int .i64 st) := I0.out.cell 0
        have x1 : X0.cell? ⟨g, 1, none⟩ = some (.string r) := I0.out.cell 1
        have x2 : X0.cell? ⟨g, 2, none⟩ = some (.int .i64 k) := I0.out.cell 2
        go_wp2_with fail
        refine CQ.out.mono ?_
        rintro e w1 ⟨b1, rfl⟩
        have BY := Lib.hid (B0.out.trans (b1.mono B0.out.size))
        have I1 := Lib.hid (I0.out.kept (Turn.of_below (S := fun _ => False) b1) (fun h => h))
        clear b1 CQ B0 I0 x0 x1 x2
        have y0 : w1.cell? ⟨g, 0, none⟩ = some (.int .i64 st) := I1.out.cell 0
        have y2 : w1.cell? ⟨g, 2, none⟩ = some (.int .i64 k) := I1.out.cell 2
        go_wp2_with fail
        refine (CR.out w1).mono ?_
        rintro e w2 ⟨rfl, b2⟩
        have BX := Lib.hid (BY.out.trans (b2.mono BY.out.size))
        have I2 := Lib.hid (I1.out.kept (Turn.of_below (S := fun _ => False) b2) (fun h => h))
        clear b2 CR BY I1 y0 y2
        have z3 : w2.cell? ⟨g, 3, none⟩ = some (.slice A n c) := I2.out.cell 3
        have z4 : w2.cell? ⟨g, 4, none⟩ = some (.slice D l d) := I2.out.cell 4
        go_wp2_with fail
        go_ret2
        exact put_stop HF.out rfl BX.out
      · have d0 : decide ((0 : Int) < (l : Int)) = false := decide_eq_false (by omega)
        have d0n : decide (0 < l) = false := decide_eq_false hl0
        have hne : bs = [] := List.eq_nil_of_length_eq_zero (by omega)
        have HF := Lib.hid (show putsM line ls bs false = R by rw [← hR]; simp [hne])
        have CPA := Lib.hid (fun (Y : World) (hY : Below w.heap.size w Y) => put_no Y ⟨line.toArray⟩ A D ls bs n c l d hn hl hz hb hlm (HS.out.below hY) (HD.out.kept (Turn.of_below (S := fun _ => False) hY) (fun _ _ h => h)))
        rw [bl_mk] at CPA
        clear hR hn hl hl0 hne hq hbf
        go_enter Tryz.func20, Tryz.ntmps20
        go_upto_region 1 with fail
        simp only [HG.out]
        generalize w.alloc _ = X0 at *
        have x0 : X0.cell? ⟨g, 0, none⟩ = some (.int .i64 st) := I0.out.cell 0
        have x1 : X0.cell? ⟨g, 1, none⟩ = some (.string r) := I0.out.cell 1
        have x2 : X0.cell? ⟨g, 2, none⟩ = some (.int .i64 k) := I0.out.cell 2
        go_wp2_with fail
        refine CQ.out.mono ?_
        rintro e w1 ⟨b1, rfl⟩
        have BY := Lib.hid (B0.out.trans (b1.mono B0.out.size))
        have I1 := Lib.hid (I0.out.kept (Turn.of_below (S := fun _ => False) b1) (fun h => h))
        clear b1 CQ B0 I0 x0 x1 x2
        have y0 : w1.cell? ⟨g, 0, none⟩ = some (.int .i64 st) := I1.out.cell 0
        have y2 : w1.cell? ⟨g, 2, none⟩ = some (.int .i64 k) := I1.out.cell 2
        go_wp2_with fail
        refine (CR.out w1).mono ?_
        rintro e w2 ⟨rfl, b2⟩
        have BX := Lib.hid (BY.out.trans (b2.mono BY.out.size))
        have I2 := Lib.hid (I1.out.kept (Turn.of_below (S := fun _ => False) b2) (fun h => h))
        clear b2 CR BY I1 y0 y2
        have z3 : w2.cell? ⟨g, 3, none⟩ = some (.slice A n c) := I2.out.cell 3
        have z4 : w2.cell? ⟨g, 4, none⟩ = some (.slice D l d) := I2.out.cell 4
        have CP := Lib.hid (CPA.out w2 BX.out)
        clear CPA
        have HR2 := Lib.hid HF.out
        rw [HF.out] at CP
        unfold PutGot9F at CP
        obtain ⟨out, e9⟩ := R
        simp only at CP
        obtain ⟨no, hno⟩ : ∃ no, out.length = no := ⟨_, rfl⟩
        rw [hno] at CP
        have HNO := Lib.hid hno
        clear HR2 HF hno
        go_wp2_with fail
        refine CP.out.mono ?_
        rintro e w9 ⟨A9, c9, rfl, hc9, s9, b9⟩
        have C9 := Lib.hid hc9
        have S9 := Lib.hid (s9.mono (P' := fun b => w.heap.size ≤ b) (fun _ _ h => Nat.le_trans BX.out.size h))
        have B9 := Lib.hid (BX.out.trans (b9.mono BX.out.size))
        clear hc9 s9 b9 CP
        go_wp2_with fail
        go_ret2
        exact ⟨A9, c9, by rw [← HNO.out]; rfl, (show out.length ≤ c9 by rw [HNO.out]; exact C9.out), S9.out, B9.out⟩
    | true =>
      rw [hbf] at CR hR
      simp only [Bool.not_true, Bool.false_eq_true, if_false, if_true, false_and] at CR hR
      by_cases hl0 : 0 < l
      · have d0 : decide ((0 : Int) < (l : Int)) = true := decide_eq_true (by omega)
        have d0n : decide (0 < l) = true := decide_eq_true hl0
        have hne : bs ≠ [] := fun h => by rw [h] at hl; simp at hl; omega
        have HF := Lib.hid (show putsM line ls bs true = R by rw [← hR]; simp)
        have CPA := Lib.hid (fun (Y : World) (hY : Below w.heap.size w Y) => put_yes Y ⟨line.toArray⟩ A D ls bs n c l d hn hl hz hb hlm (HS.out.below hY) (HD.out.kept (Turn.of_below (S := fun _ => False) hY) (fun _ _ h => h)) (HP.out.below hY))
        rw [bl_mk] at CPA
        clear hR hn hl hl0 hne hq hbf
        go_enter Tryz.func20, Tryz.ntmps20
        go_upto_region 1 with fail
        simp only [HG.out]
        generalize w.alloc _ = X0 at *
        have x0 : X0.cell? ⟨g, 0, none⟩ = some (.int .i64 st) := I0.out.cell 0
        have x1 : X0.cell? ⟨g, 1, none⟩ = some (.string r) := I0.out.cell 1
        have x2 : X0.cell? ⟨g, 2, none⟩ = some (.int .i64 k) := I0.out.cell 2
        go_wp2_with fail
        refine CQ.out.mono ?_
        rintro e w1 ⟨b1, rfl⟩
        have BY := Lib.hid (B0.out.trans (b1.mono B0.out.size))
        have I1 := Lib.hid (I0.out.kept (Turn.of_below (S := fun _ => False) b1) (fun h => h))
        clear b1 CQ B0 I0 x0 x1 x2
        have y0 : w1.cell? ⟨g, 0, none⟩ = some (.int .i64 st) := I1.out.cell 0
        have y2 : w1.cell? ⟨g, 2, none⟩ = some (.int .i64 k) := I1.out.cell 2
        go_wp2_with fail
        refine (CR.out w1).mono ?_
        rintro e w2 ⟨rfl, b2⟩
        have BX := Lib.hid (BY.out.trans (b2.mono BY.out.size))
        have I2 := Lib.hid (I1.out.kept (Turn.of_below (S := fun _ => False) b2) (fun h => h))
        clear b2 CR BY I1 y0 y2
        have z3 : w2.cell? ⟨g, 3, none⟩ = some (.slice A n c) := I2.out.cell 3
        have z4 : w2.cell? ⟨g, 4, none⟩ = some (.slice D l d) := I2.out.cell 4
        have CP := Lib.hid (CPA.out w2 BX.out)
        clear CPA
        have HR2 := Lib.hid HF.out
        rw [HF.out] at CP
        unfold PutGot9F at CP
        obtain ⟨out, e9⟩ := R
        simp only at CP
        obtain ⟨no, hno⟩ : ∃ no, out.length = no := ⟨_, rfl⟩
        rw [hno] at CP
        have HNO := Lib.hid hno
        clear HR2 HF hno
        go_wp2_with fail
        refine CP.out.mono ?_
        rintro e w9 ⟨A9, c9, rfl, hc9, s9, b9⟩
        have C9 := Lib.hid hc9
        have S9 := Lib.hid (s9.mono (P' := fun b => w.heap.size ≤ b) (fun _ _ h => Nat.le_trans BX.out.size h))
        have B9 := Lib.hid (BX.out.trans (b9.mono BX.out.size))
        clear hc9 s9 b9 CP
        go_wp2_with fail
        go_ret2
        exact ⟨A9, c9, by rw [← HNO.out]; rfl, (show out.length ≤ c9 by rw [HNO.out]; exact C9.out), S9.out, B9.out⟩
      · have d0 : decide ((0 : Int) < (l : Int)) = false := decide_eq_false (by omega)
        have d0n : decide (0 < l) = false := decide_eq_false hl0
        have hne : bs = [] := List.eq_nil_of_length_eq_zero (by omega)
        have HF := Lib.hid (show putsM line ls bs true = R by rw [← hR]; simp)
        have CPA := Lib.hid (fun (Y : World) (hY : Below w.heap.size w Y) => put_yes Y ⟨line.toArray⟩ A D ls bs n c l d hn hl hz hb hlm (HS.out.below hY) (HD.out.kept (Turn.of_below (S := fun _ => False) hY) (fun _ _ h => h)) (HP.out.below hY))
        rw [bl_mk] at CPA
        clear hR hn hl hl0 hne hq hbf
        go_enter Tryz.func20, Tryz.ntmps20
        go_upto_region 1 with fail
        simp only [HG.out]
        generalize w.alloc _ = X0 at *
        have x0 : X0.cell? ⟨g, 0, none⟩ = some (.int .i64 st) := I0.out.cell 0
        have x1 : X0.cell? ⟨g, 1, none⟩ = some (.string r) := I0.out.cell 1
        have x2 : X0.cell? ⟨g, 2, none⟩ = some (.int .i64 k) := I0.out.cell 2
        go_wp2_with fail
        refine CQ.out.mono ?_
        rintro e w1 ⟨b1, rfl⟩
        have BY := Lib.hid (B0.out.trans (b1.mono B0.out.size))
        have I1 := Lib.hid (I0.out.kept (Turn.of_below (S := fun _ => False) b1) (fun h => h))
        clear b1 CQ B0 I0 x0 x1 x2
        have y0 : w1.cell? ⟨g, 0, none⟩ = some (.int .i64 st) := I1.out.cell 0
        have y2 : w1.cell? ⟨g, 2, none⟩ = some (.int .i64 k) := I1.out.cell 2
        go_wp2_with fail
        refine (CR.out w1).mono ?_
        rintro e w2 ⟨rfl, b2⟩
        have BX := Lib.hid (BY.out.trans (b2.mono BY.out.size))
        have I2 := Lib.hid (I1.out.kept (Turn.of_below (S := fun _ => False) b2) (fun h => h))
        clear b2 CR BY I1 y0 y2
        have z3 : w2.cell? ⟨g, 3, none⟩ = some (.slice A n c) := I2.out.cell 3
        have z4 : w2.cell? ⟨g, 4, none⟩ = some (.slice D l d) := I2.out.cell 4
        have CP := Lib.hid (CPA.out w2 BX.out)
        clear CPA
        have HR2 := Lib.hid HF.out
        rw [HF.out] at CP
        unfold PutGot9F at CP
        obtain ⟨out, e9⟩ := R
        simp only at CP
        obtain ⟨no, hno⟩ : ∃ no, out.length = no := ⟨_, rfl⟩
        rw [hno] at CP
        have HNO := Lib.hid hno
        clear HR2 HF hno
        go_wp2_with fail
        refine CP.out.mono ?_
        rintro e w9 ⟨A9, c9, rfl, hc9, s9, b9⟩
        have C9 := Lib.hid hc9
        have S9 := Lib.hid (s9.mono (P' := fun b => w.heap.size ≤ b) (fun _ _ h => Nat.le_trans BX.out.size h))
        have B9 := Lib.hid (BX.out.trans (b9.mono BX.out.size))
        clear hc9 s9 b9 CP
        go_wp2_with fail
        go_ret2
        exact ⟨A9, c9, by rw [← HNO.out]; rfl, (show out.length ≤ c9 by rw [HNO.out]; exact C9.out), S9.out, B9.out⟩

/-- The word of the contracts is met. -/
theorem msg_c : MsgC where
  request := fun w A bs n c hn hnc hmax h hp => request_land w A bs n c hn hnc hmax h hp
  response := fun w A bs n c m ended hn hnc hmax _ h hp => response_land w A bs n c m ended hn hnc hmax h hp
  putRequest := fun w m t k A D ls bs n c l d hn hl hm ht hk hb hlm hs hd hp => (putreq_land w m t k A D ls bs n c l d hn hl hm ht hk hb hlm hs hd hp).mono (fun _ _ h => h.weak)
  putResponse := fun w st r m k A D ls bs n c l d hn hl hr hm hk hst hb hlm hs hd hp => (putres_land w st r m k A D ls bs n c l d hn hl hr hm hk hst hb hlm hs hd hp).mono (fun _ _ h => h.weak)
  sameRequest := fun w s0 s0' s1 s1' i2 i2' A A' D D' ls ls' bs bs' n n' c c' m m' d d' hn hn' hmax hm hm' h h' hb hb' => samereq_any w s0 s0' s1 s1' i2 i2' A A' D D' ls ls' bs bs' n n' c c' m m' d d' hn hn' hmax hm hm' h h' hb hb'
  sameResponse := fun w s0 s0' s1 s1' i2 i2' A A' D D' ls ls' bs bs' n n' c c' m m' d d' hn hn' hmax hm hm' h h' hb hb' => sameres_any w s0 s0' s1 s1' i2 i2' A A' D D' ls ls' bs bs' n n' c c' m m' d d' hn hn' hmax hm hm' h h' hb hb'
end Go.Proofs.YtemgfppclakdmaaGreatDoor
