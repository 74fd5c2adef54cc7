/-
  Package head's Drop and With.
  Conditions: those that each theorem names.
-/
import Derived.Test.YtdggfonbjhejoaaDoorKF
namespace Go.Proofs.YtdggfonbjhejoaaDoor
open Go.RowKit

/-- Drop's test of one name. -/
theorem drop11_any (x f1 : ByteArray) (g : Nat) (X : World) (hc : X.cell? ⟨g, 0, none⟩ = some (.string f1)) :
    Calls Tryd.prog 43 #[.string x, .pointer (some ⟨g, 0, none⟩)] X fun e w' => e = .returned (.bool (lowF (bl f1) == lowF (bl x))) ∧ Below X.heap.size X w' := by
  have CS := Lib.hid (fun W : World => ty_same f1 x W)
  generalize (lowF (bl f1) == lowF (bl x)) = b at *
  go_enter Tryd.func43, Tryd.ntmps43
  go_wp2_with fail
  refine (CS.out _).mono ?_
  rintro e w' ⟨rfl, b'⟩
  go_wp2_with fail
  go_ret
  exact ⟨rfl, b'⟩

set_option maxHeartbeats 4000000 in
theorem index_any {P' : Nat → Prop} (X : World) (A' : Option Addr) (names : List (List UInt8)) (q c' : Nat) (hq : names.length = q) (hqm : q ≤ 140737488351232) (h' : SrcS X P' A' names) (f1 : ByteArray) (g : Nat) (hc : X.cell? ⟨g, 0, none⟩ = some (.string f1)) :
    Calls Tryd.prog 53 #[.slice A' q c', .func (.func 43) #[] #[.pointer (some ⟨g, 0, none⟩)]] X fun e w' => ∃ i : Int, e = .returned (.int .i64 i) ∧ decide (0 ≤ i) = names.any (fun nm => lowF (bl f1) == lowF nm) ∧ Below X.heap.size X w' := by
  have HQ := Lib.hid hq
  have H' := Lib.hid h'
  have HC := Lib.hid hc
  clear hq h' hc
  go_enter Tryd.func53, Tryd.ntmps53
  go_wp2_with fail
  go_loopw [8] (fun vi wr => ∃ k : Nat, vi = .int .i64 (k : Int) ∧ k ≤ q ∧ Hid ((names.take k).any (fun nm => lowF (bl f1) == lowF nm) = false) ∧ Hid (Below X.heap.size X wr)) (fun vi _ => q - (intOf vi).toNat)
  case atStart => exact ⟨0, rfl, Nat.zero_le _, Lib.hid rfl, Lib.hid (Below.refl _ _)⟩
  case round =>
    obtain ⟨k, rfl, hk, HE, HB⟩ := hrel
    by_cases hlt : k < q
    · obtain ⟨p', x, hx, hat', y2, _, _⟩ := H'.out.at (c := c') HQ.out hlt HB.out
      have HTK := Lib.hid (show (names.take (k + 1)).any (fun nm => lowF (bl f1) == lowF nm) = (lowF (bl f1) == lowF x) by rw [take_snoc names k x hx, List.any_append, HE.out]; simp)
      have HIN := Lib.hid (List.mem_of_getElem? hx)
      obtain ⟨Xs, hXs⟩ : ∃ Xs : ByteArray, Xs = ⟨x.toArray⟩ := ⟨_, rfl⟩
      have hbx : x = bl Xs := by rw [hXs, bl_mk]
      rw [← hXs] at y2
      have CD := Lib.hid (fun W : World => drop11_any Xs f1 g W)
      have y3 : wr.cell? ⟨g, 0, none⟩ = some (.string f1) := (HB.out.cell (Lib.lt_of_cell HC.out)).trans HC.out
      rw [← hbx] at CD
      clear hXs hbx hx
      cases hb : (lowF (bl f1) == lowF x) with
      | false =>
        rw [hb] at CD HTK
        clear hb
        go_wp2_with fail
        refine (CD.out _ y3).mono ?_
        rintro e w5 ⟨rfl, b5⟩
        have B5 := Lib.hid (HB.out.trans (b5.mono HB.out.size))
        clear b5
        go_wp2_with fail
        go_roundw
        case rel => exact ⟨k + 1, by go_num, hlt, HTK, B5⟩
        case measure => simp [intOf]; omega
      | true =>
        rw [hb] at CD
        have HY := Lib.hid (show names.any (fun nm => lowF (bl f1) == lowF nm) = true from List.any_eq_true.2 ⟨x, HIN.out, hb⟩)
        clear hb
        go_wp2_with fail
        refine (CD.out _ y3).mono ?_
        rintro e w5 ⟨rfl, b5⟩
        have B5 := Lib.hid (HB.out.trans (b5.mono HB.out.size))
        clear b5
        go_wp2_with fail
        go_ret
        exact ⟨(k : Int), rfl, by rw [HY.out]; simp, B5.out⟩
    · have HN := Lib.hid (show names.any (fun nm => lowF (bl f1) == lowF nm) = false by rw [← HE.out, List.take_of_length_le (by rw [HQ.out]; omega)])
      go_wp2_with fail
      go_ret
      exact ⟨-1, rfl, by rw [HN.out]; rfl, HB.out⟩
theorem contains_any {P' : Nat → Prop} (X : World) (A' : Option Addr) (names : List (List UInt8)) (q c' : Nat) (hq : names.length = q) (hqm : q ≤ 140737488351232) (h' : SrcS X P' A' names) (f1 : ByteArray) (g : Nat) (hc : X.cell? ⟨g, 0, none⟩ = some (.string f1)) :
    Calls Tryd.prog 42 #[.slice A' q c', .func (.func 43) #[] #[.pointer (some ⟨g, 0, none⟩)]] X fun e w' => e = .returned (.bool (names.any (fun nm => lowF (bl f1) == lowF nm))) ∧ Below X.heap.size X w' := by
  have CI := Lib.hid (index_any X A' names q c' hq hqm h' f1 g hc)
  clear hq hqm h' hc
  generalize names.any (fun nm => lowF (bl f1) == lowF nm) = b at *
  go_enter Tryd.func42, Tryd.ntmps42
  go_wp2_with fail
  refine CI.out.mono ?_
  rintro e w' ⟨i, rfl, hi, b'⟩
  go_wp2_with fail
  go_ret
  first | exact ⟨ret_bool hi, b'⟩ | exact ⟨rfl, b'⟩

/-- Drop's test. -/
theorem drop1_any {P' : Nat → Prop} (f : Fld) (A' : Option Addr) (names : List (List UInt8)) (q c' : Nat) (hq : names.length = q) (hqm : q ≤ 140737488351232) (g : Nat) (X : World) (hc : X.cell? ⟨g, 0, none⟩ = some (.slice A' q c')) (h' : SrcS X P' A' names) :
    Calls Tryd.prog 41 #[fldA f, .pointer (some ⟨g, 0, none⟩)] X fun e w' => e = .returned (.bool (!goneF names f)) ∧ Below X.heap.size X w' := by
  unfold fldA
  have hb : Below X.heap.size X (X.alloc (.cells #[.string ⟨f.1.toArray⟩, .string ⟨f.2.toArray⟩] 45)) := (Below.refl _ X).alloc (Nat.le_refl _) _
  have z : (X.alloc (.cells #[.string ⟨f.1.toArray⟩, .string ⟨f.2.toArray⟩] 45)).cell? ⟨g, 0, none⟩ = some (.slice A' q c') := (hb.cell (Lib.lt_of_cell hc)).trans hc
  have i0 := Is.made X 45 [.string ⟨f.1.toArray⟩, .string ⟨f.2.toArray⟩]
  have CC := Lib.hid (contains_any (X.alloc (.cells #[.string ⟨f.1.toArray⟩, .string ⟨f.2.toArray⟩] 45)) A' names q c' hq hqm (h'.below hb) ⟨f.1.toArray⟩ X.heap.size (i0.cell 0))
  rw [bl_mk] at CC
  rw [show goneF names f = names.any (fun nm => lowF f.1 == lowF nm) from rfl]
  have HB := Lib.hid hb
  generalize names.any (fun nm => lowF f.1 == lowF nm) = b at *
  clear hc i0 hb hq hqm h'
  generalize f.1 = f1 at *
  generalize f.2 = f2 at *
  go_enter Tryd.func41, Tryd.ntmps41
  go_wp2_with fail
  refine CC.out.mono ?_
  rintro e w' ⟨rfl, b'⟩
  go_wp2_with fail
  go_ret
  exact ⟨rfl, HB.out.trans (b'.mono HB.out.size)⟩

theorem drop_any {P P' : Nat → Prop} (w : World) (A A' : Option Addr) (ls : List Fld) (names : List (List UInt8)) (n c q c' : Nat) (hn : ls.length = n) (hq : names.length = q) (hmax : n * 32 ≤ 140737488355328) (hqm : q ≤ 140737488351232) (h : SrcF w P A ls) (h' : SrcS w P' A' names) (hs : Slim ls) :
    Calls Tryd.prog 21 #[.slice A n c, .slice A' q c'] w (GotF (dropF ls names) w) := by
  have hb0 : Below w.heap.size w (w.alloc (.cells #[.slice A' q c'] 32)) := (Below.refl _ _).alloc (Nat.le_refl _) _
  have i0 := Is.made w 32 [.slice A' q c']
  have CK := Lib.hid (keep_any 41 (.inr rfl) (.pointer (some ⟨w.heap.size, 0, none⟩)) (fun f => !goneF names f) (w.alloc (.cells #[.slice A' q c'] 32)) A ls n c hn hmax (h.below hb0) hs (fun f _ X hX =>
    drop1_any f A' names q c' hq hqm w.heap.size X ((i0.kept (Turn.of_below (S := fun _ => False) hX) (fun h => h)).cell 0) ((h'.below hb0).below hX)))
  rw [show ls.filter (fun f => !goneF names f) = dropF ls names from rfl] at CK
  have HB0 := Lib.hid hb0
  clear hb0 i0 h h' hs hn hq
  generalize dropF ls names = fs at *
  go_enter Tryd.func21, Tryd.ntmps21
  go_wp2_with fail
  refine CK.out.mono ?_
  rintro e w1 ⟨v1, o1, rfl, own1, ob1, b1⟩
  go_wp2_with fail
  go_ret
  exact ⟨v1, o1, rfl, own1, fun b hb => Nat.le_trans HB0.out.size (ob1 b hb), HB0.out.trans (b1.mono HB0.out.size)⟩

set_option maxHeartbeats 4000000 in
theorem with_any {P : Nat → Prop} (w : World) (A : Option Addr) (ls : List Fld) (n c : Nat) (hn : ls.length = n) (hmax : (n + 1) * 32 ≤ 140737488355328) (h : SrcF w P A ls) (hs : Slim ls) (nm v : List UInt8) (hnm : nm.length ≤ 140737488351232) (hv : v.length ≤ 140737488351232) :
    Calls Tryd.prog 22 #[.slice A n c, .string ⟨nm.toArray⟩, .string ⟨v.toArray⟩] w (GotF (withF ls nm v) w) := by
  have hb0 : Below w.heap.size w (w.alloc (.cells #[.string ⟨nm.toArray⟩] 9)) := (Below.refl _ _).alloc (Nat.le_refl _) _
  have CD := Lib.hid (drop_any (w.alloc (.cells #[.string ⟨nm.toArray⟩] 9)) A (some ⟨w.heap.size, 0, none⟩) ls [nm] n c 1 1 hn rfl (by omega) (by omega) (h.below hb0) (srcs_one w nm) hs)
  have HB0 := Lib.hid hb0
  have HL := Lib.hid (show (dropF ls [nm]).length ≤ n by have := dropF_length ls [nm]; omega)
  have HW := Lib.hid (show withF ls nm v = dropF ls [nm] ++ [(nm, v)] from rfl)
  have z1 : (⟨nm.toArray⟩ : ByteArray).size ≤ 281474976710656 := by rw [← bl_length, bl_mk]; omega
  have z2 : (⟨v.toArray⟩ : ByteArray).size ≤ 281474976710656 := by rw [← bl_length, bl_mk]; omega
  have K1 := Lib.hid (fun X : World => clone_any ⟨nm.toArray⟩ X z1)
  have K2 := Lib.hid (fun X : World => clone_any ⟨v.toArray⟩ X z2)
  clear hb0 h hs hnm hn z1 z2 hv
  generalize dropF ls [nm] = r at *
  generalize withF ls nm v = r' at *
  go_enter Tryd.func22, Tryd.ntmps22
  go_wp2_with fail
  refine CD.out.mono ?_
  rintro e w1 ⟨v1, o, rfl, own, hob, b1⟩
  have OW := Lib.hid own
  have HOB := Lib.hid (fun b hb => Nat.le_trans HB0.out.size (hob b hb))
  have B1 := Lib.hid (HB0.out.trans (b1.mono HB0.out.size))
  clear own hob b1 HB0
  go_wp2_with fail
  refine (K1.out _).mono ?_
  rintro e w2 ⟨rfl, b2⟩
  go_wp2_with fail
  refine (K2.out _).mono ?_
  rintro e w3 ⟨rfl, b3⟩
  have B3 := Lib.hid ((B1.out.trans (b2.mono B1.out.size)).trans (b3.mono (B1.out.trans (b2.mono B1.out.size)).size))
  have O3 := Lib.hid ((OW.out.kept (Turn.of_below (S := fun _ => False) b2) (fun _ _ h => h)).kept (Turn.of_below (S := fun _ => False) b3) (fun _ _ h => h))
  clear b2 b3 B1 OW
  obtain ⟨v', w', o', hrun, own', t', ho'⟩ := run_push_fld w3 v1 o r (nm, v) O3.out (by have := HL.out; omega)
  have HR5 := Lib.hid hrun
  have OO := Lib.hid own'
  have TT := Lib.hid (own_turn B3.out HOB.out t' ho')
  clear hrun own' t' ho'
  simp only at HR5
  go_wp2_with (at_builtin; refine append_by rfl (.tmp 10) (.tmp 16) 23 rfl _ _ v' w' rfl rfl HR5.out ?_)
  go_ret
  exact ⟨_, o', rfl, by rw [HW.out]; exact OO.out, TT.out.2, TT.out.1⟩
end Go.Proofs.YtdggfonbjhejoaaDoor
