/-
  Package head's Drop and With.
  Conditions: those that each theorem names.
-/
import Derived.Test.YtinibacmhmmcdaaDoorKF
namespace Go.Proofs.YtinibacmhmmcdaaDoor
open Go.RowKit

/-- Drop's test of one name. -/
theorem drop11_any (x f1 : ByteArray) (g : Nat) (X : World) (hc : X.cell? ⟨g, 0, none⟩ = some (.string f1)) :
    Calls Tryd.prog 53 #[.string x, .pointer (some ⟨g, 0, none⟩)] X fun e w' => e = .returned (.bool (lowF (bl f1) == lowF (bl x))) ∧ Below X.heap.size X w' := by
  have CS := Lib.hid (fun W : World => ty_same f1 x W)
  generalize (lowF (bl f1) == lowF (bl x)) = b at *
  go_enter Tryd.func53, Tryd.ntmps53
  go_wp2_with fail
  refine (CS.out _).mono ?_
  rintro e w' ⟨rfl, b'⟩
  go_wp2_with fail
  go_ret
  exact ⟨rfl, b'⟩

set_option maxHeartbeats 4000000 in
theorem index_any {P' : Nat → Prop} (X : World) (A' : Option Addr) (names : List (List UInt8)) (q c' : Nat) (hq : names.length = q) (hqm : q ≤ 140737488351232) (h' : SrcS X P' A' names) (f1 : ByteArray) (g : Nat) (hc : X.cell? ⟨g, 0, none⟩ = some (.string f1)) :
    Calls Tryd.prog 54 #[.slice A' q c', .func (.func 53) #[] #[.pointer (some ⟨g, 0, none⟩)]] X fun e w' => ∃ i : Int, e = .returned (.int .i64 i) ∧ decide (0 ≤ i) = names.any (fun nm => lowF (bl f1) == lowF nm) ∧ Below X.heap.size X w' := by
  have HQ := Lib.hid hq
  have H' := Lib.hid h'
  have HC := Lib.hid hc
  clear hq h' hc
  go_enter Tryd.func54, Tryd.ntmps54
  go_wp2_with fail
  go_loopw [8] (fun vi wr => ∃ k : Nat, vi = .int .i64 (k : Int) ∧ k ≤ q ∧ Hid ((names.take k).any (fun nm => lowF (bl f1) == lowF nm) = false) ∧ Hid (Below X.heap.size X wr)) (fun vi _ => q - (intOf vi).toNat)
  case atStart => exact ⟨0, rfl, Nat.zero_le _, Lib.hid rfl, Lib.hid (Below.refl _ _)⟩
  case round =>
    obtain ⟨k, rfl, hk, HE, HB⟩ := hrel
    by_cases hlt : k < q
    · obtain ⟨p', x, hx, hat', y2, _, _⟩ := H'.out.at (c := c') HQ.out hlt HB.out
      have HTK := Lib.hid (show (names.take (k + 1)).any (fun nm => lowF (bl f1) == lowF nm) = (lowF (bl f1) == lowF x) by rw [take_snoc names k x hx, List.any_append, HE.out]; simp)
      have HIN := Lib.hid (List.mem_of_getElem? hx)
      obtain ⟨Xs, hXs⟩ : ∃ Xs : ByteArray, Xs = ⟨x.toArray⟩ := ⟨_, rfl⟩
      have hbx : x = bl Xs := by rw [hXs, bl_mk]
      rw [← hXs] at y2
      have CD := Lib.hid (fun W : World => drop11_any Xs f1 g W)
      have y3 : wr.cell? ⟨g, 0, none⟩ = some (.string f1) := (HB.out.cell (Lib.lt_of_cell HC.out)).trans HC.out
      rw [← hbx] at CD
      clear hXs hbx hx
      cases hb : (lowF (bl f1) == lowF x) with
      | false =>
        rw [hb] at CD HTK
        clear hb
        go_wp2_with fail
        refine (CD.out _ y3).mono ?_
        rintro e w5 ⟨rfl, b5⟩
        have B5 := Lib.hid (HB.out.trans (b5.mono HB.out.size))
        clear b5
        go_wp2_with fail
        go_roundw
        case rel => exact ⟨k + 1, by go_num, hlt, HTK, B5⟩
        case measure => simp [intOf]; omega
      | true =>
        rw [hb] at CD
        have HY := Lib.hid (show names.any (fun nm => lowF (bl f1) == lowF nm) = true from List.any_eq_true.2 ⟨x, HIN.out, hb⟩)
        clear hb
        go_wp2_with fail
        refine (CD.out _ y3).mono ?_
        rintro e w5 ⟨rfl, b5⟩
        have B5 := Lib.hid (HB.out.trans (b5.mono HB.out.size))
        clear b5
        go_wp2_with fail
        go_ret
        exact ⟨(k : Int), rfl, by rw [HY.out]; simp, B5.out⟩
    · have HN := Lib.hid (show names.any (fun nm => lowF (bl f1) == lowF nm) = false by rw [← HE.out, List.take_of_length_le (by rw [HQ.out]; omega)])
      go_wp2_with fail
      go_ret
      exact ⟨-1, rfl, by rw [HN.out]; rfl, HB.out⟩
theorem contains_any {P' : Nat → Prop} (X : World) (A' : Option Addr) (names : List (List UInt8)) (q c' : Nat) (hq : names.length = q) (hqm : q ≤ 140737488351232) (h' : SrcS X P' A' names) (f1 : ByteArray) (g : Nat) (hc : X.cell? ⟨g, 0, none⟩ = some (.string f1)) :
    Calls Tryd.prog 52 #[.slice A' q c', .func (.func 53) #[] #[.pointer (some ⟨g, 0, none⟩)]] X fun e w' => e = .returned (.bool (names.any (fun nm => lowF (bl f1) == lowF nm))) ∧ Below X.heap.size X w' := by
  have CI := Lib.hid (index_any X A' names q c' hq hqm h' f1 g hc)
  clear hq hqm h' hc
  generalize names.any (fun nm => lowF (bl f1) == lowF nm) = b at *
  go_enter Tryd.func52, Tryd.ntmps52
  go_wp2_with fail
  refine CI.out.mono ?_
  rintro e w' ⟨i, rfl, hi, b'⟩
  go_wp2_with fail
  go_ret
  first | exact ⟨ret_bool hi, b'⟩ | exact ⟨rfl, b'⟩

/-- Drop's test. -/
theorem drop1_any {P' : Nat → Prop} (f : Fld) (A' : Option Addr) (names : List (List UInt8)) (q c' : Nat) (hq : names.length = q) (hqm : q ≤ 140737488351232) (g : Nat) (X : World) (hc : X.cell? ⟨g, 0, none⟩ = some (.slice A' q c')) (h' : SrcS X P' A' names) :
    Calls Tryd.prog 51 #[fldA f, .pointer (some ⟨g, 0, none⟩)] X fun e w' => e = .returned (.bool (!goneF names f)) ∧ Below X.heap.size X w' := by
  unfold fldA
  have hb : Below X.heap.size X (X.alloc (.cells #[.string ⟨f.1.toArray⟩, .string ⟨f.2.toArray⟩] 32)) := (Below.refl _ X).alloc (Nat.le_refl _) _
  have z : (X.alloc (.cells #[.string ⟨f.1.toArray⟩, .string ⟨f.2.toArray⟩] 32)).cell? ⟨g, 0, none⟩ = some (.slice A' q c') := (hb.cell (Lib.lt_of_cell hc)).trans hc
  have i0 := Is.made X 32 [.string ⟨f.1.toArray⟩, .string ⟨f.2.toArray⟩]
  have CC := Lib.hid (contains_any (X.alloc (.cells #[.string ⟨f.1.toArray⟩, .string ⟨f.2.toArray⟩] 32)) A' names q c' hq hqm (h'.below hb) ⟨f.1.toArray⟩ X.heap.size (i0.cell 0))
  rw [bl_mk] at CC
  rw [show goneF names f = names.any (fun nm => lowF f.1 == lowF nm) from rfl]
  have HB := Lib.hid hb
  generalize names.any (fun nm => lowF f.1 == lowF nm) = b at *
  clear hc i0 hb hq hqm h'
  generalize f.1 = f1 at *
  generalize f.2 = f2 at *
  go_enter Tryd.func51, Tryd.ntmps51
  go_wp2_with fail
  refine CC.out.mono ?_
  rintro e w' ⟨rfl, b'⟩
  go_wp2_with fail
  go_ret
  exact ⟨rfl, HB.out.trans (b'.mono HB.out.size)⟩

theorem drop_any {P P' : Nat → Prop} (w : World) (A A' : Option Addr) (ls : List Fld) (names : List (List UInt8)) (n c q c' : Nat) (hn : ls.length = n) (hq : names.length = q) (hmax : n * 32 ≤ 140737488355328) (hqm : q ≤ 140737488351232) (h : SrcF w P A ls) (h' : SrcS w P' A' names) (hs : Slim ls) :
    Calls Tryd.prog 26 #[.slice A n c, .slice A' q c'] w (GotF (dropF ls names) w) := by
  have hb0 : Below w.heap.size w (w.alloc (.cells #[.slice A' q c'] 25)) := (Below.refl _ _).alloc (Nat.le_refl _) _
  have i0 := Is.made w 25 [.slice A' q c']
  have CK := Lib.hid (keep_any 51 (.inr rfl) (.pointer (some ⟨w.heap.size, 0, none⟩)) (fun f => !goneF names f) (w.alloc (.cells #[.slice A' q c'] 25)) A ls n c hn hmax (h.below hb0) hs (fun f _ X hX =>
    drop1_any f A' names q c' hq hqm w.heap.size X ((i0.kept (Turn.of_below (S := fun _ => False) hX) (fun h => h)).cell 0) ((h'.below hb0).below hX)))
  rw [show ls.filter (fun f => !goneF names f) = dropF ls names from rfl] at CK
  have HB0 := Lib.hid hb0
  clear hb0 i0 h h' hs hn hq
  generalize dropF ls names = fs at *
  go_enter Tryd.func26, Tryd.ntmps26
  go_wp2_with fail
  refine CK.out.mono ?_
  rintro e w1 ⟨v1, o1, rfl, own1, ob1, b1⟩
  go_wp2_with fail
  go_ret
  exact ⟨v1, o1, rfl, own1, fun b hb => Nat.le_trans HB0.out.size (ob1 b hb), HB0.out.trans (b1.mono HB0.out.size)⟩

end Go.Proofs.YtinibacmhmmcdaaDoor
