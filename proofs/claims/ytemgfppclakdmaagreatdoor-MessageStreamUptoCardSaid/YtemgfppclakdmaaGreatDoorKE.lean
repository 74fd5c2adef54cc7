/-
  Package head's Put.
  Conditions: those that each theorem names.
-/
import Derived.Test.YtemgfppclakdmaaGreatDoorKB
import Derived.Test.YtemgfppclakdmaaGreatDoorHH
import Derived.Test.YtemgfppclakdmaaGreatDoorHI
import Derived.Test.YtemgfppclakdmaaGreatDoorHO
import Derived.Test.YtemgfppclakdmaaGreatDoorKA
import Derived.Test.YtemgfppclakdmaaGreatDoorTP
namespace Go.Proofs.YtemgfppclakdmaaGreatDoor
open Go.RowKit

theorem lineOk_stands (f : Fld) : lineOk f = (decide (lineL f ≤ 512) && standsF f) := rfl
theorem stands_at (f : Fld) (h2 : f.2.length ≤ 140737488351232) (X : World) : Calls Tryz.prog 110 #[.agg #[.string ⟨f.1.toArray⟩, .string ⟨f.2.toArray⟩]] X fun e w' => e = .returned (.bool (standsF f)) ∧ Below X.heap.size X w' := by
  have := stands_any X ⟨f.1.toArray⟩ ⟨f.2.toArray⟩ (by rw [← bl_length, bl_mk]; exact h2)
  rwa [bl_mk, bl_mk] at this

set_option maxHeartbeats 8000000 in
set_option maxRecDepth 100000 in
theorem may_any {P : Nat → Prop} (w : World) (A : Option Addr) (ls : List Fld) (n c : Nat) (hn : ls.length = n) (_hmax : n * 32 ≤ 140737488355328) (h : SrcF w P A ls) (hs : Slim ls) :
    Calls Tryz.prog 72 #[.slice A n c] w fun e w' => e = .returned (.bool (mayF ls)) ∧ Below w.heap.size w w' := by
  have HN := Lib.hid hn
  have H := Lib.hid h
  have HS := Lib.hid hs
  by_cases h32 : 32 < n
  · have HQ := Lib.hid (show mayF ls = false by unfold mayF; rw [hn, decide_eq_false (by omega)]; rfl)
    clear hn h hs
    go_enter Tryz.func72, Tryz.ntmps72
    go_wp2_with fail
    go_ret
    exact ⟨ret_bool HQ.out.symm, Below.refl _ _⟩
  clear hn h hs
  go_enter Tryz.func72, Tryz.ntmps72
  go_wp2_with fail
  go_loopw [3, 12] (fun vs vi wr => ∃ k m : Nat, vs = .int .i64 (m : Int) ∧ vi = .int .i64 (k : Int) ∧ k ≤ n ∧ m ≤ 2 + 514 * k ∧ Hid (sumL (ls.take k) = m ∧ (ls.take k).all lineOk = true) ∧ Hid (Below w.heap.size w wr)) (fun _ vi _ => n - (intOf vi).toNat)
  case atStart => exact ⟨0, 2, rfl, rfl, Nat.zero_le _, by omega, Lib.hid ⟨rfl, rfl⟩, Lib.hid (Below.refl _ _)⟩
  case round =>
    obtain ⟨k, m, rfl, rfl, hk, hm, HI, HB⟩ := hrel
    by_cases hlt : k < n
    · obtain ⟨p, f, hf, hat, y0, y1, _, _⟩ := H.out.at (c := c) HN.out hlt HB.out
      obtain ⟨s1, s2⟩ := HS.out f (List.mem_of_getElem? hf)
      have HSN := Lib.hid (sumL_snoc (ls.take k) f)
      have HTK := Lib.hid (take_snoc ls k f hf)
      have HLB := Lib.hid (may_line ls k f hf)
      have HLL := Lib.hid (show lineL f = f.1.length + 2 + f.2.length from rfl)
      have HLO := Lib.hid (lineOk_stands f)
      have CS := Lib.hid (fun X : World => stands_at f s2 X)
      have hz1 : (⟨f.1.toArray⟩ : ByteArray).size = f.1.length := by rw [← bl_length, bl_mk]
      have hz2 : (⟨f.2.toArray⟩ : ByteArray).size = f.2.length := by rw [← bl_length, bl_mk]
      clear hf
      by_cases t1 : 512 < f.1.length + 2 + f.2.length
      · have HQ := Lib.hid (HLB.out (by rw [HLO.out, decide_eq_false (by rw [HLL.out]; omega), Bool.false_and]))
        have d1 : decide ((512 : Int) < (f.1.length : Int) + 2 + (f.2.length : Int)) = true := by simp; omega
        clear HLB HLO HSN HTK HI
        generalize f.1 = nm at *
        generalize f.2 = v at *
        go_wp2_with fail
        go_ret
        exact ⟨ret_bool HQ.out.symm, HB.out.alloc HB.out.size _⟩
      · have d1 : decide ((512 : Int) < (f.1.length : Int) + 2 + (f.2.length : Int)) = false := by simp; omega
        have HL5 := Lib.hid (show decide (lineL f ≤ 512) = true from decide_eq_true (by rw [HLL.out]; omega))
        by_cases hst : standsF f = true
        · have HOK := Lib.hid (show lineOk f = true by rw [HLO.out, HL5.out, hst]; rfl)
          rw [hst] at CS
          clear HLB HLO HL5 hst
          generalize f.1 = nm at *
          generalize f.2 = v at *
          go_wp2_with fail
          refine (CS.out _).mono ?_
          rintro e w5 ⟨rfl, b5⟩
          have B5 := Lib.hid ((HB.out.alloc HB.out.size _).trans (b5.mono (HB.out.alloc HB.out.size _).size))
          clear b5
          go_wp2_with fail
          go_roundw
          case rel =>
            refine ⟨k + 1, m + (lineL f + 2), by rw [HLL.out]; go_num, by go_num, hlt, by rw [HLL.out]; omega, Lib.hid ?_, B5⟩
            rw [HTK.out, HSN.out, HI.out.1, List.all_append, HI.out.2]
            exact ⟨rfl, by simp [HOK.out]⟩
          case measure => simp [intOf]; omega
        · rw [Bool.not_eq_true] at hst
          have HQ := Lib.hid (HLB.out (by rw [HLO.out, hst]; simp))
          rw [hst] at CS
          clear HLB HLO HSN HTK HI hst HL5
          generalize f.1 = nm at *
          generalize f.2 = v at *
          go_wp2_with fail
          refine (CS.out _).mono ?_
          rintro e w5 ⟨rfl, b5⟩
          have B5 := Lib.hid ((HB.out.alloc HB.out.size _).trans (b5.mono (HB.out.alloc HB.out.size _).size))
          clear b5
          go_wp2_with fail
          go_ret
          exact ⟨ret_bool HQ.out.symm, B5.out⟩
    · have HQ : Hid (mayF ls = decide (m ≤ 2048)) := Lib.hid (by
        obtain ⟨h1, h2⟩ := HI.out
        have e : ls.take k = ls := List.take_of_length_le (by rw [HN.out]; omega)
        rw [e] at h1 h2
        unfold mayF
        rw [HN.out, h2, h1, decide_eq_true (show n ≤ 32 by omega)]
        simp)
      go_wp2_with fail
      go_ret
      exact ⟨ret_bool (by rw [HQ.out, decide_eq_decide]; omega), HB.out⟩
end Go.Proofs.YtemgfppclakdmaaGreatDoor

namespace Go.Proofs.YtemgfppclakdmaaGreatDoor
open Go.RowKit

theorem SrcS.below {w w' : World} {P : Nat → Prop} {A : Option Addr} {ls : List (List UInt8)} (h : SrcS w P A ls) (hb : Below w.heap.size w w') : SrcS w' P A ls := fun h0 => by
  obtain ⟨ad, h1, h2, h3, h4⟩ := h h0
  exact ⟨ad, h1, h2, Nat.lt_of_lt_of_le h3 hb.size, fun i f hf => (hb.cell (Lib.lt_of_cell (h4 i f hf))).trans (h4 i f hf)⟩
/-- What Put tells: bytes, or none and ErrArg. -/
def PutOf (r : Option (List UInt8)) (w : World) (e : Ending) (w' : World) : Prop :=
  ∃ A c, e = .returned (.tuple #[.slice A (r.getD []).length c, .int .i64 (if r.isSome = true then 0 else 1)]) ∧ (r.getD []).length ≤ c ∧ Src w' (fun b => w.heap.size ≤ b) A (r.getD []) ∧ Below w.heap.size w w'
/-- What package head's calls answer. -/
structure HeadC : Prop where
  may : ∀ {P : Nat → Prop} (w : World) (A : Option Addr) (ls : List Fld) (n c : Nat), ls.length = n → n * 32 ≤ 140737488351232 + 32 → SrcF w P A ls → Slim ls → Calls Tryz.prog 72 #[.slice A n c] w fun e w' => e = .returned (.bool (mayF ls)) ∧ Below w.heap.size w w'
  put : ∀ {P : Nat → Prop} (w : World) (A : Option Addr) (ls : List Fld) (n c : Nat), ls.length = n → n * 32 ≤ 140737488351232 + 32 → SrcF w P A ls → Slim ls → Calls Tryz.prog 75 #[.slice A n c] w (PutOf (putF ls) w)
  parse : ∀ {P : Nat → Prop} (w : World) (A : Option Addr) (bs : List UInt8) (n c : Nat), bs.length = n → n ≤ c → n ≤ 140737488355328 → Src w P A bs → Calls Tryz.prog 83 #[.slice A n c] w (HeadGot (parseH bs) w)
  get : ∀ {P : Nat → Prop} (w : World) (A : Option Addr) (ls : List Fld) (n c : Nat), ls.length = n → n * 32 ≤ 140737488351232 + 32 → SrcF w P A ls → Slim ls → ∀ nm : ByteArray, nm.size ≤ 140737488351232 → Calls Tryz.prog 56 #[.slice A n c, .string nm] w (GotS (getF ls (bl nm)) w)
  drop : ∀ {P P' : Nat → Prop} (w : World) (A A' : Option Addr) (ls : List Fld) (names : List (List UInt8)) (n c q c' : Nat), ls.length = n → names.length = q → n * 32 ≤ 140737488351232 + 32 → q ≤ 140737488351232 → SrcF w P A ls → SrcS w P' A' names → Slim ls → SlimS names →
    Calls Tryz.prog 112 #[.slice A n c, .slice A' q c'] w (GotF (dropF ls names) w)
  with_ : ∀ {P : Nat → Prop} (w : World) (A : Option Addr) (ls : List Fld) (n c : Nat), ls.length = n → n * 32 ≤ 140737488351232 → SrcF w P A ls → Slim ls → ∀ nm v : List UInt8, nm.length ≤ 140737488351232 → v.length ≤ 140737488351232 →
    Calls Tryz.prog 74 #[.slice A n c, .string ⟨nm.toArray⟩, .string ⟨v.toArray⟩] w (GotF (withF ls nm v) w)

theorem src_lit (w : World) (bs : List UInt8) (fz : Nat × Nat) : Src (w.alloc (.cells (vals bs).toArray 5 fz)) (fun _ => True) (some ⟨w.heap.size, 0, none⟩) bs := fun _ => by
  refine ⟨_, rfl, trivial, by simp, fun i v hv => ?_⟩
  rw [add_at, Nat.zero_add, cell_of_row _ w.heap.size i (vals bs).toArray 5 fz (heap_alloc_new w _)]
  have : (vals bs).toArray[i]? = some v := by simpa using hv
  exact this
/-- A row of Parse's, at bytes that a call lays down. -/
theorem parse_row (HC : HeadC) (w w0 X : World) (bs : List UInt8) (R : List Fld × Nat × Nat) (fz : Nat × Nat) (hX : X = w0.alloc (.cells (vals bs).toArray 5 fz)) (hR : parseH bs = R) (c : Nat) (hB : Below w.heap.size w w0) (hl : bs.length ≤ 140737488351232) (hlc : bs.length ≤ c) :
    Calls Tryz.prog 83 #[.slice (some ⟨w0.heap.size, 0, none⟩) bs.length c] X (HeadGot R w) := by
  subst hX
  rw [← hR]
  refine (HC.parse _ _ bs bs.length c rfl hlc (by omega) (src_lit w0 bs fz)).mono ?_
  rintro e w' ⟨v, o, h1, h2, h3, h4⟩
  have hB1 : Below w.heap.size w (w0.alloc (.cells (vals bs).toArray 5 fz)) := hB.alloc hB.size _
  exact ⟨v, o, h1, h2, fun b hb => Nat.le_trans hB1.size (h3 b hb), hB1.trans (h4.mono hB1.size)⟩
end Go.Proofs.YtemgfppclakdmaaGreatDoor

namespace Go.Proofs.YtemgfppclakdmaaGreatDoor
open Go.RowKit

set_option maxHeartbeats 8000000 in
set_option maxRecDepth 100000 in
theorem put_any {P : Nat → Prop} (w : World) (A : Option Addr) (ls : List Fld) (n c : Nat) (hn : ls.length = n) (hmax : n * 32 ≤ 140737488355328) (h : SrcF w P A ls) (hs : Slim ls) :
    Calls Tryz.prog 75 #[.slice A n c] w (PutOf (putF ls) w) := by
  have CM := Lib.hid (may_any w A ls n c hn hmax h hs)
  by_cases hm : mayF ls = true
  · have HP := Lib.hid (show putF ls = some (linesF ls ++ [13, 10]) from if_pos hm)
    obtain ⟨m1, m2, m3⟩ := may_facts ls hm
    have HL := Lib.hid (linesF_length ls)
    have HN := Lib.hid hn
    have H := Lib.hid h
    have HM3 := Lib.hid m3
    rw [hm] at CM
    have hn32 : n ≤ 32 := by omega
    clear h hs hn hm m1 m2 m3 hmax
    generalize putF ls = r at *
    go_enter Tryz.func75, Tryz.ntmps75
    go_wp2_with fail
    refine CM.out.mono ?_
    rintro e w1 ⟨rfl, b1⟩
    have B1 := Lib.hid b1
    clear b1 CM
    go_wp2_with fail
    go_loopw [4, 12] (fun vb vi wr => ∃ (k : Nat) (o : Option Nat) (l : List UInt8), vi = .int .i64 (k : Int) ∧ k ≤ n ∧ l.length ≤ 2046 ∧ Hid (linesF (ls.take k) = l) ∧ Hid (Own wr vb o l) ∧ Hid (∀ b, o = some b → w.heap.size ≤ b) ∧ Hid (Below w.heap.size w wr)) (fun _ vi _ => n - (intOf vi).toNat)
    case atStart => exact ⟨0, none, [], rfl, Nat.zero_le _, by simp, Lib.hid rfl, Lib.hid (Own.nil _), Lib.hid (fun _ h => by cases h), B1⟩
    case round =>
      obtain ⟨k, o, l, rfl, hk, hl, HI, HO, HOB, HB⟩ := hrel
      by_cases hlt : k < n
      · obtain ⟨p, f, hf, hat, y0, y1, _, _⟩ := H.out.at (c := c) HN.out hlt HB.out
        have HX := Lib.hid (show linesF (ls.take (k + 1)) = l ++ (f.1 ++ ([58, 32] ++ (f.2 ++ [13, 10]))) by rw [take_snoc ls k f hf, linesF_snoc, HI.out])
        have hll := sumL_take ls (k + 1)
        have hl2 := linesF_length (ls.take (k + 1))
        rw [HX.out] at hl2
        simp only [List.length_append, List.length_cons, List.length_nil] at hl2
        have h3 := HM3.out
        obtain ⟨f1, f2⟩ := f
        simp only at *
        have z1 : ¬ 9223372036854775807 < f1.length + 2 := by omega
        have z2 : ¬ 9223372036854775807 < f1.length + 2 + f2.length := by omega
        have z3 : ¬ 9223372036854775807 < f1.length + 2 + f2.length + 2 := by omega
        have z5 : l.length + f1.length + f2.length + 4 ≤ 2046 := by omega
        have HSS := Lib.hid (show ((⟨f1.toArray⟩ : ByteArray) ++ ⟨#[58, 32]⟩ ++ ⟨f2.toArray⟩ ++ ⟨#[13, 10]⟩) = ⟨(f1 ++ ([58, 32] ++ (f2 ++ [13, 10]))).toArray⟩ by
          rw [show (⟨#[58, 32]⟩ : ByteArray) = ⟨[58, 32].toArray⟩ from rfl, show (⟨#[13, 10]⟩ : ByteArray) = ⟨[13, 10].toArray⟩ from rfl]; simp only [mk_append, List.append_assoc])
        have HW := Lib.hid (HB.out.alloc HB.out.size (.cells #[.string ⟨f1.toArray⟩, .string ⟨f2.toArray⟩] 58))
        obtain ⟨v', w', o', hrun, own', t', ho'⟩ := run_add_tx w.heap.size (wr.alloc (.cells #[.string ⟨f1.toArray⟩, .string ⟨f2.toArray⟩] 58)) _ o l ⟨(f1 ++ ([58, 32] ++ (f2 ++ [13, 10]))).toArray⟩ (HO.out.kept ((Turn.refl (fun _ => False) wr).alloc _) (fun _ _ h => h)) HOB.out HW.out.size
          (by rw [← bl_length, bl_mk]; simp; omega)
        rw [← HSS.out] at hrun
        rw [bl_mk] at own'
        have HR5 := Lib.hid hrun
        have OO := Lib.hid own'
        have HO5 := Lib.hid ho'
        have HB5 := Lib.hid (below_own HW.out HOB.out t')
        clear hf hll hl2 h3 hrun own' t' ho'
        go_wp2_with (at_builtin; refine append_tx_by rfl (.tmp 16) (.tmp 23) 22 9 rfl _ _ v' w' rfl rfl HR5.out ?_)
        go_roundw
        case rel => exact ⟨k + 1, o', l ++ (f1 ++ ([58, 32] ++ (f2 ++ [13, 10]))), by go_num, hlt, by simp; omega, HX, OO, HO5, HB5⟩
        case measure => simp [intOf]; omega
      · have HQ := Lib.hid (show linesF ls = l by rw [← HI.out, List.take_of_length_le (by rw [HN.out]; omega)])
        obtain ⟨v', w', o', hrun, own', t', ho'⟩ := run_add_tx w.heap.size wr _ o l ⟨#[13, 10]⟩ HO.out HOB.out HB.out.size (by show l.length + 2 ≤ _; omega)
        have HR5 := Lib.hid hrun
        have OO := Lib.hid (show Own w' v' o' (l ++ [13, 10]) from own')
        have HO5 := Lib.hid ho'
        have HB5 := Lib.hid (below_own HB.out HOB.out t')
        clear hrun own' t' ho'
        go_wp2_with (at_builtin; refine append_tx_by rfl (.tmp 26) _ 22 9 rfl _ _ v' w' rfl rfl HR5.out ?_)
        go_ret2
        obtain ⟨A5, c5, hv5, hc5, hs5⟩ := OO.out.srcc (fun b => w.heap.size ≤ b) HO5.out
        subst hv5
        rw [HP.out, HQ.out]
        exact ⟨A5, c5, rfl, hc5, hs5, HB5.out⟩
  · have HP := Lib.hid (show putF ls = none from if_neg hm)
    rw [Bool.not_eq_true] at hm
    rw [hm] at CM
    clear h hs hn hm hmax
    generalize putF ls = r at *
    go_enter Tryz.func75, Tryz.ntmps75
    go_wp2_with fail
    refine CM.out.mono ?_
    rintro e w1 ⟨rfl, b1⟩
    have B1 := Lib.hid b1
    clear b1 CM
    go_wp2_with fail
    go_ret2
    rw [HP.out]
    exact ⟨none, 0, rfl, Nat.le_refl _, fun h => by simp at h, B1.out⟩
end Go.Proofs.YtemgfppclakdmaaGreatDoor
