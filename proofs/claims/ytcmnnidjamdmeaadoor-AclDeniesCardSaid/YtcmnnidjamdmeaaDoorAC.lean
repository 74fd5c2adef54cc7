/-
  What package acl's closures, covers, mayName do.
  Conditions: those that each theorem names; where a host is asked for, Go's table of powers of ten is as its text lays it.
-/
import Derived.Test.YtcmnnidjamdmeaaDoorAB
import Derived.Test.YtcmnnidjamdmeaaDoorYI
import Derived.Test.YtcmnnidjamdmeaaDoorUC
namespace Go.Proofs.YtcmnnidjamdmeaaDoor.Acl
open Go.RowKit

theorem eq_str (x m : ByteArray) : (x.toList == m.toList) = (bl x == bl m) := by rw [Lib.toList_data, Lib.toList_data]; rfl
theorem match1_any (x m : ByteArray) (g : Nat) (X : World) (hc : X.cell? ⟨g, 0, none⟩ = some (.string m)) :
    Calls Tryd.prog 25 #[.string x, .pointer (some ⟨g, 0, none⟩)] X fun e w' => e = .returned (.bool (bl x == bl m)) ∧ Below X.heap.size X w' := by
  have HE := Lib.hid (eq_str x m)
  go_enter Tryd.func25, Tryd.ntmps25
  go_wp2_with fail
  go_ret
  exact ⟨ret_bool HE.out, Below.refl _ _⟩
theorem eg_match : ∀ args w, (callFunc 25 args).run Tryd.prog w = .ok (.enter 25 args) w := enters_of Tryd.func25 (by kernel_rfl) rfl
theorem eg_every : ∀ args w, (callFunc 28 args).run Tryd.prog w = .ok (.enter 28 args) w := enters_of Tryd.func28 (by kernel_rfl) rfl
theorem eg_every2 : ∀ args w, (callFunc 37 args).run Tryd.prog w = .ok (.enter 37 args) w := enters_of Tryd.func37 (by kernel_rfl) rfl

theorem every1_any (s : ByteArray) (g : Nat) (X : World) (hc : X.cell? ⟨g, 0, none⟩ = some (.func (.func 19) #[] #[])) :
    Calls Tryd.prog 28 #[.string s, .pointer (some ⟨g, 0, none⟩)] X fun e w' => e = .returned (.bool (!tokF (bl s))) ∧ Below X.heap.size X w' := by
  have C := Lib.hid (ty_token s X)
  generalize tokF (bl s) = b at *
  go_enter Tryd.func28, Tryd.ntmps28
  go_wp2_with fail
  refine C.out.mono ?_
  rintro e w' ⟨rfl, b'⟩
  go_wp2_with fail
  go_ret
  exact ⟨rfl, b'⟩
theorem any_no {α : Type} (ls : List α) (p : α → Bool) : ls.any (fun x => !p x) = !ls.all p := by
  induction ls with
  | nil => rfl
  | cons a l ih => simp [ih, Bool.not_and]
/-- every(l, text.Token). -/
theorem tokens_any {P : Nat → Prop} (w : World) (A : Option Addr) (ls : List (List UInt8)) (n c : Nat) (hn : ls.length = n) (hmax : n ≤ 140737488351232) (h : SrcS w P A ls) :
    Calls Tryd.prog 18 #[.slice A n c, .func (.func 19) #[] #[]] w fun e w' => e = .returned (.bool (ls.all tokF)) ∧ Below w.heap.size w w' := by
  have hb : Below w.heap.size w (w.alloc (.cells #[.func (.func 19) #[] #[]] 34)) := (Below.refl _ w).alloc (Nat.le_refl _) _
  have i0 := Is.made w 34 [.func (.func 19) #[] #[]]
  have CC := Lib.hid (hasS_any 28 #[.pointer (some ⟨w.heap.size, 0, none⟩)] eg_every (fun x => !tokF x) (w.alloc (.cells #[.func (.func 19) #[] #[]] 34)) A ls n c hn hmax (srcs_below h hb) (fun x _ X hX => by
    have := every1_any ⟨x.toArray⟩ w.heap.size X ((hX.cell i0.lt).trans (i0.cell 0))
    rw [bl_mk] at this
    exact this))
  rw [any_no] at CC
  have HB := Lib.hid hb
  clear hn hmax h hb i0
  generalize ls.all tokF = b at *
  go_enter Tryd.func18, Tryd.ntmps18
  go_wp2_with fail
  refine CC.out.mono ?_
  rintro e w' ⟨rfl, b'⟩
  go_wp2_with fail
  go_ret
  exact ⟨by simp, HB.out.trans (b'.mono HB.out.size)⟩

/-! ## covers -/
theorem head_dot (l : List UInt8) : ([46] : List UInt8).isPrefixOf l = decide (l.head? = some 46) := by
  cases l with
  | nil => rfl
  | cons a r =>
    show ((46 : UInt8) == a && ([] : List UInt8).isPrefixOf r) = decide (some a = some 46)
    rw [show ([] : List UInt8).isPrefixOf r = true by cases r <;> rfl, Bool.and_true, Bool.eq_iff_iff, beq_iff_eq, decide_eq_true_eq, Option.some.injEq]
    exact eq_comm
theorem ends_is (nm h : List UInt8) (hlt : nm.length < h.length) : Lib.hasSuffix h nm = endsF nm h := by
  unfold endsF Lib.hasSuffix
  rw [decide_eq_true hlt, Bool.true_and, Bool.eq_iff_iff, List.isSuffixOf_iff_suffix, List.suffix_iff_eq_drop, beq_iff_eq, eq_comm]
set_option maxHeartbeats 1000000 in
theorem covers_any (nm h : ByteArray) (w : World) (hz2 : h.size ≤ 9223372036854775807) : Calls Tryd.prog 23 #[.string nm, .string h] w fun e w' => e = .returned (.bool (coversF (bl nm) (bl h))) ∧ Below w.heap.size w w' := by
  have C1 := Tryd.strings_HasPrefix nm ⟨#[46]⟩ w
  have C2 := Lib.hid (fun W : World => Tryd.strings_HasSuffix h nm W hz2)
  rw [show Lib.hasPrefix nm.data.toList (⟨#[46]⟩ : ByteArray).data.toList = decide ((bl nm).head? = some 46) from head_dot _] at C1
  have C1 := Lib.hid C1
  by_cases h0 : (bl nm).head? = some 46
  · have HC := Lib.hid (show coversF (bl nm) (bl h) = endsF (bl nm) (bl h) by unfold coversF; rw [if_pos h0])
    rw [decide_eq_true h0] at C1
    clear h0
    by_cases hlt : nm.size < h.size
    · have e1 : (nm.size : Int) < (h.size : Int) := by omega
      have HE := Lib.hid (ends_is (bl nm) (bl h) (by rw [bl_length, bl_length]; exact hlt))
      unfold bl at HE
      rw [HE.out] at C2
      clear hlt
      go_enter Tryd.func23, Tryd.ntmps23
      go_wp2_with fail
      refine C1.out.mono ?_
      rintro e w1 ⟨rfl, rfl⟩
      go_wp2_with fail
      refine (C2.out _).mono ?_
      rintro e w2 ⟨rfl, rfl⟩
      go_wp2_with fail
      go_ret
      exact ⟨ret_bool HC.out.symm, Below.refl _ _⟩
    · have e1 : ¬ (nm.size : Int) < (h.size : Int) := by omega
      have HF := Lib.hid (show endsF (bl nm) (bl h) = false by unfold endsF; rw [bl_length, bl_length, decide_eq_false hlt, Bool.false_and])
      clear hlt
      go_enter Tryd.func23, Tryd.ntmps23
      go_wp2_with fail
      refine C1.out.mono ?_
      rintro e w1 ⟨rfl, rfl⟩
      go_wp2_with fail
      go_ret
      exact ⟨ret_bool (HC.out.trans HF.out).symm, Below.refl _ _⟩
  · have HC := Lib.hid (show coversF (bl nm) (bl h) = (bl nm == [42] || bl nm == bl h) by unfold coversF; rw [if_neg h0])
    rw [decide_eq_false h0] at C1
    clear h0
    have q1 : (nm.toList == [42]) = (bl nm == [42]) := by rw [Lib.toList_data]; rfl
    have q2 := Lib.hid (eq_str nm h)
    cases hb : bl nm == [42] with
    | true =>
      have p1 : nm.toList = [42] := by rw [hb] at q1; exact beq_iff_eq.1 q1
      rw [hb] at HC q1
      clear hb q2
      go_enter Tryd.func23, Tryd.ntmps23
      go_wp2_with fail
      refine C1.out.mono ?_
      rintro e w1 ⟨rfl, rfl⟩
      go_wp2_with fail
      go_ret
      exact ⟨ret_bool HC.out.symm, Below.refl _ _⟩
    | false =>
      have p1 : ¬ nm.toList = [42] := by rw [hb] at q1; exact beq_eq_false_iff_ne.1 q1
      rw [hb] at HC q1
      clear hb
      go_enter Tryd.func23, Tryd.ntmps23
      go_wp2_with fail
      refine C1.out.mono ?_
      rintro e w1 ⟨rfl, rfl⟩
      go_wp2_with fail
      go_ret
      exact ⟨ret_bool (q2.out.trans HC.out.symm), Below.refl _ _⟩

/-! ## mayName -/
theorem trim_is (s : List UInt8) : Lib.trimPrefix s [46] = trimF s := by
  unfold Lib.trimPrefix trimF Lib.hasPrefix
  rw [head_dot]
  cases s with
  | nil => rfl
  | cons a r => simp
set_option maxHeartbeats 1000000 in
theorem mayname_any (s : ByteArray) (w : World) (hp : PowTab w) : Calls Tryd.prog 17 #[.string s] w fun e w' => e = .returned (.bool (hostF (bl s))) ∧ Below w.heap.size w w' := by
  have C1 := Tryd.strings_TrimPrefix s ⟨#[46]⟩ w
  rw [show Lib.trimPrefix s.data.toList (⟨#[46]⟩ : ByteArray).data.toList = trimF (bl s) from trim_is _] at C1
  obtain ⟨T, hT⟩ : ∃ T : ByteArray, T = ⟨(trimF (bl s)).toArray⟩ := ⟨_, rfl⟩
  rw [← hT] at C1
  have C1 := Lib.hid C1
  have C2 := Lib.hid (fun (W : World) (h : PowTab W) => Uri.named_any T W h)
  have HH := Lib.hid (show hostF (bl s) = (bl s == [42] || Uri.namedF (trimF (bl s))) from rfl)
  rw [show trimF (bl s) = bl T by rw [hT]; exact (bl_mk _).symm] at HH
  clear hT
  have HP := Lib.hid hp
  clear hp
  generalize Uri.namedF (bl T) = q at *
  have q1 : (s.toList == [42]) = (bl s == [42]) := by rw [Lib.toList_data]; rfl
  cases hb : bl s == [42] with
  | true =>
    have p1 : s.toList = [42] := by rw [hb] at q1; exact beq_iff_eq.1 q1
    rw [hb] at HH q1
    clear hb C1 C2
    go_enter Tryd.func17, Tryd.ntmps17
    go_wp2_with fail
    go_ret
    exact ⟨ret_bool HH.out.symm, Below.refl _ _⟩
  | false =>
    have p1 : ¬ s.toList = [42] := by rw [hb] at q1; exact beq_eq_false_iff_ne.1 q1
    rw [hb] at HH q1
    clear hb
    go_enter Tryd.func17, Tryd.ntmps17
    go_wp2_with fail
    refine C1.out.mono ?_
    rintro e w1 ⟨rfl, rfl⟩
    go_wp2_with fail
    refine (C2.out _ HP.out).mono ?_
    rintro e w2 ⟨rfl, b2⟩
    go_wp2_with fail
    go_ret
    exact ⟨ret_bool HH.out.symm, b2⟩
end Go.Proofs.YtcmnnidjamdmeaaDoor.Acl
