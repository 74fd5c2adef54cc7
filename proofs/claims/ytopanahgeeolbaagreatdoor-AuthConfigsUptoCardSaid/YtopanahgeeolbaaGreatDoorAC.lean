/-
  What package acl's closures, covers, mayName do.
  Conditions: those that each theorem names; where a host is asked for, Go's table of powers of ten is as its text lays it.
-/
import Derived.Test.YtopanahgeeolbaaGreatDoorAB
import Derived.Test.YtopanahgeeolbaaGreatDoorYI
import Derived.Test.YtopanahgeeolbaaGreatDoorUC
namespace Go.Proofs.YtopanahgeeolbaaGreatDoor.Acl
open Go.RowKit

theorem eq_str (x m : ByteArray) : (x.toList == m.toList) = (bl x == bl m) := by rw [Lib.toList_data, Lib.toList_data]; rfl
theorem eg_every : ∀ args w, (callFunc 83 args).run Tryz.prog w = .ok (.enter 83 args) w := enters_of Tryz.func83 (by kernel_rfl) rfl
theorem eg_every2 : ∀ args w, (callFunc 68 args).run Tryz.prog w = .ok (.enter 68 args) w := enters_of Tryz.func68 (by kernel_rfl) rfl

theorem every1_any (s : ByteArray) (g : Nat) (X : World) (hc : X.cell? ⟨g, 0, none⟩ = some (.func (.func 71) #[] #[])) :
    Calls Tryz.prog 83 #[.string s, .pointer (some ⟨g, 0, none⟩)] X fun e w' => e = .returned (.bool (!tokF (bl s))) ∧ Below X.heap.size X w' := by
  have C := Lib.hid (ty_token s X)
  generalize tokF (bl s) = b at *
  go_enter Tryz.func83, Tryz.ntmps83
  go_wp2_with fail
  refine C.out.mono ?_
  rintro e w' ⟨rfl, b'⟩
  go_wp2_with fail
  go_ret
  exact ⟨rfl, b'⟩
theorem any_no {α : Type} (ls : List α) (p : α → Bool) : ls.any (fun x => !p x) = !ls.all p := by
  induction ls with
  | nil => rfl
  | cons a l ih => simp [ih, Bool.not_and]
/-- every(l, text.Token). -/
theorem tokens_any {P : Nat → Prop} (w : World) (A : Option Addr) (ls : List (List UInt8)) (n c : Nat) (hn : ls.length = n) (hmax : n ≤ 140737488351232) (h : SrcS w P A ls) :
    Calls Tryz.prog 70 #[.slice A n c, .func (.func 71) #[] #[]] w fun e w' => e = .returned (.bool (ls.all tokF)) ∧ Below w.heap.size w w' := by
  have hb : Below w.heap.size w (w.alloc (.cells #[.func (.func 71) #[] #[]] 30)) := (Below.refl _ w).alloc (Nat.le_refl _) _
  have i0 := Is.made w 30 [.func (.func 71) #[] #[]]
  have CC := Lib.hid (hasS_any 83 #[.pointer (some ⟨w.heap.size, 0, none⟩)] eg_every (fun x => !tokF x) (w.alloc (.cells #[.func (.func 71) #[] #[]] 30)) A ls n c hn hmax (srcs_below h hb) (fun x _ X hX => by
    have := every1_any ⟨x.toArray⟩ w.heap.size X ((hX.cell i0.lt).trans (i0.cell 0))
    rw [bl_mk] at this
    exact this))
  rw [any_no] at CC
  have HB := Lib.hid hb
  clear hn hmax h hb i0
  generalize ls.all tokF = b at *
  go_enter Tryz.func70, Tryz.ntmps70
  go_wp2_with fail
  refine CC.out.mono ?_
  rintro e w' ⟨rfl, b'⟩
  go_wp2_with fail
  go_ret
  exact ⟨by simp, HB.out.trans (b'.mono HB.out.size)⟩

/-! ## covers -/
theorem head_dot (l : List UInt8) : ([46] : List UInt8).isPrefixOf l = decide (l.head? = some 46) := by
  cases l with
  | nil => rfl
  | cons a r =>
    show ((46 : UInt8) == a && ([] : List UInt8).isPrefixOf r) = decide (some a = some 46)
    rw [show ([] : List UInt8).isPrefixOf r = true by cases r <;> rfl, Bool.and_true, Bool.eq_iff_iff, beq_iff_eq, decide_eq_true_eq, Option.some.injEq]
    exact eq_comm
theorem ends_is (nm h : List UInt8) (hlt : nm.length < h.length) : Lib.hasSuffix h nm = endsF nm h := by
  unfold endsF Lib.hasSuffix
  rw [decide_eq_true hlt, Bool.true_and, Bool.eq_iff_iff, List.isSuffixOf_iff_suffix, List.suffix_iff_eq_drop, beq_iff_eq, eq_comm]

/-! ## mayName -/
theorem trim_is (s : List UInt8) : Lib.trimPrefix s [46] = trimF s := by
  unfold Lib.trimPrefix trimF Lib.hasPrefix
  rw [head_dot]
  cases s with
  | nil => rfl
  | cons a r => simp
set_option maxHeartbeats 1000000 in
theorem mayname_any (s : ByteArray) (w : World) (hp : PowTab w) : Calls Tryz.prog 69 #[.string s] w fun e w' => e = .returned (.bool (hostF (bl s))) ∧ Below w.heap.size w w' := by
  have C1 := Tryz.strings_TrimPrefix s ⟨#[46]⟩ w
  rw [show Lib.trimPrefix s.data.toList (⟨#[46]⟩ : ByteArray).data.toList = trimF (bl s) from trim_is _] at C1
  obtain ⟨T, hT⟩ : ∃ T : ByteArray, T = ⟨(trimF (bl s)).toArray⟩ := ⟨_, rfl⟩
  rw [← hT] at C1
  have C1 := Lib.hid C1
  have C2 := Lib.hid (fun (W : World) (h : PowTab W) => Uri.named_any T W h)
  have HH := Lib.hid (show hostF (bl s) = (bl s == [42] || Uri.namedF (trimF (bl s))) from rfl)
  rw [show trimF (bl s) = bl T by rw [hT]; exact (bl_mk _).symm] at HH
  clear hT
  have HP := Lib.hid hp
  clear hp
  generalize Uri.namedF (bl T) = q at *
  have q1 : (s.toList == [42]) = (bl s == [42]) := by rw [Lib.toList_data]; rfl
  cases hb : bl s == [42] with
  | true =>
    have p1 : s.toList = [42] := by rw [hb] at q1; exact beq_iff_eq.1 q1
    rw [hb] at HH q1
    clear hb C1 C2
    go_enter Tryz.func69, Tryz.ntmps69
    go_wp2_with fail
    go_ret
    exact ⟨ret_bool HH.out.symm, Below.refl _ _⟩
  | false =>
    have p1 : ¬ s.toList = [42] := by rw [hb] at q1; exact beq_eq_false_iff_ne.1 q1
    rw [hb] at HH q1
    clear hb
    go_enter Tryz.func69, Tryz.ntmps69
    go_wp2_with fail
    refine C1.out.mono ?_
    rintro e w1 ⟨rfl, rfl⟩
    go_wp2_with fail
    refine (C2.out _ HP.out).mono ?_
    rintro e w2 ⟨rfl, b2⟩
    go_wp2_with fail
    go_ret
    exact ⟨ret_bool HH.out.symm, b2⟩
end Go.Proofs.YtopanahgeeolbaaGreatDoor.Acl
