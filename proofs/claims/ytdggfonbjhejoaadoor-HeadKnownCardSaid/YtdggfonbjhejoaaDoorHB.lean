/-
  What the reference's May answers.
  Conditions: those that each theorem names.
-/
import Derived.Test.YtdggfonbjhejoaaDoorHA
import Derived.Deep.RegionHeld3
import Derived.WalkSmall
import Derived.IntWalk
namespace Go.Proofs.YtdggfonbjhejoaaDoor
open Go.RowKit

/-- The length of a field's plain line; whether it may be; the length of all. -/
def lineL (f : Fld) : Nat := f.1.length + 2 + f.2.length
def lineOk (f : Fld) : Bool := decide (lineL f ≤ 512) && (tokF f.1 && (visF f.2 && (trimF f.2 == f.2)))
def sumL (ls : List Fld) : Nat := 2 + (ls.map fun f => lineL f + 2).sum
def mayF (ls : List Fld) : Bool := decide (ls.length ≤ 32) && (ls.all lineOk && decide (sumL ls ≤ 2048))
/-- Texts that Go can hold. -/
def Slim (ls : List Fld) : Prop := ∀ f ∈ ls, f.1.length ≤ 140737488351232 ∧ f.2.length ≤ 140737488351232
theorem sumL_snoc (ls : List Fld) (f : Fld) : sumL (ls ++ [f]) = sumL ls + (lineL f + 2) := by
  simp [sumL]
  omega
theorem sumL_take (ls : List Fld) (k : Nat) : sumL (ls.take k) ≤ sumL ls := by
  have e : ls.map (fun f => lineL f + 2) = (ls.take k).map (fun f => lineL f + 2) ++ (ls.drop k).map (fun f => lineL f + 2) := by rw [← List.map_append, List.take_append_drop]
  unfold sumL
  rw [e, List.sum_append]
  omega
theorem take_snoc {α : Type} (ls : List α) (k : Nat) (f : α) (h : ls[k]? = some f) : ls.take (k + 1) = ls.take k ++ [f] := by
  rw [List.take_add_one, h]
  rfl
theorem may_line (ls : List Fld) (k : Nat) (f : Fld) (h : ls[k]? = some f) (hn : lineOk f = false) : mayF ls = false := by
  have : ls.all lineOk = false := by
    rw [← Bool.not_eq_true, List.all_eq_true]
    intro hall
    rw [hall f (List.mem_of_getElem? h)] at hn
    cases hn
  simp [mayF, this]
theorem may_sum (ls : List Fld) (k : Nat) (h : 2048 < sumL (ls.take k)) : mayF ls = false := by
  have := sumL_take ls k
  simp [mayF]
  intro _ _
  omega
theorem beq_no2 {t s : ByteArray} (h : ¬ t = s) : (t.toList == s.toList) = false := by
  rw [Lib.toList_data, Lib.toList_data]
  refine beq_false_of_ne fun e => h ?_
  rw [← mk_bl t, ← mk_bl s]
  unfold bl
  rw [e]
theorem still {f : FuncId} {args : Array Value} {v : Value} {X : World} (h : Calls Tryd.prog f args X fun e w' => e = .returned v ∧ X = w') : Calls Tryd.prog f args X fun e w' => e = .returned v ∧ w' = X :=
  h.mono fun _ _ h => ⟨h.1, h.2.symm⟩
theorem add_next (ad : Addr) (i : Nat) : (⟨(ad.add (i * 2)).block, (ad.add (i * 2)).off + 1, none⟩ : Addr) = ad.add (i * 2 + 1) := by
  unfold Addr.add
  rw [if_neg (show ¬ i * 2 + 1 = 0 by omega)]
  split
  · rename_i h
    rw [h]
  · rfl

set_option maxHeartbeats 8000000 in
set_option maxRecDepth 100000 in
theorem rmay_any {P : Nat → Prop} (w : World) (A : Option Addr) (ls : List Fld) (n c : Nat) (hn : ls.length = n) (hmax : n ≤ 140737488351232) (h : SrcF w P A ls) (hs : Slim ls) :
    Calls Tryd.prog 17 #[.slice A n c] w fun e w' => e = .returned (.bool (mayF ls)) ∧ Below w.heap.size w w' := by
  have HN := Lib.hid hn
  have H := Lib.hid h
  have HS := Lib.hid hs
  clear hn h hs
  go_enter Tryd.func17, Tryd.ntmps17
  go_wp2_with fail
  go_loopw [3, 4] (fun vs vi wr => ∃ k m : Nat, vs = .int .i64 (m : Int) ∧ vi = .int .i64 (k : Int) ∧ k ≤ n ∧ m ≤ 2048 ∧ Hid (sumL (ls.take k) = m ∧ (ls.take k).all lineOk = true) ∧ Hid (Below w.heap.size w wr)) (fun _ vi _ => n - (intOf vi).toNat)
  case atStart => exact ⟨0, 2, rfl, rfl, Nat.zero_le _, by omega, Lib.hid ⟨rfl, rfl⟩, Lib.hid (Below.refl _ _)⟩
  case round =>
    obtain ⟨k, m, rfl, rfl, hk, hm, HI, HB⟩ := hrel
    by_cases hlt : k < n
    · obtain ⟨ad, hA, _, hadb, hc⟩ := H.out (by rw [HN.out]; omega)
      obtain ⟨f, hf⟩ : ∃ f, ls[k]? = some f := ⟨ls[k]'(by rw [HN.out]; exact hlt), List.getElem?_eq_getElem _⟩
      obtain ⟨c1, c2⟩ := hc k f hf
      have y0 : wr.cell? (ad.add (k * 2)) = some (strV f.1) := (HB.out.cell (Lib.lt_of_cell c1)).trans c1
      have y1 : wr.cell? ⟨(ad.add (k * 2)).block, (ad.add (k * 2)).off + 1, none⟩ = some (strV f.2) := by
        rw [add_next]
        exact (HB.out.cell (Lib.lt_of_cell c2)).trans c2
      obtain ⟨s1, s2⟩ := HS.out f (List.mem_of_getElem? hf)
      have hat := fun Wx => run_at_size 23 45 2 Tryd.underlying23 fldSize ad n c k hlt Wx
      rw [← hA] at hat
      have HF := Lib.hid hf
      have HSN := Lib.hid (sumL_snoc (ls.take k) f)
      have HTK := Lib.hid (take_snoc ls k f hf)
      have HLB := Lib.hid (may_line ls k f hf)
      have HSB := Lib.hid (may_sum ls (k + 1))
      have HLO := Lib.hid (show lineOk f = (decide (lineL f ≤ 512) && (tokF f.1 && (visF f.2 && (trimF f.2 == f.2)))) from rfl)
      have HLL := Lib.hid (show lineL f = f.1.length + 2 + f.2.length from rfl)
      obtain ⟨Nm, hNm⟩ : ∃ Nm : ByteArray, Nm = ⟨f.1.toArray⟩ := ⟨_, rfl⟩
      obtain ⟨Vl, hVl⟩ : ∃ Vl : ByteArray, Vl = ⟨f.2.toArray⟩ := ⟨_, rfl⟩
      unfold strV at y0 y1
      rw [← hNm] at y0
      rw [← hVl] at y1
      have b1 : f.1 = bl Nm := by rw [hNm, bl_mk]
      have b2 : f.2 = bl Vl := by rw [hVl, bl_mk]
      rw [b1, b2] at HLO
      rw [b1, b2, bl_length, bl_length] at HLL
      rw [b1, bl_length] at s1
      rw [b2, bl_length] at s2
      have CT := Lib.hid (fun X : World => still (token_any Nm X (by unfold maxLen; omega)))
      have CV := Lib.hid (fun X : World => still (visible_any Vl X (by unfold maxLen; omega)))
      have CR := Lib.hid (fun X : World => still (trim_any Vl X s2))
      clear hNm hVl b1 b2 hf hA hc c1 c2 hadb
      generalize ad.add (k * 2) = p at *
      have wr1 : IntKind.i64.wrap ((Nm.size : Int) + 2) = (Nm.size : Int) + 2 := by rw [IntKind.wrap_i64]; omega
      have wr2 : IntKind.i64.wrap ((Nm.size : Int) + 2 + (Vl.size : Int)) = (Nm.size : Int) + 2 + (Vl.size : Int) := by rw [IntKind.wrap_i64]; omega
      go_wp2_with fail
      go_quiet (fail)
      have z0 : (wr.drewN nq).cell? p = some (.string Nm) := y0
      have z1 : (wr.drewN nq).cell? ⟨p.block, p.off + 1, none⟩ = some (.string Vl) := y1
      have BQ : Hid (Below w.heap.size w (wr.drewN nq)) := Lib.hid (below_drewN HB.out nq)
      clear y0 y1 HB
      generalize wr.drewN nq = wq at *
      by_cases t1 : (512 : Int) < (Nm.size : Int) + 2 + (Vl.size : Int)
      · have HQ := Lib.hid (HLB.out (by rw [HLO.out, decide_eq_false (by rw [HLL.out]; omega), Bool.false_and]))
        have d1 : decide ((512 : Int) < (Nm.size : Int) + 2 + (Vl.size : Int)) = true := decide_eq_true t1
        clear HLB HSB HLO HSN HTK HI t1
        go_wp2_with fail
        go_quiet ((first
          | (go_at_call 35; exact Calls.quiet_of_same (CT.out _))
          | (go_at_call 36; exact Calls.quiet_of_same (CV.out _))
          | (go_at_call 33; exact Calls.quiet_of_same (CR.out _))))
        go_wp2_with fail
        go_ret
        exact ⟨ret_bool HQ.out.symm, below_drewN BQ.out _⟩
      have d1 : decide ((512 : Int) < (Nm.size : Int) + 2 + (Vl.size : Int)) = false := decide_eq_false t1
      have HL5 := Lib.hid (show decide (lineL f ≤ 512) = true from decide_eq_true (by rw [HLL.out]; omega))
      have T1 := Lib.hid t1
      clear t1
      by_cases t2 : tokF (bl Nm) = false
      · have HQ := Lib.hid (HLB.out (by rw [HLO.out, t2]; simp))
        rw [t2] at CT
        clear HLB HSB HLO HSN HTK HI t2 HL5
        go_wp2_with fail
        go_quiet ((first
          | (go_at_call 35; exact Calls.quiet_of_same (CT.out _))
          | (go_at_call 36; exact Calls.quiet_of_same (CV.out _))
          | (go_at_call 33; exact Calls.quiet_of_same (CR.out _))))
        go_wp2_with fail
        go_ret
        exact ⟨ret_bool HQ.out.symm, below_drewN BQ.out _⟩
      rw [Bool.not_eq_false] at t2
      rw [t2] at CT
      have T2 := Lib.hid t2
      clear t2
      by_cases t3 : visF (bl Vl) = false
      · have HQ := Lib.hid (HLB.out (by rw [HLO.out, t3]; simp))
        rw [t3] at CV
        clear HLB HSB HLO HSN HTK HI t3 HL5 T2
        go_wp2_with fail
        go_quiet ((first
          | (go_at_call 35; exact Calls.quiet_of_same (CT.out _))
          | (go_at_call 36; exact Calls.quiet_of_same (CV.out _))
          | (go_at_call 33; exact Calls.quiet_of_same (CR.out _))))
        go_wp2_with fail
        go_ret
        exact ⟨ret_bool HQ.out.symm, below_drewN BQ.out _⟩
      rw [Bool.not_eq_false] at t3
      rw [t3] at CV
      have T3 := Lib.hid t3
      clear t3
      obtain ⟨R, hR⟩ : ∃ R : ByteArray, R = ⟨(trimF (bl Vl)).toArray⟩ := ⟨_, rfl⟩
      rw [← hR] at CR
      have hRb : trimF (bl Vl) = bl R := by rw [hR]; exact (bl_mk _).symm
      rw [hRb] at HLO
      clear hR hRb
      by_cases t4 : R = Vl
      · subst t4
        have HOK := Lib.hid (show lineOk f = true by rw [HLO.out, HL5.out, T2.out, T3.out]; simp)
        clear HLB HLO HL5 T2 T3
        have wr3 : IntKind.i64.wrap ((m : Int) + ((Nm.size : Int) + 2 + (R.size : Int))) = (m : Int) + ((Nm.size : Int) + 2 + (R.size : Int)) := by rw [IntKind.wrap_i64]; omega
        have HT1 := Lib.hid (show lineL f ≤ 512 by rw [HLL.out]; have := T1.out; omega)
        go_wp2_with fail
        go_quiet ((first
          | (go_at_call 35; exact Calls.quiet_of_same (CT.out _))
          | (go_at_call 36; exact Calls.quiet_of_same (CV.out _))
          | (go_at_call 33; exact Calls.quiet_of_same (CR.out _))))
        have BR : Hid (Below w.heap.size w (wq.drewN nq)) := Lib.hid (below_drewN BQ.out nq)
        generalize wq.drewN nq = wz at *
        by_cases t6 : (2048 : Int) < (m : Int) + ((Nm.size : Int) + 2 + (R.size : Int)) + 2
        · have HQ : Hid (mayF ls = false) := Lib.hid (HSB.out (by
            rw [HTK.out, HSN.out, HI.out.1, HLL.out]
            omega))
          clear HSB HSN HTK HI
          go_wp2_with fail
          go_ret
          exact ⟨ret_bool HQ.out.symm, BR.out⟩
        · go_wp2_with fail
          go_roundw
          case rel =>
            refine ⟨k + 1, m + (lineL f + 2), by rw [HLL.out]; go_num, by go_num, hlt, by rw [HLL.out]; omega, Lib.hid ?_, BR⟩
            rw [HTK.out, HSN.out, HI.out.1, List.all_append, HI.out.2]
            exact ⟨rfl, by simp [HOK.out]⟩
          case measure => simp [intOf]; omega
      · have t5 := beq_no2 t4
        have HQ := Lib.hid (HLB.out (by rw [HLO.out, beq_false_of_ne (fun h => t4 (by rw [← mk_bl R, ← mk_bl Vl, h]))]; simp))
        clear HLB HSB HLO HSN HTK HI t4 HL5 T2 T3
        go_wp2_with fail
        go_quiet ((first
          | (go_at_call 35; exact Calls.quiet_of_same (CT.out _))
          | (go_at_call 36; exact Calls.quiet_of_same (CV.out _))
          | (go_at_call 33; exact Calls.quiet_of_same (CR.out _))))
        go_wp2_with fail
        go_ret
        exact ⟨ret_bool HQ.out.symm, below_drewN BQ.out _⟩
    · have hkn : k = n := by omega
      have HQ : Hid (mayF ls = decide (n ≤ 32)) := Lib.hid (by
        obtain ⟨h1, h2⟩ := HI.out
        have e : ls.take k = ls := List.take_of_length_le (by rw [HN.out]; omega)
        rw [e] at h1 h2
        unfold mayF
        rw [HN.out, h2, decide_eq_true (show sumL ls ≤ 2048 by omega)]
        simp)
      clear hkn
      go_wp2_with fail
      go_ret
      exact ⟨ret_bool (by rw [HQ.out, decide_eq_decide]; omega), HB.out⟩
end Go.Proofs.YtdggfonbjhejoaaDoor
