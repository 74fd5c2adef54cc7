/-
  The law ControlSays: walk.
  Conditions: the list holds at most 100000000 bytes.
-/
import Derived.Test.YtkccmjeabkfmdaaDoorEL
namespace Go.Proofs.YtkccmjeabkfmdaaDoor.Con
open Go.RowKit Hop

/-- A control is the same as itself. -/
theorem self_ctl (c : Ctl) (W : World) : (binOp .eql 24 (.agg #[.bool c.ns, .bool c.nc, .bool c.pv, .bool c.pb, .bool c.mu, .bool c.on, .int .i64 c.ma, .int .i64 c.sh, .int .i64 c.mf, .int .i64 c.ms]) (.agg #[.bool c.ns, .bool c.nc, .bool c.pv, .bool c.pb, .bool c.mu, .bool c.on, .int .i64 c.ma, .int .i64 c.sh, .int .i64 c.mf, .int .i64 c.ms])).run Tryd.prog W = .ok (.bool true) W := by rw [run_eql_ctl, eqC_self]
set_option maxHeartbeats 16000000 in
set_option maxRecDepth 100000 in
theorem says_law {P : Nat → Prop} (w : World) (A : Option Addr) (ls : List Fld) (n c : Nat) (hn : ls.length = n) (hb : bulkF ls ≤ 100000000) (h : SrcF w P A ls) :
    Calls Tryd.prog 3 #[.slice A n c] w fun e w' => e = .returned (.bool true) ∧ Below w.heap.size w w' := by
  have hlen := bulk_len ls
  have hb2 : bulkF ls ≤ 1000000000 := by omega
  obtain ⟨v1, w1, o1, hrun, own1, t1, ho1⟩ := run_append_srcF w (.slice none 0 0) none [] ls (OwnF.nil w) A n c hn h (by simp; omega)
  rw [List.nil_append] at own1
  have T1 := own_turn (o := none) (o' := o1) (Below.refl w.heap.size w) (fun _ h => by cases h) t1 (fun b hb => by
    rcases ho1 with h | h
    · rw [h] at hb; cases hb
    · rw [h] at hb; injection hb with hb; right; omega)
  have HR := Lib.hid hrun
  obtain ⟨A1, c1, hv1, src1⟩ := own1.src (fun _ => True) (fun _ _ => trivial)
  rw [hn] at hv1
  subst hv1
  have HN := Lib.hid hn
  have HB := Lib.hid hb2
  have HNL : n ≤ 1000000000 := by omega
  obtain ⟨rq, hrq⟩ : ∃ rq, requestF ls = rq := ⟨_, rfl⟩
  obtain ⟨rs, hrs⟩ : ∃ rs, responseF ls = rs := ⟨_, rfl⟩
  have HQ := Lib.hid hrq
  have HS := Lib.hid hrs
  have L := Lib.hid (h.below T1.1)
  have M := Lib.hid src1
  have X := Lib.hid T1.1
  have hgd := ctlGuard
  have e1 := self_ctl rq
  have e2 := self_ctl rs
  clear hlen hb2 hb hrun own1 t1 ho1 T1 src1 hn h hrq hrs
  go_enter Tryd.func3, Tryd.ntmps3
  go_wp2_with (at_builtin; refine append_by rfl _ (.tmp 4) 22 rfl _ _ (.slice A1 n c1) w1 rfl rfl HR.out ?_)
  have C := request_any w1 A1 ls n c1 HN.out HB.out M.out
  rw [HQ.out] at C
  simp only [Ctl.v, Ctl.cells] at C
  refine (C).mono ?_
  rintro e w2 ⟨rfl, b⟩
  clear C
  have B2 := Lib.hid (X.out.trans (b.mono X.out.size))
  have L_2 := Lib.hid (L.out.below b)
  have M_2 := Lib.hid (M.out.below b)
  clear X L M
  clear b
  go_wp2_with fail
  have C := rrequest_any w2 A ls n c HN.out HB.out L_2.out
  rw [HQ.out] at C
  simp only [Ctl.v, Ctl.cells] at C
  refine (C).mono ?_
  rintro e w3 ⟨rfl, b⟩
  clear C
  have B3 := Lib.hid (B2.out.trans (b.mono B2.out.size))
  have L_3 := Lib.hid (L_2.out.below b)
  have M_3 := Lib.hid (M_2.out.below b)
  clear B2 L_2 M_2
  clear b
  go_wp2_with fail
  have C := response_any w3 A1 ls n c1 HN.out HB.out M_3.out
  rw [HS.out] at C
  simp only [Ctl.v, Ctl.cells] at C
  refine (C).mono ?_
  rintro e w4 ⟨rfl, b⟩
  clear C
  have B4 := Lib.hid (B3.out.trans (b.mono B3.out.size))
  have L_4 := Lib.hid (L_3.out.below b)
  have M_4 := Lib.hid (M_3.out.below b)
  clear B3 L_3 M_3
  clear b
  go_wp2_with fail
  have C := rresponse_any w4 A ls n c HN.out HB.out L_4.out
  rw [HS.out] at C
  simp only [Ctl.v, Ctl.cells] at C
  refine (C).mono ?_
  rintro e w5 ⟨rfl, b⟩
  clear C
  have B5 := Lib.hid (B4.out.trans (b.mono B4.out.size))
  have L_5 := Lib.hid (L_4.out.below b)
  have M_5 := Lib.hid (M_4.out.below b)
  clear B4 L_4 M_4
  clear b
  go_wp2_with fail
  have CS := rsame_any w5 A1 A ls ls n n c1 c HN.out HN.out (by omega) M_5.out L_5.out
  rw [show (ls == ls) = true by simp] at CS
  refine (CS).mono ?_
  rintro e w6 ⟨rfl, b⟩
  clear CS
  have B6 := Lib.hid (B5.out.trans (b.mono B5.out.size))
  have L_6 := Lib.hid (L_5.out.below b)
  have M_6 := Lib.hid (M_5.out.below b)
  clear B5 L_5 M_5
  clear b
  go_wp2_with fail
  refine ((wakes_any w6)).mono ?_
  rintro e w7 ⟨rfl, b⟩
  have B7 := Lib.hid (B6.out.trans (b.mono B6.out.size))
  have L_7 := Lib.hid (L_6.out.below b)
  have M_7 := Lib.hid (M_6.out.below b)
  clear B6 L_6 M_6
  clear b
  go_wp2_with fail
  go_ret
  exact ⟨rfl, B7.out⟩
end Go.Proofs.YtkccmjeabkfmdaaDoor.Con
