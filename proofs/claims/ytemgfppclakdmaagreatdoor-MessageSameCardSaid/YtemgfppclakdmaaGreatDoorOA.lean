/-
  The law MessageSame: walk.
  Conditions: the landed code's contracts; what the arguments read; Go's table of powers of ten.
-/
import Derived.Test.YtemgfppclakdmaaGreatDoorMK
namespace Go.Proofs.YtemgfppclakdmaaGreatDoor
open Go.RowKit

/-- What a Both reads. -/
structure BothC (w : World) (qn st rn : Int) (Aq Dq Ar Dr : Option Addr) (ql rl : List Fld) (qx rx : List UInt8) (nq lq nr lr : Nat) : Prop where
  hnq : ql.length = nq
  hlq : qx.length = lq
  hnr : rl.length = nr
  hlr : rx.length = lr
  hmq : nq ≤ 140737488351232
  hmr : nr ≤ 140737488351232
  hfq : SrcF w (fun _ => True) Aq ql
  hbq : Src w (fun _ => True) Dq qx
  hfr : SrcF w (fun _ => True) Ar rl
  hbr : Src w (fun _ => True) Dr rx
theorem SrcF.stay {w X : World} {A : Option Addr} {ls : List Fld} (h : SrcF w (fun _ => True) A ls) (hX : Below w.heap.size w X) : SrcF X (fun _ => True) A ls := h.below hX
theorem Src.stay {w X : World} {A : Option Addr} {bs : List UInt8} (h : Src w (fun _ => True) A bs) (hX : Below w.heap.size w X) : Src X (fun _ => True) A bs := h.kept (Turn.of_below (S := fun _ => False) hX) (fun _ _ h => h)
set_option maxHeartbeats 40000000 in
set_option maxRecDepth 100000 in
theorem same9_law (HC : MsgC) (w : World) (qm qt rr mt : ByteArray) (qn st rn : Int) (Aq Dq Ar Dr : Option Addr) (ql rl : List Fld) (qx rx : List UInt8) (nq cq lq dq nr cr lr dr : Nat) (h : BothC w qn st rn Aq Dq Ar Dr ql rl qx rx nq lq nr lr) (qm' qt' rr' mt' : ByteArray) (qn' st' rn' : Int) (Aq' Dq' Ar' Dr' : Option Addr) (ql' rl' : List Fld) (qx' rx' : List UInt8) (nq' cq' lq' dq' nr' cr' lr' dr' : Nat) (h' : BothC w qn' st' rn' Aq' Dq' Ar' Dr' ql' rl' qx' rx' nq' lq' nr' lr') (hp : Sta.PowT w) :
    Calls Tryz.prog 4 #[.agg #[.string qm, .string qt, .int .i64 qn, .slice Aq nq cq, .slice Dq lq dq, .int .i64 st, .string rr, .int .i64 rn, .slice Ar nr cr, .slice Dr lr dr, .string mt], .agg #[.string qm', .string qt', .int .i64 qn', .slice Aq' nq' cq', .slice Dq' lq' dq', .int .i64 st', .string rr', .int .i64 rn', .slice Ar' nr' cr', .slice Dr' lr' dr', .string mt']] w fun e w' => e = .returned (.bool true) ∧ Below w.heap.size w w' := by
  obtain ⟨g, hg⟩ : ∃ g, w.heap.size = g := ⟨_, rfl⟩
  obtain ⟨g2, hg2⟩ : ∃ g2, g + 1 = g2 := ⟨_, rfl⟩
  have CW := Lib.hid (fun (X : World) (hX : Below w.heap.size w X) => awake9_any HC X (hp.below hX))
  have C1 := Lib.hid (fun (X : World) (hX : Below w.heap.size w X) => HC.sameRequest X qm qm' qt qt' qn qn' Aq Aq' Dq Dq' ql ql' qx qx' nq nq' cq cq' lq lq' dq dq' h.hnq h'.hnq h.hmq h.hlq h'.hlq (h.hfq.stay hX) (h'.hfq.stay hX) (h.hbq.stay hX) (h'.hbq.stay hX))
  have C2 := Lib.hid (fun (X : World) (hX : Below w.heap.size w X) => rsamereq_any X qm qm' qt qt' qn qn' Aq Aq' Dq Dq' ql ql' qx qx' nq nq' cq cq' lq lq' dq dq' h.hnq h'.hnq h.hmq h.hlq h'.hlq (h.hfq.stay hX) (h'.hfq.stay hX) (h.hbq.stay hX) (h'.hbq.stay hX))
  have C3 := Lib.hid (fun (X : World) (hX : Below w.heap.size w X) => HC.sameResponse X st st' rr rr' rn rn' Ar Ar' Dr Dr' rl rl' rx rx' nr nr' cr cr' lr lr' dr dr' h.hnr h'.hnr h.hmr h.hlr h'.hlr (h.hfr.stay hX) (h'.hfr.stay hX) (h.hbr.stay hX) (h'.hbr.stay hX))
  have C4 := Lib.hid (fun (X : World) (hX : Below w.heap.size w X) => rsameres_any X st st' rr rr' rn rn' Ar Ar' Dr Dr' rl rl' rx rx' nr nr' cr cr' lr lr' dr dr' h.hnr h'.hnr h.hmr h.hlr h'.hlr (h.hfr.stay hX) (h'.hfr.stay hX) (h.hbr.stay hX) (h'.hbr.stay hX))
  generalize decide (bl qm = bl qm' ∧ bl qt = bl qt' ∧ qn = qn' ∧ ql = ql' ∧ qx = qx') = p1 at C1 C2
  generalize decide (st = st' ∧ bl rr = bl rr' ∧ rn = rn' ∧ rl = rl' ∧ rx = rx') = p2 at C3 C4
  have i1 := (Is.made w 43 [.string qm, .string qt, .int .i64 qn, .slice Aq nq cq, .slice Dq lq dq, .int .i64 st, .string rr, .int .i64 rn, .slice Ar nr cr, .slice Dr lr dr, .string mt]).alloc (.cells #[.string qm', .string qt', .int .i64 qn', .slice Aq' nq' cq', .slice Dq' lq' dq', .int .i64 st', .string rr', .int .i64 rn', .slice Ar' nr' cr', .slice Dr' lr' dr', .string mt'] 43)
  have i2 := Is.made (w.alloc (.cells #[.string qm, .string qt, .int .i64 qn, .slice Aq nq cq, .slice Dq lq dq, .int .i64 st, .string rr, .int .i64 rn, .slice Ar nr cr, .slice Dr lr dr, .string mt] 43)) 43 [.string qm', .string qt', .int .i64 qn', .slice Aq' nq' cq', .slice Dq' lq' dq', .int .i64 st', .string rr', .int .i64 rn', .slice Ar' nr' cr', .slice Dr' lr' dr', .string mt']
  rw [show (w.alloc (.cells #[.string qm, .string qt, .int .i64 qn, .slice Aq nq cq, .slice Dq lq dq, .int .i64 st, .string rr, .int .i64 rn, .slice Ar nr cr, .slice Dr lr dr, .string mt] 43)).heap.size = w.heap.size + 1 from by simp, hg, hg2] at i2
  rw [hg] at i1
  have b0 : Below w.heap.size w ((w.alloc (.cells #[.string qm, .string qt, .int .i64 qn, .slice Aq nq cq, .slice Dq lq dq, .int .i64 st, .string rr, .int .i64 rn, .slice Ar nr cr, .slice Dr lr dr, .string mt] 43)).alloc (.cells #[.string qm', .string qt', .int .i64 qn', .slice Aq' nq' cq', .slice Dq' lq' dq', .int .i64 st', .string rr', .int .i64 rn', .slice Ar' nr' cr', .slice Dr' lr' dr', .string mt'] 43)) := ((Below.refl w.heap.size w).alloc (Nat.le_refl _) _).alloc (by simp) _
  have I1 := Lib.hid i1
  have I2 := Lib.hid i2
  have B0 := Lib.hid b0
  have HG := Lib.hid hg
  have HG2 := Lib.hid hg2
  clear i1 i2 b0 hg hg2 h h' hp
  cases p1 <;> cases p2
  all_goals
    go_enter Tryz.func4, Tryz.ntmps4
    go_upto_region 1 with fail
    simp only [HG.out, HG2.out]
    generalize (w.alloc _).alloc _ = X0 at *
    have k0 : X0.cell? ⟨g, 0, none⟩ = some (.string qm) ∧ X0.cell? ⟨g, 1, none⟩ = some (.string qt) ∧ X0.cell? ⟨g, 2, none⟩ = some (.int .i64 qn) ∧ X0.cell? ⟨g, 3, none⟩ = some (.slice Aq nq cq) ∧ X0.cell? ⟨g, 4, none⟩ = some (.slice Dq lq dq) ∧ X0.cell? ⟨g, 5, none⟩ = some (.int .i64 st) ∧ X0.cell? ⟨g, 6, none⟩ = some (.string rr) ∧ X0.cell? ⟨g, 7, none⟩ = some (.int .i64 rn) ∧ X0.cell? ⟨g, 8, none⟩ = some (.slice Ar nr cr) ∧ X0.cell? ⟨g, 9, none⟩ = some (.slice Dr lr dr) ∧ X0.cell? ⟨g2, 0, none⟩ = some (.string qm') ∧ X0.cell? ⟨g2, 1, none⟩ = some (.string qt') ∧ X0.cell? ⟨g2, 2, none⟩ = some (.int .i64 qn') ∧ X0.cell? ⟨g2, 3, none⟩ = some (.slice Aq' nq' cq') ∧ X0.cell? ⟨g2, 4, none⟩ = some (.slice Dq' lq' dq') ∧ X0.cell? ⟨g2, 5, none⟩ = some (.int .i64 st') ∧ X0.cell? ⟨g2, 6, none⟩ = some (.string rr') ∧ X0.cell? ⟨g2, 7, none⟩ = some (.int .i64 rn') ∧ X0.cell? ⟨g2, 8, none⟩ = some (.slice Ar' nr' cr') ∧ X0.cell? ⟨g2, 9, none⟩ = some (.slice Dr' lr' dr') := ⟨I1.out.cell 0, I1.out.cell 1, I1.out.cell 2, I1.out.cell 3, I1.out.cell 4, I1.out.cell 5, I1.out.cell 6, I1.out.cell 7, I1.out.cell 8, I1.out.cell 9, I2.out.cell 0, I2.out.cell 1, I2.out.cell 2, I2.out.cell 3, I2.out.cell 4, I2.out.cell 5, I2.out.cell 6, I2.out.cell 7, I2.out.cell 8, I2.out.cell 9⟩
    have D0 : Hid (Below w.heap.size w X0.drew) := Lib.hid (below_drewN B0.out 1)
    have P0 := Lib.hid I1.out.drew
    have Q0 := Lib.hid I2.out.drew
    go_wp2_with fail
    go_region_held3 (fun w' => w'.cell? ⟨g, 0, none⟩ = some (.string qm) ∧ w'.cell? ⟨g, 1, none⟩ = some (.string qt) ∧ w'.cell? ⟨g, 2, none⟩ = some (.int .i64 qn) ∧ w'.cell? ⟨g, 3, none⟩ = some (.slice Aq nq cq) ∧ w'.cell? ⟨g, 4, none⟩ = some (.slice Dq lq dq) ∧ w'.cell? ⟨g, 5, none⟩ = some (.int .i64 st) ∧ w'.cell? ⟨g, 6, none⟩ = some (.string rr) ∧ w'.cell? ⟨g, 7, none⟩ = some (.int .i64 rn) ∧ w'.cell? ⟨g, 8, none⟩ = some (.slice Ar nr cr) ∧ w'.cell? ⟨g, 9, none⟩ = some (.slice Dr lr dr) ∧ w'.cell? ⟨g2, 0, none⟩ = some (.string qm') ∧ w'.cell? ⟨g2, 1, none⟩ = some (.string qt') ∧ w'.cell? ⟨g2, 2, none⟩ = some (.int .i64 qn') ∧ w'.cell? ⟨g2, 3, none⟩ = some (.slice Aq' nq' cq') ∧ w'.cell? ⟨g2, 4, none⟩ = some (.slice Dq' lq' dq') ∧ w'.cell? ⟨g2, 5, none⟩ = some (.int .i64 st') ∧ w'.cell? ⟨g2, 6, none⟩ = some (.string rr') ∧ w'.cell? ⟨g2, 7, none⟩ = some (.int .i64 rn') ∧ w'.cell? ⟨g2, 8, none⟩ = some (.slice Ar' nr' cr') ∧ w'.cell? ⟨g2, 9, none⟩ = some (.slice Dr' lr' dr')) (first | (with_reducible exact k0) | (with_reducible exact k1) | (with_reducible exact k2) | (with_reducible exact k3) | (with_reducible exact k4) | (with_reducible exact k5) | go_keep)
      (first
        | (go_at_call 15
           (with_reducible refine (CW.out X0.drew D0.out).mono ?_)
           rintro e X1 ⟨rfl, b1⟩
           have D1 := Lib.hid (D0.out.trans (b1.mono D0.out.size))
           have P1 := Lib.hid (P0.out.kept (Turn.of_below (S := fun _ => False) b1) (fun h => h))
           have Q1 := Lib.hid (Q0.out.kept (Turn.of_below (S := fun _ => False) b1) (fun h => h))
           have k1 : X1.cell? ⟨g, 0, none⟩ = some (.string qm) ∧ X1.cell? ⟨g, 1, none⟩ = some (.string qt) ∧ X1.cell? ⟨g, 2, none⟩ = some (.int .i64 qn) ∧ X1.cell? ⟨g, 3, none⟩ = some (.slice Aq nq cq) ∧ X1.cell? ⟨g, 4, none⟩ = some (.slice Dq lq dq) ∧ X1.cell? ⟨g, 5, none⟩ = some (.int .i64 st) ∧ X1.cell? ⟨g, 6, none⟩ = some (.string rr) ∧ X1.cell? ⟨g, 7, none⟩ = some (.int .i64 rn) ∧ X1.cell? ⟨g, 8, none⟩ = some (.slice Ar nr cr) ∧ X1.cell? ⟨g, 9, none⟩ = some (.slice Dr lr dr) ∧ X1.cell? ⟨g2, 0, none⟩ = some (.string qm') ∧ X1.cell? ⟨g2, 1, none⟩ = some (.string qt') ∧ X1.cell? ⟨g2, 2, none⟩ = some (.int .i64 qn') ∧ X1.cell? ⟨g2, 3, none⟩ = some (.slice Aq' nq' cq') ∧ X1.cell? ⟨g2, 4, none⟩ = some (.slice Dq' lq' dq') ∧ X1.cell? ⟨g2, 5, none⟩ = some (.int .i64 st') ∧ X1.cell? ⟨g2, 6, none⟩ = some (.string rr') ∧ X1.cell? ⟨g2, 7, none⟩ = some (.int .i64 rn') ∧ X1.cell? ⟨g2, 8, none⟩ = some (.slice Ar' nr' cr') ∧ X1.cell? ⟨g2, 9, none⟩ = some (.slice Dr' lr' dr') := ⟨P1.out.cell 0, P1.out.cell 1, P1.out.cell 2, P1.out.cell 3, P1.out.cell 4, P1.out.cell 5, P1.out.cell 6, P1.out.cell 7, P1.out.cell 8, P1.out.cell 9, Q1.out.cell 0, Q1.out.cell 1, Q1.out.cell 2, Q1.out.cell 3, Q1.out.cell 4, Q1.out.cell 5, Q1.out.cell 6, Q1.out.cell 7, Q1.out.cell 8, Q1.out.cell 9⟩
           clear b1)
        | (go_at_call 17
           (with_reducible refine (C1.out X1 D1.out).mono ?_)
           rintro e X2 ⟨rfl, b2⟩
           have D2 := Lib.hid (D1.out.trans (b2.mono D1.out.size))
           have P2 := Lib.hid (P1.out.kept (Turn.of_below (S := fun _ => False) b2) (fun h => h))
           have Q2 := Lib.hid (Q1.out.kept (Turn.of_below (S := fun _ => False) b2) (fun h => h))
           have k2 : X2.cell? ⟨g, 0, none⟩ = some (.string qm) ∧ X2.cell? ⟨g, 1, none⟩ = some (.string qt) ∧ X2.cell? ⟨g, 2, none⟩ = some (.int .i64 qn) ∧ X2.cell? ⟨g, 3, none⟩ = some (.slice Aq nq cq) ∧ X2.cell? ⟨g, 4, none⟩ = some (.slice Dq lq dq) ∧ X2.cell? ⟨g, 5, none⟩ = some (.int .i64 st) ∧ X2.cell? ⟨g, 6, none⟩ = some (.string rr) ∧ X2.cell? ⟨g, 7, none⟩ = some (.int .i64 rn) ∧ X2.cell? ⟨g, 8, none⟩ = some (.slice Ar nr cr) ∧ X2.cell? ⟨g, 9, none⟩ = some (.slice Dr lr dr) ∧ X2.cell? ⟨g2, 0, none⟩ = some (.string qm') ∧ X2.cell? ⟨g2, 1, none⟩ = some (.string qt') ∧ X2.cell? ⟨g2, 2, none⟩ = some (.int .i64 qn') ∧ X2.cell? ⟨g2, 3, none⟩ = some (.slice Aq' nq' cq') ∧ X2.cell? ⟨g2, 4, none⟩ = some (.slice Dq' lq' dq') ∧ X2.cell? ⟨g2, 5, none⟩ = some (.int .i64 st') ∧ X2.cell? ⟨g2, 6, none⟩ = some (.string rr') ∧ X2.cell? ⟨g2, 7, none⟩ = some (.int .i64 rn') ∧ X2.cell? ⟨g2, 8, none⟩ = some (.slice Ar' nr' cr') ∧ X2.cell? ⟨g2, 9, none⟩ = some (.slice Dr' lr' dr') := ⟨P2.out.cell 0, P2.out.cell 1, P2.out.cell 2, P2.out.cell 3, P2.out.cell 4, P2.out.cell 5, P2.out.cell 6, P2.out.cell 7, P2.out.cell 8, P2.out.cell 9, Q2.out.cell 0, Q2.out.cell 1, Q2.out.cell 2, Q2.out.cell 3, Q2.out.cell 4, Q2.out.cell 5, Q2.out.cell 6, Q2.out.cell 7, Q2.out.cell 8, Q2.out.cell 9⟩
           clear b2)
        | (go_at_call 13
           (with_reducible refine (C2.out X2 D2.out).mono ?_)
           rintro e X3 ⟨rfl, b3⟩
           have D3 := Lib.hid (D2.out.trans (b3.mono D2.out.size))
           have P3 := Lib.hid (P2.out.kept (Turn.of_below (S := fun _ => False) b3) (fun h => h))
           have Q3 := Lib.hid (Q2.out.kept (Turn.of_below (S := fun _ => False) b3) (fun h => h))
           have k3 : X3.cell? ⟨g, 0, none⟩ = some (.string qm) ∧ X3.cell? ⟨g, 1, none⟩ = some (.string qt) ∧ X3.cell? ⟨g, 2, none⟩ = some (.int .i64 qn) ∧ X3.cell? ⟨g, 3, none⟩ = some (.slice Aq nq cq) ∧ X3.cell? ⟨g, 4, none⟩ = some (.slice Dq lq dq) ∧ X3.cell? ⟨g, 5, none⟩ = some (.int .i64 st) ∧ X3.cell? ⟨g, 6, none⟩ = some (.string rr) ∧ X3.cell? ⟨g, 7, none⟩ = some (.int .i64 rn) ∧ X3.cell? ⟨g, 8, none⟩ = some (.slice Ar nr cr) ∧ X3.cell? ⟨g, 9, none⟩ = some (.slice Dr lr dr) ∧ X3.cell? ⟨g2, 0, none⟩ = some (.string qm') ∧ X3.cell? ⟨g2, 1, none⟩ = some (.string qt') ∧ X3.cell? ⟨g2, 2, none⟩ = some (.int .i64 qn') ∧ X3.cell? ⟨g2, 3, none⟩ = some (.slice Aq' nq' cq') ∧ X3.cell? ⟨g2, 4, none⟩ = some (.slice Dq' lq' dq') ∧ X3.cell? ⟨g2, 5, none⟩ = some (.int .i64 st') ∧ X3.cell? ⟨g2, 6, none⟩ = some (.string rr') ∧ X3.cell? ⟨g2, 7, none⟩ = some (.int .i64 rn') ∧ X3.cell? ⟨g2, 8, none⟩ = some (.slice Ar' nr' cr') ∧ X3.cell? ⟨g2, 9, none⟩ = some (.slice Dr' lr' dr') := ⟨P3.out.cell 0, P3.out.cell 1, P3.out.cell 2, P3.out.cell 3, P3.out.cell 4, P3.out.cell 5, P3.out.cell 6, P3.out.cell 7, P3.out.cell 8, P3.out.cell 9, Q3.out.cell 0, Q3.out.cell 1, Q3.out.cell 2, Q3.out.cell 3, Q3.out.cell 4, Q3.out.cell 5, Q3.out.cell 6, Q3.out.cell 7, Q3.out.cell 8, Q3.out.cell 9⟩
           clear b3)
        | (go_at_call 18
           (with_reducible refine (C3.out X3 D3.out).mono ?_)
           rintro e X4 ⟨rfl, b4⟩
           have D4 := Lib.hid (D3.out.trans (b4.mono D3.out.size))
           have P4 := Lib.hid (P3.out.kept (Turn.of_below (S := fun _ => False) b4) (fun h => h))
           have Q4 := Lib.hid (Q3.out.kept (Turn.of_below (S := fun _ => False) b4) (fun h => h))
           have k4 : X4.cell? ⟨g, 0, none⟩ = some (.string qm) ∧ X4.cell? ⟨g, 1, none⟩ = some (.string qt) ∧ X4.cell? ⟨g, 2, none⟩ = some (.int .i64 qn) ∧ X4.cell? ⟨g, 3, none⟩ = some (.slice Aq nq cq) ∧ X4.cell? ⟨g, 4, none⟩ = some (.slice Dq lq dq) ∧ X4.cell? ⟨g, 5, none⟩ = some (.int .i64 st) ∧ X4.cell? ⟨g, 6, none⟩ = some (.string rr) ∧ X4.cell? ⟨g, 7, none⟩ = some (.int .i64 rn) ∧ X4.cell? ⟨g, 8, none⟩ = some (.slice Ar nr cr) ∧ X4.cell? ⟨g, 9, none⟩ = some (.slice Dr lr dr) ∧ X4.cell? ⟨g2, 0, none⟩ = some (.string qm') ∧ X4.cell? ⟨g2, 1, none⟩ = some (.string qt') ∧ X4.cell? ⟨g2, 2, none⟩ = some (.int .i64 qn') ∧ X4.cell? ⟨g2, 3, none⟩ = some (.slice Aq' nq' cq') ∧ X4.cell? ⟨g2, 4, none⟩ = some (.slice Dq' lq' dq') ∧ X4.cell? ⟨g2, 5, none⟩ = some (.int .i64 st') ∧ X4.cell? ⟨g2, 6, none⟩ = some (.string rr') ∧ X4.cell? ⟨g2, 7, none⟩ = some (.int .i64 rn') ∧ X4.cell? ⟨g2, 8, none⟩ = some (.slice Ar' nr' cr') ∧ X4.cell? ⟨g2, 9, none⟩ = some (.slice Dr' lr' dr') := ⟨P4.out.cell 0, P4.out.cell 1, P4.out.cell 2, P4.out.cell 3, P4.out.cell 4, P4.out.cell 5, P4.out.cell 6, P4.out.cell 7, P4.out.cell 8, P4.out.cell 9, Q4.out.cell 0, Q4.out.cell 1, Q4.out.cell 2, Q4.out.cell 3, Q4.out.cell 4, Q4.out.cell 5, Q4.out.cell 6, Q4.out.cell 7, Q4.out.cell 8, Q4.out.cell 9⟩
           clear b4)
        | (go_at_call 14
           (with_reducible refine (C4.out X4 D4.out).mono ?_)
           rintro e X5 ⟨rfl, b5⟩
           have D5 := Lib.hid (D4.out.trans (b5.mono D4.out.size))
           have P5 := Lib.hid (P4.out.kept (Turn.of_below (S := fun _ => False) b5) (fun h => h))
           have Q5 := Lib.hid (Q4.out.kept (Turn.of_below (S := fun _ => False) b5) (fun h => h))
           have k5 : X5.cell? ⟨g, 0, none⟩ = some (.string qm) ∧ X5.cell? ⟨g, 1, none⟩ = some (.string qt) ∧ X5.cell? ⟨g, 2, none⟩ = some (.int .i64 qn) ∧ X5.cell? ⟨g, 3, none⟩ = some (.slice Aq nq cq) ∧ X5.cell? ⟨g, 4, none⟩ = some (.slice Dq lq dq) ∧ X5.cell? ⟨g, 5, none⟩ = some (.int .i64 st) ∧ X5.cell? ⟨g, 6, none⟩ = some (.string rr) ∧ X5.cell? ⟨g, 7, none⟩ = some (.int .i64 rn) ∧ X5.cell? ⟨g, 8, none⟩ = some (.slice Ar nr cr) ∧ X5.cell? ⟨g, 9, none⟩ = some (.slice Dr lr dr) ∧ X5.cell? ⟨g2, 0, none⟩ = some (.string qm') ∧ X5.cell? ⟨g2, 1, none⟩ = some (.string qt') ∧ X5.cell? ⟨g2, 2, none⟩ = some (.int .i64 qn') ∧ X5.cell? ⟨g2, 3, none⟩ = some (.slice Aq' nq' cq') ∧ X5.cell? ⟨g2, 4, none⟩ = some (.slice Dq' lq' dq') ∧ X5.cell? ⟨g2, 5, none⟩ = some (.int .i64 st') ∧ X5.cell? ⟨g2, 6, none⟩ = some (.string rr') ∧ X5.cell? ⟨g2, 7, none⟩ = some (.int .i64 rn') ∧ X5.cell? ⟨g2, 8, none⟩ = some (.slice Ar' nr' cr') ∧ X5.cell? ⟨g2, 9, none⟩ = some (.slice Dr' lr' dr') := ⟨P5.out.cell 0, P5.out.cell 1, P5.out.cell 2, P5.out.cell 3, P5.out.cell 4, P5.out.cell 5, P5.out.cell 6, P5.out.cell 7, P5.out.cell 8, P5.out.cell 9, Q5.out.cell 0, Q5.out.cell 1, Q5.out.cell 2, Q5.out.cell 3, Q5.out.cell 4, Q5.out.cell 5, Q5.out.cell 6, Q5.out.cell 7, Q5.out.cell 8, Q5.out.cell 9⟩
           clear b5))
    go_wp2_with fail
    go_ret
    exact ⟨rfl, D5.out⟩
end Go.Proofs.YtemgfppclakdmaaGreatDoor
