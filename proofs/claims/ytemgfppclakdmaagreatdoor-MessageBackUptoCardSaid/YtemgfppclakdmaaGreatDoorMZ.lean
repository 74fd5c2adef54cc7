/-
  What the landed message.PutRequest and PutResponse answer; the word of the landed code's contracts is met.
  Conditions: those that each theorem names.
-/
import Derived.Test.YtemgfppclakdmaaGreatDoorMY
import Derived.Test.YtemgfppclakdmaaGreatDoorMV
import Derived.Test.YtemgfppclakdmaaGreatDoorMX
namespace Go.Proofs.YtemgfppclakdmaaGreatDoor
open Go.RowKit

theorem putreq_len {n : Int} {m t line : List UInt8} (h : Sta.putReqF n m t = some line) : line.length ≤ 512 := by
  unfold Sta.putReqF at h
  split at h
  · rename_i h1
    injection h with h
    rw [← h]
    unfold Sta.reqL Sta.versL
    simp only [List.length_append, List.length_cons, List.length_nil]
    omega
  · cases h
theorem putstat_len {n st : Int} {r line : List UInt8} (h : Sta.putStatF n st r = some line) : line.length ≤ 512 ∧ (n = 0 ∨ n = 1) ∧ 100 ≤ st ∧ st ≤ 599 := by
  unfold Sta.putStatF at h
  split at h
  · rename_i h1
    injection h with h
    rw [← h]
    unfold Sta.statL Sta.versL Sta.digL
    simp only [List.length_append, List.length_cons, List.length_nil]
    omega
  · cases h
theorem srcf_nil (w : World) (P : Nat → Prop) (A : Option Addr) : SrcF w P A [] := fun h => absurd h (by simp)
theorem resK_nil {n st : Int} (m : List UInt8) (hn : n = 0 ∨ n = 1) (h1 : 100 ≤ st) (h2 : st ≤ 599) : resK st m (reqK n []) = if bodyF st m = true then (3, 0, 0) else (0, 0, 0) := by
  have h : reqK n [] = (0, 0, 0) := by
    unfold reqK
    rw [if_neg (by omega)]
    rfl
  rw [h]
  unfold resK
  rw [if_neg (by omega), if_neg (by simp)]
  cases bodyF st m <;> rfl

set_option maxHeartbeats 16000000 in
set_option maxRecDepth 100000 in
theorem putreq_land (w : World) (m t : ByteArray) (k : Int) (A D : Option Addr) (ls : List Fld) (bs : List UInt8) (n c l d : Nat) (hn : ls.length = n) (hl : bs.length = l) (hm : m.size ≤ 140737488351232) (ht : t.size ≤ 140737488351232) (hk : Sta.I64 k) (hb : bulkF ls ≤ 1000000000) (hlm : l ≤ 140737488351232) (hs : SrcF w (fun _ => True) A ls) (hd : Src w (fun _ => True) D bs) (hp : Sta.PowT w) :
    Calls Tryz.prog 19 #[.agg #[.string m, .string t, .int .i64 k, .slice A n c, .slice D l d]] w (PutGot9 (putReqM (bl m) (bl t) k ls bs) w) := by
  obtain ⟨g, hg⟩ : ∃ g, w.heap.size = g := ⟨_, rfl⟩
  obtain ⟨R, hR⟩ : ∃ R, putReqM (bl m) (bl t) k ls bs = R := ⟨_, rfl⟩
  rw [hR]
  unfold putReqM at hR
  have i0 := Is.made w 25 [.string m, .string t, .int .i64 k, .slice A n c, .slice D l d]
  rw [hg] at i0
  have I0 := Lib.hid i0
  have b0 : Below w.heap.size w (w.alloc (.cells #[.string m, .string t, .int .i64 k, .slice A n c, .slice D l d] 25)) := (Below.refl _ _).alloc (Nat.le_refl _) _
  have B0 := Lib.hid b0
  have CQ := Lib.hid (Sta.putreq_any m t k (w.alloc (.cells #[.string m, .string t, .int .i64 k, .slice A n c, .slice D l d] 25)) (by omega) (by omega) hk (hp.below b0))
  unfold Sta.PutGot at CQ
  have HS := Lib.hid hs
  have HD := Lib.hid hd
  have HP := Lib.hid hp
  have HG := Lib.hid hg
  clear i0 b0 hs hd hp hg
  cases hq : Sta.putReqF k (bl m) (bl t) with
  | none =>
    rw [hq] at CQ hR
    simp only at CQ hR
    have HF := Lib.hid hR.symm
    clear hR hn hl
    go_enter Tryz.func19, Tryz.ntmps19
    go_upto_region 1 with fail
    simp only [HG.out]
    generalize w.alloc _ = X0 at *
    have x0 : X0.cell? ⟨g, 0, none⟩ = some (.string m) := I0.out.cell 0
    have x1 : X0.cell? ⟨g, 1, none⟩ = some (.string t) := I0.out.cell 1
    have x2 : X0.cell? ⟨g, 2, none⟩ = some (.int .i64 k) := I0.out.cell 2
    go_wp2_with fail
    refine CQ.out.mono ?_
    rintro e w1 ⟨b1, rfl⟩
    have BX := Lib.hid (B0.out.trans (b1.mono B0.out.size))
    have I1 := Lib.hid (I0.out.kept (Turn.of_below (S := fun _ => False) b1) (fun h => h))
    clear b1 CQ B0 I0 x0 x1 x2
    go_wp2_with fail
    go_ret2
    exact put_stop HF.out rfl BX.out
  | some line =>
    have hlen := putreq_len hq
    rw [hq] at CQ hR
    simp only at CQ hR
    have hz : (⟨line.toArray⟩ : ByteArray).size ≤ 1000000 := by rw [← bl_length, bl_mk]; omega
    by_cases hl0 : 0 < l
    · have d0 : decide ((0 : Int) < (l : Int)) = true := decide_eq_true (by omega)
      have d0n : decide (0 < l) = true := decide_eq_true hl0
      have hne : decide (bs ≠ []) = true := decide_eq_true (fun h => by rw [h] at hl; simp at hl; omega)
      rw [hne] at hR
      have HF := Lib.hid hR
      have CPA := Lib.hid (fun (Y : World) (hY : Below w.heap.size w Y) => put_yes Y ⟨line.toArray⟩ A D ls bs n c l d hn hl hz hb hlm (HS.out.below hY) (HD.out.kept (Turn.of_below (S := fun _ => False) hY) (fun _ _ h => h)) (HP.out.below hY))
      rw [bl_mk] at CPA
      clear hR hn hl hl0 hne hq
      go_enter Tryz.func19, Tryz.ntmps19
      go_upto_region 1 with fail
      simp only [HG.out]
      generalize w.alloc _ = X0 at *
      have x0 : X0.cell? ⟨g, 0, none⟩ = some (.string m) := I0.out.cell 0
      have x1 : X0.cell? ⟨g, 1, none⟩ = some (.string t) := I0.out.cell 1
      have x2 : X0.cell? ⟨g, 2, none⟩ = some (.int .i64 k) := I0.out.cell 2
      go_wp2_with fail
      refine CQ.out.mono ?_
      rintro e w1 ⟨b1, rfl⟩
      have BX := Lib.hid (B0.out.trans (b1.mono B0.out.size))
      have I1 := Lib.hid (I0.out.kept (Turn.of_below (S := fun _ => False) b1) (fun h => h))
      clear b1 CQ B0 I0 x0 x1 x2
      have y3 : w1.cell? ⟨g, 3, none⟩ = some (.slice A n c) := I1.out.cell 3
      have y4 : w1.cell? ⟨g, 4, none⟩ = some (.slice D l d) := I1.out.cell 4
      have CP := Lib.hid (CPA.out w1 BX.out)
      clear CPA
      have HR2 := Lib.hid HF.out
      rw [HF.out] at CP
      unfold PutGot9 at CP
      obtain ⟨out, e9⟩ := R
      simp only at CP
      obtain ⟨no, hno⟩ : ∃ no, out.length = no := ⟨_, rfl⟩
      rw [hno] at CP
      have HNO := Lib.hid hno
      clear HR2 HF hno
      go_wp2_with fail
      refine CP.out.mono ?_
      rintro e w9 ⟨A9, c9, rfl, hc9, s9, b9⟩
      have C9 := Lib.hid hc9
      have S9 := Lib.hid s9
      have B9 := Lib.hid (BX.out.trans (b9.mono BX.out.size))
      clear hc9 s9 b9 CP
      go_wp2_with fail
      go_ret2
      exact ⟨A9, c9, by rw [← HNO.out]; rfl, (show out.length ≤ c9 by rw [HNO.out]; exact C9.out), S9.out, B9.out⟩
    · have d0 : decide ((0 : Int) < (l : Int)) = false := decide_eq_false (by omega)
      have d0n : decide (0 < l) = false := decide_eq_false hl0
      have hne : decide (bs ≠ []) = false := decide_eq_false (fun h => h (List.eq_nil_of_length_eq_zero (by omega)))
      rw [hne] at hR
      have HF := Lib.hid hR
      have CPA := Lib.hid (fun (Y : World) (hY : Below w.heap.size w Y) => put_no Y ⟨line.toArray⟩ A D ls bs n c l d hn hl hz hb hlm (HS.out.below hY) (HD.out.kept (Turn.of_below (S := fun _ => False) hY) (fun _ _ h => h)))
      rw [bl_mk] at CPA
      clear hR hn hl hl0 hne hq
      go_enter Tryz.func19, Tryz.ntmps19
      go_upto_region 1 with fail
      simp only [HG.out]
      generalize w.alloc _ = X0 at *
      have x0 : X0.cell? ⟨g, 0, none⟩ = some (.string m) := I0.out.cell 0
      have x1 : X0.cell? ⟨g, 1, none⟩ = some (.string t) := I0.out.cell 1
      have x2 : X0.cell? ⟨g, 2, none⟩ = some (.int .i64 k) := I0.out.cell 2
      go_wp2_with fail
      refine CQ.out.mono ?_
      rintro e w1 ⟨b1, rfl⟩
      have BX := Lib.hid (B0.out.trans (b1.mono B0.out.size))
      have I1 := Lib.hid (I0.out.kept (Turn.of_below (S := fun _ => False) b1) (fun h => h))
      clear b1 CQ B0 I0 x0 x1 x2
      have y3 : w1.cell? ⟨g, 3, none⟩ = some (.slice A n c) := I1.out.cell 3
      have y4 : w1.cell? ⟨g, 4, none⟩ = some (.slice D l d) := I1.out.cell 4
      have CP := Lib.hid (CPA.out w1 BX.out)
      clear CPA
      have HR2 := Lib.hid HF.out
      rw [HF.out] at CP
      unfold PutGot9 at CP
      obtain ⟨out, e9⟩ := R
      simp only at CP
      obtain ⟨no, hno⟩ : ∃ no, out.length = no := ⟨_, rfl⟩
      rw [hno] at CP
      have HNO := Lib.hid hno
      clear HR2 HF hno
      go_wp2_with fail
      refine CP.out.mono ?_
      rintro e w9 ⟨A9, c9, rfl, hc9, s9, b9⟩
      have C9 := Lib.hid hc9
      have S9 := Lib.hid s9
      have B9 := Lib.hid (BX.out.trans (b9.mono BX.out.size))
      clear hc9 s9 b9 CP
      go_wp2_with fail
      go_ret2
      exact ⟨A9, c9, by rw [← HNO.out]; rfl, (show out.length ≤ c9 by rw [HNO.out]; exact C9.out), S9.out, B9.out⟩
set_option maxHeartbeats 16000000 in
set_option maxRecDepth 100000 in
theorem putres_land (w : World) (st : Int) (r m : ByteArray) (k : Int) (A D : Option Addr) (ls : List Fld) (bs : List UInt8) (n c l d : Nat) (hn : ls.length = n) (hl : bs.length = l) (hr : r.size ≤ 140737488351232) (_hm : m.size ≤ 140737488351232) (hk : Sta.I64 k) (_hst : Sta.I64 st) (hb : bulkF ls ≤ 1000000000) (hlm : l ≤ 140737488351232) (hs : SrcF w (fun _ => True) A ls) (hd : Src w (fun _ => True) D bs) (hp : Sta.PowT w) :
    Calls Tryz.prog 20 #[.agg #[.int .i64 st, .string r, .int .i64 k, .slice A n c, .slice D l d], .string m] w (PutGot9 (putResM k st (bl r) ls bs (bl m)) w) := by
  obtain ⟨g, hg⟩ : ∃ g, w.heap.size = g := ⟨_, rfl⟩
  obtain ⟨R, hR⟩ : ∃ R, putResM k st (bl r) ls bs (bl m) = R := ⟨_, rfl⟩
  rw [hR]
  unfold putResM bareM at hR
  have i0 := Is.made w 32 [.int .i64 st, .string r, .int .i64 k, .slice A n c, .slice D l d]
  rw [hg] at i0
  have I0 := Lib.hid i0
  have b0 : Below w.heap.size w (w.alloc (.cells #[.int .i64 st, .string r, .int .i64 k, .slice A n c, .slice D l d] 32)) := (Below.refl _ _).alloc (Nat.le_refl _) _
  have B0 := Lib.hid b0
  have CQ := Lib.hid (Sta.putstat_any k st r (w.alloc (.cells #[.int .i64 st, .string r, .int .i64 k, .slice A n c, .slice D l d] 32)) (by omega) hk (hp.below b0))
  unfold Sta.PutGot at CQ
  have HS := Lib.hid hs
  have HD := Lib.hid hd
  have HP := Lib.hid hp
  have HG := Lib.hid hg
  clear i0 b0 hs hd hp hg
  cases hq : Sta.putStatF k st (bl r) with
  | none =>
    rw [hq] at CQ hR
    simp only at CQ hR
    have HF := Lib.hid hR.symm
    clear hR hn hl
    go_enter Tryz.func20, Tryz.ntmps20
    go_upto_region 1 with fail
    simp only [HG.out]
    generalize w.alloc _ = X0 at *
    have x0 : X0.cell? ⟨g, 0, none⟩ = some (.int .i64 st) := I0.out.cell 0
    have x1 : X0.cell? ⟨g, 1, none⟩ = some (.string r) := I0.out.cell 1
    have x2 : X0.cell? ⟨g, 2, none⟩ = some (.int .i64 k) := I0.out.cell 2
    go_wp2_with fail
    refine CQ.out.mono ?_
    rintro e w1 ⟨b1, rfl⟩
    have BY := Lib.hid (B0.out.trans (b1.mono B0.out.size))
    have I1 := Lib.hid (I0.out.kept (Turn.of_below (S := fun _ => False) b1) (fun h => h))
    clear b1 CQ B0 I0 x0 x1 x2
    go_wp2_with fail
    go_ret2
    exact put_stop HF.out rfl BY.out
  | some line =>
    obtain ⟨hlen, hk01, hs1, hs2⟩ := putstat_len hq
    rw [hq] at CQ hR
    simp only at CQ hR
    have hz : (⟨line.toArray⟩ : ByteArray).size ≤ 1000000 := by rw [← bl_length, bl_mk]; omega
    have CR := Lib.hid (fun Y : World => response_any st m k Y none [] 0 0 rfl (srcf_nil Y (fun _ => True) none) (Meek.small (ls := []) (by decide)).fit)
    rw [resK_nil (bl m) hk01 hs1 hs2] at CR
    unfold Tells kdV at CR
    cases hbf : bodyF st (bl m) with
    | false =>
      rw [hbf] at CR hR
      simp only [Bool.not_false, Bool.false_eq_true, if_false, true_and] at CR hR
      by_cases hl0 : 0 < l
      · have d0 : decide ((0 : Int) < (l : Int)) = true := decide_eq_true (by omega)
        have d0n : decide (0 < l) = true := decide_eq_true hl0
        have hne : bs ≠ [] := fun h => by rw [h] at hl; simp at hl; omega
        have HF := Lib.hid (show R = ([], 1) by rw [← hR]; simp [hne])
        clear hR hn hl hl0 hne hq hbf
        go_enter Tryz.func20, Tryz.ntmps20
        go_upto_region 1 with fail
        simp only [HG.out]
        generalize w.alloc _ = X0 at *
        have x0 : X0.cell? ⟨g, 0, none⟩ = some (.int .i64 st) := I0.out.cell 0
        have x1 : X0.cell? ⟨g, 1, none⟩ = some (.string r) := I0.out.cell 1
        have x2 : X0.cell? ⟨g, 2, none⟩ = some (.int .i64 k) := I0.out.cell 2
        go_wp2_with fail
        refine CQ.out.mono ?_
        rintro e w1 ⟨b1, rfl⟩
        have BY := Lib.hid (B0.out.trans (b1.mono B0.out.size))
        have I1 := Lib.hid (I0.out.kept (Turn.of_below (S := fun _ => False) b1) (fun h => h))
        clear b1 CQ B0 I0 x0 x1 x2
        have y0 : w1.cell? ⟨g, 0, none⟩ = some (.int .i64 st) := I1.out.cell 0
        have y2 : w1.cell? ⟨g, 2, none⟩ = some (.int .i64 k) := I1.out.cell 2
        go_wp2_with fail
        refine (CR.out w1).mono ?_
        rintro e w2 ⟨rfl, b2⟩
        have BX := Lib.hid (BY.out.trans (b2.mono BY.out.size))
        have I2 := Lib.hid (I1.out.kept (Turn.of_below (S := fun _ => False) b2) (fun h => h))
        clear b2 CR BY I1 y0 y2
        have z3 : w2.cell? ⟨g, 3, none⟩ = some (.slice A n c) := I2.out.cell 3
        have z4 : w2.cell? ⟨g, 4, none⟩ = some (.slice D l d) := I2.out.cell 4
        go_wp2_with fail
        go_ret2
        exact put_stop HF.out rfl BX.out
      · have d0 : decide ((0 : Int) < (l : Int)) = false := decide_eq_false (by omega)
        have d0n : decide (0 < l) = false := decide_eq_false hl0
        have hne : bs = [] := List.eq_nil_of_length_eq_zero (by omega)
        have HF := Lib.hid (show putsM line ls bs false = R by rw [← hR]; simp [hne])
        have CPA := Lib.hid (fun (Y : World) (hY : Below w.heap.size w Y) => put_no Y ⟨line.toArray⟩ A D ls bs n c l d hn hl hz hb hlm (HS.out.below hY) (HD.out.kept (Turn.of_below (S := fun _ => False) hY) (fun _ _ h => h)))
        rw [bl_mk] at CPA
        clear hR hn hl hl0 hne hq hbf
        go_enter Tryz.func20, Tryz.ntmps20
        go_upto_region 1 with fail
        simp only [HG.out]
        generalize w.alloc _ = X0 at *
        have x0 : X0.cell? ⟨g, 0, none⟩ = some (.int .i64 st) := I0.out.cell 0
        have x1 : X0.cell? ⟨g, 1, none⟩ = some (.string r) := I0.out.cell 1
        have x2 : X0.cell? ⟨g, 2, none⟩ = some (.int .i64 k) := I0.out.cell 2
        go_wp2_with fail
        refine CQ.out.mono ?_
        rintro e w1 ⟨b1, rfl⟩
        have BY := Lib.hid (B0.out.trans (b1.mono B0.out.size))
        have I1 := Lib.hid (I0.out.kept (Turn.of_below (S := fun _ => False) b1) (fun h => h))
        clear b1 CQ B0 I0 x0 x1 x2
        have y0 : w1.cell? ⟨g, 0, none⟩ = some (.int .i64 st) := I1.out.cell 0
        have y2 : w1.cell? ⟨g, 2, none⟩ = some (.int .i64 k) := I1.out.cell 2
        go_wp2_with fail
        refine (CR.out w1).mono ?_
        rintro e w2 ⟨rfl, b2⟩
        have BX := Lib.hid (BY.out.trans (b2.mono BY.out.size))
        have I2 := Lib.hid (I1.out.kept (Turn.of_below (S := fun _ => False) b2) (fun h => h))
        clear b2 CR BY I1 y0 y2
        have z3 : w2.cell? ⟨g, 3, none⟩ = some (.slice A n c) := I2.out.cell 3
        have z4 : w2.cell? ⟨g, 4, none⟩ = some (.slice D l d) := I2.out.cell 4
        have CP := Lib.hid (CPA.out w2 BX.out)
        clear CPA
        have HR2 := Lib.hid HF.out
        rw [HF.out] at CP
        unfold PutGot9 at CP
        obtain ⟨out, e9⟩ := R
        simp only at CP
        obtain ⟨no, hno⟩ : ∃ no, out.length = no := ⟨_, rfl⟩
        rw [hno] at CP
        have HNO := Lib.hid hno
        clear HR2 HF hno
        go_wp2_with fail
        refine CP.out.mono ?_
        rintro e w9 ⟨A9, c9, rfl, hc9, s9, b9⟩
        have C9 := Lib.hid hc9
        have S9 := Lib.hid s9
        have B9 := Lib.hid (BX.out.trans (b9.mono BX.out.size))
        clear hc9 s9 b9 CP
        go_wp2_with fail
        go_ret2
        exact ⟨A9, c9, by rw [← HNO.out]; rfl, (show out.length ≤ c9 by rw [HNO.out]; exact C9.out), S9.out, B9.out⟩
    | true =>
      rw [hbf] at CR hR
      simp only [Bool.not_true, Bool.false_eq_true, if_false, if_true, false_and] at CR hR
      by_cases hl0 : 0 < l
      · have d0 : decide ((0 : Int) < (l : Int)) = true := decide_eq_true (by omega)
        have d0n : decide (0 < l) = true := decide_eq_true hl0
        have hne : bs ≠ [] := fun h => by rw [h] at hl; simp at hl; omega
        have HF := Lib.hid (show putsM line ls bs true = R by rw [← hR]; simp)
        have CPA := Lib.hid (fun (Y : World) (hY : Below w.heap.size w Y) => put_yes Y ⟨line.toArray⟩ A D ls bs n c l d hn hl hz hb hlm (HS.out.below hY) (HD.out.kept (Turn.of_below (S := fun _ => False) hY) (fun _ _ h => h)) (HP.out.below hY))
        rw [bl_mk] at CPA
        clear hR hn hl hl0 hne hq hbf
        go_enter Tryz.func20, Tryz.ntmps20
        go_upto_region 1 with fail
        simp only [HG.out]
        generalize w.alloc _ = X0 at *
        have x0 : X0.cell? ⟨g, 0, none⟩ = some (.int .i64 st) := I0.out.cell 0
        have x1 : X0.cell? ⟨g, 1, none⟩ = some (.string r) := I0.out.cell 1
        have x2 : X0.cell? ⟨g, 2, none⟩ = some (.int .i64 k) := I0.out.cell 2
        go_wp2_with fail
        refine CQ.out.mono ?_
        rintro e w1 ⟨b1, rfl⟩
        have BY := Lib.hid (B0.out.trans (b1.mono B0.out.size))
        have I1 := Lib.hid (I0.out.kept (Turn.of_below (S := fun _ => False) b1) (fun h => h))
        clear b1 CQ B0 I0 x0 x1 x2
        have y0 : w1.cell? ⟨g, 0, none⟩ = some (.int .i64 st) := I1.out.cell 0
        have y2 : w1.cell? ⟨g, 2, none⟩ = some (.int .i64 k) := I1.out.cell 2
        go_wp2_with fail
        refine (CR.out w1).mono ?_
        rintro e w2 ⟨rfl, b2⟩
        have BX := Lib.hid (BY.out.trans (b2.mono BY.out.size))
        have I2 := Lib.hid (I1.out.kept (Turn.of_below (S := fun _ => False) b2) (fun h => h))
        clear b2 CR BY I1 y0 y2
        have z3 : w2.cell? ⟨g, 3, none⟩ = some (.slice A n c) := I2.out.cell 3
        have z4 : w2.cell? ⟨g, 4, none⟩ = some (.slice D l d) := I2.out.cell 4
        have CP := Lib.hid (CPA.out w2 BX.out)
        clear CPA
        have HR2 := Lib.hid HF.out
        rw [HF.out] at CP
        unfold PutGot9 at CP
        obtain ⟨out, e9⟩ := R
        simp only at CP
        obtain ⟨no, hno⟩ : ∃ no, out.length = no := ⟨_, rfl⟩
        rw [hno] at CP
        have HNO := Lib.hid hno
        clear HR2 HF hno
        go_wp2_with fail
        refine CP.out.mono ?_
        rintro e w9 ⟨A9, c9, rfl, hc9, s9, b9⟩
        have C9 := Lib.hid hc9
        have S9 := Lib.hid s9
        have B9 := Lib.hid (BX.out.trans (b9.mono BX.out.size))
        clear hc9 s9 b9 CP
        go_wp2_with fail
        go_ret2
        exact ⟨A9, c9, by rw [← HNO.out]; rfl, (show out.length ≤ c9 by rw [HNO.out]; exact C9.out), S9.out, B9.out⟩
      · have d0 : decide ((0 : Int) < (l : Int)) = false := decide_eq_false (by omega)
        have d0n : decide (0 < l) = false := decide_eq_false hl0
        have hne : bs = [] := List.eq_nil_of_length_eq_zero (by omega)
        have HF := Lib.hid (show putsM line ls bs true = R by rw [← hR]; simp)
        have CPA := Lib.hid (fun (Y : World) (hY : Below w.heap.size w Y) => put_yes Y ⟨line.toArray⟩ A D ls bs n c l d hn hl hz hb hlm (HS.out.below hY) (HD.out.kept (Turn.of_below (S := fun _ => False) hY) (fun _ _ h => h)) (HP.out.below hY))
        rw [bl_mk] at CPA
        clear hR hn hl hl0 hne hq hbf
        go_enter Tryz.func20, Tryz.ntmps20
        go_upto_region 1 with fail
        simp only [HG.out]
        generalize w.alloc _ = X0 at *
        have x0 : X0.cell? ⟨g, 0, none⟩ = some (.int .i64 st) := I0.out.cell 0
        have x1 : X0.cell? ⟨g, 1, none⟩ = some (.string r) := I0.out.cell 1
        have x2 : X0.cell? ⟨g, 2, none⟩ = some (.int .i64 k) := I0.out.cell 2
        go_wp2_with fail
        refine CQ.out.mono ?_
        rintro e w1 ⟨b1, rfl⟩
        have BY := Lib.hid (B0.out.trans (b1.mono B0.out.size))
        have I1 := Lib.hid (I0.out.kept (Turn.of_below (S := fun _ => False) b1) (fun h => h))
        clear b1 CQ B0 I0 x0 x1 x2
        have y0 : w1.cell? ⟨g, 0, none⟩ = some (.int .i64 st) := I1.out.cell 0
        have y2 : w1.cell? ⟨g, 2, none⟩ = some (.int .i64 k) := I1.out.cell 2
        go_wp2_with fail
        refine (CR.out w1).mono ?_
        rintro e w2 ⟨rfl, b2⟩
        have BX := Lib.hid (BY.out.trans (b2.mono BY.out.size))
        have I2 := Lib.hid (I1.out.kept (Turn.of_below (S := fun _ => False) b2) (fun h => h))
        clear b2 CR BY I1 y0 y2
        have z3 : w2.cell? ⟨g, 3, none⟩ = some (.slice A n c) := I2.out.cell 3
        have z4 : w2.cell? ⟨g, 4, none⟩ = some (.slice D l d) := I2.out.cell 4
        have CP := Lib.hid (CPA.out w2 BX.out)
        clear CPA
        have HR2 := Lib.hid HF.out
        rw [HF.out] at CP
        unfold PutGot9 at CP
        obtain ⟨out, e9⟩ := R
        simp only at CP
        obtain ⟨no, hno⟩ : ∃ no, out.length = no := ⟨_, rfl⟩
        rw [hno] at CP
        have HNO := Lib.hid hno
        clear HR2 HF hno
        go_wp2_with fail
        refine CP.out.mono ?_
        rintro e w9 ⟨A9, c9, rfl, hc9, s9, b9⟩
        have C9 := Lib.hid hc9
        have S9 := Lib.hid s9
        have B9 := Lib.hid (BX.out.trans (b9.mono BX.out.size))
        clear hc9 s9 b9 CP
        go_wp2_with fail
        go_ret2
        exact ⟨A9, c9, by rw [← HNO.out]; rfl, (show out.length ≤ c9 by rw [HNO.out]; exact C9.out), S9.out, B9.out⟩

/-- The word of the contracts is met. -/
theorem msg_c : MsgC where
  request := fun w A bs n c hn hnc hmax h hp => request_land w A bs n c hn hnc hmax h hp
  response := fun w A bs n c m ended hn hnc hmax _ h hp => response_land w A bs n c m ended hn hnc hmax h hp
  putRequest := fun w m t k A D ls bs n c l d hn hl hm ht hk hb hlm hs hd hp => putreq_land w m t k A D ls bs n c l d hn hl hm ht hk hb hlm hs hd hp
  putResponse := fun w st r m k A D ls bs n c l d hn hl hr hm hk hst hb hlm hs hd hp => putres_land w st r m k A D ls bs n c l d hn hl hr hm hk hst hb hlm hs hd hp
  sameRequest := fun w s0 s0' s1 s1' i2 i2' A A' D D' ls ls' bs bs' n n' c c' m m' d d' hn hn' hmax hm hm' h h' hb hb' => samereq_any w s0 s0' s1 s1' i2 i2' A A' D D' ls ls' bs bs' n n' c c' m m' d d' hn hn' hmax hm hm' h h' hb hb'
  sameResponse := fun w s0 s0' s1 s1' i2 i2' A A' D D' ls ls' bs bs' n n' c c' m m' d d' hn hn' hmax hm hm' h h' hb hb' => sameres_any w s0 s0' s1 s1' i2 i2' A A' D D' ls ls' bs bs' n n' c c' m m' d d' hn hn' hmax hm hm' h h' hb hb'
end Go.Proofs.YtemgfppclakdmaaGreatDoor
