/-
  AuthConfigs: whether any configuration, any tenant, any text may be.
  Conditions: nothing of them is large; Go's table of powers of ten is as its text lays it.
-/
import Derived.Test.YtopanahgeeolbaaGreatDoorXK
import Derived.Test.YtopanahgeeolbaaGreatDoorAH
import Derived.Deep.RegionHeld3
import Derived.Deep.DeepMust
import Derived.Great.Walk
namespace Go.Proofs.YtopanahgeeolbaaGreatDoor.Aut
open Go.RowKit Acl

/-- A tenant is not large. -/
def TeE.Small (t : TeE) : Prop := t.n ≤ 4000000 ∧ ∀ r ∈ t.L, r.Small
set_option maxHeartbeats 4000000 in
set_option maxRecDepth 100000 in
theorem rtenant_any (t : TeE) (w : World) (ht : t.Ok w) (hz : t.Small) :
    Calls Tryz.prog 12 #[.agg #[.string t.tok, .slice t.A t.n t.c, .int .i64 t.nb, .int .i64 t.ne, .int .i64 t.ns, .int .i64 t.nc, .int .i64 t.nw, .int .i64 t.nr, .int .i64 t.nu]] w fun e w' => e = .returned (.bool (tenF t)) ∧ Below w.heap.size w w' := by
  have I0 := Lib.hid (TeE.box (w := w) (t := t))
  have B0 : Hid (Below w.heap.size w (w.alloc (.cells #[.string t.tok, .slice t.A t.n t.c, .int .i64 t.nb, .int .i64 t.ne, .int .i64 t.ns, .int .i64 t.nc, .int .i64 t.nw, .int .i64 t.nr, .int .i64 t.nu] 27))) := Lib.hid ((Below.refl _ _).alloc (Nat.le_refl _) _)
  have CM := Lib.hid (fun W : World => rmay_any t.tok W (by have := ht.ht; omega))
  have CA := Lib.hid (fun (W : World) (hb : Below w.heap.size w W) => rall_any W t.A t.L t.n t.c ht.hn hz.1 (ht.below hb).s (ht.below hb).r hz.2)
  have HT := Lib.hid (show tenF t = (mayT (bl t.tok) && (allF t.L && numT t)) from rfl)
  clear ht hz
  cases h1 : mayT (bl t.tok) with
  | false =>
    rw [h1] at CM HT
    have HN := Lib.hid (show tenF t = false by rw [HT.out]; rfl)
    clear h1 CA HT
    go_enter Tryz.func12, Tryz.ntmps12
    go_wp2_with fail
    refine (CM.out _).mono ?_
    rintro e w1 ⟨rfl, rfl⟩
    go_wp2_with fail
    go_ret
    exact ⟨ret_bool HN.out.symm, B0.out⟩
  | true =>
    rw [h1] at CM HT
    clear h1
    cases h2 : allF t.L with
    | false =>
      rw [h2] at CA HT
      have HN := Lib.hid (show tenF t = false by rw [HT.out]; rfl)
      clear h2 HT
      go_enter Tryz.func12, Tryz.ntmps12
      go_wp2_with fail
      refine (CM.out _).mono ?_
      rintro e w1 ⟨rfl, rfl⟩
      go_wp2_with fail
      refine (CA.out _ B0.out).mono ?_
      rintro e w2 ⟨rfl, b2⟩
      have B2 := Lib.hid (B0.out.trans (b2.mono B0.out.size))
      clear b2
      go_wp2_with fail
      go_ret
      exact ⟨ret_bool HN.out.symm, B2.out⟩
    | true =>
      rw [h2] at CA HT
      have HN := Lib.hid (show tenF t = numT t by rw [HT.out]; simp)
      clear h2 HT
      go_enter Tryz.func12, Tryz.ntmps12
      go_wp2_with fail
      refine (CM.out _).mono ?_
      rintro e w1 ⟨rfl, rfl⟩
      go_wp2_with fail
      refine (CA.out _ B0.out).mono ?_
      rintro e w2 ⟨rfl, b2⟩
      have I2 := Lib.hid (is_below I0.out b2)
      have B2 := Lib.hid (B0.out.trans (b2.mono B0.out.size))
      have z2 := I2.out.cell 2
      have z3 := I2.out.cell 3
      have z4 := I2.out.cell 4
      have z5 := I2.out.cell 5
      have z6 := I2.out.cell 6
      have z7 := I2.out.cell 7
      have z8 := I2.out.cell 8
      simp only [TeE.cells, List.getElem?_cons_zero, List.getElem?_cons_succ] at z2 z3 z4 z5 z6 z7 z8
      clear b2 I0 I2 CM CA
      have HQ := Lib.hid (show numT t = ((decide (0 ≤ t.nb) && decide (t.nb ≤ 262144)) && ((decide (0 ≤ t.ne) && decide (t.ne ≤ 64)) && ((decide (1 ≤ t.ns) && decide (t.ns ≤ 16)) && ((decide (1 ≤ t.nc) && decide (t.nc ≤ 8)) && ((decide (0 ≤ t.nw) && decide (t.nw ≤ 16)) && ((decide (1 ≤ t.nr) && decide (t.nr ≤ 1000)) && (decide (1 ≤ t.nu) && decide (t.nu ≤ 1000)))))))) from rfl)
      go_wp2_with fail
      all_goals
        go_ret
        refine ⟨ret_bool (Eq.trans ?_ (HN.out.trans HQ.out).symm), B2.out⟩
        clear HN HQ B2 z2 z3 z4 z5 z6 z7 z8 B0
        rw [Bool.eq_iff_iff]
        simp only [Bool.false_eq_true, Bool.and_eq_true, decide_eq_true_eq, false_iff]
        omega

set_option maxHeartbeats 8000000 in
set_option maxRecDepth 100000 in
theorem rconfig_any {P : Nat → Prop} (w : World) (A : Option Addr) (L : List TeE) (n c : Nat) (st ti : Int) (hn : L.length = n) (hmax : n ≤ 4000000) (h : SrcT w P A L) (hok : ∀ t ∈ L, t.Ok w) (hz : ∀ t ∈ L, t.Small) :
    Calls Tryz.prog 10 #[.agg #[.slice A n c, .int .i64 st, .int .i64 ti]] w fun e w' => e = .returned (.bool (confF L st ti)) ∧ Below w.heap.size w w' := by
  have I0 := Lib.hid (Is.made w 24 [.slice A n c, .int .i64 st, .int .i64 ti])
  have B0 : Hid (Below w.heap.size w (w.alloc (.cells #[.slice A n c, .int .i64 st, .int .i64 ti] 24))) := Lib.hid ((Below.refl _ _).alloc (Nat.le_refl _) _)
  obtain ⟨w0, hw0⟩ : ∃ w0, (w.alloc (.cells #[.slice A n c, .int .i64 st, .int .i64 ti] 24)) = w0 := ⟨_, rfl⟩
  have hc0 := show confF L st ti = (((decide (1 ≤ L.length) && decide (L.length ≤ 8)) && limC st ti) && (L.all tenF && unlF L)) from rfl
  rw [hn] at hc0
  have HC := Lib.hid hc0
  clear hc0
  have HN := Lib.hid hn
  have H := Lib.hid h
  have HOK := Lib.hid hok
  have HZ := Lib.hid hz
  have I0' : Hid (Is w0 w.heap.size 24 [.slice A n c, .int .i64 st, .int .i64 ti]) := by rw [← hw0]; exact I0
  have B0' : Hid (Below w.heap.size w w0) := by rw [← hw0]; exact B0
  clear hn h hok hz I0 B0
  go_enter Tryz.func10, Tryz.ntmps10
  go_wp2_with fail
  clear hw0
  obtain ⟨g, hg⟩ : ∃ g, w.heap.size = g := ⟨_, rfl⟩
  have HG := Lib.hid hg
  rw [hg] at I0' ⊢
  clear hg
  go_loopw [3, 4] (fun vi _ wr => ∃ k : Nat, vi = .int .i64 (k : Int) ∧ k ≤ n ∧ Hid ((L.take k).all tenF = true) ∧ Hid (unlF (L.take k) = true) ∧ Hid (Below w0.heap.size w0 wr)) (fun vi _ _ => n - (intOf vi).toNat)
  case atStart => exact ⟨0, rfl, Nat.zero_le _, Lib.hid rfl, Lib.hid rfl, Lib.hid (Below.refl _ _)⟩
  case round =>
    obtain ⟨k, rfl, hk, HA, HU, HB⟩ := hrel
    have I1 := Lib.hid (is_below I0'.out HB.out)
    have x0 := I1.out.cell 0
    have x1 := I1.out.cell 1
    have x2 := I1.out.cell 2
    simp only [List.getElem?_cons_zero, List.getElem?_cons_succ] at x0 x1 x2
    have BW := Lib.hid (B0'.out.trans (HB.out.mono B0'.out.size))
    by_cases hlt : k < n
    · obtain ⟨p, t, ht, hat, hpb, y0, y1, y2, y3, y4, y5, y6, y7, y8⟩ := H.out.at (c := c) HN.out hlt BW.out
      have HM := Lib.hid (List.mem_of_getElem? ht)
      have CT := Lib.hid (rtenant_any t wr ((HOK.out t HM.out).below BW.out) (HZ.out t HM.out))
      have HTK := Lib.hid (take_snoc L k t ht)
      have HS := Lib.hid (unl_snoc L k t ht HU.out)
      have HT := Lib.hid ht
      clear ht hpb
      cases hb : tenF t with
      | false =>
        rw [hb] at CT
        have HF := Lib.hid (show confF L st ti = false by
          rw [HC.out]
          have : L.all tenF = false := by
            rw [Bool.eq_false_iff]
            intro ha
            have := List.all_eq_true.1 ha t HM.out
            rw [hb] at this
            cases this
          rw [this]
          simp)
        clear hb
        go_wp2_with fail
        refine CT.out.mono ?_
        rintro e w5 ⟨rfl, b5⟩
        go_wp2_with fail
        go_ret
        exact ⟨ret_bool HF.out.symm, BW.out.trans (b5.mono BW.out.size)⟩
      | true =>
        rw [hb] at CT
        have HTB := Lib.hid hb
        clear hb
        go_wp2_with fail
        refine CT.out.mono ?_
        rintro e w5 ⟨rfl, b5⟩
        have HB5 := Lib.hid (HB.out.trans (b5.mono HB.out.size))
        clear b5 y0 y1 y2 y3 y4 y5 y6 y7 y8 hat x0 x1 x2
        go_wp2_with fail
        go_loopw [4] (fun vj wq => ∃ j : Nat, vj = .int .i64 (j : Int) ∧ j ≤ k ∧ Hid (((L.take k).take j).any (fun x => bl x.tok == bl t.tok) = false) ∧ Hid (Below w0.heap.size w0 wq)) (fun vj _ => k - (intOf vj).toNat)
        case atStart => exact ⟨0, rfl, Nat.zero_le _, Lib.hid rfl, HB5⟩
        case round =>
          obtain ⟨j, rfl, hj, HE, HQ⟩ := hrel
          by_cases hjk : j < k
          · have I5 := Lib.hid (is_below I0'.out HQ.out)
            have x0 := I5.out.cell 0
            simp only [List.getElem?_cons_zero] at x0
            have BQ := Lib.hid (B0'.out.trans (HQ.out.mono B0'.out.size))
            obtain ⟨pj, u, hu, hatj, _, u0, _⟩ := H.out.at (c := c) HN.out (show j < n by omega) BQ.out
            obtain ⟨pk, t', ht', hatk, _, t0, _⟩ := H.out.at (c := c) HN.out hlt BQ.out
            rw [HT.out] at ht'
            injection ht' with ht'
            subst ht'
            have HEQ := Lib.hid (eq_text u.tok t.tok)
            have HTJ := Lib.hid (show ((L.take k).take (j + 1)).any (fun x => bl x.tok == bl t.tok) = (bl u.tok == bl t.tok) by
              rw [take_snoc (L.take k) j u (by rw [List.getElem?_take, if_pos hjk]; exact hu), List.any_append, HE.out]
              simp)
            have HIN := Lib.hid (show u ∈ L.take k from List.mem_of_getElem? (i := j) (by rw [List.getElem?_take, if_pos hjk]; exact hu))
            have BD := Lib.hid (fun m : Nat => below_drewX HQ.out m)
            clear hu HQ I5
            cases hb : bl u.tok == bl t.tok with
            | true =>
              rw [hb] at HEQ
              have e1 := HEQ.out
              have HF := Lib.hid (show confF L st ti = false by
                rw [HC.out]
                have : unlF L = false := unl_take L (k + 1) (by
                  rw [HS.out]
                  have : (L.take k).any (fun x => bl x.tok == bl t.tok) = true := List.any_eq_true.2 ⟨u, HIN.out, hb⟩
                  rw [this]
                  rfl)
                rw [this]
                simp)
              clear hb HEQ
              go_wp2_with fail
              go_quiet (fail)
              have e2 := beq_iff_eq.1 e1
              go_wp2_with fail
              go_ret
              refine ⟨ret_bool HF.out.symm, ?_⟩
              exact B0'.out.trans ((BD.out _).mono B0'.out.size)
            | false =>
              rw [hb] at HEQ HTJ
              have e1 := HEQ.out
              clear hb HEQ
              go_wp2_with fail
              go_quiet (fail)
              have BN := Lib.hid (BD.out nq)
              have e2 := beq_eq_false_iff_ne.1 e1
              go_wp2_with fail
              go_roundw
              case rel => exact ⟨j + 1, by go_num, hjk, HTJ, BN⟩
              case measure => simp [intOf]; omega
          · have HSN := Lib.hid (show unlF (L.take (k + 1)) = true by
              have := HE.out
              rw [List.take_of_length_le (by rw [List.length_take]; omega)] at this
              rw [HS.out, this]
              rfl)
            go_wp2_with fail
            go_roundw
            case rel => exact ⟨k + 1, by go_num, hlt, Lib.hid (by rw [HTK.out, List.all_append, HA.out]; simp [HTB.out]), HSN, HQ⟩
            case measure => simp [intOf]; omega
    · have HQ := Lib.hid (show confF L st ti = ((decide (1 ≤ n) && decide (n ≤ 8)) && limC st ti) by
        have a1 := HA.out
        have a2 := HU.out
        rw [List.take_of_length_le (by rw [HN.out]; omega)] at a1 a2
        rw [HC.out, a1, a2]
        simp)
      have BF := Lib.hid BW.out
      clear HC HA HU BW I1
      go_wp2_with fail
      all_goals
        go_ret
        refine ⟨ret_bool (Eq.trans ?_ HQ.out.symm), BF.out⟩
        clear HQ BF x0 x1 x2
        unfold limC
        rw [Bool.eq_iff_iff]
        simp only [Bool.false_eq_true, Bool.and_eq_true, decide_eq_true_eq, false_iff]
        omega
end Go.Proofs.YtopanahgeeolbaaGreatDoor.Aut

namespace Go.Proofs.YtopanahgeeolbaaGreatDoor.Aut
open Go.RowKit Acl

theorem both12 {w' : World} {g h : Nat} {A : Option Addr} {n c : Nat} {st ti : Int} {t : TeE} (hc : Is w' g 24 [.slice A n c, .int .i64 st, .int .i64 ti]) (ht : Is w' h 27 t.cells) :
    w'.cell? ⟨g, 0, none⟩ = some (.slice A n c) ∧ w'.cell? ⟨g, 1, none⟩ = some (.int .i64 st) ∧ w'.cell? ⟨g, 2, none⟩ = some (.int .i64 ti) ∧ w'.cell? ⟨h, 0, none⟩ = some (.string t.tok) ∧ w'.cell? ⟨h, 1, none⟩ = some (.slice t.A t.n t.c) ∧ w'.cell? ⟨h, 2, none⟩ = some (.int .i64 t.nb) ∧ w'.cell? ⟨h, 3, none⟩ = some (.int .i64 t.ne) ∧ w'.cell? ⟨h, 4, none⟩ = some (.int .i64 t.ns) ∧ w'.cell? ⟨h, 5, none⟩ = some (.int .i64 t.nc) ∧ w'.cell? ⟨h, 6, none⟩ = some (.int .i64 t.nw) ∧ w'.cell? ⟨h, 7, none⟩ = some (.int .i64 t.nr) ∧ w'.cell? ⟨h, 8, none⟩ = some (.int .i64 t.nu) :=
  ⟨hc.cell 0, hc.cell 1, hc.cell 2, ht.cell 0, ht.cell 1, ht.cell 2, ht.cell 3, ht.cell 4, ht.cell 5, ht.cell 6, ht.cell 7, ht.cell 8⟩
theorem below_drewL {B : Nat} {a w : World} (h : Below B a w) : Below B a w.drew := ⟨h.os, h.tape, h.output, h.size, h.block⟩
set_option maxHeartbeats 8000000 in
set_option maxRecDepth 100000 in
theorem configs_law {P : Nat → Prop} (w : World) (A : Option Addr) (L : List TeE) (n c : Nat) (st ti : Int) (hn : L.length = n) (hmax : n ≤ 4000000) (hs : SrcT w P A L) (hok : ∀ t ∈ L, t.Ok w) (hz : ∀ t ∈ L, t.Small) (t : TeE) (ht : t.Ok w) (htz : t.Small) (s : ByteArray) (hsz : s.size ≤ 281474976710656) (hp : PowTab w) :
    Calls Tryz.prog 3 #[.agg #[.slice A n c, .int .i64 st, .int .i64 ti], .agg #[.string t.tok, .slice t.A t.n t.c, .int .i64 t.nb, .int .i64 t.ne, .int .i64 t.ns, .int .i64 t.nc, .int .i64 t.nw, .int .i64 t.nr, .int .i64 t.nu], .string s] w fun e w' => e = .returned (.bool true) ∧ Below w.heap.size w w' := by
  have C1 := Lib.hid (fun (W : World) (hB : Below w.heap.size w W) => config_any W A L n c st ti hn (by omega) (hs.below hB) (fun r hr => (hok r hr).below hB) (hp.below hB))
  have C2 := Lib.hid (fun (W : World) (hB : Below w.heap.size w W) => rconfig_any W A L n c st ti hn hmax (hs.below hB) (fun r hr => (hok r hr).below hB) hz)
  have C3 := Lib.hid (fun (W : World) (hB : Below w.heap.size w W) => tenant_any t W (ht.below hB) (hp.below hB))
  have C4 := Lib.hid (fun (W : World) (hB : Below w.heap.size w W) => rtenant_any t W (ht.below hB) htz)
  have C5 := Lib.hid (fun (W : World) (_ : Below w.heap.size w W) => may_any s W hsz)
  have C6 := Lib.hid (fun (W : World) (_ : Below w.heap.size w W) => rmay_below s W hsz)
  have C7 := Lib.hid (fun (W : World) (hB : Below w.heap.size w W) => wakes_any W (hp.below hB))
  have Ic := Lib.hid (((Is.made w 24 [.slice A n c, .int .i64 st, .int .i64 ti])).alloc (.cells #[.string t.tok, .slice t.A t.n t.c, .int .i64 t.nb, .int .i64 t.ne, .int .i64 t.ns, .int .i64 t.nc, .int .i64 t.nw, .int .i64 t.nr, .int .i64 t.nu] 27))
  have it := TeE.box (w := w.alloc (.cells #[.slice A n c, .int .i64 st, .int .i64 ti] 24)) (t := t)
  rw [show (w.alloc (.cells #[.slice A n c, .int .i64 st, .int .i64 ti] 24)).heap.size = w.heap.size + 1 by simp] at it
  have It := Lib.hid it
  have B0 : Hid (Below w.heap.size w ((w.alloc (.cells #[.slice A n c, .int .i64 st, .int .i64 ti] 24)).alloc (.cells #[.string t.tok, .slice t.A t.n t.c, .int .i64 t.nb, .int .i64 t.ne, .int .i64 t.ns, .int .i64 t.nc, .int .i64 t.nw, .int .i64 t.nr, .int .i64 t.nu] 27))) := Lib.hid (((Below.refl _ _).alloc (Nat.le_refl _) _).alloc (by simp) _)
  clear hn hmax hs hok hz ht htz hsz hp it
  generalize confF L st ti = a1 at *
  generalize tenF t = a2 at *
  generalize mayT (bl s) = a3 at *
  go_enter Tryz.func3, Tryz.ntmps3
  go_wp2_with fail
  generalize (w.alloc (.cells #[.slice A n c, .int .i64 st, .int .i64 ti] 24)).alloc (.cells #[.string t.tok, .slice t.A t.n t.c, .int .i64 t.nb, .int .i64 t.ne, .int .i64 t.ns, .int .i64 t.nc, .int .i64 t.nw, .int .i64 t.nr, .int .i64 t.nu] 27) = w1 at *
  have D0 : Hid (Below w.heap.size w w1.drew) := Lib.hid (below_drewL B0.out)
  have Jc0 := Lib.hid (Ic.out.drew)
  have Jt0 := Lib.hid (It.out.drew)
  have x0 := both12 Ic.out It.out
  have CC1 := Lib.hid (C1.out w1.drew D0.out)
  clear C1
  go_region_held3 (fun w' => w'.cell? ⟨w.heap.size, 0, none⟩ = some (.slice A n c) ∧ w'.cell? ⟨w.heap.size, 1, none⟩ = some (.int .i64 st) ∧ w'.cell? ⟨w.heap.size, 2, none⟩ = some (.int .i64 ti) ∧ w'.cell? ⟨w.heap.size + 1, 0, none⟩ = some (.string t.tok) ∧ w'.cell? ⟨w.heap.size + 1, 1, none⟩ = some (.slice t.A t.n t.c) ∧ w'.cell? ⟨w.heap.size + 1, 2, none⟩ = some (.int .i64 t.nb) ∧ w'.cell? ⟨w.heap.size + 1, 3, none⟩ = some (.int .i64 t.ne) ∧ w'.cell? ⟨w.heap.size + 1, 4, none⟩ = some (.int .i64 t.ns) ∧ w'.cell? ⟨w.heap.size + 1, 5, none⟩ = some (.int .i64 t.nc) ∧ w'.cell? ⟨w.heap.size + 1, 6, none⟩ = some (.int .i64 t.nw) ∧ w'.cell? ⟨w.heap.size + 1, 7, none⟩ = some (.int .i64 t.nr) ∧ w'.cell? ⟨w.heap.size + 1, 8, none⟩ = some (.int .i64 t.nu)) (first | exact x0 | exact x1 | exact x2 | exact x3 | exact x4 | exact x5 | exact x6 | exact x7 | go_keep)
    (first | (go_at_call 9; (with_reducible refine CC1.out.mono ?_); rintro e v1 ⟨rfl, b1⟩; have Jc1 := Lib.hid (is_below Jc0.out b1); have Jt1 := Lib.hid (is_below Jt0.out b1); have x1 := both12 Jc1.out Jt1.out; have D1 := Lib.hid (D0.out.trans (b1.mono D0.out.size)); have CC2 := Lib.hid (C2.out v1 D1.out); clear b1) | (go_at_call 10; (with_reducible refine CC2.out.mono ?_); rintro e v2 ⟨rfl, b2⟩; have Jc2 := Lib.hid (is_below Jc1.out b2); have Jt2 := Lib.hid (is_below Jt1.out b2); have x2 := both12 Jc2.out Jt2.out; have D2 := Lib.hid (D1.out.trans (b2.mono D1.out.size)); have CC3 := Lib.hid (C3.out v2 D2.out); clear b2) | (go_at_call 11; (with_reducible refine CC3.out.mono ?_); rintro e v3 ⟨rfl, b3⟩; have Jc3 := Lib.hid (is_below Jc2.out b3); have Jt3 := Lib.hid (is_below Jt2.out b3); have x3 := both12 Jc3.out Jt3.out; have D3 := Lib.hid (D2.out.trans (b3.mono D2.out.size)); have CC4 := Lib.hid (C4.out v3 D3.out); clear b3) | (go_at_call 12; (with_reducible refine CC4.out.mono ?_); rintro e v4 ⟨rfl, b4⟩; have Jc4 := Lib.hid (is_below Jc3.out b4); have Jt4 := Lib.hid (is_below Jt3.out b4); have x4 := both12 Jc4.out Jt4.out; have D4 := Lib.hid (D3.out.trans (b4.mono D3.out.size)); have CC5 := Lib.hid (C5.out v4 D4.out); clear b4) | (go_at_call 13; (with_reducible refine CC5.out.mono ?_); rintro e v5 ⟨rfl, b5⟩; have Jc5 := Lib.hid (is_below Jc4.out b5); have Jt5 := Lib.hid (is_below Jt4.out b5); have x5 := both12 Jc5.out Jt5.out; have D5 := Lib.hid (D4.out.trans (b5.mono D4.out.size)); have CC6 := Lib.hid (C6.out v5 D5.out); clear b5) | (go_at_call 14; (with_reducible refine CC6.out.mono ?_); rintro e v6 ⟨rfl, b6⟩; have Jc6 := Lib.hid (is_below Jc5.out b6); have Jt6 := Lib.hid (is_below Jt5.out b6); have x6 := both12 Jc6.out Jt6.out; have D6 := Lib.hid (D5.out.trans (b6.mono D5.out.size)); have CC7 := Lib.hid (C7.out v6 D6.out); clear b6) | (go_at_call 15; (with_reducible refine CC7.out.mono ?_); rintro e v7 ⟨rfl, b7⟩; have Jc7 := Lib.hid (is_below Jc6.out b7); have Jt7 := Lib.hid (is_below Jt6.out b7); have x7 := both12 Jc7.out Jt7.out; have D7 := Lib.hid (D6.out.trans (b7.mono D6.out.size)); clear b7))
  all_goals
    go_wp2_with fail
    go_ret
    exact ⟨rfl, D7.out⟩
end Go.Proofs.YtopanahgeeolbaaGreatDoor.Aut
