/-
  BucketAlways: who waits long enough is told true; as many as Left tells.
  Conditions: those that the theorem names.
-/
import Derived.Test.YtfkpihilcngbnaaIG
import Derived.Test.YtfkpihilcngbnaaII
namespace Go.Proofs.Ytfkpihilcngbnaa.Buc
open Go.RowKit

/-- The slice's address reads these numbers (uint32). -/
def Src32 (w : World) (A : Option Addr) (ds : List Nat) : Prop := ∀ k, k < ds.length → ∃ a : Addr, A = some a ∧ a.block < w.heap.size ∧ w.cell? (a.add k) = some (.int .u32 ((ds.getD k 0 : Nat) : Int))

theorem Src32.kept {w w' : World} {A : Option Addr} {ds : List Nat} (h : Src32 w A ds) (ht : Turn (fun _ => False) w w') : Src32 w' A ds := by
  intro k hk
  obtain ⟨a, hA, hb, hc⟩ := h k hk
  refine ⟨a, hA, Nat.lt_of_lt_of_le hb ht.size, (ht.cell (p := a.add k) ?_ (fun h => h)).trans hc⟩
  unfold Addr.add; split <;> exact hb

theorem u32Size : (Try.prog.info? 40).map (·.size) = some 1 := by kernel_rfl

/-- What is turned behind g's making is no block of before. -/
theorem Turn.own {W w w' : World} {g : Nat} (hg : W.heap.size ≤ g) (h : Turn (fun _ => False) W w) (h' : Turn (· = g) w w') : Turn (fun _ => False) W w' :=
  h.trans (S := fun _ => False) h' (fun k hk e => Nat.lt_irrefl k (by rw [e] at hk ⊢; omega))

/-- The wait behind a refusal. -/
theorem wait_of (R z : Nat) (hR : 1 ≤ R) (hz : (999 + R) / R = z) : 1 ≤ z ∧ 1000 ≤ R * z ∧ z ≤ 1000 := by
  have h1 := Nat.div_add_mod (999 + R) R
  have h2 := Nat.mod_lt (999 + R) (show R > 0 by omega)
  rw [hz] at h1
  have h3 : 1000 ≤ R * z := by omega
  refine ⟨?_, h3, ?_⟩
  · rcases Nat.eq_zero_or_pos z with h | h
    · subst h; omega
    · exact h
  · subst hz
    have : (999 + R) / R ≤ 999 + 1 := by
      rw [Nat.add_div_right _ (by omega)]
      have := Nat.div_le_self 999 R
      omega
    omega

/-- What a round of the first loop finds: the time, the bucket. -/
def AlRel (W : World) (g R B n : Nat) (vn vi : Value) (wr : World) : Prop :=
  ∃ (k now : Nat) (x : Bk), vi = .int .i64 (k : Int) ∧ vn = .int .u64 (now : Int) ∧ k ≤ n ∧ k ≤ 2000 ∧ now ≤ 4294967295 + 3000 * k ∧ x.Ok ∧ x.t ≤ now ∧ x.r = R ∧ x.b = B ∧ At wr g x ∧ Turn (fun _ => False) W wr

/-- What a round of the second loop finds. -/
def TkRel (W : World) (g now n : Nat) (y : Bk) (vi : Value) (wr : World) : Prop :=
  ∃ (j : Nat) (z : Bk), vi = .int .i64 (j : Int) ∧ j ≤ n ∧ z.Ok ∧ z.look now = y.drop j ∧ At wr g z ∧ Turn (fun _ => False) W wr

set_option maxHeartbeats 8000000 in
set_option maxRecDepth 100000 in
theorem always_law (r b st fr : Nat) (hst : st ≤ 4294967295) (A : Option Addr) (c : Nat) (ds : List Nat) (hc2 : ds.length ≤ 9223372036854775807) (hd : ∀ k, ds.getD k 0 ≤ 4294967295) (W : World) (HS : Src32 W A ds) :
    Calls Try.prog 5 #[.agg #[.int .u16 r, .int .u16 b, .int .u32 st, .slice A ds.length c, .int .u16 fr]] W fun e w' => e = .returned (.bool true) ∧ Turn (fun _ => False) W w' := by
  obtain ⟨W0, hW0⟩ : ∃ W0, W.alloc (.cells [Value.int .u16 r, .int .u16 b, .int .u32 st, .slice A ds.length c, .int .u16 fr].toArray 43) = W0 := ⟨_, rfl⟩
  have L0 : Is W0 W.heap.size 43 [.int .u16 r, .int .u16 b, .int .u32 st, .slice A ds.length c, .int .u16 fr] := by rw [← hW0]; exact Is.made W _ _
  have T0 : Hid (Turn (fun _ => False) W W0) := Lib.hid (by rw [← hW0]; exact (Turn.refl (fun _ => False) W).alloc _)
  have Z0 : Hid (W.heap.size < W0.heap.size) := Lib.hid L0.lt
  have c0 : W0.cell? ⟨W.heap.size, 0, none⟩ = some (.int .u16 r) := L0.cell 0
  have c1 : W0.cell? ⟨W.heap.size, 1, none⟩ = some (.int .u16 b) := L0.cell 1
  have HL : Hid (∀ V, Turn (fun _ => False) W0 V → V.cell? ⟨W.heap.size, 2, none⟩ = some (.int .u32 st) ∧ V.cell? ⟨W.heap.size, 3, none⟩ = some (.slice A ds.length c)) :=
    Lib.hid (fun V h => ⟨(L0.kept h (fun h => h)).cell 2, (L0.kept h (fun h => h)).cell 3⟩)
  obtain ⟨R, hR⟩ : ∃ R, 1 + r % 1000 = R := ⟨_, rfl⟩
  obtain ⟨B, hB⟩ : ∃ B, 1 + b % 1000 = B := ⟨_, rfl⟩
  have eR : 1 + (r : Int) % 1000 = (R : Int) := by omega
  have eB : 1 + (b : Int) % 1000 = (B : Int) := by omega
  have r1 : 1 ≤ R := by omega
  have r2 : R ≤ 1000 := by omega
  have b1 : 1 ≤ B := by omega
  have b2 : B ≤ 1000 := by omega
  obtain ⟨z, hz⟩ : ∃ z, (999 + R) / R = z := ⟨_, rfl⟩
  have HZ := Lib.hid (wait_of R z r1 hz)
  have HZI := Lib.hid (show ((999 + R : Nat) : Int).tdiv (R : Int) = (z : Int) by rw [← hz]; rfl)
  replace HS := Lib.hid HS
  replace hd := Lib.hid hd
  replace hW0 := Lib.hid hW0
  clear L0 hR hB hz
  go_enter Try.func5, Try.ntmps5
  go_wp2_with fail
  rw [hW0.out]
  go_quiet (fail)
  clear eR eB c0 c1
  have D1 : Hid (Turn (fun _ => False) W0 (W0.drewN nq)) := Lib.hid ((Turn.refl _ W0).drewN nq)
  have c2 := (HL.out _ D1.out).1
  have Z1 : Hid (W.heap.size < (W0.drewN nq).heap.size) := Z0
  have T1 := Lib.hid (T0.out.trans (S := fun _ => False) D1.out (fun _ _ h => h))
  have C0 := Lib.hid (new_any R B st r1 r2 b1 b2 (by omega) (W0.drewN nq))
  unfold New1 at C0
  generalize W0.drewN nq = w1 at *
  go_wp2_with fail
  refine C0.out.mono ?_
  rintro e w2 ⟨rfl, g2, t2, z2⟩
  have T2 := Lib.hid (T1.out.trans (S := fun _ => False) t2 (fun _ _ h => h))
  have D2 := Lib.hid (D1.out.trans (S := fun _ => False) t2 (fun _ _ h => h))
  have G2 := Lib.hid g2
  have HG : Hid (W.heap.size ≤ w1.heap.size) := Lib.hid (Nat.le_of_lt Z1.out)
  have A2 := Lib.hid (awake_any w2)
  clear g2 t2 z2 C0 c2 T1 D1 Z1
  generalize w1.heap.size = g at *
  go_wp2_with fail
  refine A2.out.mono ?_
  rintro e w3 ⟨rfl, t3⟩
  have T3 := Lib.hid (T2.out.trans (S := fun _ => False) t3 (fun _ _ h => h))
  have c3 := (HL.out _ (D2.out.trans (S := fun _ => False) t3 (fun _ _ h => h))).2
  have G3 := Lib.hid (G2.out.kept t3 (fun h => h))
  clear t3 T2 D2 G2 A2
  go_wp2_with fail
  have FO := Lib.hid (fresh_ok (now := st) r1 r2 b1 b2 (by omega))
  clear c3
  go_loopw [5, 47] (fun vn vi wr => AlRel W g R B ds.length vn vi wr) (fun _ vi _ => ds.length - (intOf vi).toNat)
  case atStart => exact ⟨0, st, fresh R B st, rfl, rfl, Nat.zero_le _, by omega, by omega, FO.out, Nat.le_refl _, rfl, rfl, G3.out, T3.out⟩
  case round =>
    obtain ⟨k, now, x, rfl, rfl, hk, hk2, hn, hx, hxt, hxr, hxb, ga, ta⟩ := hrel
    have GA := Lib.hid ga
    have TA := Lib.hid ta
    have HX := Lib.hid hx
    have HXT := Lib.hid hxt
    have HXR := Lib.hid hxr
    have HXB := Lib.hid hxb
    clear G3 T3 FO hx hxt hxr hxb ga ta
    by_cases hlt : k < ds.length
    · obtain ⟨a, rfl, hab, hac⟩ := (HS.out.kept TA.out) k hlt
      have hat := fun V => run_at 41 40 Try.underlying41 u32Size a ds.length c k hlt V
      have hdk := hd.out k
      generalize ds.getD k 0 = D at *
      clear hab
      obtain ⟨dd, hdd⟩ : ∃ dd, D % 2000 = dd := ⟨_, rfl⟩
      have edd : (D : Int) % 2000 = (dd : Int) := by omega
      have dd2 : dd < 2000 := by omega
      obtain ⟨n1, hn1⟩ : ∃ n1, now + dd = n1 := ⟨_, rfl⟩
      have en1 : (now : Int) + (dd : Int) = (n1 : Int) := by omega
      have nb : n1 ≤ 4294967295 + 3000 * k + 2000 := by omega
      by_cases hs : k = 2000
      · have hq : ((k : Int) == 2000) = true := by rw [hs]; rfl
        clear hs
        have HXT1 := Lib.hid (show x.t ≤ n1 by have := HXT.out; omega)
        have HNB := Lib.hid (show n1 ≤ 4503599627370496 by omega)
        go_wp2_with fail
        have C6 := Lib.hid (left_any g n1 x HX.out HNB.out wr GA.out)
        have HLB := Lib.hid (left_le x HX.out n1 HNB.out)
        have HLO := Lib.hid (fun V (gv : At V g x) => gv)
        obtain ⟨n, hn'⟩ : ∃ n, x.left n1 = n := ⟨_, rfl⟩
        rw [hn'] at C6 HLB
        rw [HXB.out] at HLB
        have nB := HLB.out
        refine C6.out.mono ?_
        rintro e w' ⟨rfl, rfl⟩
        have HN := Lib.hid hn'
        clear C6 HLB HLO hn'
        go_wp2_with fail
        go_loopw [93] (fun vi wr => TkRel W g n1 n (x.look n1) vi wr) (fun vi _ => n - (intOf vi).toNat)
        case atStart => exact ⟨0, x, rfl, Nat.zero_le _, HX.out, (drop_none _).symm, GA.out, TA.out⟩
        case round =>
          obtain ⟨j, y, rfl, hj, hy, hyl, gb, tb⟩ := hrel
          have HNBo := HNB.out
          by_cases hlj : j < n
          · have C := Lib.hid (take_any g n1 y hy HNBo _ gb)
            unfold Took at C
            rw [drop_has x y n1 j hyl (by rw [HN.out]; exact hlj)] at C
            have HY := Lib.hid (hy.take HNBo)
            have HYL := Lib.hid (drop_take x y n1 j hyl (by rw [HN.out]; exact hlj))
            have TB := Lib.hid tb
            clear gb tb hy hyl
            go_wp2_with fail
            refine C.out.mono ?_
            rintro e w7 ⟨rfl, g7, t7, z7⟩
            have T7 := Lib.hid (Turn.own HG.out TB.out t7)
            have G7 := Lib.hid g7
            clear g7 t7 z7 C TB
            go_wp2_with fail
            go_roundw
            case rel => exact ⟨j + 1, y.take n1, by go_num, hlj, HY.out, HYL.out, G7.out, T7.out⟩
            case measure => simp [intOf]; omega
          · obtain rfl : j = n := by omega
            have C := Lib.hid (take_any g n1 y hy HNBo _ gb)
            unfold Took at C
            rw [drop_last x y n1 (by rw [HN.out]; exact hyl)] at C
            have TB := Lib.hid tb
            clear gb tb hy hyl
            go_wp2_with fail
            refine C.out.mono ?_
            rintro e w7 ⟨rfl, g7, t7, z7⟩
            have T7 := Lib.hid (Turn.own HG.out TB.out t7)
            clear g7 t7 z7 C TB
            go_wp2_with fail
            go_ret
            exact ⟨rfl, T7.out⟩
      · have hq : ((k : Int) == 2000) = false := beq_eq_false_iff_ne.2 (by omega)
        have k3 : k < 2000 := by omega
        clear hs
        have C := Lib.hid (take_any g n1 x HX.out (by omega) wr GA.out)
        unfold Took at C
        have HY := Lib.hid (HX.out.take (now := n1) (by omega))
        have HYT := Lib.hid (take_t x n1 (by have := HXT.out; omega))
        have HYR := Lib.hid ((take_r x n1).trans HXR.out)
        have HYB := Lib.hid ((take_b x n1).trans HXB.out)
        generalize x.take n1 = y at *
        generalize x.has n1 = q at *
        cases q with
        | true =>
          clear hdk dd2 hdd hn1 HXT HX HXR HXB
          go_wp2_with fail
          refine C.out.mono ?_
          rintro e w4 ⟨rfl, g4, t4, z4⟩
          have T4 := Lib.hid (Turn.own HG.out TA.out t4)
          have G4 := Lib.hid g4
          clear g4 t4 z4 C TA GA
          go_wp2_with fail
          go_roundw
          case rel => exact ⟨k + 1, n1, y, by go_num, rfl, hlt, by omega, by omega, HY.out, Nat.le_of_eq HYT.out, HYR.out, HYB.out, G4.out, T4.out⟩
          case measure => simp [intOf]; omega
        | false =>
          obtain ⟨z1, z2, z3⟩ := HZ.out
          have W2 := Lib.hid (waits y HY.out n1 z (Nat.le_of_eq HYT.out) z1 (by rw [HYR.out]; exact z2))
          have es : (1000 : Int) + (R : Int) - 1 = ((999 + R : Nat) : Int) := by omega
          have ez := HZI.out
          have ez2 : ((999 + R : Nat) : Int) / (R : Int) = (z : Int) := ez
          have eR0 : ((R : Int) == 0) = false := beq_eq_false_iff_ne.2 (by omega)
          have s2 : 999 + R ≤ 2000 := by omega
          generalize 999 + R = s at *
          obtain ⟨n2, hn2⟩ : ∃ n2, n1 + z = n2 := ⟨_, rfl⟩
          have en2 : (n1 : Int) + (z : Int) = (n2 : Int) := by omega
          have nb2 : n2 ≤ 4294967295 + 3000 * k + 3000 := by omega
          have wz : IntKind.u64.wrap (z : Int) = (z : Int) := by rw [IntKind.wrap_u64]; omega
          have HY2 := Lib.hid (HY.out.take (now := n2) (by omega))
          have HYT2 := Lib.hid (take_t y n2 (by have := HYT.out; omega))
          have HYR2 := Lib.hid ((take_r y n2).trans HYR.out)
          have HYB2 := Lib.hid ((take_b y n2).trans HYB.out)
          have CK := Lib.hid (fun V (gv : At V g y) => take_any g n2 y HY.out (by omega) V gv)
          unfold Took at CK
          rw [hn2] at W2
          rw [show y.has n2 = true from W2.out] at CK
          generalize y.take n2 = y2 at *
          clear hdk dd2 hdd hn1 hn2 HXT HX HXR HXB HY HYT HYR HYB W2 z2
          go_wp2_with fail
          refine C.out.mono ?_
          rintro e w4 ⟨rfl, g4, t4, z4⟩
          have T4 := Lib.hid (Turn.own HG.out TA.out t4)
          have C5 := Lib.hid (CK.out _ g4)
          clear g4 t4 z4 C TA GA CK
          go_wp2_with fail
          refine C5.out.mono ?_
          rintro e w5 ⟨rfl, g5, t5, z5⟩
          have T5 := Lib.hid (Turn.own HG.out T4.out t5)
          have G5 := Lib.hid g5
          clear g5 t5 z5 C5 T4
          go_wp2_with fail
          go_roundw
          case rel => exact ⟨k + 1, n2, y2, by go_num, rfl, hlt, by omega, by omega, HY2.out, Nat.le_of_eq HYT2.out, HYR2.out, HYB2.out, G5.out, T5.out⟩
          case measure => simp [intOf]; omega
    · obtain rfl : k = ds.length := by omega
      have HNB := Lib.hid (show now ≤ 4503599627370496 by omega)
      go_wp2_with fail
      have C6 := Lib.hid (left_any g now x HX.out HNB.out wr GA.out)
      have HLB := Lib.hid (left_le x HX.out now HNB.out)
      have HLO := Lib.hid (fun V (gv : At V g x) => gv)
      obtain ⟨n, hn'⟩ : ∃ n, x.left now = n := ⟨_, rfl⟩
      rw [hn'] at C6 HLB
      rw [HXB.out] at HLB
      have nB := HLB.out
      refine C6.out.mono ?_
      rintro e w' ⟨rfl, rfl⟩
      have HN := Lib.hid hn'
      clear C6 HLB HLO hn'
      go_wp2_with fail
      go_loopw [93] (fun vi wr => TkRel W g now n (x.look now) vi wr) (fun vi _ => n - (intOf vi).toNat)
      case atStart => exact ⟨0, x, rfl, Nat.zero_le _, HX.out, (drop_none _).symm, GA.out, TA.out⟩
      case round =>
        obtain ⟨j, y, rfl, hj, hy, hyl, gb, tb⟩ := hrel
        have HNBo := HNB.out
        by_cases hlj : j < n
        · have C := Lib.hid (take_any g now y hy HNBo _ gb)
          unfold Took at C
          rw [drop_has x y now j hyl (by rw [HN.out]; exact hlj)] at C
          have HY := Lib.hid (hy.take HNBo)
          have HYL := Lib.hid (drop_take x y now j hyl (by rw [HN.out]; exact hlj))
          have TB := Lib.hid tb
          clear gb tb hy hyl
          go_wp2_with fail
          refine C.out.mono ?_
          rintro e w7 ⟨rfl, g7, t7, z7⟩
          have T7 := Lib.hid (Turn.own HG.out TB.out t7)
          have G7 := Lib.hid g7
          clear g7 t7 z7 C TB
          go_wp2_with fail
          go_roundw
          case rel => exact ⟨j + 1, y.take now, by go_num, hlj, HY.out, HYL.out, G7.out, T7.out⟩
          case measure => simp [intOf]; omega
        · obtain rfl : j = n := by omega
          have C := Lib.hid (take_any g now y hy HNBo _ gb)
          unfold Took at C
          rw [drop_last x y now (by rw [HN.out]; exact hyl)] at C
          have TB := Lib.hid tb
          clear gb tb hy hyl
          go_wp2_with fail
          refine C.out.mono ?_
          rintro e w7 ⟨rfl, g7, t7, z7⟩
          have T7 := Lib.hid (Turn.own HG.out TB.out t7)
          clear g7 t7 z7 C TB
          go_wp2_with fail
          go_ret
          exact ⟨rfl, T7.out⟩
end Go.Proofs.Ytfkpihilcngbnaa.Buc
