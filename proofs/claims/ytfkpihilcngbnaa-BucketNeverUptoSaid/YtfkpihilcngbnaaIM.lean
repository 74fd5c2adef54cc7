/-
  BucketPlays: rows of Takes, Left ahead of each, copies between.
  Conditions: those that the theorem names.
-/
import Derived.Test.YtfkpihilcngbnaaIK
namespace Go.Proofs.Ytfkpihilcngbnaa.Buc
open Go.RowKit

/-- The slice's address reads these numbers (uint64). -/
def Src64 (w : World) (A : Option Addr) (ds : List Nat) : Prop := ∀ k, k < ds.length → ∃ a : Addr, A = some a ∧ a.block < w.heap.size ∧ w.cell? (a.add k) = some (.int .u64 ((ds.getD k 0 : Nat) : Int))

theorem Src64.kept {w w' : World} {A : Option Addr} {ds : List Nat} (h : Src64 w A ds) (ht : Turn (fun _ => False) w w') : Src64 w' A ds := by
  intro k hk
  obtain ⟨a, hA, hb, hc⟩ := h k hk
  refine ⟨a, hA, Nat.lt_of_lt_of_le hb ht.size, (ht.cell (p := a.add k) ?_ (fun h => h)).trans hc⟩
  unfold Addr.add; split <;> exact hb

theorem u64Size : (Try.prog.info? 24).map (·.size) = some 1 := by kernel_rfl

/-- What Left tells at any time; what Take tells and leaves at any time. -/
def leftA (x : Bk) (now : Nat) : Nat := if now ≤ 4503599627370496 then x.left now else 0
def hasA (x : Bk) (now : Nat) : Bool := if now ≤ 4503599627370496 then x.has now else false
def errA (now : Nat) : Nat := if now ≤ 4503599627370496 then 0 else 1
def takeA (x : Bk) (now : Nat) : Bk := if now ≤ 4503599627370496 then x.take now else x

theorem takeA_ok {x : Bk} (h : x.Ok) (now : Nat) : (takeA x now).Ok := by
  unfold takeA
  split
  · next hn => exact h.take hn
  · exact h

theorem left_all (g now : Nat) (x : Bk) (hx : x.Ok) (w : World) (hg : At w g x) : Calls Try.prog 10 #[.pointer (some ⟨g, 0, none⟩), .int .u64 now] w fun e w' => e = .returned (.int .i64 ((leftA x now : Nat) : Int)) ∧ w = w' := by
  unfold leftA
  split
  · next hn => exact left_any g now x hx hn w hg
  · next hn => exact left_late g now x.r hx.r1 (by omega) w hg.c0

theorem rleft_all (g now : Nat) (x : Bk) (hx : x.Ok) (w : World) (hg : Rat w g x) : Calls Try.prog 11 #[.pointer (some ⟨g, 0, none⟩), .int .u64 now] w fun e w' => e = .returned (.int .i64 ((leftA x now : Nat) : Int)) ∧ Turn (fun _ => False) w w' := by
  unfold leftA
  split
  · next hn => exact rleft_any g now x hx hn w hg
  · next hn => exact rleft_late g now (by omega) w

theorem take_all (g now : Nat) (x : Bk) (hx : x.Ok) (w : World) (hg : At w g x) : Calls Try.prog 13 #[.pointer (some ⟨g, 0, none⟩), .int .u64 now] w fun e w' =>
    e = .returned (.tuple #[.bool (hasA x now), .int .i64 ((errA now : Nat) : Int)]) ∧ At w' g (takeA x now) ∧ Turn (· = g) w w' := by
  unfold hasA errA takeA
  split
  · next hn => exact (take_any g now x hx hn w hg).mono fun e w' ⟨h1, h2, h3, _⟩ => ⟨h1, h2, h3⟩
  · next hn => exact (take_late g now x.r hx.r1 (by omega) w hg.c0).mono fun e w' ⟨h1, h2⟩ => ⟨h1, h2 ▸ hg, h2 ▸ Turn.refl _ _⟩

theorem rtake_all (g now : Nat) (x : Bk) (hx : x.Ok) (w : World) (hg : Rat w g x) : Calls Try.prog 14 #[.pointer (some ⟨g, 0, none⟩), .int .u64 now] w fun e w' =>
    e = .returned (.tuple #[.bool (hasA x now), .int .i64 ((errA now : Nat) : Int)]) ∧ Rat w' g (takeA x now) ∧ Turn (· = g) w w' := by
  unfold hasA errA takeA
  split
  · next hn => exact (rtake_any g now x hx hn w hg).mono fun e w' ⟨h1, h2, h3, _⟩ => ⟨h1, h2, h3⟩
  · next hn => exact (rtake_late g now (by omega) w).mono fun e w' ⟨h1, h2⟩ => ⟨h1, h2 ▸ hg, h2 ▸ Turn.refl _ _⟩

/-- What a round finds: the two buckets, which are the same. -/
def PlRel (W : World) (gr n : Nat) (vb vi : Value) (wr : World) : Prop :=
  ∃ (k g : Nat) (x : Bk), vi = .int .i64 (k : Int) ∧ vb = .pointer (some ⟨g, 0, none⟩) ∧ k ≤ n ∧ x.Ok ∧ W.heap.size ≤ g ∧ g ≠ gr ∧ At wr g x ∧ Rat wr gr x ∧ Turn (fun _ => False) W wr

set_option maxHeartbeats 8000000 in
set_option maxRecDepth 100000 in
theorem plays_law (r b : Int) (A : Option Addr) (c : Nat) (ds : List Nat) (hc2 : ds.length ≤ 9223372036854775807) (W : World) (HS : Src64 W A ds) :
    Calls Try.prog 3 #[.int .i64 r, .int .i64 b, .slice A ds.length c] W fun e w' => e = .returned (.bool true) ∧ Turn (fun _ => False) W w' := by
  obtain ⟨s, hs⟩ : ∃ s, ds.getD 0 0 = s := ⟨_, rfl⟩
  obtain ⟨n, hn⟩ : ∃ n, ds.length = n := ⟨_, rfl⟩
  have A0 := Lib.hid (awake_any W)
  have HSL := Lib.hid hs
  have HNl := Lib.hid hn
  replace HS := Lib.hid HS
  rw [hn] at hc2 ⊢
  by_cases hok : (mayI r && mayI b && decide (s ≤ 4503599627370496)) = false
  · have HK := Lib.hid hok
    clear hok hs hn
    by_cases h0 : n = 0
    · subst h0
      have HZ : Hid (s = 0) := Lib.hid (by rw [← HSL.out, List.eq_nil_of_length_eq_zero HNl.out]; rfl)
      rw [HZ.out] at HK
      go_enter Try.func3, Try.ntmps3
      go_wp2_with fail
      refine A0.out.mono ?_
      rintro e w1 ⟨rfl, t1⟩
      have T1 := Lib.hid t1
      clear t1 A0
      go_wp2_with fail
      have N1 := Lib.hid (new_bad r b 0 HK.out w1)
      have N2 := Lib.hid (rnew_bad r b 0 HK.out w1)
      refine N1.out.mono ?_
      rintro e w' ⟨rfl, rfl⟩
      clear N1
      go_wp2_with fail
      refine N2.out.mono ?_
      rintro e w' ⟨rfl, rfl⟩
      clear N2
      go_wp2_with fail
      go_ret
      exact ⟨rfl, T1.out⟩
    · have hp1 : decide ((0 : Int) < (n : Int)) = true := decide_eq_true (by omega)
      have hp2 : decide (0 < n) = true := decide_eq_true (by omega)
      have hp3 : 0 < n := by omega
      clear h0
      go_enter Try.func3, Try.ntmps3
      go_wp2_with fail
      refine A0.out.mono ?_
      rintro e w1 ⟨rfl, t1⟩
      have T1 := Lib.hid t1
      clear t1 A0
      obtain ⟨a, rfl, hab, hac⟩ := (HS.out.kept T1.out) 0 (by rw [HNl.out]; omega)
      rw [HSL.out] at hac
      have hat : ∀ V : World, (Instr.indexAt 22 (.slice (some a) n c) (.int .i64 0)).run Try.prog V = .ok (.pointer (some (a.add 0))) V := fun V => run_at 22 24 Try.underlying22 u64Size a n c 0 (by omega) V
      have e0 : a.add 0 = a := by unfold Addr.add; simp
      rw [e0] at hac
      simp only [e0] at hat
      clear hab e0
      go_wp2_with fail
      have N1 := Lib.hid (new_bad r b s HK.out w1)
      have N2 := Lib.hid (rnew_bad r b s HK.out w1)
      refine N1.out.mono ?_
      rintro e w' ⟨rfl, rfl⟩
      clear N1
      go_wp2_with fail
      refine N2.out.mono ?_
      rintro e w' ⟨rfl, rfl⟩
      clear N2
      go_wp2_with fail
      go_ret
      exact ⟨rfl, T1.out⟩
  · obtain ⟨R, B, r1, r2, b1, b2, hsl, rfl, rfl⟩ : ∃ R B : Nat, 1 ≤ R ∧ R ≤ 1000 ∧ 1 ≤ B ∧ B ≤ 1000 ∧ s ≤ 4503599627370496 ∧ r = (R : Int) ∧ b = (B : Int) := by
      rw [Bool.not_eq_false] at hok
      unfold mayI at hok
      simp only [Bool.and_eq_true, decide_eq_true_eq] at hok
      obtain ⟨⟨⟨h1, h2⟩, h3, h4⟩, h5⟩ := hok
      exact ⟨r.toNat, b.toNat, by omega, by omega, by omega, by omega, h5, by omega, by omega⟩
    clear hok hs hn
    by_cases h0 : n = 0
    · subst h0
      have HZ : Hid (s = 0) := Lib.hid (by rw [← HSL.out, List.eq_nil_of_length_eq_zero HNl.out]; rfl)
      rw [HZ.out] at hsl
      go_enter Try.func3, Try.ntmps3
      go_wp2_with fail
      refine A0.out.mono ?_
      rintro e w1 ⟨rfl, t1⟩
      have T1 := Lib.hid t1
      clear t1 A0
      go_wp2_with fail
      have N1 := Lib.hid (new_any R B 0 r1 r2 b1 b2 (by omega) w1)
      unfold New1 at N1
      refine N1.out.mono ?_
      rintro e w2 ⟨rfl, g2, t2, z2⟩
      have N2 := Lib.hid (rnew_any R B 0 r1 r2 b1 b2 (by omega) w2)
      unfold RNew at N2
      have T2 := Lib.hid (T1.out.trans (S := fun _ => False) t2 (fun _ _ h => h))
      have HG : Hid (W.heap.size ≤ w1.heap.size) := Lib.hid T1.out.size
      have HGR : Hid (W.heap.size ≤ w2.heap.size) := Lib.hid T2.out.size
      have HNE : Hid (w1.heap.size ≠ w2.heap.size) := Lib.hid (by omega)
      have FO := Lib.hid (fresh_ok (now := 0) r1 r2 b1 b2 (by omega))
      have G2 := Lib.hid g2
      clear g2 t2 z2 N1 T1
      generalize w1.heap.size = g at *
      go_wp2_with fail
      refine N2.out.mono ?_
      rintro e w3 ⟨rfl, g3, t3, z3⟩
      have G3 := Lib.hid (G2.out.kept t3 (fun h => h))
      have R3 := Lib.hid g3
      have T3 := Lib.hid (T2.out.trans (S := fun _ => False) t3 (fun _ _ h => h))
      clear g3 t3 z3 N2 T2 G2
      generalize w2.heap.size = gr at *
      go_wp2_with fail
      go_loopw [56] (fun vi wr => vi = .int .i64 0 ∧ wr = w3) (fun _ _ => 0)
      case atStart => exact ⟨rfl, rfl⟩
      case round =>
        obtain ⟨rfl, rfl⟩ := hrel
        go_wp2_with fail
        go_ret
        exact ⟨rfl, T3.out⟩
    · have hp1 : decide ((0 : Int) < (n : Int)) = true := decide_eq_true (by omega)
      have hp2 : decide (0 < n) = true := decide_eq_true (by omega)
      have hp3 : 0 < n := by omega
      clear h0
      go_enter Try.func3, Try.ntmps3
      go_wp2_with fail
      refine A0.out.mono ?_
      rintro e w1 ⟨rfl, t1⟩
      have T1 := Lib.hid t1
      clear t1 A0
      obtain ⟨a, rfl, hab, hac⟩ := (HS.out.kept T1.out) 0 (by rw [HNl.out]; omega)
      rw [HSL.out] at hac
      have hat : ∀ V : World, (Instr.indexAt 22 (.slice (some a) n c) (.int .i64 0)).run Try.prog V = .ok (.pointer (some (a.add 0))) V := fun V => run_at 22 24 Try.underlying22 u64Size a n c 0 (by omega) V
      have e0 : a.add 0 = a := by unfold Addr.add; simp
      rw [e0] at hac
      simp only [e0] at hat
      clear hab e0
      go_wp2_with fail
      have N1 := Lib.hid (new_any R B s r1 r2 b1 b2 (by omega) w1)
      unfold New1 at N1
      refine N1.out.mono ?_
      rintro e w2 ⟨rfl, g2, t2, z2⟩
      have N2 := Lib.hid (rnew_any R B s r1 r2 b1 b2 (by omega) w2)
      unfold RNew at N2
      have T2 := Lib.hid (T1.out.trans (S := fun _ => False) t2 (fun _ _ h => h))
      have HG : Hid (W.heap.size ≤ w1.heap.size) := Lib.hid T1.out.size
      have HGR : Hid (W.heap.size ≤ w2.heap.size) := Lib.hid T2.out.size
      have HNE : Hid (w1.heap.size ≠ w2.heap.size) := Lib.hid (by omega)
      have FO := Lib.hid (fresh_ok (now := s) r1 r2 b1 b2 (by omega))
      have G2 := Lib.hid g2
      clear g2 t2 z2 N1 T1
      generalize w1.heap.size = g at *
      go_wp2_with fail
      refine N2.out.mono ?_
      rintro e w3 ⟨rfl, g3, t3, z3⟩
      have G3 := Lib.hid (G2.out.kept t3 (fun h => h))
      have R3 := Lib.hid g3
      have T3 := Lib.hid (T2.out.trans (S := fun _ => False) t3 (fun _ _ h => h))
      clear g3 t3 z3 N2 T2 G2
      generalize w2.heap.size = gr at *
      go_wp2_with fail
      clear hp1 hp2 hp3 hac hat
      go_loopw [8, 56] (fun vb vi wr => PlRel W gr n vb vi wr) (fun _ vi _ => n - (intOf vi).toNat)
      case atStart => exact ⟨0, g, fresh R B s, rfl, rfl, Nat.zero_le _, FO.out, HG.out, HNE.out, G3.out, R3.out, T3.out⟩
      case round =>
        clear HG HNE G3 R3 T3 FO
        obtain ⟨k, h, x, rfl, rfl, hk, hx, hge, hne, ga, ra, ta⟩ := hrel
        by_cases hlt : k < n
        · obtain ⟨o, ho⟩ : ∃ o, n - 1 - k = o := ⟨_, rfl⟩
          have eo : (n : Int) - 1 - (k : Int) = (o : Int) := by omega
          have ho2 : o < n := by omega
          obtain ⟨a', ha', hab', hac'⟩ := (HS.out.kept ta) k (by rw [HNl.out]; exact hlt)
          obtain rfl : a = a' := by injection ha'
          obtain ⟨a', ha'', hab'', hao'⟩ := (HS.out.kept ta) o (by rw [HNl.out]; exact ho2)
          obtain rfl : a = a' := by injection ha''
          have hat := fun V => run_at 22 24 Try.underlying22 u64Size a n c k hlt V
          have hao := fun V => run_at 22 24 Try.underlying22 u64Size a n c o ho2 V
          generalize ds.getD k 0 = now at *
          generalize ds.getD o 0 = other at *
          clear ha' ha'' hab' hab'' ho
          have HX := Lib.hid hx
          have HGE := Lib.hid hge
          have HNE := Lib.hid hne
          have C1 := Lib.hid (left_all h other x hx wr ga)
          have C2 := Lib.hid (rleft_all gr other x hx wr ra)
          have GA := Lib.hid ga
          have RA := Lib.hid ra
          have TA := Lib.hid ta
          have L1 := Lib.hid (fun V (gv : At V h x) => left_all h now x hx V gv)
          have L2 := Lib.hid (fun V (gv : Rat V gr x) => rleft_all gr now x hx V gv)
          have K1 := Lib.hid (fun V g' (gv : At V g' x) => take_all g' now x hx V gv)
          have K2 := Lib.hid (fun V (gv : Rat V gr x) => rtake_all gr now x hx V gv)
          have HY := Lib.hid (takeA_ok hx now)
          generalize leftA x other = l1 at *
          generalize leftA x now = l2 at *
          generalize takeA x now = y at *
          generalize hasA x now = q at *
          generalize errA now = er at *
          have CP := Lib.hid (fun V (gv : At V h x) => copy_any h x hx.r1 V gv)
          unfold Made at CP
          clear hx hge hne ga ra ta
          by_cases h5 : k % 5 = 4
          · have hm : (k : Int) % 5 = 4 := by omega
            have hm2 : (k : Int).tmod 5 = 4 := hm
            clear h5
            go_wp2_with fail
            refine C1.out.mono ?_
            rintro e w' ⟨rfl, rfl⟩
            clear C1
            go_wp2_with fail
            refine C2.out.mono ?_
            rintro e w4 ⟨rfl, t4⟩
            have GB := Lib.hid (GA.out.kept t4 (fun h => h))
            have RB := Lib.hid (RA.out.kept t4 (fun h => h))
            have TB := Lib.hid (TA.out.trans (S := fun _ => False) t4 (fun _ _ h => h))
            have C3 := Lib.hid (L1.out w4 GB.out)
            have C4 := Lib.hid (L2.out w4 RB.out)
            clear t4 C2 GA RA TA L1 L2
            go_wp2_with fail
            refine C3.out.mono ?_
            rintro e w' ⟨rfl, rfl⟩
            clear C3
            go_wp2_with fail
            refine C4.out.mono ?_
            rintro e w5 ⟨rfl, t5⟩
            have GC := Lib.hid (GB.out.kept t5 (fun h => h))
            have RC := Lib.hid (RB.out.kept t5 (fun h => h))
            have TC := Lib.hid (TB.out.trans (S := fun _ => False) t5 (fun _ _ h => h))
            clear t5 C4 GB RB TB
            have C5 := Lib.hid (CP.out w5 GC.out)
            clear CP
            go_wp2_with fail
            refine C5.out.mono ?_
            rintro e w6 ⟨rfl, g6, t6, z6⟩
            have HLT := Lib.hid GC.out.lt
            have RLT := Lib.hid RC.out.lt
            have GD := Lib.hid (GC.out.kept t6 (fun h => h))
            have RD := Lib.hid (RC.out.kept t6 (fun h => h))
            have TD := Lib.hid (TC.out.trans (S := fun _ => False) t6 (fun _ _ h => h))
            have HG5 := Lib.hid (show W.heap.size ≤ w5.heap.size from TC.out.size)
            have G6 := Lib.hid g6
            have C6 := Lib.hid (K1.out w6 h GD.out)
            clear g6 t6 z6 C5 GC RC TC
            generalize w5.heap.size = p at *
            go_wp2_with fail
            refine C6.out.mono ?_
            rintro e w7 ⟨rfl, g7, t7⟩
            have GE := Lib.hid (G6.out.kept t7 (fun e => by have := HLT.out; omega))
            have RE := Lib.hid (RD.out.kept t7 (fun e => HNE.out e.symm))
            have TE := Lib.hid (Turn.own HGE.out TD.out t7)
            have HNE2 : Hid (p ≠ gr) := Lib.hid (by have := RLT.out; omega)
            clear g7 t7 C6 GD RD TD G6
            have C7 := Lib.hid (K1.out w7 p GE.out)
            clear K1
            go_wp2_with fail
            refine C7.out.mono ?_
            rintro e w8 ⟨rfl, g8, t8⟩
            have GF := Lib.hid g8
            have RF := Lib.hid (RE.out.kept t8 (fun e => HNE2.out e.symm))
            have TF := Lib.hid (Turn.own HG5.out TE.out t8)
            clear g8 t8 C7 GE RE TE
            have C8 := Lib.hid (K2.out w8 RF.out)
            clear K2
            go_wp2_with fail
            refine C8.out.mono ?_
            rintro e w9 ⟨rfl, g9, t9⟩
            have GG := Lib.hid (GF.out.kept t9 (fun e => HNE2.out e))
            have RG := Lib.hid g9
            have TG := Lib.hid (Turn.own HGR.out TF.out t9)
            clear g9 t9 C8 GF RF TF
            go_wp2_with fail
            go_roundw
            case rel => exact ⟨k + 1, p, y, by go_num, rfl, hlt, HY.out, HG5.out, HNE2.out, GG.out, RG.out, TG.out⟩
            case measure => simp [intOf]; omega
          · obtain ⟨d, hd⟩ : ∃ d, k % 5 = d := ⟨_, rfl⟩
            have hm : (k : Int) % 5 = (d : Int) := by rw [← hd]; rfl
            have hm2 : (k : Int).tmod 5 = (d : Int) := hm
            have hd4 : ((d : Int) == 4) = false := beq_eq_false_iff_ne.2 (by omega)
            rw [hd] at h5
            clear hd
            go_wp2_with fail
            refine C1.out.mono ?_
            rintro e w' ⟨rfl, rfl⟩
            clear C1
            go_wp2_with fail
            refine C2.out.mono ?_
            rintro e w4 ⟨rfl, t4⟩
            have GB := Lib.hid (GA.out.kept t4 (fun h => h))
            have RB := Lib.hid (RA.out.kept t4 (fun h => h))
            have TB := Lib.hid (TA.out.trans (S := fun _ => False) t4 (fun _ _ h => h))
            have C3 := Lib.hid (L1.out w4 GB.out)
            have C4 := Lib.hid (L2.out w4 RB.out)
            clear t4 C2 GA RA TA L1 L2
            go_wp2_with fail
            refine C3.out.mono ?_
            rintro e w' ⟨rfl, rfl⟩
            clear C3
            go_wp2_with fail
            refine C4.out.mono ?_
            rintro e w5 ⟨rfl, t5⟩
            have GC := Lib.hid (GB.out.kept t5 (fun h => h))
            have RC := Lib.hid (RB.out.kept t5 (fun h => h))
            have TC := Lib.hid (TB.out.trans (S := fun _ => False) t5 (fun _ _ h => h))
            clear t5 C4 GB RB TB
            have C7 := Lib.hid (K1.out w5 h GC.out)
            clear CP K1
            go_wp2_with fail
            refine C7.out.mono ?_
            rintro e w8 ⟨rfl, g8, t8⟩
            have GF := Lib.hid g8
            have RF := Lib.hid (RC.out.kept t8 (fun e => HNE.out e.symm))
            have TF := Lib.hid (Turn.own HGE.out TC.out t8)
            clear g8 t8 C7 GC RC TC
            have C8 := Lib.hid (K2.out w8 RF.out)
            clear K2
            go_wp2_with fail
            refine C8.out.mono ?_
            rintro e w9 ⟨rfl, g9, t9⟩
            have GG := Lib.hid (GF.out.kept t9 (fun e => HNE.out e))
            have RG := Lib.hid g9
            have TG := Lib.hid (Turn.own HGR.out TF.out t9)
            clear g9 t9 C8 GF RF TF
            go_wp2_with fail
            go_roundw
            case rel => exact ⟨k + 1, h, y, by go_num, rfl, hlt, HY.out, HGE.out, HNE.out, GG.out, RG.out, TG.out⟩
            case measure => simp [intOf]; omega
        · obtain rfl : k = n := by omega
          have TA := Lib.hid ta
          clear ga ra ta hx hge hne
          go_wp2_with fail
          go_ret
          exact ⟨rfl, TA.out⟩
end Go.Proofs.Ytfkpihilcngbnaa.Buc
