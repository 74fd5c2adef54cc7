/-
  The law HeadBack: walk.
  Conditions: what the arguments read as.
-/
import Derived.Test.YtdggfonbjhejoaaDoorLA
namespace Go.Proofs.YtdggfonbjhejoaaDoor
open Go.RowKit

/-- b[:k]. -/
theorem run_front (A : Option Addr) (n c k : Nat) (hk : k ≤ c) : ∃ A', (∀ W : World, (Instr.slice 22 (.slice A n c) none (some (.int .i64 (k : Int))) none).run Tryd.prog W = .ok (.slice A' k c) W) ∧
    ∀ (w : World) (P : Nat → Prop) (bs : List UInt8), bs.length = n → k ≤ n → Src w P A bs → Src w P A' (bs.take k) := by
  refine ⟨if c = 0 then A else A.map (·.add (0 * 1)), fun W => ?_, fun w P bs hn hkn h => ?_⟩
  · simp [Instr.slice, run_underlying Tryd.underlying22, Instr.sliceBounds, Instr.sliceBound, asIntOf, hk]
  · intro h0
    rw [List.length_take] at h0
    obtain ⟨ad, rfl, hP, hlt, hc⟩ := h (by omega)
    rw [if_neg (by omega)]
    refine ⟨ad.add (0 * 1), rfl, ?_, ?_, fun i v hv => ?_⟩
    · unfold Addr.add; split <;> exact hP
    · unfold Addr.add; split <;> exact hlt
    · rw [add_add_at, Nat.zero_mul, Nat.zero_add]
      refine hc i v ?_
      rw [vals_take, List.getElem?_take] at hv
      split at hv
      · exact hv
      · cases hv

set_option maxHeartbeats 16000000 in
set_option maxRecDepth 100000 in
theorem back_law {P P' : Nat → Prop} (HC : HeadC) (w : World) (A : Option Addr) (ls : List Fld) (n c : Nat) (hn : ls.length = n) (hmax : n * 32 ≤ 140737488351232) (h : SrcF w P A ls) (hs : Slim ls)
    (B : Option Addr) (bh : List UInt8) (nb cb : Nat) (hb : bh.length = nb) (hbm : nb ≤ 140737488351232) (hB : Src w P' B bh) (at0 : Nat) (hat0 : at0 ≤ 65535) :
    Calls Tryd.prog 5 #[.slice A n c, .slice B nb cb, .int .u16 (at0 : Int)] w fun e w' => e = .returned (.bool true) ∧ Below w.heap.size w w' := by
  have HN := Lib.hid hn
  have HS := Lib.hid hs
  have L := Lib.hid h
  have BH := Lib.hid hB
  have HB := Lib.hid hb
  cases hm : mayF ls with
  | false =>
    have CP := Lib.hid (HC.put w A ls n c hn (by omega) h hs)
    have hp : putF ls = none := by unfold putF; rw [if_neg (by rw [hm]; decide)]
    unfold PutOf at CP
    rw [hp] at CP
    simp only [Option.getD_none, List.length_nil, Option.isSome_none, Bool.false_eq_true, if_false] at CP
    have HM := Lib.hid hm
    clear hn hs h hB hb hm hp
    go_enter Tryd.func5, Tryd.ntmps5
    go_wp2_with fail
    refine CP.out.mono ?_
    rintro e w1 ⟨A1, c1, rfl, _, _, b1⟩
    have CM := HC.may w1 A ls n c HN.out (by omega) (L.out.below b1) HS.out
    rw [HM.out] at CM
    have CM' := Lib.hid CM
    have X1 := Lib.hid b1
    clear b1 CP CM
    go_wp2_with fail
    refine CM'.out.mono ?_
    rintro e w2 ⟨rfl, b2⟩
    have X2 := Lib.hid (X1.out.trans (b2.mono X1.out.size))
    clear b2 CM' X1
    go_wp2_with fail
    refine (wakes_head HC w2).mono ?_
    rintro e w3 ⟨rfl, b3⟩
    have X3 := Lib.hid (X2.out.trans (b3.mono X2.out.size))
    clear b3
    go_wp2_with fail
    go_ret
    exact ⟨rfl, X3.out⟩
  | true =>
    have CP := Lib.hid (HC.put w A ls n c hn (by omega) h hs)
    have hp : putF ls = some (linesF ls ++ [13, 10]) := by unfold putF; rw [if_pos hm]
    unfold PutOf at CP
    rw [hp] at CP
    simp only [Option.getD_some, Option.isSome_some, if_true] at CP
    have hpp := parse_put ls bh hm
    have hp0 := parse_put ls [] hm
    rw [List.append_nil] at hp0
    have hls := linesF_length ls
    obtain ⟨m1, m2, m3⟩ := may_facts ls hm
    obtain ⟨pl, hpl⟩ : ∃ pl, linesF ls ++ [13, 10] = pl := ⟨_, rfl⟩
    have hlen : pl.length ≤ 2048 ∧ 2 ≤ pl.length := by rw [← hpl, List.length_append]; simp; omega
    rw [hpl] at CP hpp hp0
    obtain ⟨pn, hpn⟩ : ∃ pn, pl.length = pn := ⟨_, rfl⟩
    rw [hpn] at CP hpp hp0 hlen
    obtain ⟨h1, h2⟩ := hlen
    have HPN := Lib.hid hpn
    have HPP := Lib.hid hpp
    have HM := Lib.hid hm
    obtain ⟨k, hk⟩ : ∃ k, at0 % pn = k := ⟨_, rfl⟩
    have hkp : k < pn := by rw [← hk]; exact Nat.mod_lt _ (by omega)
    have HSH := Lib.hid (head_short pl k ls pn hp0 hkp)
    have hrem : ((at0 : Int)).tmod (pn : Int) = (k : Int) := by rw [← hk, Int.tmod_eq_emod_of_nonneg (by omega)]; rfl
    have HML := Lib.hid m1
    have HL2 := Lib.hid (show (pl ++ bh).length = pn + nb by rw [List.length_append, hpn, hb])
    clear hn hs h hB hb hm hp hpp hp0 hpl hls m1 m2 m3 hpn hk
    go_enter Tryd.func5, Tryd.ntmps5
    go_wp2_with fail
    refine CP.out.mono ?_
    rintro e w1 ⟨A1, c1, rfl, hc1, s1, b1⟩
    have CM := HC.may w1 A ls n c HN.out (by omega) (L.out.below b1) HS.out
    rw [HM.out] at CM
    have CM' := Lib.hid CM
    have X1 := Lib.hid b1
    have S1 := Lib.hid s1
    clear b1 CP CM s1
    go_wp2_with fail
    refine CM'.out.mono ?_
    rintro e w2 ⟨rfl, b2⟩
    have X2 := Lib.hid (X1.out.trans (b2.mono X1.out.size))
    have S2 := Lib.hid (S1.out.stay b2)
    clear b2 CM' X1 S1
    obtain ⟨v3, w3, o3, hrun3, own3, t3, ho3⟩ := run_append_src w2 (.slice none 0 0) none [] pl (Own.nil w2) A1 pn c1 HPN.out S2.out (by have := HPN.out; simp; omega)
    rw [List.nil_append] at own3
    have hb3 := turn_none t3
    have X3 := X2.out.trans (hb3.mono X2.out.size)
    obtain ⟨v4, w4, o4, hrun4, own4, t4, ho4⟩ := run_append_src w3 v3 o3 pl bh own3 B nb cb HB.out (BH.out.stay X3) (by rw [HPN.out, HB.out]; omega)
    have hb4 : Below w2.heap.size w2 w4 := hb3.trans ⟨t4.os, t4.tape, t4.output, t4.size, fun b hb => t4.block b (by have := hb3.size; omega) (fun e => by
      rcases ho3 with h | h
      · rw [h] at e; cases e
      · rw [h] at e; injection e with e; omega)⟩
    obtain ⟨A4, c4, hv4, hc4, src4⟩ := own4.srcc (fun _ => True) (fun _ _ => trivial)
    subst hv4
    rw [HL2.out] at hrun4 hc4
    have R3 := Lib.hid hrun3
    have R4 := Lib.hid hrun4
    have S4 := Lib.hid src4
    have X4 := Lib.hid (X2.out.trans (hb4.mono X2.out.size))
    have P4 := Lib.hid (S2.out.stay hb4)
    clear hrun3 own3 t3 ho3 hb3 X3 hrun4 own4 t4 ho4 hb4 src4 X2 S2
    go_wp2_with (at_builtin; first | (refine append_by rfl _ (.tmp 38) 22 rfl _ _ v3 w3 rfl rfl R3.out ?_) | (refine append_by rfl (.tmp 39) (.tmp 40) 22 rfl _ _ _ w4 rfl rfl R4.out ?_))
    have C5 := HC.parse w4 A4 (pl ++ bh) (pn + nb) c4 HL2.out hc4 (by omega) S4.out
    rw [HPP.out] at C5
    refine C5.mono ?_
    rintro e w5 ⟨v5, o5, rfl, own5, _, b5⟩
    obtain ⟨A5, c5, hv5, src5⟩ := own5.src (fun _ => True) (fun _ _ => trivial)
    simp only at hv5 src5
    rw [HN.out] at hv5
    subst hv5
    have F5 := Lib.hid src5
    have X5 := Lib.hid (X4.out.trans (b5.mono X4.out.size))
    have P5 := Lib.hid (P4.out.stay b5)
    clear own5 src5 b5 C5 R3 R4 S4 X4 P4
    have CS := rsame_any w5 A5 A ls ls n n c5 c HN.out HN.out (by omega) F5.out (L.out.below X5.out)
    rw [show (ls == ls) = true by simp] at CS
    have CS' := Lib.hid CS
    clear CS
    go_wp2_with fail
    refine CS'.out.mono ?_
    rintro e w6 ⟨rfl, b6⟩
    have X6 := Lib.hid (X5.out.trans (b6.mono X5.out.size))
    obtain ⟨A6, hsl, hsrc⟩ := run_front A1 pn c1 k (by omega)
    have S6 := Lib.hid (hsrc w6 _ pl HPN.out (by omega) (P5.out.stay b6))
    have i1 : ¬ (2048 : Int) < (pn : Int) := by omega
    have i2 : ¬ (pn : Int) = 0 := by omega
    clear b6 CS' X5 P5 hsrc F5
    go_wp2_with fail
    have C7 := HC.parse w6 A6 (pl.take k) k c1 (by rw [List.length_take]; have := HPN.out; omega) (by omega) (by omega) S6.out
    rw [HSH.out] at C7
    refine C7.mono ?_
    rintro e w7 ⟨v7, o7, rfl, own7, _, b7⟩
    obtain ⟨A7, c7, hv7, _⟩ := own7.src (fun _ => True) (fun _ _ => trivial)
    simp only [List.length_nil] at hv7
    subst hv7
    have X7 := Lib.hid (X6.out.trans (b7.mono X6.out.size))
    clear own7 b7 C7 X6 S6
    go_wp2_with fail
    refine (wakes_head HC w7).mono ?_
    rintro e w8 ⟨rfl, b8⟩
    have X8 := Lib.hid (X7.out.trans (b8.mono X7.out.size))
    clear b8
    go_wp2_with fail
    go_ret
    exact ⟨rfl, X8.out⟩
end Go.Proofs.YtdggfonbjhejoaaDoor
