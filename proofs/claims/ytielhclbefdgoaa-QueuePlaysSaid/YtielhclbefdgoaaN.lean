/-
  What the law QueueOrder answers, as a call: true, and nothing that was there before has turned.
  Conditions: those that the theorem names: what the arguments read, and that the lists' lengths add up to at most 1048576.
-/
import Derived.Test.YtielhclbefdgoaaM
namespace Go.Proofs.Ytielhclbefdgoaa
open Go.RowKit

/-- How many bytes the first k lists have. -/
def total (R : Nat → List UInt8) : Nat → Nat
  | 0 => 0
  | k + 1 => total R k + (R k).length
theorem total_le (R : Nat → List UInt8) (k n : Nat) (h : k ≤ n) : total R k ≤ total R n := by
  induction n with
  | zero => obtain rfl : k = 0 := by omega
            exact Nat.le_refl _
  | succ n ih =>
    by_cases hk : k = n + 1
    · subst hk; exact Nat.le_refl _
    · exact Nat.le_trans (ih (by omega)) (Nat.le_add_right _ _)

/-- What holds at the head of each round. -/
def OrderRel (W : World) (m N : Nat) (R : Nat → List UInt8) (vi vo i : Value) (wr : World) : Prop :=
  ∃ (k : Nat) (oi oo : Option Nat) (inp outp xs : List UInt8), k ≤ N ∧ i = .int .i64 (k : Int) ∧ Own wr vi oi inp ∧ Own wr vo oo outp ∧ Queue wr (W.heap.size + 1) W.heap.size m xs ∧ inp = outp ++ xs ∧ inp.length ≤ total R k ∧
    (∀ b, oi = some b → W.heap.size + 2 ≤ b) ∧ (∀ b, oo = some b → W.heap.size + 2 ≤ b ∧ oi ≠ some b) ∧ Below W.heap.size W wr ∧ W.heap.size + 2 ≤ wr.heap.size

theorem lenSize : (Try.prog.info? 31).map (·.size) = some 1 := by kernel_rfl

set_option maxRecDepth 100000 in
set_option maxHeartbeats 8000000 in
theorem order_true (mo : Int) (h0 : 0 ≤ mo) (h1 : mo ≤ 65535) (A T : Option Addr) (N C TC : Nat) (ts : List UInt8) (RA : Nat → Option Addr) (RC : Nat → Nat) (R : Nat → List UInt8) (W : World)
    (hN : N ≤ 140737488351232) (hT : total R N ≤ 1048576) (hts : ts.length ≤ 140737488351232)
    (hl : ∀ k, k < N → ∃ a, A = some a ∧ a.block < W.heap.size ∧ W.cell? (a.add k) = some (.slice (RA k) (R k).length (RC k)) ∧ (R k).length ≤ RC k ∧ RC k ≤ 140737488351232 ∧ Src W (fun b => b < W.heap.size) (RA k) (R k))
    (ht : Src W (fun b => b < W.heap.size) T ts) :
    Calls Try.prog 4 #[.int .u16 mo, .slice A N C, .slice T ts.length TC] W fun e w' => e = .returned (.bool true) ∧ Below W.heap.size W w' := by
  obtain ⟨m, hm⟩ : ∃ m : Nat, (m : Int) = mo % 301 := ⟨(mo % 301).toNat, by omega⟩
  have hm3 : m ≤ 300 := by omega
  have HM := Lib.hid hm
  have HL := Lib.hid hl
  have HT := Lib.hid ht
  clear hl ht hm
  go_enter Try.func4, Try.ntmps4
  go_wp2_with fail
  rw [← HM.out]
  refine (new_ok m (by omega) W).mono ?_
  rintro e w1 ⟨rfl, q1, t1, s1⟩
  have S1 := Lib.hid s1
  clear s1 h0 h1 HM
  go_wp2_with fail
  refine (awake_true w1).mono ?_
  rintro e w2 ⟨rfl, b2⟩
  have q2 := q1.kept (Turn.of_below (S := fun _ => False) b2) (fun h => h) (fun h => h)
  have B2 : Below W.heap.size W w2 := (t1.below (fun _ _ h => h)).trans (b2.mono (by have := S1.out; omega))
  have hs2 : W.heap.size + 2 ≤ w2.heap.size := by have := S1.out; have := b2.size; omega
  clear q1 t1 b2
  go_wp2_with fail
  go_loopw [10, 11, 35] (fun vi vo i wr => OrderRel W m N R vi vo i wr) (fun _ _ i _ => N - (intOf i).toNat)
  case atStart => exact ⟨0, none, none, [], [], [], Nat.zero_le _, rfl, Own.nil _, Own.nil _, q2, rfl, Nat.le_refl _, (fun _ h => by cases h), (fun _ h => by cases h), B2, hs2⟩
  case round =>
    obtain ⟨k, oi, oo, inp, outp, xs, hk, rfl, hoi, hoo, hq, rfl, hlen, ha, hb, hB, hsz⟩ := hrel
    by_cases hlt : k < N
    · obtain ⟨a, hA, hab, hcell, hRC, hRCm, hsrc⟩ := HL.out k hlt
      have hat := fun Wx => run_at 48 31 Try.underlying48 lenSize a N C k hlt Wx
      rw [← hA] at hat
      obtain ⟨p, hp⟩ : ∃ p, p = a.add k := ⟨_, rfl⟩
      rw [← hp] at hat hcell
      have hpb : p.block < W.heap.size := by rw [hp]; unfold Addr.add; split <;> exact hab
      have hcr := (hB.cell hpb).trans hcell
      have htot : total R (k + 1) = total R k + (R k).length := rfl
      have htl := total_le R (k + 1) N hlt
      generalize hbs : R k = bs at *
      generalize RA k = bA at *
      generalize RC k = bc at *
      have HA := Lib.hid ha
      have HB := Lib.hid hb
      have HTOT := Lib.hid htot
      have hm := hq.count
      clear hA hp hcell hbs ha hb hab htot
      by_cases htk : k < ts.length
      case' pos =>
        go_wp2_with fail
        refine (bytes_to wr _ _ m xs hq xs.length rfl).mono ?_
        rintro e w3 ⟨rfl, i3, q3, t3⟩
        have T3 : Turn (fun b => W.heap.size ≤ b) W w3 := ((Turn.of_below hB).trans t3 (fun _ _ h => h.elim)).mono (fun _ _ h => h)
        have src3 := hsrc.kept T3 (fun b h1 h2 => by omega)
        go_wp2_with fail
        by_cases hfit : xs.length + bs.length ≤ m
        case' pos =>
          refine (push_ok w3 _ _ m xs bs q3 bA bc bs.length rfl hfit hRC (src3.mono (fun b _ h => by omega))).mono ?_
          rintro e w4 ⟨rfl, q4, t4, -⟩
          have T4 := T3.trans t4 (fun b _ h => by omega)
          have src4 := hsrc.kept T4 (fun b h1 h2 => by omega)
          have oi4 := (hoi.kept t3 (fun _ _ h => h)).kept t4 (fun b hb h => by have := HA.out b hb; omega)
          have oo4 := (hoo.kept t3 (fun _ _ h => h)).kept t4 (fun b hb h => by have := (HB.out b hb).1; omega)
          obtain ⟨V5, w5, O5, hrun5, ow5, t5, ho5⟩ := run_append_src w4 u10 oi (outp ++ xs) bs oi4 bA bs.length bc rfl src4 (by have := HTOT.out; omega)
          have sz4 : W.heap.size + 2 ≤ w4.heap.size := Nat.le_trans hsz (Nat.le_trans t3.size t4.size)
          have q5 := q4.kept t5 (fun h => by have := HA.out _ h; omega) (fun h => by have := HA.out _ h; omega)
          have oo5 := oo4.kept t5 (fun b hb h => (HB.out b hb).2 h)
          have B5 : Below W.heap.size W w5 := (T4.trans t5 (fun b _ h => by have := HA.out b h; omega)).below (fun b hb h => by omega)
          have sz5 : W.heap.size + 2 ≤ w5.heap.size := Nat.le_trans sz4 t5.size
          have ha5 : ∀ b, O5 = some b → W.heap.size + 2 ≤ b := fun b hb => by
            rcases ho5 with h | h
            · exact HA.out b (h.symm.trans hb)
            · rw [h] at hb; injection hb with hb; omega
          have hb5 : ∀ b, oo = some b → W.heap.size + 2 ≤ b ∧ O5 ≠ some b := fun b hb => by
            refine ⟨(HB.out b hb).1, fun hO => ?_⟩
            rcases ho5 with h | h
            · exact (HB.out b hb).2 (h.symm.trans hO)
            · have := oo4.lt b hb
              rw [h] at hO; injection hO with hO; omega
          rw [List.append_assoc] at ow5
          have len5 : (outp ++ (xs ++ bs)).length ≤ total R (k + 1) := by rw [HTOT.out, ← List.append_assoc, List.length_append]; omega
          generalize xs ++ bs = XS at *
          clear q4 t4 T4 src4 oi4 oo4 t5 ho5 hfit
          have HR5 := Lib.hid hrun5
          clear hrun5
          go_wp2_with (at_builtin; refine append_by rfl (.tmp 48) (.tmp 49) 31 rfl _ _ V5 w5 rfl rfl HR5.out ?_)
          clear HR5
        case' neg =>
          refine (push_full w3 _ _ m xs q3 bA bs.length bc (by omega) (by omega)).mono ?_
          rintro e w4 ⟨rfl, hq4⟩
          have Q4 : Quiet w3 w4 := hq4
          clear hq4
          have q4 := q3.kept Q4.turn (fun h => h) (fun h => h)
          have i4 := i3.kept Q4.turn (fun h => h)
          go_wp2_with fail
          refine (bytes_to w4 _ _ m xs q4 xs.length rfl).mono ?_
          rintro e w5 ⟨rfl, i5, q5, t5⟩
          have i5' := i4.kept t5 (fun h => h)
          go_wp2_with fail
          refine (equal_any w5 _ _ xs xs _ _ _ _ rfl rfl (i5.src (fun _ => True) trivial) (i5'.src (fun _ => True) trivial)).mono ?_
          rintro e w' ⟨rfl, rfl⟩
          have T5 := (t3.trans Q4.turn (fun _ _ h => h)).trans t5 (fun _ _ h => h)
          have B5 : Below W.heap.size W w5 := hB.trans (((Turn.below T5 (fun _ _ h => h))).mono (by omega))
          have sz5 : W.heap.size + 2 ≤ w5.heap.size := Nat.le_trans hsz T5.size
          have ow5 := hoi.kept T5 (fun _ _ h => h)
          have oo5 := hoo.kept T5 (fun _ _ h => h)
          have ha5 := HA.out
          have hb5 := HB.out
          have len5 : (outp ++ xs).length ≤ total R (k + 1) := by rw [HTOT.out]; omega
          obtain ⟨V5, hV5⟩ : ∃ V, V = u10 := ⟨_, rfl⟩
          obtain ⟨O5, hO5⟩ : ∃ V, V = oi := ⟨_, rfl⟩
          obtain ⟨XS, hXS⟩ : ∃ V, V = xs := ⟨_, rfl⟩
          subst hV5 hO5 hXS
          clear q4 i4 t5 T5 Q4 hfit i5 i5'
          go_wp2_with fail
        all_goals
          obtain ⟨ta, hTa, htb, htlt, htc⟩ := HT.out (by omega)
          have hat2 := fun Wx => run_at 31 5 Try.underlying31 byteSize ta ts.length TC k htk Wx
          rw [← hTa] at hat2
          have hc2 := htc k (B ts[k]) (by rw [vals_get, List.getElem?_eq_getElem htk]; rfl)
          obtain ⟨p2, hp2⟩ : ∃ p, p = ta.add k := ⟨_, rfl⟩
          rw [← hp2] at hat2 hc2
          have hp2b : p2.block < W.heap.size := by rw [hp2]; unfold Addr.add; split <;> exact htb
          obtain ⟨c, hc⟩ : ∃ c : Nat, c = ts[k].toNat := ⟨_, rfl⟩
          have hc255 : c ≤ 255 := by rw [hc]; have := ts[k].toNat_lt; omega
          have hcell2 : w5.cell? p2 = some (.int .u8 (c : Int)) := by rw [B5.cell hp2b, hc2, hc]; rfl
          have CL := Lib.hid (fun n => (len_queue (w5.drewN n) _ _ m XS (q5.drewN n)).mono (fun e w' h => (⟨h.1, h.2.symm⟩ : e = _ ∧ w' = _)))
          clear hTa htc hc2 hp2 hc
          go_quiet ((go_at_call 16; exact Calls.quiet_of_same (CL.out _)))
          obtain ⟨d, hd, hdl⟩ : ∃ d : Nat, (if XS.length < c then (XS.length : Int) else (c : Int)) = (d : Int) ∧ d ≤ XS.length := by
            split
            · exact ⟨_, rfl, Nat.le_refl _⟩
            · exact ⟨c, rfl, by omega⟩
          rw [hd]
          have Q6 : Quiet w5 (w5.drewN nq) := ⟨nq, rfl⟩
          have q6 := q5.kept Q6.turn (fun h => h) (fun h => h)
          generalize w5.drewN nq = w6 at *
          clear hd hat2 hcell2 CL
          go_wp2_with fail
          refine (take_to w6 _ _ m XS q6 d d (XS.take d) (XS.drop d) (List.take_append_drop d XS).symm (by simp; omega) rfl).mono ?_
          rintro e w7 ⟨rfl, i7, q7, t7⟩
          have hXS : outp ++ XS = (outp ++ XS.take d) ++ XS.drop d := by rw [List.append_assoc, List.take_append_drop]
          have T7 : Turn (fun b => b = W.heap.size + 1 ∨ b = W.heap.size) w5 w7 := (Q6.turn.mono (fun _ _ h => h.elim)).trans t7 (fun _ _ h => h)
          have sz7 : W.heap.size + 2 ≤ w7.heap.size := Nat.le_trans sz5 T7.size
          have oo7 := oo5.kept T7 (fun b hb h => by have := (hb5 b hb).1; omega)
          have ow7 := ow5.kept T7 (fun b hb h => by have := ha5 b hb; omega)
          have hdt : (XS.take d).length = d := by simp; omega
          obtain ⟨V8, w8, O8, hrun8, oo8, t8, ho8⟩ := run_append_src w7 u11 oo outp (XS.take d) oo7 _ d d hdt (i7.src (fun _ => True) trivial) (by rw [hdt]; rw [List.length_append] at len5; omega)
          have ow8 := ow7.kept t8 (fun b hb h => (hb5 b h).2 hb)
          have q8 := q7.kept t8 (fun h => by have := (hb5 _ h).1; omega) (fun h => by have := (hb5 _ h).1; omega)
          have B8 : Below W.heap.size W w8 := (B5.trans ((Turn.mono T7 (S' := fun b => W.heap.size ≤ b) (fun b _ h => by omega)).trans t8 (fun b _ h => by have := (hb5 b h).1; omega) |> fun t => (⟨t.os, t.tape, t.output, t.size, fun k hk => t.block k (by omega) (by omega)⟩ : Below W.heap.size w5 w8)))
          have sz8 : W.heap.size + 2 ≤ w8.heap.size := Nat.le_trans sz7 t8.size
          have hb8 : ∀ b, O8 = some b → W.heap.size + 2 ≤ b ∧ O5 ≠ some b := fun b hb => by
            rcases ho8 with h | h
            · exact hb5 b (h.symm.trans hb)
            · rw [h] at hb; injection hb with hb
              exact ⟨by omega, fun hO => by have := ow7.lt b hO; omega⟩
          rw [hXS] at ow8 len5
          have hdr : (XS.drop d).length ≤ m := q8.count
          have HR8 := Lib.hid hrun8
          have HDT := Lib.hid hdt
          have HXS := Lib.hid hXS
          clear hrun8 hdt hXS ho8 hb5 Q6
          generalize outp ++ XS.take d = OUT at *
          generalize XS.drop d = XT at *
          go_wp2_with (at_builtin; refine append_by rfl (.tmp 96) (.tmp 97) 31 rfl _ _ V8 w8 rfl rfl HR8.out ?_)
          clear HR8
      case' neg =>
        go_wp2_with fail
        refine (bytes_to wr _ _ m xs hq xs.length rfl).mono ?_
        rintro e w3 ⟨rfl, i3, q3, t3⟩
        have T3 : Turn (fun b => W.heap.size ≤ b) W w3 := ((Turn.of_below hB).trans t3 (fun _ _ h => h.elim)).mono (fun _ _ h => h)
        have src3 := hsrc.kept T3 (fun b h1 h2 => by omega)
        go_wp2_with fail
        by_cases hfit : xs.length + bs.length ≤ m
        case' pos =>
          refine (push_ok w3 _ _ m xs bs q3 bA bc bs.length rfl hfit hRC (src3.mono (fun b _ h => by omega))).mono ?_
          rintro e w4 ⟨rfl, q4, t4, -⟩
          have T4 := T3.trans t4 (fun b _ h => by omega)
          have src4 := hsrc.kept T4 (fun b h1 h2 => by omega)
          have oi4 := (hoi.kept t3 (fun _ _ h => h)).kept t4 (fun b hb h => by have := HA.out b hb; omega)
          have oo4 := (hoo.kept t3 (fun _ _ h => h)).kept t4 (fun b hb h => by have := (HB.out b hb).1; omega)
          obtain ⟨V5, w5, O5, hrun5, ow5, t5, ho5⟩ := run_append_src w4 u10 oi (outp ++ xs) bs oi4 bA bs.length bc rfl src4 (by have := HTOT.out; omega)
          have sz4 : W.heap.size + 2 ≤ w4.heap.size := Nat.le_trans hsz (Nat.le_trans t3.size t4.size)
          have q5 := q4.kept t5 (fun h => by have := HA.out _ h; omega) (fun h => by have := HA.out _ h; omega)
          have oo5 := oo4.kept t5 (fun b hb h => (HB.out b hb).2 h)
          have B5 : Below W.heap.size W w5 := (T4.trans t5 (fun b _ h => by have := HA.out b h; omega)).below (fun b hb h => by omega)
          have sz5 : W.heap.size + 2 ≤ w5.heap.size := Nat.le_trans sz4 t5.size
          have ha5 : ∀ b, O5 = some b → W.heap.size + 2 ≤ b := fun b hb => by
            rcases ho5 with h | h
            · exact HA.out b (h.symm.trans hb)
            · rw [h] at hb; injection hb with hb; omega
          have hb5 : ∀ b, oo = some b → W.heap.size + 2 ≤ b ∧ O5 ≠ some b := fun b hb => by
            refine ⟨(HB.out b hb).1, fun hO => ?_⟩
            rcases ho5 with h | h
            · exact (HB.out b hb).2 (h.symm.trans hO)
            · have := oo4.lt b hb
              rw [h] at hO; injection hO with hO; omega
          rw [List.append_assoc] at ow5
          have len5 : (outp ++ (xs ++ bs)).length ≤ total R (k + 1) := by rw [HTOT.out, ← List.append_assoc, List.length_append]; omega
          generalize xs ++ bs = XS at *
          clear q4 t4 T4 src4 oi4 oo4 t5 ho5 hfit
          have HR5 := Lib.hid hrun5
          clear hrun5
          go_wp2_with (at_builtin; refine append_by rfl (.tmp 48) (.tmp 49) 31 rfl _ _ V5 w5 rfl rfl HR5.out ?_)
          clear HR5
        case' neg =>
          refine (push_full w3 _ _ m xs q3 bA bs.length bc (by omega) (by omega)).mono ?_
          rintro e w4 ⟨rfl, hq4⟩
          have Q4 : Quiet w3 w4 := hq4
          clear hq4
          have q4 := q3.kept Q4.turn (fun h => h) (fun h => h)
          have i4 := i3.kept Q4.turn (fun h => h)
          go_wp2_with fail
          refine (bytes_to w4 _ _ m xs q4 xs.length rfl).mono ?_
          rintro e w5 ⟨rfl, i5, q5, t5⟩
          have i5' := i4.kept t5 (fun h => h)
          go_wp2_with fail
          refine (equal_any w5 _ _ xs xs _ _ _ _ rfl rfl (i5.src (fun _ => True) trivial) (i5'.src (fun _ => True) trivial)).mono ?_
          rintro e w' ⟨rfl, rfl⟩
          have T5 := (t3.trans Q4.turn (fun _ _ h => h)).trans t5 (fun _ _ h => h)
          have B5 : Below W.heap.size W w5 := hB.trans (((Turn.below T5 (fun _ _ h => h))).mono (by omega))
          have sz5 : W.heap.size + 2 ≤ w5.heap.size := Nat.le_trans hsz T5.size
          have ow5 := hoi.kept T5 (fun _ _ h => h)
          have oo5 := hoo.kept T5 (fun _ _ h => h)
          have ha5 := HA.out
          have hb5 := HB.out
          have len5 : (outp ++ xs).length ≤ total R (k + 1) := by rw [HTOT.out]; omega
          obtain ⟨V5, hV5⟩ : ∃ V, V = u10 := ⟨_, rfl⟩
          obtain ⟨O5, hO5⟩ : ∃ V, V = oi := ⟨_, rfl⟩
          obtain ⟨XS, hXS⟩ : ∃ V, V = xs := ⟨_, rfl⟩
          subst hV5 hO5 hXS
          clear q4 i4 t5 T5 Q4 hfit i5 i5'
          go_wp2_with fail
        all_goals
          obtain ⟨V8, hV8⟩ : ∃ V, V = u11 := ⟨_, rfl⟩
          obtain ⟨O8, hO8⟩ : ∃ V, V = oo := ⟨_, rfl⟩
          obtain ⟨OUT, hOUT⟩ : ∃ V, V = outp := ⟨_, rfl⟩
          obtain ⟨XT, hXT⟩ : ∃ V, V = XS := ⟨_, rfl⟩
          obtain ⟨w8, hw8⟩ : ∃ V, V = w5 := ⟨_, rfl⟩
          subst hV8 hO8 hOUT hXT hw8
          have ow8 := ow5
          have oo8 := oo5
          have q8 := q5
          have B8 := B5
          have sz8 := sz5
          have hb8 := hb5
          have hdr := q5.count
      all_goals
        have HA5 := Lib.hid ha5
        have HB8 := Lib.hid hb8
        have hsum : ((XT.length : Nat) : Int) + ((m - XT.length : Nat) : Int) = (m : Int) := by omega
        have HSUM := Lib.hid hsum
        clear ha5 hb8 hsum
        refine (len_queue w8 _ _ m XT q8).mono ?_
        rintro e w' ⟨rfl, rfl⟩
        go_wp2_with fail
        refine (len_queue w8 _ _ m XT q8).mono ?_
        rintro e w' ⟨rfl, rfl⟩
        go_wp2_with fail
        refine (room_queue w8 _ _ m XT q8).mono ?_
        rintro e w9 ⟨rfl, hq9⟩
        have Q9 : Quiet w8 w9 := hq9
        clear hq9
        have q9 := q8.kept Q9.turn (fun h => h) (fun h => h)
        have ow9 := ow8.kept Q9.turn (fun _ _ h => h)
        have oo9 := oo8.kept Q9.turn (fun _ _ h => h)
        have B9 : Below W.heap.size W w9 := B8.trans ((Q9.turn.below (fun _ _ h => h)).mono (by omega))
        have sz9 : W.heap.size + 2 ≤ w9.heap.size := Nat.le_trans sz8 Q9.turn.size
        have hsum := HSUM.out
        go_wp2_with fail
        clear hsum
        exact ⟨⟨k + 1, O5, O8, OUT ++ XT, OUT, XT, by omega, by simp, ow9, oo9, q9, rfl, len5, HA5.out, HB8.out, B9, sz9⟩, by simp [intOf]; omega⟩
    · have hkN : N ≤ k := by omega
      have hm := hq.count
      have HA := Lib.hid ha
      have HB := Lib.hid hb
      have htl := total_le R k N hk
      clear ha hb HL HT
      go_wp2_with fail
      refine (bytes_to wr _ _ m xs hq xs.length rfl).mono ?_
      rintro e w3 ⟨rfl, i3, q3, t3⟩
      have oi3 := hoi.kept t3 (fun _ _ h => h)
      have oo3 := hoo.kept t3 (fun _ _ h => h)
      have hll := hlen
      rw [List.length_append] at hll
      obtain ⟨V4, w4, O4, hrun4, oo4, t4, _⟩ := run_append_src w3 u11 oo outp xs oo3 _ xs.length xs.length rfl (i3.src (fun _ => True) trivial) (by omega)
      have oi4 := oi3.kept t4 (fun b hb' h => (HB.out b h).2 hb')
      have HR4 := Lib.hid hrun4
      clear hrun4
      go_wp2_with (at_builtin; refine append_by rfl (.tmp 114) (.tmp 116) 31 rfl _ _ _ w4 rfl rfl HR4.out ?_)
      refine (equal_own w4 _ _ _ _ _ _ oi4 oo4).mono ?_
      rintro e w' ⟨rfl, rfl⟩
      go_wp2_with fail
      go_ret
      refine ⟨rfl, ((Turn.of_below hB).trans t3 (fun _ _ h => h.elim) |> fun t => (t.mono (S' := fun b => W.heap.size ≤ b) (fun _ _ h => h)).trans t4 (fun b _ h => by have := (HB.out b h).1; omega) |> fun t => t.below (fun b hb' h => by omega))⟩
end Go.Proofs.Ytielhclbefdgoaa
