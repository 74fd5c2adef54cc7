/-
  Package head's reader: what its next byte does.
  Conditions: those that each theorem names.
-/
import Derived.Test.YtemgfppclakdmaaGreatDoorHC
import Derived.StillTailTactics
namespace Go.Proofs.YtemgfppclakdmaaGreatDoor
open Go.RowKit

/-- The reader's block. -/
def Rd (w : World) (g : Nat) (A : Option Addr) (n c k : Nat) (last : ByteArray) (cnt : Nat) : Prop := Is w g 168 [.slice A n c, .int .i64 (k : Int), .string last, .int .i64 (cnt : Int)]

theorem Own.srcc {w : World} {v : Value} {o : Option Nat} {bs : List UInt8} (h : Own w v o bs) (P : Nat → Prop) (hP : ∀ k, o = some k → P k) : ∃ A c, v = .slice A bs.length c ∧ bs.length ≤ c ∧ Src w P A bs := by
  obtain ⟨A, c, hv, hs⟩ := h.src P hP
  refine ⟨A, c, hv, ?_, hs⟩
  obtain ⟨⟨_, h2⟩, _⟩ := h
  rcases h2 with ⟨hv2, hn⟩ | ⟨g, cap, cur, hv2, _, _, hnc, _⟩
  · omega
  · rw [hv2] at hv
    injection hv with _ _ hc
    omega

/-- b[lo:hi]. -/
theorem run_part (A : Option Addr) (n c lo hi : Nat) (h1 : lo ≤ hi) (h2 : hi ≤ c) : ∃ A', (∀ W : World, (Instr.slice 22 (.slice A n c) (some (.int .i64 (lo : Int))) (some (.int .i64 (hi : Int))) none).run Tryz.prog W = .ok (.slice A' (hi - lo) (c - lo)) W) ∧
    ∀ (w : World) (P : Nat → Prop) (bs : List UInt8), bs.length = n → hi ≤ n → Src w P A bs → Src w P A' ((bs.drop lo).take (hi - lo)) := by
  refine ⟨if c = lo then A else A.map (·.add (lo * 1)), fun W => ?_, fun w P bs hn hin h => ?_⟩
  · simp [Instr.slice, run_underlying Tryz.underlying22, Instr.sliceBounds, Instr.sliceBound, asIntOf, h1, h2]
  · intro h0
    rw [List.length_take, List.length_drop] at h0
    obtain ⟨ad, rfl, hP, hlt, hc⟩ := h (by omega)
    rw [if_neg (by omega)]
    refine ⟨ad.add (lo * 1), rfl, ?_, ?_, fun i v hv => ?_⟩
    · unfold Addr.add; split <;> exact hP
    · unfold Addr.add; split <;> exact hlt
    · rw [add_add_at, Nat.mul_one]
      refine hc _ v ?_
      rw [vals_take, vals_drop, List.getElem?_take] at hv
      split at hv
      · rwa [List.getElem?_drop] at hv
      · cases hv

theorem drop_cons5 {bs : List UInt8} {k : Nat} {x : UInt8} (h : bs[k]? = some x) : bs.drop k = x :: bs.drop (k + 1) := by
  obtain ⟨hk, rfl⟩ := List.getElem?_eq_some_iff.1 h
  exact List.drop_eq_getElem_cons hk
theorem rdInfo : (Tryz.prog.info? 168).map (fun i => (i.zero, i.size, i.bytes)) = some (some (.agg #[.slice none 0 0, .int .i64 0, .string ⟨#[]⟩, .int .i64 0]), 4, 56) := by kernel_rfl

set_option maxHeartbeats 2000000 in
theorem next_more (w : World) (g : Nat) (A : Option Addr) (n c cnt : Nat) (last : ByteArray) (h : Rd w g A n c n last cnt) :
    Calls Tryz.prog 117 #[.pointer (some ⟨g, 0, none⟩)] w fun e w' => e = .returned (.int .i64 8) ∧ Quiet w w' := by
  have c0 : w.cell? ⟨g, 0, none⟩ = some (.slice A n c) := h.cell 0
  have c1 : w.cell? ⟨g, 1, none⟩ = some (.int .i64 (n : Int)) := h.cell 1
  clear h
  go_enter Tryz.func117, Tryz.ntmps117
  go_wp2_with fail
  go_quiet (fail)
  go_wp2_with fail
  go_ret
  exact ⟨rfl, ⟨_, rfl⟩⟩
set_option maxHeartbeats 2000000 in
theorem next_big (w : World) (g : Nat) (A : Option Addr) (n c cnt : Nat) (last : ByteArray) (h : Rd w g A n c 2048 last cnt) (hn : 2048 < n) :
    Calls Tryz.prog 117 #[.pointer (some ⟨g, 0, none⟩)] w fun e w' => e = .returned (.int .i64 21) ∧ Quiet w w' := by
  have c0 : w.cell? ⟨g, 0, none⟩ = some (.slice A n c) := h.cell 0
  have c1 : w.cell? ⟨g, 1, none⟩ = some (.int .i64 2048) := h.cell 1
  have e1 : ((2048 : Int) == (n : Int)) = false := beq_false_of_ne (by omega)
  clear h
  go_enter Tryz.func117, Tryz.ntmps117
  go_wp2_with fail
  go_quiet (fail)
  have d1 : (w.drewN nq).cell? ⟨g, 1, none⟩ = some (.int .i64 2048) := c1
  clear c0 c1
  generalize hw : w.drewN nq = w1 at *
  go_wp2_with fail
  go_ret
  exact ⟨rfl, ⟨_, hw.symm⟩⟩

theorem one_13 (x : UInt8) (cs : ByteArray) (h : cs = ⟨[x].toArray⟩) (z : UInt8) : (cs.toList == [z]) = (x == z) := by
  rw [h, Lib.toList_data]
  simp

set_option maxHeartbeats 4000000 in
set_option maxRecDepth 100000 in
theorem next_step (w : World) (g : Nat) (A : Option Addr) (n c k cnt : Nat) (last cs : ByteArray) (bs : List UInt8) (x : UInt8) (h : Rd w g A n c k last cnt) (hn : bs.length = n) (hnc : n ≤ c) (hx : bs[k]? = some x) (hk : k < 2048) (hs : Src w (fun b => b ≠ g) A bs)
    (hcs : cs = ⟨[x].toArray⟩) (ends is13 : Bool) (he : (last.toList == [13]) = ends) (hxe : (x == 13) = is13) (hc : cnt ≤ 512) (cnt' : Nat) (hc' : cnt' = if (is13 || ends) = true then cnt else cnt + 1) (r : Int) (hr : r = if 512 < cnt' then 21 else 0) :
    Calls Tryz.prog 117 #[.pointer (some ⟨g, 0, none⟩)] w fun e w' => e = .returned (.int .i64 r) ∧ Turn (· = g) w w' ∧ Rd w' g A n c (k + 1) cs cnt' := by
  have hkn : k < n := by
    have := (List.getElem?_eq_some_iff.1 hx).1
    omega
  have c0 : w.cell? ⟨g, 0, none⟩ = some (.slice A n c) := h.cell 0
  have c1 : w.cell? ⟨g, 1, none⟩ = some (.int .i64 (k : Int)) := h.cell 1
  have c2 : w.cell? ⟨g, 2, none⟩ = some (.string last) := h.cell 2
  have e1 : ((k : Int) == (n : Int)) = false := beq_false_of_ne (by omega)
  have e2 : ((k : Int) == 2048) = false := beq_false_of_ne (by omega)
  obtain ⟨A', hsl, hsrc⟩ := run_part A n c k (k + 1) (by omega) (by omega)
  have hsl2 : ∀ W : World, (Instr.slice 22 (.slice A n c) (some (.int .i64 (k : Int))) (some (.int .i64 ((k : Int) + 1))) none).run Tryz.prog W = .ok (.slice A' 1 (c - k)) W := fun W => by
    have := hsl W
    rwa [show k + 1 - k = 1 by omega, show ((k + 1 : Nat) : Int) = (k : Int) + 1 by omega] at this
  have hone : (bs.drop k).take (k + 1 - k) = [x] := by
    rw [show k + 1 - k = 1 by omega, drop_cons5 hx]
    rfl
  have HSRC := Lib.hid (fun w2 (hs2 : Src w2 (fun b => b ≠ g) A bs) => by
    have := hsrc w2 _ bs hn (by omega) hs2
    rwa [hone] at this)
  have HH := Lib.hid h
  have HS := Lib.hid hs
  have HCS := Lib.hid hcs
  have E13 : (cs.toList == [13]) = is13 := by rw [one_13 x cs hcs 13, hxe]
  have HCV := Lib.hid (fun (w2 : World) (hs2 : Src w2 (fun b => b ≠ g) A' [x]) => by
    have := run_text w2 A' [x] 1 (c - k) rfl hs2
    rwa [← hcs] at this)
  clear h hs hsl hsrc hone hcs hxe hx hn
  go_enter Tryz.func117, Tryz.ntmps117
  go_wp2_with fail
  go_quiet (fail)
  have H1 : Hid (Rd (w.drewN nq) g A n c k last cnt) := Lib.hid (HH.out.drewN _)
  have S1 : Hid (Src (w.drewN nq) (fun b => b ≠ g) A bs) := Lib.hid (HS.out.kept ((Turn.refl (fun _ => False) w).drewN nq) (fun _ _ h => h))
  have T1 : Hid (Turn (· = g) w (w.drewN nq)) := Lib.hid ((Turn.refl _ w).drewN nq)
  generalize hw1 : w.drewN nq = w1 at *
  clear c0 c1 c2 HH HS hw1
  have c0 : w1.cell? ⟨g, 0, none⟩ = some (.slice A n c) := H1.out.cell 0
  have c1 : w1.cell? ⟨g, 1, none⟩ = some (.int .i64 (k : Int)) := H1.out.cell 1
  have c2 : w1.cell? ⟨g, 2, none⟩ = some (.string last) := H1.out.cell 2
  have hcv : (convert 22 9 (.slice A' 1 (c - k))).run Tryz.prog w1.drew = .ok (.string cs) w1.drew := HCV.out w1.drew (HSRC.out w1.drew (S1.out.kept ((Turn.refl (fun _ => False) w1).drew) (fun _ _ h => h)))
  have wr1 : IntKind.i64.wrap ((k : Int) + 1) = (k : Int) + 1 := by rw [IntKind.wrap_i64]; omega
  go_wp2_with fail
  go_still_tail 18, (by kernel_rfl)
  change wpList _ _ _ _ _ w1.drew
  have H2 : Hid (Rd w1.drew g A n c k last cnt) := Lib.hid H1.out.drew
  have T2 : Hid (Turn (· = g) w w1.drew) := Lib.hid T1.out.drew
  generalize hw2 : w1.drew = w2 at *
  clear c0 c1 c2 hcv hw2 S1 T1 H1
  have c1 : w2.cell? ⟨g, 1, none⟩ = some (.int .i64 (k : Int)) := H2.out.cell 1
  have c2 : w2.cell? ⟨g, 2, none⟩ = some (.string last) := H2.out.cell 2
  have c3 : w2.cell? ⟨g, 3, none⟩ = some (.int .i64 (cnt : Int)) := H2.out.cell 3
  have f1 : w2.frozen? ⟨g, 1, none⟩ = false := H2.out.free 1
  have f2 : w2.frozen? ⟨g, 2, none⟩ = false := H2.out.free 2
  have f3 : w2.frozen? ⟨g, 3, none⟩ = false := H2.out.free 3
  have wr2 : IntKind.i64.wrap ((cnt : Int) + 1) = (cnt : Int) + 1 := by rw [IntKind.wrap_i64]; omega
  have HR := Lib.hid hr
  have HC' := Lib.hid hc'
  have HC5 := Lib.hid hc
  have HS3 := Lib.hid (((H2.out.set 2 (.string cs)).set 1 (.int .i64 ((k : Int) + 1))).set 3 (.int .i64 ((cnt : Int) + 1)))
  have HS2 := Lib.hid ((H2.out.set 2 (.string cs)).set 1 (.int .i64 ((k : Int) + 1)))
  have HT2 := Lib.hid ((T2.out.setCell (p := ⟨g, 2, none⟩) (fun _ => rfl) (.string cs)).setCell (p := ⟨g, 1, none⟩) (fun _ => rfl) (.int .i64 ((k : Int) + 1)))
  have HT3 := Lib.hid (HT2.out.setCell (p := ⟨g, 3, none⟩) (fun _ => rfl) (.int .i64 ((cnt : Int) + 1)))
  clear hr hc' T2 H2
  have key : Hid (∀ wz, Rd wz g A n c (k + 1) cs cnt = Is wz g 168 ([.slice A n c, .int .i64 (k : Int), .string last, .int .i64 (cnt : Int)].set 2 (.string cs) |>.set 1 (.int .i64 ((k : Int) + 1)))) := Lib.hid (fun _ => rfl)
  have key2 : Hid (∀ wz, Rd wz g A n c (k + 1) cs (cnt + 1) = Is wz g 168 ([.slice A n c, .int .i64 (k : Int), .string last, .int .i64 (cnt : Int)].set 2 (.string cs) |>.set 1 (.int .i64 ((k : Int) + 1)) |>.set 3 (.int .i64 ((cnt : Int) + 1)))) := Lib.hid (fun _ => rfl)
  cases is13 with
  | true =>
    have i1 : ¬ (512 : Int) < (cnt : Int) := by omega
    go_wp2_with fail
    go_ret
    obtain rfl : cnt' = cnt := by rw [HC'.out]; rfl
    exact ⟨by rw [HR.out, if_neg (by have := HC5.out; omega)]; rfl, HT2.out, by rw [key.out]; exact HS2.out⟩
  | false =>
    cases ends with
    | true =>
      have i1 : ¬ (512 : Int) < (cnt : Int) := by omega
      go_wp2_with fail
      go_ret
      obtain rfl : cnt' = cnt := by rw [HC'.out]; rfl
      exact ⟨by rw [HR.out, if_neg (by have := HC5.out; omega)]; rfl, HT2.out, by rw [key.out]; exact HS2.out⟩
    | false =>
      by_cases ho : (512 : Int) < (cnt : Int) + 1
      · go_wp2_with fail
        go_ret
        obtain rfl : cnt' = cnt + 1 := by rw [HC'.out]; rfl
        exact ⟨by rw [HR.out, if_pos (by omega)]; rfl, HT3.out, by rw [key2.out]; exact HS3.out⟩
      · go_wp2_with fail
        go_ret
        obtain rfl : cnt' = cnt + 1 := by rw [HC'.out]; rfl
        exact ⟨by rw [HR.out, if_neg (by omega)]; rfl, HT3.out, by rw [key2.out]; exact HS3.out⟩
end Go.Proofs.YtemgfppclakdmaaGreatDoor
