/-
  What package frame's each does with a closure.
  Conditions: those that each theorem names.
-/
import Derived.Test.YtcpohdejdiljnaaDoorFC
namespace Go.Proofs.YtcpohdejdiljnaaDoor
open Go.RowKit

theorem SrcS.kept {w w' : World} {P S : Nat → Prop} {A : Option Addr} {ls : List (List UInt8)} (h : SrcS w P A ls) (ht : Turn S w w') (hS : ∀ k, P k → ¬ S k) : SrcS w' P A ls := by
  intro h0
  obtain ⟨ad, hA, hP, hlt, hc⟩ := h h0
  refine ⟨ad, hA, hP, Nat.lt_of_lt_of_le hlt ht.size, fun i v hv => (ht.cell (p := ad.add i) ?_ ?_).trans (hc i v hv)⟩
  · unfold Addr.add; split <;> exact hlt
  · unfold Addr.add; split <;> exact hS _ hP
theorem elsF_take (vs : List (List UInt8)) (k : Nat) (x : List UInt8) (h : vs[k]? = some x) : elsF (vs.take (k + 1)) = elsF (vs.take k) ++ listF x := by rw [take_snoc vs k x h, elsF_snoc]
theorem elsF_length_take (vs : List (List UInt8)) (k : Nat) : (elsF (vs.take k)).length ≤ (elsF vs).length := by
  have : elsF vs = elsF (vs.take k) ++ elsF (vs.drop k) := by unfold elsF; rw [← List.flatMap_append, List.take_append_drop]
  rw [this, List.length_append]
  omega

set_option maxHeartbeats 4000000 in
set_option maxRecDepth 100000 in
theorem each_cod (a1 a2 : Value) (S : Nat → Prop) (Inv : List (List UInt8) → World → Prop) (w : World) (A : Option Addr) (vs : List (List UInt8)) (n c : Nat) (hn : vs.length = n) (hv : SrcS w (fun b => ¬ S b) A vs) (hS : ∀ k, S k → k < w.heap.size) (hslim : SlimS vs) (hmax : n ≤ 1000000000000) (hlen : (elsF vs).length ≤ 1000000000000)
    (h0 : Inv [] w) (hB : ∀ xs X X', Inv xs X → Below X.heap.size X X' → Inv xs X')
    (hC : ∀ (xs : List (List UInt8)) (x : List UInt8) (X : World), Inv xs X → xs.length ≤ 1000000000000 → Calls Tryd.prog 44 #[.string ⟨x.toArray⟩, a1, a2] X fun e w' => e = .returned (.tuple #[]) ∧ Inv (xs ++ [x]) w' ∧ Turn S X w') :
    Calls Tryd.prog 43 #[.slice A n c, .func (.func 44) #[] #[a1, a2]] w fun e w' => e = .returned (.tuple #[]) ∧ Inv (elsF vs) w' ∧ Turn S w w' := by
  have HN := Lib.hid hn
  have HV := Lib.hid hv
  have HS := Lib.hid hS
  have HL := Lib.hid hslim
  have HM := Lib.hid hlen
  have H0 := Lib.hid h0
  have HB := Lib.hid hB
  have HC := Lib.hid hC
  clear hn hv hS hslim hlen h0 hB hC
  go_enter Tryd.func43, Tryd.ntmps43
  go_wp2_with fail
  go_loopw [10] (fun vi wr => ∃ (k : Nat), vi = .int .i64 (k : Int) ∧ k ≤ n ∧ Hid (Inv (elsF (vs.take k)) wr) ∧ Hid (Turn S w wr)) (fun vi _ => n - (intOf vi).toNat)
  case atStart => exact ⟨0, rfl, Nat.zero_le _, H0, Lib.hid (Turn.refl _ _)⟩
  case round =>
    obtain ⟨k, rfl, hk, HI, HT⟩ := hrel
    by_cases hlt : k < n
    · obtain ⟨p, x, hx, hat, hc, _, _⟩ := (HV.out.kept HT.out (fun _ h => h)).at (c := c) HN.out hlt (Below.refl _ _)
      have hmem := List.mem_of_getElem? hx
      have hle : (listF x).length ≤ (elsF vs).length := by
        have h1 := elsF_length_take vs (k + 1)
        rw [elsF_take vs k x hx, List.length_append] at h1
        omega
      have CL := Lib.hid (ty_list ⟨x.toArray⟩ wr (by rw [← bl_length, bl_mk]; exact HL.out x hmem) (by rw [bl_mk]; have := HM.out; omega))
      rw [bl_mk] at CL
      have HX := Lib.hid (elsF_take vs k x hx)
      have HLE := Lib.hid (show ∀ j, (elsF (vs.take k) ++ (listF x).take j).length ≤ 1000000000000 by
        intro j
        have h1 := elsF_length_take vs (k + 1)
        have h2 := HM.out
        rw [elsF_take vs k x hx, List.length_append] at h1
        rw [List.length_append, List.length_take]
        omega)
      have hll : (listF x).length ≤ 1000000000000 := by have := HM.out; omega
      clear hx hmem hle
      obtain ⟨xl, hxl⟩ : ∃ xl : ByteArray, xl = ⟨x.toArray⟩ := ⟨_, rfl⟩
      rw [← hxl] at hc CL
      clear hxl
      go_wp2_with fail
      refine CL.out.mono ?_
      rintro e w2 ⟨v1, o1, rfl, own1, ho1, b1⟩
      obtain ⟨A1, c1, hv1, src1⟩ := own1.src (fun b => ¬ S b) (fun b hb hs => by
        have h1 := ho1 b hb
        have h2 := HS.out b hs
        have h3 := HT.out.size
        omega)
      subst hv1
      have SR := Lib.hid src1
      have HI2 := Lib.hid (HB.out _ _ _ HI.out b1)
      have HT2 := Lib.hid (HT.out.trans (Turn.of_below (S := fun _ => False) b1) (fun _ _ h => h.elim))
      clear own1 ho1 src1 b1 hat hc
      go_wp2_with fail
      go_loopw [17] (fun vj wx => ∃ (j : Nat), vj = .int .i64 (j : Int) ∧ j ≤ (listF x).length ∧ Hid (Inv (elsF (vs.take k) ++ (listF x).take j) wx) ∧ Hid (Turn S w2 wx)) (fun vj _ => (listF x).length - (intOf vj).toNat)
      case atStart => exact ⟨0, rfl, Nat.zero_le _, Lib.hid (by rw [List.take_zero, List.append_nil]; exact HI2.out), Lib.hid (Turn.refl _ _)⟩
      case round =>
        obtain ⟨j, rfl, hj, HJ, HU⟩ := hrel
        by_cases hlt2 : j < (listF x).length
        · obtain ⟨p2, y, hy, hat2, hc2, _, _⟩ := (SR.out.kept HU.out (fun _ h => h)).at (c := c1) rfl hlt2 (Below.refl _ _)
          have CC := Lib.hid (HC.out _ y wr HJ.out (HLE.out j))
          have HY := Lib.hid (show elsF (vs.take k) ++ (listF x).take j ++ [y] = elsF (vs.take k) ++ (listF x).take (j + 1) by rw [take_snoc _ j y hy, List.append_assoc])
          clear hy
          obtain ⟨yl, hyl⟩ : ∃ yl : ByteArray, yl = ⟨y.toArray⟩ := ⟨_, rfl⟩
          rw [← hyl] at hc2 CC
          clear hyl
          go_wp2_with fail
          refine CC.out.mono ?_
          rintro e w3 ⟨rfl, i3, t3⟩
          rw [HY.out] at i3
          have HI3 := Lib.hid i3
          have HT3 := Lib.hid (HU.out.trans t3 (fun _ _ h => h))
          clear i3 t3
          go_wp2_with fail
          go_roundw
          case rel => exact ⟨j + 1, by go_num, hlt2, HI3, HT3⟩
          case measure => simp [intOf]; omega
        · have HE := Lib.hid (show Inv (elsF (vs.take (k + 1))) wr by
            have := HJ.out
            rw [List.take_of_length_le (l := listF x) (by omega)] at this
            rw [HX.out]
            exact this)
          go_wp2_with fail
          go_roundw
          case rel => exact ⟨k + 1, by go_num, hlt, HE, Lib.hid (HT2.out.trans HU.out (fun _ _ h => h))⟩
          case measure => simp [intOf]; omega
    · have HE := Lib.hid (show Inv (elsF vs) wr by
        have := HI.out
        rwa [List.take_of_length_le (by rw [HN.out]; omega)] at this)
      go_wp2_with fail
      go_end0
      exact ⟨rfl, HE.out, HT.out⟩

set_option maxHeartbeats 4000000 in
set_option maxRecDepth 100000 in
theorem each_len (a1 a2 a3 : Value) (S : Nat → Prop) (Inv : List (List UInt8) → World → Prop) (w : World) (A : Option Addr) (vs : List (List UInt8)) (n c : Nat) (hn : vs.length = n) (hv : SrcS w (fun b => ¬ S b) A vs) (hS : ∀ k, S k → k < w.heap.size) (hslim : SlimS vs) (hmax : n ≤ 1000000000000) (hlen : (elsF vs).length ≤ 1000000000000)
    (h0 : Inv [] w) (hB : ∀ xs X X', Inv xs X → Below X.heap.size X X' → Inv xs X')
    (hC : ∀ (xs : List (List UInt8)) (x : List UInt8) (X : World), Inv xs X → xs.length ≤ 1000000000000 → Calls Tryd.prog 45 #[.string ⟨x.toArray⟩, a1, a2, a3] X fun e w' => e = .returned (.tuple #[]) ∧ Inv (xs ++ [x]) w' ∧ Turn S X w') :
    Calls Tryd.prog 43 #[.slice A n c, .func (.func 45) #[] #[a1, a2, a3]] w fun e w' => e = .returned (.tuple #[]) ∧ Inv (elsF vs) w' ∧ Turn S w w' := by
  have HN := Lib.hid hn
  have HV := Lib.hid hv
  have HS := Lib.hid hS
  have HL := Lib.hid hslim
  have HM := Lib.hid hlen
  have H0 := Lib.hid h0
  have HB := Lib.hid hB
  have HC := Lib.hid hC
  clear hn hv hS hslim hlen h0 hB hC
  go_enter Tryd.func43, Tryd.ntmps43
  go_wp2_with fail
  go_loopw [10] (fun vi wr => ∃ (k : Nat), vi = .int .i64 (k : Int) ∧ k ≤ n ∧ Hid (Inv (elsF (vs.take k)) wr) ∧ Hid (Turn S w wr)) (fun vi _ => n - (intOf vi).toNat)
  case atStart => exact ⟨0, rfl, Nat.zero_le _, H0, Lib.hid (Turn.refl _ _)⟩
  case round =>
    obtain ⟨k, rfl, hk, HI, HT⟩ := hrel
    by_cases hlt : k < n
    · obtain ⟨p, x, hx, hat, hc, _, _⟩ := (HV.out.kept HT.out (fun _ h => h)).at (c := c) HN.out hlt (Below.refl _ _)
      have hmem := List.mem_of_getElem? hx
      have hle : (listF x).length ≤ (elsF vs).length := by
        have h1 := elsF_length_take vs (k + 1)
        rw [elsF_take vs k x hx, List.length_append] at h1
        omega
      have CL := Lib.hid (ty_list ⟨x.toArray⟩ wr (by rw [← bl_length, bl_mk]; exact HL.out x hmem) (by rw [bl_mk]; have := HM.out; omega))
      rw [bl_mk] at CL
      have HX := Lib.hid (elsF_take vs k x hx)
      have HLE := Lib.hid (show ∀ j, (elsF (vs.take k) ++ (listF x).take j).length ≤ 1000000000000 by
        intro j
        have h1 := elsF_length_take vs (k + 1)
        have h2 := HM.out
        rw [elsF_take vs k x hx, List.length_append] at h1
        rw [List.length_append, List.length_take]
        omega)
      have hll : (listF x).length ≤ 1000000000000 := by have := HM.out; omega
      clear hx hmem hle
      obtain ⟨xl, hxl⟩ : ∃ xl : ByteArray, xl = ⟨x.toArray⟩ := ⟨_, rfl⟩
      rw [← hxl] at hc CL
      clear hxl
      go_wp2_with fail
      refine CL.out.mono ?_
      rintro e w2 ⟨v1, o1, rfl, own1, ho1, b1⟩
      obtain ⟨A1, c1, hv1, src1⟩ := own1.src (fun b => ¬ S b) (fun b hb hs => by
        have h1 := ho1 b hb
        have h2 := HS.out b hs
        have h3 := HT.out.size
        omega)
      subst hv1
      have SR := Lib.hid src1
      have HI2 := Lib.hid (HB.out _ _ _ HI.out b1)
      have HT2 := Lib.hid (HT.out.trans (Turn.of_below (S := fun _ => False) b1) (fun _ _ h => h.elim))
      clear own1 ho1 src1 b1 hat hc
      go_wp2_with fail
      go_loopw [17] (fun vj wx => ∃ (j : Nat), vj = .int .i64 (j : Int) ∧ j ≤ (listF x).length ∧ Hid (Inv (elsF (vs.take k) ++ (listF x).take j) wx) ∧ Hid (Turn S w2 wx)) (fun vj _ => (listF x).length - (intOf vj).toNat)
      case atStart => exact ⟨0, rfl, Nat.zero_le _, Lib.hid (by rw [List.take_zero, List.append_nil]; exact HI2.out), Lib.hid (Turn.refl _ _)⟩
      case round =>
        obtain ⟨j, rfl, hj, HJ, HU⟩ := hrel
        by_cases hlt2 : j < (listF x).length
        · obtain ⟨p2, y, hy, hat2, hc2, _, _⟩ := (SR.out.kept HU.out (fun _ h => h)).at (c := c1) rfl hlt2 (Below.refl _ _)
          have CC := Lib.hid (HC.out _ y wr HJ.out (HLE.out j))
          have HY := Lib.hid (show elsF (vs.take k) ++ (listF x).take j ++ [y] = elsF (vs.take k) ++ (listF x).take (j + 1) by rw [take_snoc _ j y hy, List.append_assoc])
          clear hy
          obtain ⟨yl, hyl⟩ : ∃ yl : ByteArray, yl = ⟨y.toArray⟩ := ⟨_, rfl⟩
          rw [← hyl] at hc2 CC
          clear hyl
          go_wp2_with fail
          refine CC.out.mono ?_
          rintro e w3 ⟨rfl, i3, t3⟩
          rw [HY.out] at i3
          have HI3 := Lib.hid i3
          have HT3 := Lib.hid (HU.out.trans t3 (fun _ _ h => h))
          clear i3 t3
          go_wp2_with fail
          go_roundw
          case rel => exact ⟨j + 1, by go_num, hlt2, HI3, HT3⟩
          case measure => simp [intOf]; omega
        · have HE := Lib.hid (show Inv (elsF (vs.take (k + 1))) wr by
            have := HJ.out
            rw [List.take_of_length_le (l := listF x) (by omega)] at this
            rw [HX.out]
            exact this)
          go_wp2_with fail
          go_roundw
          case rel => exact ⟨k + 1, by go_num, hlt, HE, Lib.hid (HT2.out.trans HU.out (fun _ _ h => h))⟩
          case measure => simp [intOf]; omega
    · have HE := Lib.hid (show Inv (elsF vs) wr by
        have := HI.out
        rwa [List.take_of_length_le (by rw [HN.out]; omega)] at this)
      go_wp2_with fail
      go_end0
      exact ⟨rfl, HE.out, HT.out⟩
end Go.Proofs.YtcpohdejdiljnaaDoor
