/-
  The law ControlKnown: walk.
  Conditions: none.
-/
import Derived.Test.YtkccmjeabkfmdaaDoorEL
import Derived.Deep.RegionHeld3
import Derived.Laws.Concat
namespace Go.Proofs.YtkccmjeabkfmdaaDoor.Con
open Go.RowKit Hop

def valsN : List (List UInt8) := [[48], [55], [50, 49, 52, 55, 52, 56, 51, 54, 52, 55], [50, 49, 52, 55, 52, 56, 51, 54, 52, 56], [57, 57, 57, 57, 57, 57, 57, 57, 57, 57, 57, 57, 57, 57, 57, 57, 57, 57, 57, 57, 57, 57, 57], [48, 48, 55], [45, 49], [49, 46, 53], []]
def wantsN : List Int := [0, 7, 2147483647, 2147483647, 2147483647, 7, 0, 0, 0]
def askN (v : List UInt8) : List UInt8 := [109, 97, 120, 45, 97, 103, 101, 61, 34] ++ v ++ [34]
theorem asks_req : ∀ k < 9, (requestF [([67, 97, 99, 104, 101, 45, 67, 111, 110, 116, 114, 111, 108], askN (valsN.getD k []))]).ma = wantsN.getD k 0 ∧ (responseF [([67, 97, 99, 104, 101, 45, 67, 111, 110, 116, 114, 111, 108], askN (valsN.getD k []))]).ma = wantsN.getD k 0 := by decide +kernel

theorem run_add (t : TypeId) (a b : ByteArray) (h : a.size + b.size ≤ 1000) (W : World) : (binOp .add t (.string a) (.string b)).run Tryd.prog W = .ok (.string (a ++ b)) W := by
  have h1 := run_string_add_sum (P := Tryd.prog) W a b (by omega)
  simp [binOp, h1]
theorem vals_len : ∀ k < 9, (valsN.getD k []).length ≤ 30 := by decide +kernel
theorem bl_app (a b : ByteArray) : bl (a ++ b) = bl a ++ bl b := by simp [bl]

set_option maxHeartbeats 32000000 in
set_option maxRecDepth 100000 in
theorem known_law (w0 : World) : Calls Tryd.prog 6 #[] w0 fun e w' => e = .returned (.bool true) ∧ Below w0.heap.size w0 w' := by
  go_enter Tryd.func6, Tryd.ntmps6
  have B0 : Hid (Below w0.heap.size w0 w0) := Lib.hid (Below.refl _ _)
  go_upto_region 3 with fail
  have ba := ((Below.refl w0.heap.size w0).alloc (Nat.le_refl _) (.cells #[.string ⟨#[48]⟩, .string ⟨#[55]⟩, .string ⟨#[50, 49, 52, 55, 52, 56, 51, 54, 52, 55]⟩, .string ⟨#[50, 49, 52, 55, 52, 56, 51, 54, 52, 56]⟩, .string ⟨#[57, 57, 57, 57, 57, 57, 57, 57, 57, 57, 57, 57, 57, 57, 57, 57, 57, 57, 57, 57, 57, 57, 57]⟩, .string ⟨#[48, 48, 55]⟩, .string ⟨#[45, 49]⟩, .string ⟨#[49, 46, 53]⟩, .string ⟨#[]⟩] 37)).alloc (by simp) (.cells #[.int .i64 0, .int .i64 7, .int .i64 2147483647, .int .i64 2147483647, .int .i64 2147483647, .int .i64 7, .int .i64 0, .int .i64 0, .int .i64 0] 38)
  have iv := (Is.made w0 37 (strs valsN)).alloc (.cells #[.int .i64 0, .int .i64 7, .int .i64 2147483647, .int .i64 2147483647, .int .i64 2147483647, .int .i64 7, .int .i64 0, .int .i64 0, .int .i64 0] 38)
  have ii := Is.made (w0.alloc (.cells #[.string ⟨#[48]⟩, .string ⟨#[55]⟩, .string ⟨#[50, 49, 52, 55, 52, 56, 51, 54, 52, 55]⟩, .string ⟨#[50, 49, 52, 55, 52, 56, 51, 54, 52, 56]⟩, .string ⟨#[57, 57, 57, 57, 57, 57, 57, 57, 57, 57, 57, 57, 57, 57, 57, 57, 57, 57, 57, 57, 57, 57, 57]⟩, .string ⟨#[48, 48, 55]⟩, .string ⟨#[45, 49]⟩, .string ⟨#[49, 46, 53]⟩, .string ⟨#[]⟩] 37)) 38 (wantsN.map fun x => Value.int .i64 x)
  rw [show (w0.alloc (.cells #[.string ⟨#[48]⟩, .string ⟨#[55]⟩, .string ⟨#[50, 49, 52, 55, 52, 56, 51, 54, 52, 55]⟩, .string ⟨#[50, 49, 52, 55, 52, 56, 51, 54, 52, 56]⟩, .string ⟨#[57, 57, 57, 57, 57, 57, 57, 57, 57, 57, 57, 57, 57, 57, 57, 57, 57, 57, 57, 57, 57, 57, 57]⟩, .string ⟨#[48, 48, 55]⟩, .string ⟨#[45, 49]⟩, .string ⟨#[49, 46, 53]⟩, .string ⟨#[]⟩] 37)).heap.size = w0.heap.size + 1 by simp] at ii
  obtain ⟨w1, hw⟩ : ∃ x, ((w0.alloc (.cells #[.string ⟨#[48]⟩, .string ⟨#[55]⟩, .string ⟨#[50, 49, 52, 55, 52, 56, 51, 54, 52, 55]⟩, .string ⟨#[50, 49, 52, 55, 52, 56, 51, 54, 52, 56]⟩, .string ⟨#[57, 57, 57, 57, 57, 57, 57, 57, 57, 57, 57, 57, 57, 57, 57, 57, 57, 57, 57, 57, 57, 57, 57]⟩, .string ⟨#[48, 48, 55]⟩, .string ⟨#[45, 49]⟩, .string ⟨#[49, 46, 53]⟩, .string ⟨#[]⟩] 37)).alloc (.cells #[.int .i64 0, .int .i64 7, .int .i64 2147483647, .int .i64 2147483647, .int .i64 2147483647, .int .i64 7, .int .i64 0, .int .i64 0, .int .i64 0] 38)) = x := ⟨_, rfl⟩
  have iv2 : Is w1 w0.heap.size 37 (strs valsN) := by rw [← hw]; exact iv
  have ii2 : Is w1 (w0.heap.size + 1) 38 (wantsN.map fun x => Value.int .i64 x) := by rw [← hw]; exact ii
  rw [hw] at ba ⊢
  clear hw iv ii
  have IV := Lib.hid iv2
  have II := Lib.hid ii2
  clear iv2 ii2
  have B1 := Lib.hid (B0.out.trans (ba.mono B0.out.size))
  clear B0
  clear ba
  go_wp2_with fail
  go_loopw [3] (fun vi wr => ∃ k : Nat, vi = .int .i64 (k : Int) ∧ k ≤ 9 ∧ Hid (Below w1.heap.size w1 wr)) (fun vi _ => 9 - (intOf vi).toNat)
  case atStart => exact ⟨0, rfl, Nat.zero_le _, Lib.hid (Below.refl _ _)⟩
  case round =>
    obtain ⟨k, rfl, hk, HX⟩ := hrel
    by_cases hlt : k < 9
    · have hcut : Hid (Below w1.heap.size w1 wr) := HX
      obtain ⟨v, hv⟩ : ∃ v, valsN[k]? = some v := ⟨valsN[k]'hlt, List.getElem?_eq_getElem _⟩
      obtain ⟨x, hx⟩ : ∃ x, wantsN[k]? = some x := ⟨wantsN[k]'hlt, List.getElem?_eq_getElem _⟩
      obtain ⟨V, hV⟩ : ∃ V : ByteArray, V = ⟨v.toArray⟩ := ⟨_, rfl⟩
      have HBV := Lib.hid (show bl V = v by rw [hV, bl_mk])
      obtain ⟨q1, q2⟩ := asks_req k hlt
      rw [List.getD_eq_getElem?_getD, List.getD_eq_getElem?_getD, hv, hx] at q1 q2
      simp only [Option.getD_some] at q1 q2
      have KK : ∀ W : World, Below w1.heap.size w1 W → W.cell? ⟨w0.heap.size, k, none⟩ = some (.string V) ∧ W.cell? ⟨w0.heap.size + 1, k, none⟩ = some (.int .i64 x) := fun W hW => by
        have h1 := (IV.out.kept (Turn.of_below (S := fun _ => False) hW) (fun h => h)).cell k
        have h2 := (II.out.kept (Turn.of_below (S := fun _ => False) hW) (fun h => h)).cell k
        refine ⟨h1.trans ?_, h2.trans ?_⟩
        · simp [strs, hv, strV, hV]
        · simp [hx]
      have D0 : Below w1.heap.size w1 wr.drew := ⟨HX.out.os, HX.out.tape, HX.out.output, HX.out.size, HX.out.block⟩
      have k0 := KK _ HX.out
      have k1 := KK _ D0
      have HVL := Lib.hid (show V.size ≤ 30 by
        have := vals_len k hlt
        rw [List.getD_eq_getElem?_getD, hv] at this
        rw [← bl_length, HBV.out]
        exact this)
      have hvz : V.size ≤ 30 := HVL.out
      have hc1 : (9223372036854775807 < 9 + V.size) = False := eq_false (by omega)
      have hc2 : (9223372036854775807 < 9 + V.size + 1) = False := eq_false (by omega)
      have HBU := Lib.hid (show bl ((⟨#[109, 97, 120, 45, 97, 103, 101, 61, 34]⟩ : ByteArray) ++ V ++ (⟨#[34]⟩ : ByteArray)) = askN v by rw [bl_app, bl_app, HBV.out]; rfl)
      have HQ1 := Lib.hid q1
      have HQ2 := Lib.hid q2
      have hge : (0 : Int) ≤ (k : Int) := by omega
      have hl9 : (k : Int) < 9 := by omega
      have HV := Lib.hid hv
      clear hv hx hV q1 q2 hcut
      obtain ⟨rq, hrq⟩ : ∃ rq, requestF [([67, 97, 99, 104, 101, 45, 67, 111, 110, 116, 114, 111, 108], askN v)] = rq := ⟨_, rfl⟩
      obtain ⟨rs, hrs⟩ : ∃ rs, responseF [([67, 97, 99, 104, 101, 45, 67, 111, 110, 116, 114, 111, 108], askN v)] = rs := ⟨_, rfl⟩
      rw [hrq] at HQ1
      rw [hrs] at HQ2
      have HRQ := Lib.hid hrq
      have HRS := Lib.hid hrs
      have hbk : bulkF [([67, 97, 99, 104, 101, 45, 67, 111, 110, 116, 114, 111, 108], askN v)] ≤ 1000000000 := by
        have h1 := HVL.out
        rw [← bl_length, HBV.out] at h1
        simp only [bulkF, askN, List.map_cons, List.map_nil, List.sum_cons, List.sum_nil, List.length_append, List.length_cons, List.length_nil]
        omega
      have CQ := Lib.hid (fun (W : World) (g : Nat) (hs : SrcF W (fun _ => True) (some ⟨g, 0, none⟩) [([67, 97, 99, 104, 101, 45, 67, 111, 110, 116, 114, 111, 108], askN v)]) => request_any W (some ⟨g, 0, none⟩) [([67, 97, 99, 104, 101, 45, 67, 111, 110, 116, 114, 111, 108], askN v)] 1 1 rfl hbk hs)
      have CR := Lib.hid (fun (W : World) (g : Nat) (hs : SrcF W (fun _ => True) (some ⟨g, 0, none⟩) [([67, 97, 99, 104, 101, 45, 67, 111, 110, 116, 114, 111, 108], askN v)]) => response_any W (some ⟨g, 0, none⟩) [([67, 97, 99, 104, 101, 45, 67, 111, 110, 116, 114, 111, 108], askN v)] 1 1 rfl hbk hs)
      rw [HRQ.out] at CQ
      rw [HRS.out] at CR
      simp only [Ctl.v, Ctl.cells] at CQ CR
      rw [HQ1.out] at CQ
      rw [HQ2.out] at CR
      have CC := Lib.hid (fun (W : World) => cc_any ((⟨#[109, 97, 120, 45, 97, 103, 101, 61, 34]⟩ : ByteArray) ++ V ++ (⟨#[34]⟩ : ByteArray)) W)
      rw [HBU.out] at CC
      have hf1 := field_ma rq
      have hf2 := field_ma rs
      rw [HQ1.out] at hf1
      rw [HQ2.out] at hf2
      have hne : (x == x) = true := by simp
      clear hrq hrs hbk
      go_wp2_with fail
      go_region_held3 (fun w' => w'.cell? ⟨w0.heap.size, k, none⟩ = some (.string V) ∧ w'.cell? ⟨w0.heap.size + 1, k, none⟩ = some (.int .i64 x)) (first | (with_reducible exact k0) | (with_reducible exact k1) | (with_reducible exact kA) | (with_reducible exact kB) | (with_reducible exact kC) | (with_reducible exact kD) | go_keep)
        (first
          | (go_at_call 17; (with_reducible refine (CC.out wr.drew).mono ?_); rintro e wA ⟨gA, rfl, sA, b⟩; have dA := D0.trans (b.mono D0.size); have kA := KK _ dA; clear b)
          | (go_at_call 9; (with_reducible refine (CR.out wA gA sA).mono ?_); rintro e wB ⟨rfl, b⟩; have dB := dA.trans (b.mono dA.size); have kB := KK _ dB; clear b)
          | (go_at_call 17; (with_reducible refine (CC.out wB).mono ?_); rintro e wC ⟨gC, rfl, sC, b⟩; have dC := dB.trans (b.mono dB.size); have kC := KK _ dC; clear b)
          | (go_at_call 7; (with_reducible refine (CQ.out wC gC sC).mono ?_); rintro e wD ⟨rfl, b⟩; have dD := dC.trans (b.mono dC.size); have kD := KK _ dD; clear b))
      go_wp2_with fail
      go_roundw
      case rel => exact ⟨k + 1, by go_num, hlt, Lib.hid dD⟩
      case measure => simp [intOf]; omega
    · have BB := Lib.hid (B1.out.trans (HX.out.mono B1.out.size))
      clear HX IV II
      have ba := (Below.refl wr.heap.size wr).alloc (Nat.le_refl _) (.cells #[.bool false, .bool false, .bool false, .bool false, .bool false, .bool false, .int .i64 (-1), .int .i64 (-1), .int .i64 (-1), .int .i64 (-1)] 24)
      have Nn := Lib.hid (Is.made wr 24 [.bool false, .bool false, .bool false, .bool false, .bool false, .bool false, .int .i64 (-1), .int .i64 (-1), .int .i64 (-1), .int .i64 (-1)])
      go_wp2_with fail
      refine (cc_any ⟨#[110, 111, 32, 115, 116, 111, 114, 101, 44, 32, 110, 111, 45, 115, 116, 111, 114, 101, 61, 44, 32, 61, 110, 111, 45, 115, 116, 111, 114, 101, 44, 32, 34, 110, 111, 45, 115, 116, 111, 114, 101, 34, 44, 32, 109, 97, 120, 45, 97, 103, 101, 32, 61, 53, 44, 32, 110, 111, 45, 115, 116, 111, 114, 101, 115]⟩ (wr.alloc (.cells #[.bool false, .bool false, .bool false, .bool false, .bool false, .bool false, .int .i64 (-1), .int .i64 (-1), .int .i64 (-1), .int .i64 (-1)] 24))).mono ?_
      rintro e w21 ⟨gs21, rfl, ss, b⟩
      have Jn := Lib.hid (Nn.out.kept (Turn.of_below (S := fun _ => False) b) (fun h => h))
      have bb := ba.trans (b.mono ba.size)
      have S21 := Lib.hid ss
      have B21 := Lib.hid (BB.out.trans (bb.mono BB.out.size))
      clear BB
      clear b bb ba Nn ss
      go_wp2_with fail
      refine (cc_any ⟨#[110, 111, 45, 115, 116, 111, 114, 101, 44, 32, 110, 111, 45, 99, 97, 99, 104, 101, 61, 120, 44, 32, 111, 110, 108, 121, 45, 105, 102, 45, 99, 97, 99, 104, 101, 100, 44, 32, 109, 97, 120, 45, 97, 103, 101, 44, 32, 109, 105, 110, 45, 102, 114, 101, 115, 104, 61, 51, 44, 32, 109, 105, 110, 45, 102, 114, 101, 115, 104, 61, 53, 44, 32, 109, 97, 120, 45, 115, 116, 97, 108, 101, 61, 34, 34]⟩ w21).mono ?_
      rintro e w22 ⟨gs22, rfl, ss, b⟩
      have bb := b
      have S22 := Lib.hid ss
      have B22 := Lib.hid (B21.out.trans (bb.mono B21.out.size))
      have n_22 := Lib.hid (Jn.out.kept (Turn.of_below (S := fun _ => False) bb) (fun h => h))
      have O_22 := Lib.hid (S21.out.below bb)
      clear B21 Jn S21
      clear b bb ss
      go_wp2_with fail
      have C := request_any w22 (some ⟨gs22, 0, none⟩) [([67, 97, 99, 104, 101, 45, 67, 111, 110, 116, 114, 111, 108], [110, 111, 45, 115, 116, 111, 114, 101, 44, 32, 110, 111, 45, 99, 97, 99, 104, 101, 61, 120, 44, 32, 111, 110, 108, 121, 45, 105, 102, 45, 99, 97, 99, 104, 101, 100, 44, 32, 109, 97, 120, 45, 97, 103, 101, 44, 32, 109, 105, 110, 45, 102, 114, 101, 115, 104, 61, 51, 44, 32, 109, 105, 110, 45, 102, 114, 101, 115, 104, 61, 53, 44, 32, 109, 97, 120, 45, 115, 116, 97, 108, 101, 61, 34, 34])] 1 1 rfl (by decide) S22.out
      rw [show requestF [([67, 97, 99, 104, 101, 45, 67, 111, 110, 116, 114, 111, 108], [110, 111, 45, 115, 116, 111, 114, 101, 44, 32, 110, 111, 45, 99, 97, 99, 104, 101, 61, 120, 44, 32, 111, 110, 108, 121, 45, 105, 102, 45, 99, 97, 99, 104, 101, 100, 44, 32, 109, 97, 120, 45, 97, 103, 101, 44, 32, 109, 105, 110, 45, 102, 114, 101, 115, 104, 61, 51, 44, 32, 109, 105, 110, 45, 102, 114, 101, 115, 104, 61, 53, 44, 32, 109, 97, 120, 45, 115, 116, 97, 108, 101, 61, 34, 34])] = ⟨true, true, false, false, false, true, 0, (-1), 5, 2147483647⟩ by decide +kernel] at C
      simp only [Ctl.v, Ctl.cells] at C
      refine (C).mono ?_
      rintro e w23 ⟨rfl, b⟩
      have bb := b
      have B23 := Lib.hid (B22.out.trans (bb.mono B22.out.size))
      have n_23 := Lib.hid (n_22.out.kept (Turn.of_below (S := fun _ => False) bb) (fun h => h))
      have O_23 := Lib.hid (O_22.out.below bb)
      have L_23 := Lib.hid (S22.out.below bb)
      clear B22 n_22 O_22 S22
      clear b bb C
      clear L_23
      have ba := (Below.refl w23.heap.size w23).alloc (Nat.le_refl _) (.cells #[.bool true, .bool true, .bool false, .bool false, .bool false, .bool true, .int .i64 0, .int .i64 (-1), .int .i64 5, .int .i64 2147483647] 24)
      have Na := Lib.hid (Is.made w23 24 [.bool true, .bool true, .bool false, .bool false, .bool false, .bool true, .int .i64 0, .int .i64 (-1), .int .i64 5, .int .i64 2147483647])
      go_wp2_with fail
      refine (cc_any ⟨#[110, 111, 45, 115, 116, 111, 114, 101, 44, 110, 111, 45, 99, 97, 99, 104, 101, 61, 34, 97, 34, 44, 112, 114, 105, 118, 97, 116, 101, 44, 112, 117, 98, 108, 105, 99, 44, 112, 114, 111, 120, 121, 45, 114, 101, 118, 97, 108, 105, 100, 97, 116, 101, 44, 109, 97, 120, 45, 97, 103, 101, 61, 48, 44, 115, 45, 109, 97, 120, 97, 103, 101, 61, 49, 44, 111, 110, 108, 121, 45, 105, 102, 45, 99, 97, 99, 104, 101, 100, 44, 109, 105, 110, 45, 102, 114, 101, 115, 104, 61, 49, 44, 109, 97, 120, 45, 115, 116, 97, 108, 101]⟩ (w23.alloc (.cells #[.bool true, .bool true, .bool false, .bool false, .bool false, .bool true, .int .i64 0, .int .i64 (-1), .int .i64 5, .int .i64 2147483647] 24))).mono ?_
      rintro e w24 ⟨gs24, rfl, ss, b⟩
      have Ja := Lib.hid (Na.out.kept (Turn.of_below (S := fun _ => False) b) (fun h => h))
      have bb := ba.trans (b.mono ba.size)
      have S24 := Lib.hid ss
      have B24 := Lib.hid (B23.out.trans (bb.mono B23.out.size))
      have n_24 := Lib.hid (n_23.out.kept (Turn.of_below (S := fun _ => False) bb) (fun h => h))
      have O_24 := Lib.hid (O_23.out.below bb)
      clear B23 n_23 O_23
      clear b bb ba Na ss
      go_wp2_with fail
      have C := response_any w24 (some ⟨gs24, 0, none⟩) [([67, 97, 99, 104, 101, 45, 67, 111, 110, 116, 114, 111, 108], [110, 111, 45, 115, 116, 111, 114, 101, 44, 110, 111, 45, 99, 97, 99, 104, 101, 61, 34, 97, 34, 44, 112, 114, 105, 118, 97, 116, 101, 44, 112, 117, 98, 108, 105, 99, 44, 112, 114, 111, 120, 121, 45, 114, 101, 118, 97, 108, 105, 100, 97, 116, 101, 44, 109, 97, 120, 45, 97, 103, 101, 61, 48, 44, 115, 45, 109, 97, 120, 97, 103, 101, 61, 49, 44, 111, 110, 108, 121, 45, 105, 102, 45, 99, 97, 99, 104, 101, 100, 44, 109, 105, 110, 45, 102, 114, 101, 115, 104, 61, 49, 44, 109, 97, 120, 45, 115, 116, 97, 108, 101])] 1 1 rfl (by decide) S24.out
      rw [show responseF [([67, 97, 99, 104, 101, 45, 67, 111, 110, 116, 114, 111, 108], [110, 111, 45, 115, 116, 111, 114, 101, 44, 110, 111, 45, 99, 97, 99, 104, 101, 61, 34, 97, 34, 44, 112, 114, 105, 118, 97, 116, 101, 44, 112, 117, 98, 108, 105, 99, 44, 112, 114, 111, 120, 121, 45, 114, 101, 118, 97, 108, 105, 100, 97, 116, 101, 44, 109, 97, 120, 45, 97, 103, 101, 61, 48, 44, 115, 45, 109, 97, 120, 97, 103, 101, 61, 49, 44, 111, 110, 108, 121, 45, 105, 102, 45, 99, 97, 99, 104, 101, 100, 44, 109, 105, 110, 45, 102, 114, 101, 115, 104, 61, 49, 44, 109, 97, 120, 45, 115, 116, 97, 108, 101])] = ⟨true, true, true, true, true, false, 0, 1, (-1), (-1)⟩ by decide +kernel] at C
      simp only [Ctl.v, Ctl.cells] at C
      refine (C).mono ?_
      rintro e w25 ⟨rfl, b⟩
      have bb := b
      have B25 := Lib.hid (B24.out.trans (bb.mono B24.out.size))
      have n_25 := Lib.hid (n_24.out.kept (Turn.of_below (S := fun _ => False) bb) (fun h => h))
      have O_25 := Lib.hid (O_24.out.below bb)
      have a_25 := Lib.hid (Ja.out.kept (Turn.of_below (S := fun _ => False) bb) (fun h => h))
      have L_25 := Lib.hid (S24.out.below bb)
      clear B24 n_24 O_24 Ja S24
      clear b bb C
      clear L_25
      have ba := (Below.refl w25.heap.size w25).alloc (Nat.le_refl _) (.cells #[.bool true, .bool true, .bool true, .bool true, .bool true, .bool false, .int .i64 0, .int .i64 1, .int .i64 (-1), .int .i64 (-1)] 24)
      have No := Lib.hid (Is.made w25 24 [.bool true, .bool true, .bool true, .bool true, .bool true, .bool false, .int .i64 0, .int .i64 1, .int .i64 (-1), .int .i64 (-1)])
      go_upto_region 12 with fail
      obtain ⟨w26, hw⟩ : ∃ x, (w25.alloc (.cells #[.bool true, .bool true, .bool true, .bool true, .bool true, .bool false, .int .i64 0, .int .i64 1, .int .i64 (-1), .int .i64 (-1)] 24)) = x := ⟨_, rfl⟩
      rw [hw] at ba No ⊢
      clear hw
      have B26 := Lib.hid (B25.out.trans (ba.mono B25.out.size))
      have n_26 := Lib.hid (n_25.out.kept (Turn.of_below (S := fun _ => False) ba) (fun h => h))
      have O_26 := Lib.hid (O_25.out.below ba)
      have a_26 := Lib.hid (a_25.out.kept (Turn.of_below (S := fun _ => False) ba) (fun h => h))
      clear B25 n_25 O_25 a_25
      clear ba
      have KK : ∀ W : World, Below w26.heap.size w26 W → W.cell? ⟨wr.heap.size, 0, none⟩ = some (.bool false) ∧ W.cell? ⟨wr.heap.size, 1, none⟩ = some (.bool false) ∧ W.cell? ⟨wr.heap.size, 2, none⟩ = some (.bool false) ∧ W.cell? ⟨wr.heap.size, 3, none⟩ = some (.bool false) ∧ W.cell? ⟨wr.heap.size, 4, none⟩ = some (.bool false) ∧ W.cell? ⟨wr.heap.size, 5, none⟩ = some (.bool false) ∧ W.cell? ⟨wr.heap.size, 6, none⟩ = some (.int .i64 (-1)) ∧ W.cell? ⟨wr.heap.size, 7, none⟩ = some (.int .i64 (-1)) ∧ W.cell? ⟨wr.heap.size, 8, none⟩ = some (.int .i64 (-1)) ∧ W.cell? ⟨wr.heap.size, 9, none⟩ = some (.int .i64 (-1)) ∧ W.cell? ⟨w23.heap.size, 0, none⟩ = some (.bool true) ∧ W.cell? ⟨w23.heap.size, 1, none⟩ = some (.bool true) ∧ W.cell? ⟨w23.heap.size, 2, none⟩ = some (.bool false) ∧ W.cell? ⟨w23.heap.size, 3, none⟩ = some (.bool false) ∧ W.cell? ⟨w23.heap.size, 4, none⟩ = some (.bool false) ∧ W.cell? ⟨w23.heap.size, 5, none⟩ = some (.bool true) ∧ W.cell? ⟨w23.heap.size, 6, none⟩ = some (.int .i64 0) ∧ W.cell? ⟨w23.heap.size, 7, none⟩ = some (.int .i64 (-1)) ∧ W.cell? ⟨w23.heap.size, 8, none⟩ = some (.int .i64 5) ∧ W.cell? ⟨w23.heap.size, 9, none⟩ = some (.int .i64 2147483647) ∧ W.cell? ⟨w25.heap.size, 0, none⟩ = some (.bool true) ∧ W.cell? ⟨w25.heap.size, 1, none⟩ = some (.bool true) ∧ W.cell? ⟨w25.heap.size, 2, none⟩ = some (.bool true) ∧ W.cell? ⟨w25.heap.size, 3, none⟩ = some (.bool true) ∧ W.cell? ⟨w25.heap.size, 4, none⟩ = some (.bool true) ∧ W.cell? ⟨w25.heap.size, 5, none⟩ = some (.bool false) ∧ W.cell? ⟨w25.heap.size, 6, none⟩ = some (.int .i64 0) ∧ W.cell? ⟨w25.heap.size, 7, none⟩ = some (.int .i64 1) ∧ W.cell? ⟨w25.heap.size, 8, none⟩ = some (.int .i64 (-1)) ∧ W.cell? ⟨w25.heap.size, 9, none⟩ = some (.int .i64 (-1)) := fun W hW => by
        have h0 := n_26.out.kept (Turn.of_below (S := fun _ => False) hW) (fun h => h)
        have h1 := a_26.out.kept (Turn.of_below (S := fun _ => False) hW) (fun h => h)
        have h2 := No.out.kept (Turn.of_below (S := fun _ => False) hW) (fun h => h)
        exact ⟨h0.cell 0, h0.cell 1, h0.cell 2, h0.cell 3, h0.cell 4, h0.cell 5, h0.cell 6, h0.cell 7, h0.cell 8, h0.cell 9, h1.cell 0, h1.cell 1, h1.cell 2, h1.cell 3, h1.cell 4, h1.cell 5, h1.cell 6, h1.cell 7, h1.cell 8, h1.cell 9, h2.cell 0, h2.cell 1, h2.cell 2, h2.cell 3, h2.cell 4, h2.cell 5, h2.cell 6, h2.cell 7, h2.cell 8, h2.cell 9⟩
      have C1 := fun (W : World) (hW : Below w26.heap.size w26 W) => request_any W none [] 0 0 rfl (by decide) (srcf_nil W)
      rw [show requestF [] = ⟨false, false, false, false, false, false, (-1), (-1), (-1), (-1)⟩ by decide +kernel] at C1
      simp only [Ctl.v, Ctl.cells] at C1
      have HC1 := Lib.hid C1
      clear C1
      have C2 := fun (W : World) (hW : Below w26.heap.size w26 W) => response_any W (some ⟨gs21, 0, none⟩) [([67, 97, 99, 104, 101, 45, 67, 111, 110, 116, 114, 111, 108], [110, 111, 32, 115, 116, 111, 114, 101, 44, 32, 110, 111, 45, 115, 116, 111, 114, 101, 61, 44, 32, 61, 110, 111, 45, 115, 116, 111, 114, 101, 44, 32, 34, 110, 111, 45, 115, 116, 111, 114, 101, 34, 44, 32, 109, 97, 120, 45, 97, 103, 101, 32, 61, 53, 44, 32, 110, 111, 45, 115, 116, 111, 114, 101, 115])] 1 1 rfl (by decide) (O_26.out.below hW)
      rw [show responseF [([67, 97, 99, 104, 101, 45, 67, 111, 110, 116, 114, 111, 108], [110, 111, 32, 115, 116, 111, 114, 101, 44, 32, 110, 111, 45, 115, 116, 111, 114, 101, 61, 44, 32, 61, 110, 111, 45, 115, 116, 111, 114, 101, 44, 32, 34, 110, 111, 45, 115, 116, 111, 114, 101, 34, 44, 32, 109, 97, 120, 45, 97, 103, 101, 32, 61, 53, 44, 32, 110, 111, 45, 115, 116, 111, 114, 101, 115])] = ⟨false, false, false, false, false, false, (-1), (-1), (-1), (-1)⟩ by decide +kernel] at C2
      simp only [Ctl.v, Ctl.cells] at C2
      have HC2 := Lib.hid C2
      clear C2
      have C3 := fun (W : World) (hW : Below w26.heap.size w26 W) => request_any W (some ⟨gs21, 0, none⟩) [([67, 97, 99, 104, 101, 45, 67, 111, 110, 116, 114, 111, 108], [110, 111, 32, 115, 116, 111, 114, 101, 44, 32, 110, 111, 45, 115, 116, 111, 114, 101, 61, 44, 32, 61, 110, 111, 45, 115, 116, 111, 114, 101, 44, 32, 34, 110, 111, 45, 115, 116, 111, 114, 101, 34, 44, 32, 109, 97, 120, 45, 97, 103, 101, 32, 61, 53, 44, 32, 110, 111, 45, 115, 116, 111, 114, 101, 115])] 1 1 rfl (by decide) (O_26.out.below hW)
      rw [show requestF [([67, 97, 99, 104, 101, 45, 67, 111, 110, 116, 114, 111, 108], [110, 111, 32, 115, 116, 111, 114, 101, 44, 32, 110, 111, 45, 115, 116, 111, 114, 101, 61, 44, 32, 61, 110, 111, 45, 115, 116, 111, 114, 101, 44, 32, 34, 110, 111, 45, 115, 116, 111, 114, 101, 34, 44, 32, 109, 97, 120, 45, 97, 103, 101, 32, 61, 53, 44, 32, 110, 111, 45, 115, 116, 111, 114, 101, 115])] = ⟨false, false, false, false, false, false, (-1), (-1), (-1), (-1)⟩ by decide +kernel] at C3
      simp only [Ctl.v, Ctl.cells] at C3
      have HC3 := Lib.hid C3
      clear C3
      have hgd := ctlGuard
      have hq1 : ∀ W : World, (binOp .eql 24 (.agg #[.bool false, .bool false, .bool false, .bool false, .bool false, .bool false, .int .i64 (-1), .int .i64 (-1), .int .i64 (-1), .int .i64 (-1)]) (.agg #[.bool false, .bool false, .bool false, .bool false, .bool false, .bool false, .int .i64 (-1), .int .i64 (-1), .int .i64 (-1), .int .i64 (-1)])).run Tryd.prog W = .ok (.bool true) W := fun W => run_eql_ctl ⟨false, false, false, false, false, false, (-1), (-1), (-1), (-1)⟩ ⟨false, false, false, false, false, false, (-1), (-1), (-1), (-1)⟩ W
      have hq2 : ∀ W : World, (binOp .eql 24 (.agg #[.bool true, .bool true, .bool false, .bool false, .bool false, .bool true, .int .i64 0, .int .i64 (-1), .int .i64 5, .int .i64 2147483647]) (.agg #[.bool true, .bool true, .bool false, .bool false, .bool false, .bool true, .int .i64 0, .int .i64 (-1), .int .i64 5, .int .i64 2147483647])).run Tryd.prog W = .ok (.bool true) W := fun W => run_eql_ctl ⟨true, true, false, false, false, true, 0, (-1), 5, 2147483647⟩ ⟨true, true, false, false, false, true, 0, (-1), 5, 2147483647⟩ W
      have hq3 : ∀ W : World, (binOp .eql 24 (.agg #[.bool true, .bool true, .bool true, .bool true, .bool true, .bool false, .int .i64 0, .int .i64 1, .int .i64 (-1), .int .i64 (-1)]) (.agg #[.bool true, .bool true, .bool true, .bool true, .bool true, .bool false, .int .i64 0, .int .i64 1, .int .i64 (-1), .int .i64 (-1)])).run Tryd.prog W = .ok (.bool true) W := fun W => run_eql_ctl ⟨true, true, true, true, true, false, 0, 1, (-1), (-1)⟩ ⟨true, true, true, true, true, false, 0, 1, (-1), (-1)⟩ W
      have B0 := Below.refl w26.heap.size w26
      have D0 : Below w26.heap.size w26 w26.drew := ⟨B0.os, B0.tape, B0.output, B0.size, B0.block⟩
      have k0 := KK _ B0
      have k1 := KK _ D0
      clear B0
      go_region_held3 (fun w' => w'.cell? ⟨wr.heap.size, 0, none⟩ = some (.bool false) ∧ w'.cell? ⟨wr.heap.size, 1, none⟩ = some (.bool false) ∧ w'.cell? ⟨wr.heap.size, 2, none⟩ = some (.bool false) ∧ w'.cell? ⟨wr.heap.size, 3, none⟩ = some (.bool false) ∧ w'.cell? ⟨wr.heap.size, 4, none⟩ = some (.bool false) ∧ w'.cell? ⟨wr.heap.size, 5, none⟩ = some (.bool false) ∧ w'.cell? ⟨wr.heap.size, 6, none⟩ = some (.int .i64 (-1)) ∧ w'.cell? ⟨wr.heap.size, 7, none⟩ = some (.int .i64 (-1)) ∧ w'.cell? ⟨wr.heap.size, 8, none⟩ = some (.int .i64 (-1)) ∧ w'.cell? ⟨wr.heap.size, 9, none⟩ = some (.int .i64 (-1)) ∧ w'.cell? ⟨w23.heap.size, 0, none⟩ = some (.bool true) ∧ w'.cell? ⟨w23.heap.size, 1, none⟩ = some (.bool true) ∧ w'.cell? ⟨w23.heap.size, 2, none⟩ = some (.bool false) ∧ w'.cell? ⟨w23.heap.size, 3, none⟩ = some (.bool false) ∧ w'.cell? ⟨w23.heap.size, 4, none⟩ = some (.bool false) ∧ w'.cell? ⟨w23.heap.size, 5, none⟩ = some (.bool true) ∧ w'.cell? ⟨w23.heap.size, 6, none⟩ = some (.int .i64 0) ∧ w'.cell? ⟨w23.heap.size, 7, none⟩ = some (.int .i64 (-1)) ∧ w'.cell? ⟨w23.heap.size, 8, none⟩ = some (.int .i64 5) ∧ w'.cell? ⟨w23.heap.size, 9, none⟩ = some (.int .i64 2147483647) ∧ w'.cell? ⟨w25.heap.size, 0, none⟩ = some (.bool true) ∧ w'.cell? ⟨w25.heap.size, 1, none⟩ = some (.bool true) ∧ w'.cell? ⟨w25.heap.size, 2, none⟩ = some (.bool true) ∧ w'.cell? ⟨w25.heap.size, 3, none⟩ = some (.bool true) ∧ w'.cell? ⟨w25.heap.size, 4, none⟩ = some (.bool true) ∧ w'.cell? ⟨w25.heap.size, 5, none⟩ = some (.bool false) ∧ w'.cell? ⟨w25.heap.size, 6, none⟩ = some (.int .i64 0) ∧ w'.cell? ⟨w25.heap.size, 7, none⟩ = some (.int .i64 1) ∧ w'.cell? ⟨w25.heap.size, 8, none⟩ = some (.int .i64 (-1)) ∧ w'.cell? ⟨w25.heap.size, 9, none⟩ = some (.int .i64 (-1))) (first | (with_reducible exact k0) | (with_reducible exact k1) | (with_reducible exact kA) | (with_reducible exact kB) | (with_reducible exact kC) | (with_reducible exact kD) | go_keep)
        (first
          | (go_at_call 7; (with_reducible refine (HC1.out w26.drew D0).mono ?_); rintro e wA ⟨rfl, b⟩; have dA := D0.trans (b.mono D0.size); have kA := KK _ dA)
          | (go_at_call 9; (with_reducible refine (HC2.out wA dA).mono ?_); rintro e wB ⟨rfl, b⟩; have dB := dA.trans (b.mono dA.size); have kB := KK _ dB)
          | (go_at_call 7; (with_reducible refine (HC3.out wB dB).mono ?_); rintro e wC ⟨rfl, b⟩; have dC := dB.trans (b.mono dB.size); have kC := KK _ dC)
          | (go_at_call 12; (with_reducible refine (wakes_any wC).mono ?_); rintro e wD ⟨rfl, b⟩; have dD := dC.trans (b.mono dC.size); have kD := KK _ dD))
      all_goals
        go_wp2_with fail
        go_ret
        exact ⟨rfl, B26.out.trans (dD.mono B26.out.size)⟩
end Go.Proofs.YtkccmjeabkfmdaaDoor.Con
