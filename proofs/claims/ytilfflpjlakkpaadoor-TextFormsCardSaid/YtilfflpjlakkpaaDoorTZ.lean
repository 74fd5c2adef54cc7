/-
  What package text's functions do, said of lists of bytes; the law TextForms, as a call.
  Conditions: those that each theorem names.
-/
import Derived.Test.YtilfflpjlakkpaaDoorTL
import Derived.Test.YtilfflpjlakkpaaDoorPC
namespace Go.Proofs.YtilfflpjlakkpaaDoor
open Go.RowKit

theorem size_mk (l : List UInt8) : (⟨l.toArray⟩ : ByteArray).size = l.length := by
  rw [← bl_length, bl_mk]
section
variable (l t : List UInt8) (w : World) (hl : l.length ≤ 1000000000) (ht : t.length ≤ 1000000000)
include hl
theorem z_token : Calls Tryd.prog 10 #[.string ⟨l.toArray⟩] w fun e w' => e = .returned (.bool (tokF l)) ∧ Below w.heap.size w w' := by
  have := tx_token ⟨l.toArray⟩ w (by rw [size_mk]; exact hl)
  rwa [bl_mk] at this
theorem z_visible : Calls Tryd.prog 12 #[.string ⟨l.toArray⟩] w fun e w' => e = .returned (.bool (visF l)) ∧ Below w.heap.size w w' := by
  have := tx_visible ⟨l.toArray⟩ w (by rw [size_mk]; exact hl)
  rwa [bl_mk] at this
theorem z_trim : Calls Tryd.prog 14 #[.string ⟨l.toArray⟩] w (Text (trimF l) w) := by
  have := tx_trim ⟨l.toArray⟩ w (by rw [size_mk]; exact hl)
  rwa [bl_mk] at this
theorem z_lower : Calls Tryd.prog 16 #[.string ⟨l.toArray⟩] w (Text (lowF l) w) := by
  have := tx_lower ⟨l.toArray⟩ w (by rw [size_mk]; exact hl)
  rwa [bl_mk] at this
theorem z_list : Calls Tryd.prog 22 #[.string ⟨l.toArray⟩] w (Lists (listF l) w) := by
  have := tx_list ⟨l.toArray⟩ w (by rw [size_mk]; exact hl)
  rwa [bl_mk] at this
theorem z_unquote : Calls Tryd.prog 24 #[.string ⟨l.toArray⟩] w (TextOk (unqF l) w) := by
  have := tx_unquote ⟨l.toArray⟩ w (by rw [size_mk]; exact hl)
  rwa [bl_mk] at this
theorem z_pair : Calls Tryd.prog 26 #[.string ⟨l.toArray⟩] w (Pairs (pairF l) w) := by
  have := tx_pair ⟨l.toArray⟩ w (by rw [size_mk]; exact hl)
  rwa [bl_mk] at this
theorem z_quote : Calls Tryd.prog 28 #[.string ⟨l.toArray⟩] w (Text (quoF l) w) := by
  have := tx_quote ⟨l.toArray⟩ w (by rw [size_mk]; exact hl)
  rwa [bl_mk] at this
include ht
theorem z_same : Calls Tryd.prog 18 #[.string ⟨l.toArray⟩, .string ⟨t.toArray⟩] w fun e w' => e = .returned (.bool (lowF l == lowF t)) ∧ Below w.heap.size w w' := by
  have := tx_same ⟨l.toArray⟩ ⟨t.toArray⟩ w (by rw [size_mk]; exact hl) (by rw [size_mk]; exact ht)
  rwa [bl_mk, bl_mk] at this
end
section
variable (l t : List UInt8) (w : World)
theorem y_token : Calls Tryd.prog 10 #[.string ⟨l.toArray⟩] w fun e w' => e = .returned (.bool (tokF l)) ∧ Below w.heap.size w w' := by
  have := ty_token ⟨l.toArray⟩ w
  rwa [bl_mk] at this
theorem y_visible : Calls Tryd.prog 12 #[.string ⟨l.toArray⟩] w fun e w' => e = .returned (.bool (visF l)) ∧ Below w.heap.size w w' := by
  have := ty_visible ⟨l.toArray⟩ w
  rwa [bl_mk] at this
theorem y_lower : Calls Tryd.prog 16 #[.string ⟨l.toArray⟩] w (Text (lowF l) w) := by
  have := ty_lower ⟨l.toArray⟩ w
  rwa [bl_mk] at this
theorem y_same : Calls Tryd.prog 18 #[.string ⟨l.toArray⟩, .string ⟨t.toArray⟩] w fun e w' => e = .returned (.bool (lowF l == lowF t)) ∧ Below w.heap.size w w' := by
  have := ty_same ⟨l.toArray⟩ ⟨t.toArray⟩ w
  rwa [bl_mk, bl_mk] at this
variable (hl : l.length ≤ 140737488351232)
include hl
theorem y_trim : Calls Tryd.prog 14 #[.string ⟨l.toArray⟩] w (Text (trimF l) w) := by
  have := ty_trim ⟨l.toArray⟩ w (by rw [size_mk]; exact hl)
  rwa [bl_mk] at this
theorem y_list (hn : (listF l).length ≤ 1000000000000) : Calls Tryd.prog 22 #[.string ⟨l.toArray⟩] w (Lists (listF l) w) := by
  have := ty_list ⟨l.toArray⟩ w (by rw [size_mk]; exact hl) (by rw [bl_mk]; exact hn)
  rwa [bl_mk] at this
theorem y_pair : Calls Tryd.prog 26 #[.string ⟨l.toArray⟩] w (Pairs (pairF l) w) := by
  have := ty_pair ⟨l.toArray⟩ w (by rw [size_mk]; exact hl)
  rwa [bl_mk] at this
end
theorem trimF_length (l : List UInt8) : (trimF l).length ≤ l.length := by
  have h1 : (ltrim l).length ≤ l.length := (List.dropWhile_sublist _).length_le
  have h2 : (rtrim (ltrim l)).length ≤ (ltrim l).length := by
    unfold rtrim
    rw [List.length_reverse]
    have := (List.dropWhile_sublist blankB (l := (ltrim l).reverse)).length_le
    rwa [List.length_reverse] at this
  unfold trimF
  omega

set_option maxRecDepth 100000 in
set_option maxHeartbeats 4000000 in
theorem forms_true (l t : List UInt8) (w : World) (hl : l.length ≤ 140737488351232) : Calls Tryd.prog 8 #[.string ⟨l.toArray⟩, .string ⟨t.toArray⟩] w fun e w' => e = .returned (.bool true) ∧ Below w.heap.size w w' := by
  have L1 := Lib.hid (lowF_length l)
  have L2 := Lib.hid (trimF_length l)
  have e1 := lowF_twice l
  have e2 := trim_twice l
  have E1 := Lib.hid e1
  have E2 := Lib.hid e2
  clear e1 e2
  go_enter Tryd.func8, Tryd.ntmps8
  go_wp2_with fail
  refine (y_lower l w).mono ?_
  rintro e w1 ⟨rfl, b1⟩
  go_wp2_with fail
  refine (y_lower _ w1).mono ?_
  rintro e w2 ⟨rfl, b2⟩
  rw [E1.out]
  go_wp2_with fail
  refine (y_lower l w2).mono ?_
  rintro e w3 ⟨rfl, b3⟩
  go_wp2_with fail
  refine (y_trim l w3 hl).mono ?_
  rintro e w4 ⟨rfl, b4⟩
  go_wp2_with fail
  refine (y_trim _ w4 (by have := L2.out; omega)).mono ?_
  rintro e w5 ⟨rfl, b5⟩
  rw [E2.out]
  go_wp2_with fail
  refine (y_trim l w5 hl).mono ?_
  rintro e w6 ⟨rfl, b6⟩
  have B6 := Below.more b1 (Below.more b2 (Below.more b3 (Below.more b4 (Below.more b5 b6))))
  clear b1 b2 b3 b4 b5 b6
  go_wp2_with fail
  refine (y_lower l w6).mono ?_
  rintro e w7 ⟨rfl, b7⟩
  have e3 := L1.out
  go_wp2_with fail
  refine (y_same l t w7).mono ?_
  rintro e w8 ⟨rfl, b8⟩
  clear e3
  go_wp2_with fail
  refine (y_same t l w8).mono ?_
  rintro e w9 ⟨rfl, b9⟩
  rw [show (lowF t == lowF l) = (lowF l == lowF t) from BEq.comm]
  generalize (lowF l == lowF t) = sm
  go_wp2_with fail
  refine (y_lower l w9).mono ?_
  rintro e w10 ⟨rfl, b10⟩
  go_wp2_with fail
  refine (y_same l _ w10).mono ?_
  rintro e w11 ⟨rfl, b11⟩
  rw [E1.out, show (lowF l == lowF l) = true by simp]
  have B11 := Below.more B6 (Below.more b7 (Below.more b8 (Below.more b9 (Below.more b10 b11))))
  clear b7 b8 b9 b10 b11 B6
  go_wp2_with fail
  refine (y_token l w11).mono ?_
  rintro e w12 ⟨rfl, b12⟩
  cases htok : tokF l with
  | false =>
    clear htok
    go_wp2_with fail
    refine (wakes_true w12).mono ?_
    rintro e w13 ⟨rfl, b13⟩
    go_wp2_with fail
    go_ret
    exact ⟨rfl, Below.more B11 (Below.more b12 b13)⟩
  | true =>
    have HL := Lib.hid (tok_list l htok)
    have HP := Lib.hid (tok_pair l htok)
    have HT := Lib.hid (tok_low l htok)
    have HV := Lib.hid (tok_vis l htok)
    have HB := Lib.hid (trim_bare l (tok_bare l htok))
    clear htok
    have CL := Lib.hid (y_list l w12 hl (by rw [HL.out]; simp))
    rw [HL.out] at CL
    go_wp2_with fail
    refine (CL.out.mono fun e w' h => h.form (by simp)).mono ?_
    rintro e w13 ⟨g, c, rfl, hg, _, hc, b13⟩
    have hc0 := hc 0 l rfl
    clear hc
    go_wp2_with fail
    refine (y_pair l w13 hl).mono ?_
    rintro e w14 ⟨rfl, b14⟩
    rw [HP.out]
    have hc1 := (b14.cell (p := ⟨g, 0, none⟩) hg).trans hc0
    have hg1 := Nat.lt_of_lt_of_le hg b14.size
    clear hc0 hg
    go_wp2_with fail
    refine (y_lower l w14).mono ?_
    rintro e w15 ⟨rfl, b15⟩
    go_wp2_with fail
    refine (y_token _ w15).mono ?_
    rintro e w16 ⟨rfl, b16⟩
    rw [HT.out]
    go_wp2_with fail
    refine (y_visible l w16).mono ?_
    rintro e w17 ⟨rfl, b17⟩
    rw [HV.out]
    go_wp2_with fail
    refine (y_trim l w17 hl).mono ?_
    rintro e w18 ⟨rfl, b18⟩
    rw [HB.out]
    have B18 := Below.more b15 (Below.more b16 (Below.more b17 b18))
    have hc2 := (B18.cell (p := ⟨g, 0, none⟩) hg1).trans hc1
    go_wp2_with fail
    refine (y_lower l w18).mono ?_
    rintro e w19 ⟨rfl, b19⟩
    go_wp2_with fail
    refine (wakes_true w19).mono ?_
    rintro e w20 ⟨rfl, b20⟩
    go_wp2_with fail
    go_ret
    exact ⟨rfl, Below.more B11 (Below.more b12 (Below.more b13 (Below.more b14 (Below.more B18 (Below.more b19 b20)))))⟩
end Go.Proofs.YtilfflpjlakkpaaDoor
