/-
  The law UriBack.
  Conditions: those that each theorem names; Go's table of powers of ten is as its text lays it.
-/
import Derived.Test.YthkcniimnaephaaDoorYN
namespace Go.Proofs.YthkcniimnaephaaDoor.Uri
open Go.RowKit

theorem upTo_length (l : List UInt8) (k : Nat) : (upTo l k).length = l.length := by
  unfold upTo
  rw [List.length_append, List.length_map, ← List.length_append, List.take_append_drop]
theorem upTo_zero (l : List UInt8) : upTo l 0 = l := by simp [upTo]
theorem upTo_get (s : ByteArray) (k : Nat) (h : k < s.size) : (upTo (bl s) k)[k]? = some s[k] := by
  unfold upTo
  have hl : ((bl s).take k).length = k := by rw [List.length_take, bl_length]; omega
  rw [List.getElem?_append_right (by rw [List.length_map, hl]; exact Nat.le_refl _), List.length_map, hl, Nat.sub_self, bl_drop s k h]
  rfl
theorem upTo_yes (s : ByteArray) (k : Nat) (h : k < s.size) : upTo (bl s) (k + 1) = (upTo (bl s) k).set k (upB s[k]) := by
  unfold upTo
  have hl : ((bl s).take k).length = k := by rw [List.length_take, bl_length]; omega
  rw [bl_take s k h, bl_drop s k h, List.map_append, List.append_assoc, List.set_append_right _ _ (by rw [List.length_map, hl]; exact Nat.le_refl _), List.length_map, hl, Nat.sub_self]
  rfl
theorem upTo_no (s : ByteArray) (k : Nat) (h : k < s.size) (hc : upB s[k] = s[k]) : upTo (bl s) (k + 1) = upTo (bl s) k := by
  unfold upTo
  rw [bl_take s k h, bl_drop s k h, List.map_append, List.append_assoc]
  simp [hc]
theorem upB_yes (c : UInt8) (h : 97 ≤ (c.toNat : Int)) (h' : (c.toNat : Int) ≤ 122) : (c.toNat : Int) - 32 = ((upB c).toNat : Int) := by
  have := byte_all (fun c => !(decide (97 ≤ c.toNat) && decide (c.toNat ≤ 122)) || (decide (c.toNat - 32 = (upB c).toNat))) (by decide +kernel) c
  rw [decide_eq_true (by omega : 97 ≤ c.toNat), decide_eq_true (by omega : c.toNat ≤ 122)] at this
  have := of_decide_eq_true (by simpa using this : decide (c.toNat - 32 = (upB c).toNat) = true)
  omega
theorem upB_no (c : UInt8) (h : ¬ (97 ≤ (c.toNat : Int) ∧ (c.toNat : Int) ≤ 122)) : upB c = c := by
  unfold upB
  rw [if_neg]
  rintro ⟨h1, h2⟩
  rw [UInt8.le_iff_toNat_le] at h1 h2
  exact h ⟨by have : (97 : UInt8).toNat = 97 := rfl; omega, by have : (122 : UInt8).toNat = 122 := rfl; omega⟩
theorem of_list (l : List UInt8) : ∃ s : ByteArray, bl s = l := ⟨⟨l.toArray⟩, bl_mk l⟩
theorem authority_gen (s : ByteArray) : ∃ (a : ByteArray) (p k : Int), auV (authorityF (bl s)) = (bl a, p, k) := by
  obtain ⟨a, p, k⟩ := auV (authorityF (bl s))
  exact ⟨⟨a.toArray⟩, p, k, by rw [bl_mk]⟩

set_option maxHeartbeats 16000000 in
set_option maxRecDepth 100000 in
theorem back_true (h0 q0 s : ByteArray) (p0 : Int) (w : World) (hh0 : h0.size ≤ 140737488351232) (hq0 : q0.size ≤ 140737488351232) (hs : s.size ≤ 140737488351232) (hp0 : I64 p0) (hp : PowTab w) :
    Calls Tryd.prog 4 #[.agg #[.string h0, .int .i64 p0, .string q0], .string s] w fun e w' => e = .returned (.bool true) ∧ Below w.heap.size w w' := by
  have IU0 := Lib.hid (Is.made w 23 [.string h0, .int .i64 p0, .string q0])
  have B0 := Lib.hid (show Below w.heap.size w (w.alloc (.cells #[.string h0, .int .i64 p0, .string q0] 23)) from (Below.refl _ w).alloc (Nat.le_refl _) _)
  have HP := Lib.hid hp
  have HMU := Lib.hid (fun (X : World) (hX : PowTab X) => may_any h0 q0 p0 X hh0 hq0 hp0 hX)
  have CS := Lib.hid (fun (x : List UInt8 × Int × List UInt8 × Int) (hx : urlT (parseF (bl s)) = x) (X : World) (hX : PowTab X) => (show Calls Tryd.prog 8 #[.string s] X (UrlGot x X) from hx ▸ parse_any s X (by omega) hX))
  have HPS := Lib.hid (fun (h : List UInt8) (p : Nat) (q : List UInt8) (hx : parseF (bl s) = some (h, p, q)) => parse_may hx)
  generalize parseF (bl s) = rs at *
  have hgd := urlGuard
  have hcz := cmp_self ⟨#[]⟩ ⟨#[]⟩ 0
  clear hp hs
  cases hmu : mayF (bl h0) p0 (bl q0) with
  | false =>
    rw [hmu] at HMU
    have CT := Lib.hid (fun (X : World) (hX : PowTab X) => text_at h0 q0 ⟨#[]⟩ p0 (by unfold textI; rw [hmu]; rfl) X hh0 hq0 hp0 hX)
    clear hmu
    go_enter Tryd.func4, Tryd.ntmps4
    go_upto_region 1 with fail
    generalize w.alloc _ = w0 at *
    have yu0 : w0.cell? ⟨w.heap.size, 0, none⟩ = some (.string h0) := IU0.out.cell 0
    have yu1 : w0.cell? ⟨w.heap.size, 1, none⟩ = some (.int .i64 p0) := IU0.out.cell 1
    have yu2 : w0.cell? ⟨w.heap.size, 2, none⟩ = some (.string q0) := IU0.out.cell 2
    go_wp2_with fail
    clear yu0 yu1 yu2
    refine (CT.out _ (HP.out.below B0.out)).mono ?_
    rintro e w1 ⟨rfl, b⟩
    have Iu1 := Lib.hid (IU0.out.kept (Turn.of_below (S := fun _ => False) b) (fun h => h))
    have B1 := Lib.hid (B0.out.trans (b.mono B0.out.size))
    clear b IU0 B0
    have yu0 : w1.cell? ⟨w.heap.size, 0, none⟩ = some (.string h0) := Iu1.out.cell 0
    have yu1 : w1.cell? ⟨w.heap.size, 1, none⟩ = some (.int .i64 p0) := Iu1.out.cell 1
    have yu2 : w1.cell? ⟨w.heap.size, 2, none⟩ = some (.string q0) := Iu1.out.cell 2
    go_wp2_with fail
    clear yu0 yu1 yu2
    refine (HMU.out _ (HP.out.below B1.out)).mono ?_
    rintro e w2 ⟨rfl, b⟩
    have Iu2 := Lib.hid (Iu1.out.kept (Turn.of_below (S := fun _ => False) b) (fun h => h))
    have B2 := Lib.hid (B1.out.trans (b.mono B1.out.size))
    clear b Iu1 B1
    clear Iu2
    go_wp2_with fail
    cases rs with
    | none =>
      have C16 := CS.out _ rfl
      unfold UrlGot urlT at C16
      simp only at C16
      have D16 := Lib.hid C16
      clear C16 CS HPS
      refine (D16.out _ (HP.out.below B2.out)).mono ?_
      rintro e w3 ⟨rfl, b⟩
      have B3 := Lib.hid (B2.out.trans (b.mono B2.out.size))
      clear b B2
      have B4 := Lib.hid (B3.out.alloc B3.out.size (.cells #[.string ⟨#[]⟩, .int .i64 0, .string ⟨#[]⟩] 23))
      have Ix4 := Lib.hid (Is.made w3 23 [.string ⟨#[]⟩, .int .i64 0, .string ⟨#[]⟩])
      clear B3
      go_upto_region 17 with fail
      generalize w3.alloc _ = w4 at *
      have yx0 : w4.cell? ⟨w3.heap.size, 0, none⟩ = some (.string ⟨#[]⟩) := Ix4.out.cell 0
      have yx1 : w4.cell? ⟨w3.heap.size, 1, none⟩ = some (.int .i64 0) := Ix4.out.cell 1
      have yx2 : w4.cell? ⟨w3.heap.size, 2, none⟩ = some (.string ⟨#[]⟩) := Ix4.out.cell 2
      go_wp2_with fail
      clear yx0 yx1 yx2
      refine (wakes_any _ (HP.out.below B4.out)).mono ?_
      rintro e w5 ⟨rfl, b⟩
      have Ix5 := Lib.hid (Ix4.out.kept (Turn.of_below (S := fun _ => False) b) (fun h => h))
      have B5 := Lib.hid (B4.out.trans (b.mono B4.out.size))
      clear b Ix4 B4
      go_wp2_with fail
      go_ret
      exact ⟨rfl, B5.out⟩
    | some x =>
      obtain ⟨h', p', q'⟩ := x
      have hmv := HPS.out h' p' q' rfl
      obtain ⟨HB, rfl⟩ := of_list h'
      obtain ⟨QB, rfl⟩ := of_list q'
      obtain ⟨m1, m2, m3, m4, m5, m6⟩ := may_parts hmv
      obtain ⟨hbs, qbs⟩ := may_size hmv
      have C16 := CS.out _ rfl
      unfold UrlGot urlT at C16
      simp only [mk_bl] at C16
      have D16 := Lib.hid C16
      obtain ⟨T2, hT2⟩ := of_list (textF (bl HB) (p' : Int) (bl QB))
      have hT2s : T2.size ≤ 384 := by rw [← bl_length, hT2]; exact m6
      have CT2 := Lib.hid (fun (X : World) (hX : PowTab X) => text_at HB QB T2 (p' : Int) (by rw [hT2]; unfold textI; rw [if_pos hmv]) X (by omega) (by omega) ⟨by omega, by omega⟩ hX)
      have CP2 := Lib.hid (fun (X : World) (hX : PowTab X) => parse_at T2 HB QB (p' : Int) 0 (by rw [hT2, may_back hmv]; rfl) X (by omega) hX)
      obtain ⟨D2, hD2⟩ := of_list (authF (bl HB) (p' : Int))
      have hD2s : D2.size ≤ 401 := by
        have := auth_len (bl HB) (p' : Int)
        rw [← bl_length, hD2]
        rw [bl_length] at this
        omega
      have CH2 := Lib.hid (fun (X : World) (hX : PowTab X) => host_at HB QB D2 (p' : Int) (by rw [hD2]; unfold hostI; rw [if_pos hmv]) X (by omega) (by omega) ⟨by omega, by omega⟩ hX)
      have CM2 := Lib.hid (fun (X : World) (hX : PowTab X) => mayat_any HB QB (p' : Int) true hmv X (by omega) (by omega) ⟨by omega, by omega⟩ hX)
      have hlow : lowF (bl HB) = bl HB := low_named m1
      have CL2 := fun X : World => ty_lower HB X
      unfold Text at CL2
      rw [hlow, mk_bl] at CL2
      have CL3 := Lib.hid CL2
      have hq1 : 0 < QB.size := by
        have := congrArg List.length m4
        rw [List.length_take, bl_length] at this
        simp at this
        omega
      have hq2 : (0 : Int) < (QB.size : Int) := by omega
      have hq3 : (((QB[0]'hq1).toNat : Int) == 47) = true := by
        have := bl_take QB 0 hq1
        rw [Nat.zero_add, m4] at this
        have h47 : QB[0]'hq1 = 47 := by simpa using this.symm
        rw [h47]
        rfl
      have hcv := cmp_self HB QB (p' : Int)
      clear C16 CS HPS CL2 hlow m1 m2 m4 m5 m6
      refine (D16.out _ (HP.out.below B2.out)).mono ?_
      rintro e w3 ⟨rfl, b⟩
      have B3 := Lib.hid (B2.out.trans (b.mono B2.out.size))
      clear b B2
      have B4 := Lib.hid (B3.out.alloc B3.out.size (.cells #[.string HB, .int .i64 (p' : Int), .string QB] 23))
      have Ix4 := Lib.hid (Is.made w3 23 [.string HB, .int .i64 (p' : Int), .string QB])
      clear B3
      go_upto_region 17 with fail
      generalize w3.alloc _ = w4 at *
      have yx0 : w4.cell? ⟨w3.heap.size, 0, none⟩ = some (.string HB) := Ix4.out.cell 0
      have yx1 : w4.cell? ⟨w3.heap.size, 1, none⟩ = some (.int .i64 (p' : Int)) := Ix4.out.cell 1
      have yx2 : w4.cell? ⟨w3.heap.size, 2, none⟩ = some (.string QB) := Ix4.out.cell 2
      go_wp2_with fail
      clear yx0 yx1 yx2
      refine (CT2.out _ (HP.out.below B4.out)).mono ?_
      rintro e w5 ⟨rfl, b⟩
      have Ix5 := Lib.hid (Ix4.out.kept (Turn.of_below (S := fun _ => False) b) (fun h => h))
      have B5 := Lib.hid (B4.out.trans (b.mono B4.out.size))
      clear b Ix4 B4
      go_wp2_with fail
      refine (CP2.out _ (HP.out.below B5.out)).mono ?_
      rintro e w6 ⟨rfl, b⟩
      have Ix6 := Lib.hid (Ix5.out.kept (Turn.of_below (S := fun _ => False) b) (fun h => h))
      have B6 := Lib.hid (B5.out.trans (b.mono B5.out.size))
      clear b Ix5 B5
      have Ix7 := Lib.hid (Ix6.out.alloc (.cells #[.string HB, .int .i64 (p' : Int), .string QB] 23))
      have B7 := Lib.hid (B6.out.alloc B6.out.size (.cells #[.string HB, .int .i64 (p' : Int), .string QB] 23))
      have Iy7 := Lib.hid (Is.made w6 23 [.string HB, .int .i64 (p' : Int), .string QB])
      clear Ix6 B6
      go_upto_region 20 with fail
      generalize w6.alloc _ = w7 at *
      have yx0 : w7.cell? ⟨w3.heap.size, 0, none⟩ = some (.string HB) := Ix7.out.cell 0
      have yx1 : w7.cell? ⟨w3.heap.size, 1, none⟩ = some (.int .i64 (p' : Int)) := Ix7.out.cell 1
      have yx2 : w7.cell? ⟨w3.heap.size, 2, none⟩ = some (.string QB) := Ix7.out.cell 2
      go_wp2_with fail
      clear yx0 yx1 yx2
      refine (CH2.out _ (HP.out.below B7.out)).mono ?_
      rintro e w8 ⟨rfl, b⟩
      have Ix8 := Lib.hid (Ix7.out.kept (Turn.of_below (S := fun _ => False) b) (fun h => h))
      have Iy8 := Lib.hid (Iy7.out.kept (Turn.of_below (S := fun _ => False) b) (fun h => h))
      have B8 := Lib.hid (B7.out.trans (b.mono B7.out.size))
      clear b Ix7 Iy7 B7
      go_wp2_with fail
      by_cases h80 : p' = 80
      · have e80 : (((p' : Nat) : Int) == 80) = true := by simp; omega
        obtain ⟨a1, a2, a3, ha⟩ := authority_gen D2
        have CA1 := Lib.hid (fun (X : World) (hX : PowTab X) => authority_at D2 a1 a2 a3 ha X (by omega) hX)
        obtain ⟨E2, hE2⟩ : ∃ E2 : ByteArray, E2 = D2 ++ (⟨#[58, 56, 48]⟩ : ByteArray) := ⟨_, rfl⟩
        have hE3 : bl E2 = authF (bl HB) (p' : Int) ++ [58, 56, 48] := by rw [hE2, ← hD2]; simp [bl]
        have hE2s : E2.size ≤ 500 := by rw [← bl_length, hE3, ← hD2, List.length_append, bl_length]; simp; omega
        have CA2 := fun (X : World) (hX : PowTab X) => authority_at E2 HB (p' : Int) 0 (by rw [hE3, auth_usual hmv h80]; rfl) X (by omega) hX
        rw [hE2] at CA2
        have CA3 := Lib.hid CA2
        have z1 : ¬ 9223372036854775807 < D2.size + 3 := by omega
        clear ha hE2 hE3 hE2s CA2 h80
        refine (CA1.out _ (HP.out.below B8.out)).mono ?_
        rintro e w9 ⟨rfl, b⟩
        have Ix9 := Lib.hid (Ix8.out.kept (Turn.of_below (S := fun _ => False) b) (fun h => h))
        have Iy9 := Lib.hid (Iy8.out.kept (Turn.of_below (S := fun _ => False) b) (fun h => h))
        have B9 := Lib.hid (B8.out.trans (b.mono B8.out.size))
        clear b Ix8 Iy8 B8
        have yx0 : w9.cell? ⟨w3.heap.size, 0, none⟩ = some (.string HB) := Ix9.out.cell 0
        have yx1 : w9.cell? ⟨w3.heap.size, 1, none⟩ = some (.int .i64 (p' : Int)) := Ix9.out.cell 1
        have yx2 : w9.cell? ⟨w3.heap.size, 2, none⟩ = some (.string QB) := Ix9.out.cell 2
        go_wp2_with fail
        clear yx0 yx1 yx2
        refine (CH2.out _ (HP.out.below B9.out)).mono ?_
        rintro e w10 ⟨rfl, b⟩
        have Ix10 := Lib.hid (Ix9.out.kept (Turn.of_below (S := fun _ => False) b) (fun h => h))
        have Iy10 := Lib.hid (Iy9.out.kept (Turn.of_below (S := fun _ => False) b) (fun h => h))
        have B10 := Lib.hid (B9.out.trans (b.mono B9.out.size))
        clear b Ix9 Iy9 B9
        go_wp2_with fail
        refine (CA3.out _ (HP.out.below B10.out)).mono ?_
        rintro e w11 ⟨rfl, b⟩
        have Ix11 := Lib.hid (Ix10.out.kept (Turn.of_below (S := fun _ => False) b) (fun h => h))
        have Iy11 := Lib.hid (Iy10.out.kept (Turn.of_below (S := fun _ => False) b) (fun h => h))
        have B11 := Lib.hid (B10.out.trans (b.mono B10.out.size))
        clear b Ix10 Iy10 B10
        go_wp2_with fail
        have KB : ∀ X : World, Below w11.heap.size w11 X → (X.cell? ⟨w3.heap.size, 0, none⟩ = some (.string HB) ∧ X.cell? ⟨w3.heap.size, 1, none⟩ = some (.int .i64 (p' : Int)) ∧ X.cell? ⟨w3.heap.size, 2, none⟩ = some (.string QB) ∧ X.cell? ⟨w6.heap.size, 0, none⟩ = some (.string HB) ∧ X.cell? ⟨w6.heap.size, 1, none⟩ = some (.int .i64 (p' : Int)) ∧ X.cell? ⟨w6.heap.size, 2, none⟩ = some (.string QB)) := fun X hX => by
          have i1 := Ix11.out.kept (Turn.of_below (S := fun _ => False) hX) (fun h => h)
          have j1 := Iy11.out.kept (Turn.of_below (S := fun _ => False) hX) (fun h => h)
          exact ⟨i1.cell 0, i1.cell 1, i1.cell 2, j1.cell 0, j1.cell 1, j1.cell 2⟩
        have PB : ∀ X : World, Below w11.heap.size w11 X → PowTab X := fun X hX => (HP.out.below B11.out).below hX
        have BD : Below w11.heap.size w11 w11.drew := below_drewN (Below.refl _ _) 1
        have kD := KB _ BD
        have k0 := KB _ (Below.refl _ _)
        go_region_held3 (fun w' => (w'.cell? ⟨w3.heap.size, 0, none⟩ = some (.string HB) ∧ w'.cell? ⟨w3.heap.size, 1, none⟩ = some (.int .i64 (p' : Int)) ∧ w'.cell? ⟨w3.heap.size, 2, none⟩ = some (.string QB) ∧ w'.cell? ⟨w6.heap.size, 0, none⟩ = some (.string HB) ∧ w'.cell? ⟨w6.heap.size, 1, none⟩ = some (.int .i64 (p' : Int)) ∧ w'.cell? ⟨w6.heap.size, 2, none⟩ = some (.string QB))) (first | exact k0 | exact kD | exact k1 | exact k2 | exact k3 | go_keep)
          (first
            | (go_at_call 14
               (with_reducible refine (CM2.out w11.drew (PB _ BD)).mono ?_)
               rintro e m1 ⟨rfl, b1⟩
               have B1 : Below w11.heap.size w11 m1 := BD.trans (b1.mono BD.size)
               have k1 := KB _ B1)
            | (go_at_call 16
               (with_reducible refine (CL3.out m1).mono ?_)
               rintro e m2 ⟨rfl, b2⟩
               have B2 : Below w11.heap.size w11 m2 := B1.trans (b2.mono B1.size)
               have k2 := KB _ B2)
            | (go_at_call 12
               (with_reducible refine (wakes_any m2 (PB _ B2)).mono ?_)
               rintro e m3 ⟨rfl, b3⟩
               have B3 : Below w11.heap.size w11 m3 := B2.trans (b3.mono B2.size)
               have k3 := KB _ B3))
        all_goals
          go_wp2_with fail
          go_ret
          exact ⟨rfl, B11.out.trans (B3.mono B11.out.size)⟩
      · have e80 : (((p' : Nat) : Int) == 80) = false := by simp; omega
        have CA1 := Lib.hid (fun (X : World) (hX : PowTab X) => authority_at D2 HB (p' : Int) 0 (by rw [hD2, auth_back hmv h80]; rfl) X (by omega) hX)
        refine (CA1.out _ (HP.out.below B8.out)).mono ?_
        rintro e w9 ⟨rfl, b⟩
        have Ix9 := Lib.hid (Ix8.out.kept (Turn.of_below (S := fun _ => False) b) (fun h => h))
        have Iy9 := Lib.hid (Iy8.out.kept (Turn.of_below (S := fun _ => False) b) (fun h => h))
        have B9 := Lib.hid (B8.out.trans (b.mono B8.out.size))
        clear b Ix8 Iy8 B8
        have yx1 : w9.cell? ⟨w3.heap.size, 1, none⟩ = some (.int .i64 (p' : Int)) := Ix9.out.cell 1
        go_wp2_with fail
        clear yx1
        have KB : ∀ X : World, Below w9.heap.size w9 X → (X.cell? ⟨w3.heap.size, 0, none⟩ = some (.string HB) ∧ X.cell? ⟨w3.heap.size, 1, none⟩ = some (.int .i64 (p' : Int)) ∧ X.cell? ⟨w3.heap.size, 2, none⟩ = some (.string QB) ∧ X.cell? ⟨w6.heap.size, 0, none⟩ = some (.string HB) ∧ X.cell? ⟨w6.heap.size, 1, none⟩ = some (.int .i64 (p' : Int)) ∧ X.cell? ⟨w6.heap.size, 2, none⟩ = some (.string QB)) := fun X hX => by
          have i1 := Ix9.out.kept (Turn.of_below (S := fun _ => False) hX) (fun h => h)
          have j1 := Iy9.out.kept (Turn.of_below (S := fun _ => False) hX) (fun h => h)
          exact ⟨i1.cell 0, i1.cell 1, i1.cell 2, j1.cell 0, j1.cell 1, j1.cell 2⟩
        have PB : ∀ X : World, Below w9.heap.size w9 X → PowTab X := fun X hX => (HP.out.below B9.out).below hX
        have BD : Below w9.heap.size w9 w9.drew := below_drewN (Below.refl _ _) 1
        have kD := KB _ BD
        have k0 := KB _ (Below.refl _ _)
        go_region_held3 (fun w' => (w'.cell? ⟨w3.heap.size, 0, none⟩ = some (.string HB) ∧ w'.cell? ⟨w3.heap.size, 1, none⟩ = some (.int .i64 (p' : Int)) ∧ w'.cell? ⟨w3.heap.size, 2, none⟩ = some (.string QB) ∧ w'.cell? ⟨w6.heap.size, 0, none⟩ = some (.string HB) ∧ w'.cell? ⟨w6.heap.size, 1, none⟩ = some (.int .i64 (p' : Int)) ∧ w'.cell? ⟨w6.heap.size, 2, none⟩ = some (.string QB))) (first | exact k0 | exact kD | exact k1 | exact k2 | exact k3 | go_keep)
          (first
            | (go_at_call 14
               (with_reducible refine (CM2.out w9.drew (PB _ BD)).mono ?_)
               rintro e m1 ⟨rfl, b1⟩
               have B1 : Below w9.heap.size w9 m1 := BD.trans (b1.mono BD.size)
               have k1 := KB _ B1)
            | (go_at_call 16
               (with_reducible refine (CL3.out m1).mono ?_)
               rintro e m2 ⟨rfl, b2⟩
               have B2 : Below w9.heap.size w9 m2 := B1.trans (b2.mono B1.size)
               have k2 := KB _ B2)
            | (go_at_call 12
               (with_reducible refine (wakes_any m2 (PB _ B2)).mono ?_)
               rintro e m3 ⟨rfl, b3⟩
               have B3 : Below w9.heap.size w9 m3 := B2.trans (b3.mono B2.size)
               have k3 := KB _ B3))
        all_goals
          go_wp2_with fail
          go_ret
          exact ⟨rfl, B9.out.trans (B3.mono B9.out.size)⟩

  | true =>
    rw [hmu] at HMU
    obtain ⟨n, rfl, n1, n2⟩ := may_nat hmu
    obtain ⟨hhs, hqs⟩ := may_size hmu
    obtain ⟨TB, hTB⟩ := of_list (textF (bl h0) (n : Int) (bl q0))
    have hTl : TB.size = 7 + (authF (bl h0) (n : Int)).length + q0.size := by
      rw [← bl_length, hTB]
      unfold textF
      rw [List.length_append, List.length_append, bl_length]
      rfl
    have hTs : TB.size ≤ 384 := by rw [← bl_length, hTB]; exact (may_parts hmu).2.2.2.2.2
    have hne : TB.toList.isEmpty = false := toList_some TB (by omega)
    have CT := Lib.hid (fun (X : World) (hX : PowTab X) => text_at h0 q0 TB (n : Int) (by rw [hTB]; unfold textI; rw [if_pos hmu]) X hh0 hq0 hp0 hX)
    have CP := Lib.hid (fun (X : World) (hX : PowTab X) => parse_at TB h0 q0 (n : Int) 0 (by rw [hTB, may_back hmu]; rfl) X (by omega) hX)
    obtain ⟨DB, hDB⟩ := of_list (authF (bl h0) (n : Int))
    have CH := Lib.hid (fun (X : World) (hX : PowTab X) => host_at h0 q0 DB (n : Int) (by rw [hDB]; unfold hostI; rw [if_pos hmu]) X hh0 hq0 hp0 hX)
    obtain ⟨N, hN⟩ : ∃ N, N = 7 + DB.size := ⟨_, rfl⟩
    have hDl : (authF (bl h0) (n : Int)).length = DB.size := by rw [← hDB, bl_length]
    have hNT : N ≤ TB.size := by omega
    have hNi : (7 : Int) + (DB.size : Int) = (N : Int) := by omega
    have hNw : IntKind.i64.wrap ((7 : Int) + (DB.size : Int)) = (N : Int) := by rw [IntWalk.i64_in _ (by omega)]; exact hNi
    obtain ⟨UB, hUB⟩ : ∃ UB : ByteArray, UB = ⟨(upTo (bl TB) N).toArray⟩ := ⟨_, rfl⟩
    have hUs : UB.size ≤ 384 := by rw [hUB, size_mk, upTo_length, bl_length]; exact hTs
    have CU := Lib.hid (fun (X : World) (hX : PowTab X) => parse_at UB h0 q0 (n : Int) 0 (by rw [hUB, bl_mk, hTB, hN, ← hDl, parse_up hmu]; rfl) X (by omega) hX)
    have HUB := Lib.hid hUB
    have hl384 : ¬ (384 : Int) < (TB.size : Int) := by omega
    have hcn := ncmp_self h0 q0 (n : Int)
    clear hmu hTB hTl hDl hN hDB hUB n1 n2
    go_enter Tryd.func4, Tryd.ntmps4
    go_upto_region 1 with fail
    generalize w.alloc _ = w0 at *
    have yu0 : w0.cell? ⟨w.heap.size, 0, none⟩ = some (.string h0) := IU0.out.cell 0
    have yu1 : w0.cell? ⟨w.heap.size, 1, none⟩ = some (.int .i64 (n : Int)) := IU0.out.cell 1
    have yu2 : w0.cell? ⟨w.heap.size, 2, none⟩ = some (.string q0) := IU0.out.cell 2
    go_wp2_with fail
    clear yu0 yu1 yu2
    refine (CT.out _ (HP.out.below B0.out)).mono ?_
    rintro e w1 ⟨rfl, b⟩
    have Iu1 := Lib.hid (IU0.out.kept (Turn.of_below (S := fun _ => False) b) (fun h => h))
    have B1 := Lib.hid (B0.out.trans (b.mono B0.out.size))
    clear b IU0 B0
    have yu0 : w1.cell? ⟨w.heap.size, 0, none⟩ = some (.string h0) := Iu1.out.cell 0
    have yu1 : w1.cell? ⟨w.heap.size, 1, none⟩ = some (.int .i64 (n : Int)) := Iu1.out.cell 1
    have yu2 : w1.cell? ⟨w.heap.size, 2, none⟩ = some (.string q0) := Iu1.out.cell 2
    go_wp2_with fail
    clear yu0 yu1 yu2
    refine (HMU.out _ (HP.out.below B1.out)).mono ?_
    rintro e w2 ⟨rfl, b⟩
    have Iu2 := Lib.hid (Iu1.out.kept (Turn.of_below (S := fun _ => False) b) (fun h => h))
    have B2 := Lib.hid (B1.out.trans (b.mono B1.out.size))
    clear b Iu1 B1
    go_wp2_with fail
    refine (CP.out _ (HP.out.below B2.out)).mono ?_
    rintro e w3 ⟨rfl, b⟩
    have Iu3 := Lib.hid (Iu2.out.kept (Turn.of_below (S := fun _ => False) b) (fun h => h))
    have B3 := Lib.hid (B2.out.trans (b.mono B2.out.size))
    clear b Iu2 B2
    have Iu4 := Lib.hid (Iu3.out.alloc (.cells #[.string h0, .int .i64 (n : Int), .string q0] 23))
    have B4 := Lib.hid (B3.out.alloc B3.out.size (.cells #[.string h0, .int .i64 (n : Int), .string q0] 23))
    have Iv4 := Lib.hid (Is.made w3 23 [.string h0, .int .i64 (n : Int), .string q0])
    clear Iu3 B3
    go_upto_region 6 with fail
    generalize w3.alloc _ = w4 at *
    have yu0 : w4.cell? ⟨w.heap.size, 0, none⟩ = some (.string h0) := Iu4.out.cell 0
    have yu1 : w4.cell? ⟨w.heap.size, 1, none⟩ = some (.int .i64 (n : Int)) := Iu4.out.cell 1
    have yu2 : w4.cell? ⟨w.heap.size, 2, none⟩ = some (.string q0) := Iu4.out.cell 2
    go_wp2_with fail
    clear yu0 yu1 yu2
    refine (CH.out _ (HP.out.below B4.out)).mono ?_
    rintro e w5 ⟨rfl, b⟩
    have Iu5 := Lib.hid (Iu4.out.kept (Turn.of_below (S := fun _ => False) b) (fun h => h))
    have Iv5 := Lib.hid (Iv4.out.kept (Turn.of_below (S := fun _ => False) b) (fun h => h))
    have B5 := Lib.hid (B4.out.trans (b.mono B4.out.size))
    clear b Iu4 Iv4 B4
    obtain ⟨cap, wb, hrun, row0, bb, hbz⟩ := run_to_bytes w5 TB
    have Bb := Lib.hid (B5.out.trans (bb.mono B5.out.size))
    have Iub := Lib.hid (Iu5.out.kept (Turn.of_below (S := fun _ => False) bb) (fun h => h))
    have Ivb := Lib.hid (Iv5.out.kept (Turn.of_below (S := fun _ => False) bb) (fun h => h))
    have HR0 := Lib.hid row0
    have HLE := Lib.hid (show w.heap.size ≤ w5.heap.size ∧ w.heap.size < w5.heap.size ∧ w3.heap.size < w5.heap.size from ⟨B5.out.size, Iu5.out.lt, Iv5.out.lt⟩)
    clear row0 bb hbz
    go_wp2_with fail
    clear hrun
    generalize w5.heap.size = gB at *
    clear B5 Iu5 Iv5
    go_loopw [10] (fun vi wr => ∃ k : Nat, vi = .int .i64 (k : Int) ∧ k ≤ N ∧ Hid (Row wr gB (upTo (bl TB) k)) ∧ Hid (Below w.heap.size w wr) ∧ Hid (Is wr w.heap.size 23 [.string h0, .int .i64 (n : Int), .string q0]) ∧ Hid (Is wr w3.heap.size 23 [.string h0, .int .i64 (n : Int), .string q0])) (fun vi _ => N - (intOf vi).toNat)
    case atStart => exact ⟨0, rfl, Nat.zero_le _, by rw [upTo_zero]; exact HR0, Bb, Iub, Ivb⟩
    case round =>
      clear HR0 Bb Iub Ivb
      obtain ⟨k, rfl, hk, HRW, HBW, HIU, HIV⟩ := hrel
      by_cases hlt : k < N
      · have hkT : k < TB.size := by omega
        have hat : ∀ Wx : World, (Instr.indexAt 37 (.slice (some ⟨gB, 0, none⟩) TB.size cap) (.int .i64 (k : Int))).run Tryd.prog Wx = .ok (.pointer (some ⟨gB, k, none⟩)) Wx := fun Wx => by
          have := run_at 37 5 Tryd.underlying37 byteSize ⟨gB, 0, none⟩ TB.size cap k hkT Wx
          rw [add_at, Nat.zero_add] at this
          exact this
        have z := HRW.out.cell k _ (upTo_get TB k hkT)
        have zf := HRW.out.free k (by rw [upTo_length, bl_length]; exact hkT)
        have HY := Lib.hid (upTo_yes TB k hkT)
        have HNO := Lib.hid (upTo_no TB k hkT)
        have HUY := Lib.hid (upB_yes TB[k])
        have HUN := Lib.hid (upB_no TB[k])
        generalize TB[k] = c at *
        by_cases h1 : 97 ≤ (c.toNat : Int)
        · by_cases h2 : (c.toNat : Int) ≤ 122
          · have hsub := HUY.out h1 h2
            have row2 := HRW.out.set k (upB c)
            rw [← HY.out, ← hsub] at row2
            have HR2 := Lib.hid row2
            have HB2 := Lib.hid (HBW.out.setCell (p := ⟨gB, k, none⟩) HLE.out.1 (.int .u8 ((c.toNat : Int) - 32)))
            have HU2 := Lib.hid (HIU.out.far (p := ⟨gB, k, none⟩) (by show w.heap.size ≠ gB; have := HLE.out; omega) (.int .u8 ((c.toNat : Int) - 32)))
            have HV2 := Lib.hid (HIV.out.far (p := ⟨gB, k, none⟩) (by show w3.heap.size ≠ gB; have := HLE.out; omega) (.int .u8 ((c.toNat : Int) - 32)))
            clear hsub row2 HY HNO HUY HUN HRW
            go_wp2_with fail
            go_roundw
            case rel => exact ⟨k + 1, by go_num, hlt, HR2, HB2, HU2, HV2⟩
            case measure => simp [intOf]; omega
          · have HR2 := Lib.hid (show Row wr gB (upTo (bl TB) (k + 1)) by rw [HNO.out (HUN.out (fun h => h2 h.2))]; exact HRW.out)
            clear HY HNO HUY HUN HRW zf
            go_wp2_with fail
            go_roundw
            case rel => exact ⟨k + 1, by go_num, hlt, HR2, HBW, HIU, HIV⟩
            case measure => simp [intOf]; omega
        · have HR2 := Lib.hid (show Row wr gB (upTo (bl TB) (k + 1)) by rw [HNO.out (HUN.out (fun h => h1 h.1))]; exact HRW.out)
          clear HY HNO HUY HUN HRW zf
          go_wp2_with fail
          go_roundw
          case rel => exact ⟨k + 1, by go_num, hlt, HR2, HBW, HIU, HIV⟩
          case measure => simp [intOf]; omega
      · obtain rfl : k = N := by omega
        have hr := run_text wr (some ⟨gB, 0, none⟩) _ TB.size cap (by rw [upTo_length, bl_length]) HRW.out.src
        rw [← HUB.out] at hr
        clear HRW HUB HLE
        go_wp2_with fail
        clear hr
        refine (CU.out _ (HP.out.below HBW.out)).mono ?_
        rintro e w21 ⟨rfl, b⟩
        have Iu21 := Lib.hid (HIU.out.kept (Turn.of_below (S := fun _ => False) b) (fun h => h))
        have Iv21 := Lib.hid (HIV.out.kept (Turn.of_below (S := fun _ => False) b) (fun h => h))
        have B21 := Lib.hid (HBW.out.trans (b.mono HBW.out.size))
        clear b HIU HIV HBW
        have Iu22 := Lib.hid (Iu21.out.alloc (.cells #[.string h0, .int .i64 (n : Int), .string q0] 23))
        have Iv22 := Lib.hid (Iv21.out.alloc (.cells #[.string h0, .int .i64 (n : Int), .string q0] 23))
        have B22 := Lib.hid (B21.out.alloc B21.out.size (.cells #[.string h0, .int .i64 (n : Int), .string q0] 23))
        have Iq22 := Lib.hid (Is.made w21 23 [.string h0, .int .i64 (n : Int), .string q0])
        clear Iu21 Iv21 B21
        go_upto_region 14 with fail
        generalize w21.alloc _ = w22 at *
        have yu0 : w22.cell? ⟨w.heap.size, 0, none⟩ = some (.string h0) := Iu22.out.cell 0
        have yu1 : w22.cell? ⟨w.heap.size, 1, none⟩ = some (.int .i64 (n : Int)) := Iu22.out.cell 1
        have yu2 : w22.cell? ⟨w.heap.size, 2, none⟩ = some (.string q0) := Iu22.out.cell 2
        have yv0 : w22.cell? ⟨w3.heap.size, 0, none⟩ = some (.string h0) := Iv22.out.cell 0
        have yv1 : w22.cell? ⟨w3.heap.size, 1, none⟩ = some (.int .i64 (n : Int)) := Iv22.out.cell 1
        have yv2 : w22.cell? ⟨w3.heap.size, 2, none⟩ = some (.string q0) := Iv22.out.cell 2
        have yq0 : w22.cell? ⟨w21.heap.size, 0, none⟩ = some (.string h0) := Iq22.out.cell 0
        have yq1 : w22.cell? ⟨w21.heap.size, 1, none⟩ = some (.int .i64 (n : Int)) := Iq22.out.cell 1
        have yq2 : w22.cell? ⟨w21.heap.size, 2, none⟩ = some (.string q0) := Iq22.out.cell 2
        go_wp2_with fail
        clear yu0 yu1 yu2
        clear yv0 yv1 yv2
        clear yq0 yq1 yq2
        clear Iu22
        clear Iv22
        clear Iq22
        cases rs with
        | none =>
          have C16 := CS.out _ rfl
          unfold UrlGot urlT at C16
          simp only at C16
          have D16 := Lib.hid C16
          clear C16 CS HPS
          refine (D16.out _ (HP.out.below B22.out)).mono ?_
          rintro e w23 ⟨rfl, b⟩
          have B23 := Lib.hid (B22.out.trans (b.mono B22.out.size))
          clear b B22
          have B24 := Lib.hid (B23.out.alloc B23.out.size (.cells #[.string ⟨#[]⟩, .int .i64 0, .string ⟨#[]⟩] 23))
          have Ix24 := Lib.hid (Is.made w23 23 [.string ⟨#[]⟩, .int .i64 0, .string ⟨#[]⟩])
          clear B23
          go_upto_region 17 with fail
          generalize w23.alloc _ = w24 at *
          have yx0 : w24.cell? ⟨w23.heap.size, 0, none⟩ = some (.string ⟨#[]⟩) := Ix24.out.cell 0
          have yx1 : w24.cell? ⟨w23.heap.size, 1, none⟩ = some (.int .i64 0) := Ix24.out.cell 1
          have yx2 : w24.cell? ⟨w23.heap.size, 2, none⟩ = some (.string ⟨#[]⟩) := Ix24.out.cell 2
          go_wp2_with fail
          clear yx0 yx1 yx2
          refine (wakes_any _ (HP.out.below B24.out)).mono ?_
          rintro e w25 ⟨rfl, b⟩
          have Ix25 := Lib.hid (Ix24.out.kept (Turn.of_below (S := fun _ => False) b) (fun h => h))
          have B25 := Lib.hid (B24.out.trans (b.mono B24.out.size))
          clear b Ix24 B24
          go_wp2_with fail
          go_ret
          exact ⟨rfl, B25.out⟩
        | some x =>
          obtain ⟨h', p', q'⟩ := x
          have hmv := HPS.out h' p' q' rfl
          obtain ⟨HB, rfl⟩ := of_list h'
          obtain ⟨QB, rfl⟩ := of_list q'
          obtain ⟨m1, m2, m3, m4, m5, m6⟩ := may_parts hmv
          obtain ⟨hbs, qbs⟩ := may_size hmv
          have C16 := CS.out _ rfl
          unfold UrlGot urlT at C16
          simp only [mk_bl] at C16
          have D16 := Lib.hid C16
          obtain ⟨T2, hT2⟩ := of_list (textF (bl HB) (p' : Int) (bl QB))
          have hT2s : T2.size ≤ 384 := by rw [← bl_length, hT2]; exact m6
          have CT2 := Lib.hid (fun (X : World) (hX : PowTab X) => text_at HB QB T2 (p' : Int) (by rw [hT2]; unfold textI; rw [if_pos hmv]) X (by omega) (by omega) ⟨by omega, by omega⟩ hX)
          have CP2 := Lib.hid (fun (X : World) (hX : PowTab X) => parse_at T2 HB QB (p' : Int) 0 (by rw [hT2, may_back hmv]; rfl) X (by omega) hX)
          obtain ⟨D2, hD2⟩ := of_list (authF (bl HB) (p' : Int))
          have hD2s : D2.size ≤ 401 := by
            have := auth_len (bl HB) (p' : Int)
            rw [← bl_length, hD2]
            rw [bl_length] at this
            omega
          have CH2 := Lib.hid (fun (X : World) (hX : PowTab X) => host_at HB QB D2 (p' : Int) (by rw [hD2]; unfold hostI; rw [if_pos hmv]) X (by omega) (by omega) ⟨by omega, by omega⟩ hX)
          have CM2 := Lib.hid (fun (X : World) (hX : PowTab X) => mayat_any HB QB (p' : Int) true hmv X (by omega) (by omega) ⟨by omega, by omega⟩ hX)
          have hlow : lowF (bl HB) = bl HB := low_named m1
          have CL2 := fun X : World => ty_lower HB X
          unfold Text at CL2
          rw [hlow, mk_bl] at CL2
          have CL3 := Lib.hid CL2
          have hq1 : 0 < QB.size := by
            have := congrArg List.length m4
            rw [List.length_take, bl_length] at this
            simp at this
            omega
          have hq2 : (0 : Int) < (QB.size : Int) := by omega
          have hq3 : (((QB[0]'hq1).toNat : Int) == 47) = true := by
            have := bl_take QB 0 hq1
            rw [Nat.zero_add, m4] at this
            have h47 : QB[0]'hq1 = 47 := by simpa using this.symm
            rw [h47]
            rfl
          have hcv := cmp_self HB QB (p' : Int)
          clear C16 CS HPS CL2 hlow m1 m2 m4 m5 m6
          refine (D16.out _ (HP.out.below B22.out)).mono ?_
          rintro e w23 ⟨rfl, b⟩
          have B23 := Lib.hid (B22.out.trans (b.mono B22.out.size))
          clear b B22
          have B24 := Lib.hid (B23.out.alloc B23.out.size (.cells #[.string HB, .int .i64 (p' : Int), .string QB] 23))
          have Ix24 := Lib.hid (Is.made w23 23 [.string HB, .int .i64 (p' : Int), .string QB])
          clear B23
          go_upto_region 17 with fail
          generalize w23.alloc _ = w24 at *
          have yx0 : w24.cell? ⟨w23.heap.size, 0, none⟩ = some (.string HB) := Ix24.out.cell 0
          have yx1 : w24.cell? ⟨w23.heap.size, 1, none⟩ = some (.int .i64 (p' : Int)) := Ix24.out.cell 1
          have yx2 : w24.cell? ⟨w23.heap.size, 2, none⟩ = some (.string QB) := Ix24.out.cell 2
          go_wp2_with fail
          clear yx0 yx1 yx2
          refine (CT2.out _ (HP.out.below B24.out)).mono ?_
          rintro e w25 ⟨rfl, b⟩
          have Ix25 := Lib.hid (Ix24.out.kept (Turn.of_below (S := fun _ => False) b) (fun h => h))
          have B25 := Lib.hid (B24.out.trans (b.mono B24.out.size))
          clear b Ix24 B24
          go_wp2_with fail
          refine (CP2.out _ (HP.out.below B25.out)).mono ?_
          rintro e w26 ⟨rfl, b⟩
          have Ix26 := Lib.hid (Ix25.out.kept (Turn.of_below (S := fun _ => False) b) (fun h => h))
          have B26 := Lib.hid (B25.out.trans (b.mono B25.out.size))
          clear b Ix25 B25
          have Ix27 := Lib.hid (Ix26.out.alloc (.cells #[.string HB, .int .i64 (p' : Int), .string QB] 23))
          have B27 := Lib.hid (B26.out.alloc B26.out.size (.cells #[.string HB, .int .i64 (p' : Int), .string QB] 23))
          have Iy27 := Lib.hid (Is.made w26 23 [.string HB, .int .i64 (p' : Int), .string QB])
          clear Ix26 B26
          go_upto_region 20 with fail
          generalize w26.alloc _ = w27 at *
          have yx0 : w27.cell? ⟨w23.heap.size, 0, none⟩ = some (.string HB) := Ix27.out.cell 0
          have yx1 : w27.cell? ⟨w23.heap.size, 1, none⟩ = some (.int .i64 (p' : Int)) := Ix27.out.cell 1
          have yx2 : w27.cell? ⟨w23.heap.size, 2, none⟩ = some (.string QB) := Ix27.out.cell 2
          go_wp2_with fail
          clear yx0 yx1 yx2
          refine (CH2.out _ (HP.out.below B27.out)).mono ?_
          rintro e w28 ⟨rfl, b⟩
          have Ix28 := Lib.hid (Ix27.out.kept (Turn.of_below (S := fun _ => False) b) (fun h => h))
          have Iy28 := Lib.hid (Iy27.out.kept (Turn.of_below (S := fun _ => False) b) (fun h => h))
          have B28 := Lib.hid (B27.out.trans (b.mono B27.out.size))
          clear b Ix27 Iy27 B27
          go_wp2_with fail
          by_cases h80 : p' = 80
          · have e80 : (((p' : Nat) : Int) == 80) = true := by simp; omega
            obtain ⟨a1, a2, a3, ha⟩ := authority_gen D2
            have CA1 := Lib.hid (fun (X : World) (hX : PowTab X) => authority_at D2 a1 a2 a3 ha X (by omega) hX)
            obtain ⟨E2, hE2⟩ : ∃ E2 : ByteArray, E2 = D2 ++ (⟨#[58, 56, 48]⟩ : ByteArray) := ⟨_, rfl⟩
            have hE3 : bl E2 = authF (bl HB) (p' : Int) ++ [58, 56, 48] := by rw [hE2, ← hD2]; simp [bl]
            have hE2s : E2.size ≤ 500 := by rw [← bl_length, hE3, ← hD2, List.length_append, bl_length]; simp; omega
            have CA2 := fun (X : World) (hX : PowTab X) => authority_at E2 HB (p' : Int) 0 (by rw [hE3, auth_usual hmv h80]; rfl) X (by omega) hX
            rw [hE2] at CA2
            have CA3 := Lib.hid CA2
            have z1 : ¬ 9223372036854775807 < D2.size + 3 := by omega
            clear ha hE2 hE3 hE2s CA2 h80
            refine (CA1.out _ (HP.out.below B28.out)).mono ?_
            rintro e w29 ⟨rfl, b⟩
            have Ix29 := Lib.hid (Ix28.out.kept (Turn.of_below (S := fun _ => False) b) (fun h => h))
            have Iy29 := Lib.hid (Iy28.out.kept (Turn.of_below (S := fun _ => False) b) (fun h => h))
            have B29 := Lib.hid (B28.out.trans (b.mono B28.out.size))
            clear b Ix28 Iy28 B28
            have yx0 : w29.cell? ⟨w23.heap.size, 0, none⟩ = some (.string HB) := Ix29.out.cell 0
            have yx1 : w29.cell? ⟨w23.heap.size, 1, none⟩ = some (.int .i64 (p' : Int)) := Ix29.out.cell 1
            have yx2 : w29.cell? ⟨w23.heap.size, 2, none⟩ = some (.string QB) := Ix29.out.cell 2
            go_wp2_with fail
            clear yx0 yx1 yx2
            refine (CH2.out _ (HP.out.below B29.out)).mono ?_
            rintro e w30 ⟨rfl, b⟩
            have Ix30 := Lib.hid (Ix29.out.kept (Turn.of_below (S := fun _ => False) b) (fun h => h))
            have Iy30 := Lib.hid (Iy29.out.kept (Turn.of_below (S := fun _ => False) b) (fun h => h))
            have B30 := Lib.hid (B29.out.trans (b.mono B29.out.size))
            clear b Ix29 Iy29 B29
            go_wp2_with fail
            refine (CA3.out _ (HP.out.below B30.out)).mono ?_
            rintro e w31 ⟨rfl, b⟩
            have Ix31 := Lib.hid (Ix30.out.kept (Turn.of_below (S := fun _ => False) b) (fun h => h))
            have Iy31 := Lib.hid (Iy30.out.kept (Turn.of_below (S := fun _ => False) b) (fun h => h))
            have B31 := Lib.hid (B30.out.trans (b.mono B30.out.size))
            clear b Ix30 Iy30 B30
            go_wp2_with fail
            have KB : ∀ X : World, Below w31.heap.size w31 X → (X.cell? ⟨w23.heap.size, 0, none⟩ = some (.string HB) ∧ X.cell? ⟨w23.heap.size, 1, none⟩ = some (.int .i64 (p' : Int)) ∧ X.cell? ⟨w23.heap.size, 2, none⟩ = some (.string QB) ∧ X.cell? ⟨w26.heap.size, 0, none⟩ = some (.string HB) ∧ X.cell? ⟨w26.heap.size, 1, none⟩ = some (.int .i64 (p' : Int)) ∧ X.cell? ⟨w26.heap.size, 2, none⟩ = some (.string QB)) := fun X hX => by
              have i1 := Ix31.out.kept (Turn.of_below (S := fun _ => False) hX) (fun h => h)
              have j1 := Iy31.out.kept (Turn.of_below (S := fun _ => False) hX) (fun h => h)
              exact ⟨i1.cell 0, i1.cell 1, i1.cell 2, j1.cell 0, j1.cell 1, j1.cell 2⟩
            have PB : ∀ X : World, Below w31.heap.size w31 X → PowTab X := fun X hX => (HP.out.below B31.out).below hX
            have BD : Below w31.heap.size w31 w31.drew := below_drewN (Below.refl _ _) 1
            have kD := KB _ BD
            have k0 := KB _ (Below.refl _ _)
            go_region_held3 (fun w' => (w'.cell? ⟨w23.heap.size, 0, none⟩ = some (.string HB) ∧ w'.cell? ⟨w23.heap.size, 1, none⟩ = some (.int .i64 (p' : Int)) ∧ w'.cell? ⟨w23.heap.size, 2, none⟩ = some (.string QB) ∧ w'.cell? ⟨w26.heap.size, 0, none⟩ = some (.string HB) ∧ w'.cell? ⟨w26.heap.size, 1, none⟩ = some (.int .i64 (p' : Int)) ∧ w'.cell? ⟨w26.heap.size, 2, none⟩ = some (.string QB))) (first | exact k0 | exact kD | exact k1 | exact k2 | exact k3 | go_keep)
              (first
                | (go_at_call 14
                   (with_reducible refine (CM2.out w31.drew (PB _ BD)).mono ?_)
                   rintro e m1 ⟨rfl, b1⟩
                   have B1 : Below w31.heap.size w31 m1 := BD.trans (b1.mono BD.size)
                   have k1 := KB _ B1)
                | (go_at_call 16
                   (with_reducible refine (CL3.out m1).mono ?_)
                   rintro e m2 ⟨rfl, b2⟩
                   have B2 : Below w31.heap.size w31 m2 := B1.trans (b2.mono B1.size)
                   have k2 := KB _ B2)
                | (go_at_call 12
                   (with_reducible refine (wakes_any m2 (PB _ B2)).mono ?_)
                   rintro e m3 ⟨rfl, b3⟩
                   have B3 : Below w31.heap.size w31 m3 := B2.trans (b3.mono B2.size)
                   have k3 := KB _ B3))
            all_goals
              go_wp2_with fail
              go_ret
              exact ⟨rfl, B31.out.trans (B3.mono B31.out.size)⟩
          · have e80 : (((p' : Nat) : Int) == 80) = false := by simp; omega
            have CA1 := Lib.hid (fun (X : World) (hX : PowTab X) => authority_at D2 HB (p' : Int) 0 (by rw [hD2, auth_back hmv h80]; rfl) X (by omega) hX)
            refine (CA1.out _ (HP.out.below B28.out)).mono ?_
            rintro e w29 ⟨rfl, b⟩
            have Ix29 := Lib.hid (Ix28.out.kept (Turn.of_below (S := fun _ => False) b) (fun h => h))
            have Iy29 := Lib.hid (Iy28.out.kept (Turn.of_below (S := fun _ => False) b) (fun h => h))
            have B29 := Lib.hid (B28.out.trans (b.mono B28.out.size))
            clear b Ix28 Iy28 B28
            have yx1 : w29.cell? ⟨w23.heap.size, 1, none⟩ = some (.int .i64 (p' : Int)) := Ix29.out.cell 1
            go_wp2_with fail
            clear yx1
            have KB : ∀ X : World, Below w29.heap.size w29 X → (X.cell? ⟨w23.heap.size, 0, none⟩ = some (.string HB) ∧ X.cell? ⟨w23.heap.size, 1, none⟩ = some (.int .i64 (p' : Int)) ∧ X.cell? ⟨w23.heap.size, 2, none⟩ = some (.string QB) ∧ X.cell? ⟨w26.heap.size, 0, none⟩ = some (.string HB) ∧ X.cell? ⟨w26.heap.size, 1, none⟩ = some (.int .i64 (p' : Int)) ∧ X.cell? ⟨w26.heap.size, 2, none⟩ = some (.string QB)) := fun X hX => by
              have i1 := Ix29.out.kept (Turn.of_below (S := fun _ => False) hX) (fun h => h)
              have j1 := Iy29.out.kept (Turn.of_below (S := fun _ => False) hX) (fun h => h)
              exact ⟨i1.cell 0, i1.cell 1, i1.cell 2, j1.cell 0, j1.cell 1, j1.cell 2⟩
            have PB : ∀ X : World, Below w29.heap.size w29 X → PowTab X := fun X hX => (HP.out.below B29.out).below hX
            have BD : Below w29.heap.size w29 w29.drew := below_drewN (Below.refl _ _) 1
            have kD := KB _ BD
            have k0 := KB _ (Below.refl _ _)
            go_region_held3 (fun w' => (w'.cell? ⟨w23.heap.size, 0, none⟩ = some (.string HB) ∧ w'.cell? ⟨w23.heap.size, 1, none⟩ = some (.int .i64 (p' : Int)) ∧ w'.cell? ⟨w23.heap.size, 2, none⟩ = some (.string QB) ∧ w'.cell? ⟨w26.heap.size, 0, none⟩ = some (.string HB) ∧ w'.cell? ⟨w26.heap.size, 1, none⟩ = some (.int .i64 (p' : Int)) ∧ w'.cell? ⟨w26.heap.size, 2, none⟩ = some (.string QB))) (first | exact k0 | exact kD | exact k1 | exact k2 | exact k3 | go_keep)
              (first
                | (go_at_call 14
                   (with_reducible refine (CM2.out w29.drew (PB _ BD)).mono ?_)
                   rintro e m1 ⟨rfl, b1⟩
                   have B1 : Below w29.heap.size w29 m1 := BD.trans (b1.mono BD.size)
                   have k1 := KB _ B1)
                | (go_at_call 16
                   (with_reducible refine (CL3.out m1).mono ?_)
                   rintro e m2 ⟨rfl, b2⟩
                   have B2 : Below w29.heap.size w29 m2 := B1.trans (b2.mono B1.size)
                   have k2 := KB _ B2)
                | (go_at_call 12
                   (with_reducible refine (wakes_any m2 (PB _ B2)).mono ?_)
                   rintro e m3 ⟨rfl, b3⟩
                   have B3 : Below w29.heap.size w29 m3 := B2.trans (b3.mono B2.size)
                   have k3 := KB _ B3))
            all_goals
              go_wp2_with fail
              go_ret
              exact ⟨rfl, B29.out.trans (B3.mono B29.out.size)⟩

end Go.Proofs.YthkcniimnaephaaDoor.Uri
