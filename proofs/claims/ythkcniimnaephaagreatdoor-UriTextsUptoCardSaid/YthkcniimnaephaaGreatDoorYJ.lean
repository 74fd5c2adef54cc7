/-
  What package uri's Authority, authorityOf, write do.
  Conditions: those that each theorem names; Go's table of powers of ten is as its text lays it.
-/
import Derived.Test.YthkcniimnaephaaGreatDoorYI
import Derived.Test.YthkcniimnaephaaGreatDoorUD
import Derived.Test.YthkcniimnaephaaGreatDoorYF
import Derived.Deep.RegionHeld3
namespace Go.Proofs.YthkcniimnaephaaGreatDoor.Uri
open Go.RowKit

/-- What Authority tells. -/
def auV (r : Option (List UInt8 × Nat)) : List UInt8 × Int × Int := match r with
  | none => ([], 0, 23)
  | some (h, p) => (h, (p : Int), 0)
def AuGot (x : List UInt8 × Int × Int) (w : World) (e : Ending) (w' : World) : Prop := e = .returned (.tuple #[.string ⟨x.1.toArray⟩, .int .i64 x.2.1, .int .i64 x.2.2]) ∧ Below w.heap.size w w'
theorem size_mk (l : List UInt8) : (⟨l.toArray⟩ : ByteArray).size = l.length := by rw [← bl_length, bl_mk]
theorem cutC_len (d : UInt8) : ∀ l : List UInt8, (cutC d l).1.length ≤ l.length ∧ (cutC d l).2.length ≤ l.length
  | [] => ⟨Nat.le_refl _, Nat.le_refl _⟩
  | c :: l => by
    have := cutC_len d l
    unfold cutC
    split <;> simp <;> omega
theorem cutA_len : ∀ l : List UInt8, (cutA l).1.length ≤ l.length ∧ (cutA l).2.length ≤ l.length
  | [] => ⟨Nat.le_refl _, Nat.le_refl _⟩
  | c :: l => by
    have := cutA_len l
    unfold cutA
    split <;> simp <;> omega
set_option maxHeartbeats 4000000 in
theorem authority_any (s : ByteArray) (w : World) (hs : s.size ≤ 1125899906842624) (hp : PowTab w) : Calls Tryz.prog 31 #[.string s] w (AuGot (auV (authorityF (bl s))) w) := by
  have C1 := cut_any s w hs
  have HA := Lib.hid (show authorityF (bl s) = match numbF 65535 (cutC 58 (bl s)).2 with
    | none => none
    | some p => if p = 0 then none else if namedF (lowF (cutC 58 (bl s)).1) = true then some (lowF (cutC 58 (bl s)).1, p) else none from rfl)
  unfold CutGot at C1
  generalize authorityF (bl s) = r at *
  generalize (cutC 58 (bl s)).1 = a at *
  generalize (cutC 58 (bl s)).2 = d at *
  have D1 := Lib.hid C1
  have CL := Lib.hid (fun X : World => ty_lower ⟨a.toArray⟩ X)
  unfold Text at CL
  rw [bl_mk] at CL
  have CN := Lib.hid (fun (X : World) (hX : PowTab X) => number_any ⟨d.toArray⟩ 65535 X (by omega) hX)
  rw [bl_mk] at CN
  have CH := Lib.hid (fun (X : World) (hX : PowTab X) => named_any ⟨(lowF a).toArray⟩ X hX)
  rw [bl_mk] at CH
  have HP := Lib.hid hp
  clear C1 hp hs
  generalize lowF a = la at *
  cases hn : numbF 65535 d with
  | none =>
    rw [hn] at HA CN
    have HR := Lib.hid (show r = none from HA.out)
    clear hn HA
    go_enter Tryz.func31, Tryz.ntmps31
    go_wp2_with fail
    refine D1.out.mono ?_
    rintro e w1 ⟨f, rfl, b1⟩
    go_wp2_with fail
    refine (CL.out _).mono ?_
    rintro e w2 ⟨rfl, b2⟩
    have B2 := Lib.hid (b1.trans (b2.mono b1.size))
    clear b1 b2
    go_wp2_with fail
    refine (CN.out _ (HP.out.below B2.out)).mono ?_
    rintro e w3 ⟨rfl, b3⟩
    rw [show numV (none : Option Nat) = .tuple #[.int .i64 0, .bool false] from rfl]
    go_wp2_with fail
    go_ret3
    exact ⟨by rw [HR.out]; rfl, B2.out.trans (b3.mono B2.out.size)⟩
  | some p =>
    rw [hn] at HA CN
    simp only at HA
    clear hn
    by_cases h0 : p = 0
    · subst h0
      have HR := Lib.hid (show r = none by rw [HA.out, if_pos rfl])
      clear HA
      go_enter Tryz.func31, Tryz.ntmps31
      go_wp2_with fail
      refine D1.out.mono ?_
      rintro e w1 ⟨f, rfl, b1⟩
      go_wp2_with fail
      refine (CL.out _).mono ?_
      rintro e w2 ⟨rfl, b2⟩
      have B2 := Lib.hid (b1.trans (b2.mono b1.size))
      clear b1 b2
      go_wp2_with fail
      refine (CN.out _ (HP.out.below B2.out)).mono ?_
      rintro e w3 ⟨rfl, b3⟩
      rw [show numV (some 0) = .tuple #[.int .i64 0, .bool true] from rfl]
      go_wp2_with fail
      go_ret3
      exact ⟨by rw [HR.out]; rfl, B2.out.trans (b3.mono B2.out.size)⟩
    · have e0 : ((p : Int) == 0) = false := by simp; omega
      rw [if_neg h0] at HA
      cases hh : namedF la with
      | false =>
        rw [hh] at HA CH
        have HR := Lib.hid (show r = none by rw [HA.out, if_neg (by simp)])
        clear HA hh
        go_enter Tryz.func31, Tryz.ntmps31
        go_wp2_with fail
        refine D1.out.mono ?_
        rintro e w1 ⟨f, rfl, b1⟩
        go_wp2_with fail
        refine (CL.out _).mono ?_
        rintro e w2 ⟨rfl, b2⟩
        have B2 := Lib.hid (b1.trans (b2.mono b1.size))
        clear b1 b2
        go_wp2_with fail
        refine (CN.out _ (HP.out.below B2.out)).mono ?_
        rintro e w3 ⟨rfl, b3⟩
        have B3 := Lib.hid (B2.out.trans (b3.mono B2.out.size))
        clear b3 B2
        rw [show numV (some p) = .tuple #[.int .i64 (p : Int), .bool true] from rfl]
        go_wp2_with fail
        refine (CH.out _ (HP.out.below B3.out)).mono ?_
        rintro e w4 ⟨rfl, b4⟩
        go_wp2_with fail
        go_ret3
        exact ⟨by rw [HR.out]; rfl, B3.out.trans (b4.mono B3.out.size)⟩
      | true =>
        rw [hh] at HA CH
        have HR := Lib.hid (show r = some (la, p) by rw [HA.out, if_pos rfl])
        clear HA hh
        go_enter Tryz.func31, Tryz.ntmps31
        go_wp2_with fail
        refine D1.out.mono ?_
        rintro e w1 ⟨f, rfl, b1⟩
        go_wp2_with fail
        refine (CL.out _).mono ?_
        rintro e w2 ⟨rfl, b2⟩
        have B2 := Lib.hid (b1.trans (b2.mono b1.size))
        clear b1 b2
        go_wp2_with fail
        refine (CN.out _ (HP.out.below B2.out)).mono ?_
        rintro e w3 ⟨rfl, b3⟩
        have B3 := Lib.hid (B2.out.trans (b3.mono B2.out.size))
        clear b3 B2
        rw [show numV (some p) = .tuple #[.int .i64 (p : Int), .bool true] from rfl]
        go_wp2_with fail
        refine (CH.out _ (HP.out.below B3.out)).mono ?_
        rintro e w4 ⟨rfl, b4⟩
        go_wp2_with fail
        go_ret3
        exact ⟨by rw [HR.out]; rfl, B3.out.trans (b4.mono B3.out.size)⟩

/-! ## A URL's text -/
def I64 (n : Int) : Prop := -9223372036854775808 ≤ n ∧ n ≤ 9223372036854775807
theorem port_write (p : Int) (hp : I64 p) : ∃ n : Nat, IntKind.u64.wrap p = (n : Int) ∧ n < 18446744073709551616 ∧ (writeF 10 n).1 = portL p := by
  obtain ⟨h1, h2⟩ := hp
  by_cases h0 : 0 ≤ p
  · refine ⟨p.toNat, ?_, by omega, ?_⟩
    · rw [IntKind.wrap_u64]; omega
    · unfold writeF portL Most
      by_cases hm : p ≤ 9007199254740991
      · rw [if_pos (by omega), if_pos ⟨h0, hm⟩]
      · rw [if_neg (by omega), if_neg (fun h => hm h.2)]
  · refine ⟨(p + 18446744073709551616).toNat, ?_, by omega, ?_⟩
    · rw [IntKind.wrap_u64]; omega
    · unfold writeF portL Most
      rw [if_neg (by omega), if_neg (fun h => h0 h.1)]
theorem port_len (p : Int) : (portL p).length ≤ 16 := by
  unfold portL
  split
  · rename_i h
    exact numG_length 10 (by omega) (p.toNat + 1) p.toNat 15 (by show p.toNat < 10000000000000000; omega)
  · simp
theorem auth_len (h : List UInt8) (p : Int) : (authF h p).length ≤ h.length + 17 := by
  unfold authF
  have := port_len p
  split
  · omega
  · simp; omega
set_option maxHeartbeats 4000000 in
theorem authof_any (h q : ByteArray) (p : Int) (w : World) (hh : h.size ≤ 1125899906842624) (hp : I64 p) (ht : PowTab w) : Calls Tryz.prog 30 #[.agg #[.string h, .int .i64 p, .string q]] w fun e w' => e = .returned (.string ⟨(authF (bl h) p).toArray⟩) ∧ Below w.heap.size w w' := by
  have hb : Below w.heap.size w (w.alloc (.cells #[.string h, .int .i64 p, .string q] 23)) := (Below.refl _ w).alloc (Nat.le_refl _) _
  have HB := Lib.hid hb
  have HP := Lib.hid ht
  obtain ⟨n, hn1, hn2, hn3⟩ := port_write p hp
  have CT := fun (X : World) (hX : PowTab X) => text_any n X hX
  unfold Wrote at CT
  rw [hn3] at CT
  obtain ⟨k, hk⟩ : ∃ k : Int, ((writeF 10 n).2 : Int) = k := ⟨_, rfl⟩
  rw [hk] at CT
  have C := Lib.hid CT
  have HA := Lib.hid (show authF (bl h) p = if p = 80 then bl h else bl h ++ 58 :: portL p from rfl)
  have hD := port_len p
  clear hn2 hn3 hk CT ht hb
  generalize portL p = D at *
  by_cases h8 : p = 80
  · subst h8
    have HR := Lib.hid (show authF (bl h) 80 = bl h by rw [HA.out, if_pos rfl])
    clear HA hn1
    go_enter Tryz.func30, Tryz.ntmps30
    go_wp2_with fail
    go_ret
    exact ⟨by rw [HR.out, mk_bl]; rfl, HB.out⟩
  · have HR := Lib.hid (show authF (bl h) p = bl h ++ 58 :: D by rw [HA.out, if_neg h8])
    have e8 : (p == 80) = false := by simpa using h8
    clear HA h8
    have z1 : ¬ 9223372036854775807 < h.size + 1 := by omega
    have z2 : ¬ 9223372036854775807 < h.size + 1 + D.length := by omega
    go_enter Tryz.func30, Tryz.ntmps30
    go_wp2_with fail
    refine (C.out _ (HP.out.below HB.out)).mono ?_
    rintro e w1 ⟨rfl, b1⟩
    have i0 := (Is.made w 23 [.string h, .int .i64 p, .string q]).kept (Turn.of_below (S := fun _ => False) b1) (fun h => h)
    have y0 : w1.cell? ⟨w.heap.size, 0, none⟩ = some (.string h) := i0.cell 0
    have B1 := Lib.hid (HB.out.trans (b1.mono HB.out.size))
    clear b1 i0
    go_wp2_with fail
    go_ret
    refine ⟨?_, B1.out⟩
    rw [HR.out, ← mk_bl (h ++ (⟨#[58]⟩ : ByteArray) ++ ⟨D.toArray⟩)]
    simp [bl]
set_option maxHeartbeats 4000000 in
theorem write_any (h q : ByteArray) (p : Int) (w : World) (hh : h.size ≤ 1125899906842624) (hq : q.size ≤ 1125899906842624) (hp : I64 p) (ht : PowTab w) : Calls Tryz.prog 17 #[.agg #[.string h, .int .i64 p, .string q]] w fun e w' => e = .returned (.string ⟨(textF (bl h) p (bl q)).toArray⟩) ∧ Below w.heap.size w w' := by
  have hb : Below w.heap.size w (w.alloc (.cells #[.string h, .int .i64 p, .string q] 23)) := (Below.refl _ w).alloc (Nat.le_refl _) _
  have i0 := Is.made w 23 [.string h, .int .i64 p, .string q]
  have HB := Lib.hid (show Below w.heap.size w (w.alloc (.cells #[.string h, .int .i64 p, .string q] 23)).drew from below_drewN hb 1)
  have CA := Lib.hid (fun (X : World) (hX : PowTab X) => authof_any h q p X hh hp hX)
  have HT := Lib.hid (show textF (bl h) p (bl q) = httpL ++ authF (bl h) p ++ bl q from rfl)
  have HP := Lib.hid ht
  have hkeep : ∀ X : World, Below (w.alloc (.cells #[.string h, .int .i64 p, .string q] 23)).drew.heap.size (w.alloc (.cells #[.string h, .int .i64 p, .string q] 23)).drew X → (X.cell? ⟨w.heap.size, 0, none⟩ = some (.string h) ∧ X.cell? ⟨w.heap.size, 1, none⟩ = some (.int .i64 p) ∧ X.cell? ⟨w.heap.size, 2, none⟩ = some (.string q)) := fun X hX => by
    have i1 := i0.drew.kept (Turn.of_below (S := fun _ => False) hX) (fun h => h)
    exact ⟨i1.cell 0, i1.cell 1, i1.cell 2⟩
  have k0 := hkeep _ (Below.refl _ _)
  have KE := Lib.hid hkeep
  clear hkeep
  have hD := auth_len (bl h) p
  rw [bl_length] at hD
  generalize authF (bl h) p = D at *
  have z1 : ¬ 9223372036854775807 < 7 + D.length := by omega
  have z2 : ¬ 9223372036854775807 < 7 + D.length + q.size := by omega
  clear hb hp ht i0
  go_enter Tryz.func17, Tryz.ntmps17
  go_wp2_with fail
  go_region_held3 (fun w' => w'.cell? ⟨w.heap.size, 0, none⟩ = some (.string h) ∧ w'.cell? ⟨w.heap.size, 1, none⟩ = some (.int .i64 p) ∧ w'.cell? ⟨w.heap.size, 2, none⟩ = some (.string q)) (first | exact k0 | exact k5 | go_keep)
    (first
      | (go_at_call 30; (with_reducible refine (CA.out (w.alloc (.cells #[.string h, .int .i64 p, .string q] 23)).drew (HP.out.below HB.out)).mono ?_); rintro e w5 ⟨rfl, b5⟩; have k5 := KE.out w5 b5; have B5 := Lib.hid (HB.out.trans (b5.mono HB.out.size))))
  go_wp2_with fail
  go_ret
  refine ⟨?_, B5.out⟩
  rw [HT.out, ← mk_bl ((⟨#[104, 116, 116, 112, 58, 47, 47]⟩ : ByteArray) ++ ⟨D.toArray⟩ ++ q)]
  simp [bl, httpL]
end Go.Proofs.YthkcniimnaephaaGreatDoor.Uri
