/-
  What package uri's Named and path do.
  Conditions: those that each theorem names; Go's table of powers of ten is as its text lays it.
-/
import Derived.Test.YtopanahgeeolbaaGreatDoorYH
import Derived.Test.YtopanahgeeolbaaGreatDoorYB
namespace Go.Proofs.YtopanahgeeolbaaGreatDoor.Uri
open Go.RowKit

theorem named_labels {l : List UInt8} (h : l.length ≤ 64) : namedF l = ((splitF 46 l).all labF && (!numericF (lastF (splitF 46 l)) || (decide ((splitF 46 l).length = 4) && (splitF 46 l).all octF))) := by
  unfold namedF
  rw [decide_eq_true h, Bool.true_and]
theorem last_at (ls : List (List UInt8)) (m : Nat) (h : ls.length = m + 1) : ls[m]? = some (lastF ls) := by
  unfold lastF
  rw [List.getLastD_eq_getLast?, List.getLast?_eq_getElem?, h, Nat.add_sub_cancel]
  rw [List.getElem?_eq_getElem (by omega)]
  rfl

set_option maxHeartbeats 4000000 in
theorem named_any (s : ByteArray) (w : World) (hp : PowTab w) : Calls Tryz.prog 81 #[.string s] w fun e w' => e = .returned (.bool (namedF (bl s))) ∧ Below w.heap.size w w' := by
  have HP := Lib.hid hp
  clear hp
  by_cases h64 : s.size ≤ 64
  · have e1 : ¬ (64 : Int) < (s.size : Int) := by omega
    have C1 := Lib.hid (split_any s 46 w (by omega))
    have HN := Lib.hid (named_labels (l := bl s) (by rw [bl_length]; exact h64))
    have hlen : (splitF 46 (bl s)).length ≤ 65 := by
      rw [splitF_count]
      have := List.count_le_length (a := (46 : UInt8)) (l := bl s)
      rw [bl_length] at this
      omega
    obtain ⟨m, hm⟩ : ∃ m, (splitF 46 (bl s)).length = m + 1 := ⟨(splitF 46 (bl s)).length - 1, by have := splitF_count 46 (bl s); omega⟩
    rw [hm] at hlen
    have HM := Lib.hid hm
    have HL := Lib.hid (last_at _ m hm)
    unfold SplitGot at C1
    rw [hm] at C1 HN
    clear hm
    generalize splitF 46 (bl s) = ls at *
    generalize lastF ls = x at *
    have c1 : IntKind.i64.wrap ((m + 1 : Nat) - 1 : Int) = (m : Int) := by rw [IntWalk.i64_in _ (by omega)]; omega
    have c2 : ((m + 1 : Nat) : Int) - 1 = (m : Int) := by omega
    have hat := Lib.hid (fun Wx => run_at 49 9 Tryz.underlying49 strSize ⟨w.heap.size, 0, none⟩ (m + 1) (m + 1) m (by omega) Wx)
    have CN := Lib.hid (fun X : World => numeric_any ⟨x.toArray⟩ X)
    rw [bl_mk] at CN
    cases hall : ls.all labF with
    | false =>
      have HR := Lib.hid (show namedF (bl s) = false by rw [HN.out, hall]; rfl)
      clear HN hat CN
      have CE := Lib.hid (fun (X : World) (hX : PowTab X) (hi : Is X w.heap.size 9 (strs ls)) => every_any 99 (.inl rfl) labF says_lab X (some ⟨w.heap.size, 0, none⟩) ls (m + 1) (m + 1) HM.out (by omega) (srcs_is hi 0) hX)
      rw [hall] at CE
      clear hall c1 c2
      go_enter Tryz.func81, Tryz.ntmps81
      go_wp2_with fail
      refine C1.out.mono ?_
      rintro e w1 ⟨rfl, i1, b1⟩
      go_wp2_with fail
      refine (CE.out w1 (HP.out.below b1) i1).mono ?_
      rintro e w2 ⟨rfl, b2⟩
      go_wp2_with fail
      go_ret
      exact ⟨ret_bool HR.out.symm, b1.trans (b2.mono b1.size)⟩
    | true =>
      rw [hall, Bool.true_and] at HN
      have CE := Lib.hid (fun (X : World) (hX : PowTab X) (hi : Is X w.heap.size 9 (strs ls)) => every_any 99 (.inl rfl) labF says_lab X (some ⟨w.heap.size, 0, none⟩) ls (m + 1) (m + 1) HM.out (by omega) (srcs_is hi 0) hX)
      rw [hall] at CE
      clear hall
      cases hnum : numericF x with
      | false =>
        have HR := Lib.hid (show namedF (bl s) = true by rw [HN.out, hnum]; rfl)
        rw [hnum] at CN
        clear HN hnum
        have at1 := hat.out
        go_enter Tryz.func81, Tryz.ntmps81
        go_wp2_with fail
        refine C1.out.mono ?_
        rintro e w1 ⟨rfl, i1, b1⟩
        have I1 := Lib.hid i1
        clear i1
        go_wp2_with fail
        refine (CE.out w1 (HP.out.below b1) I1.out).mono ?_
        rintro e w2 ⟨rfl, b2⟩
        have I2 := Lib.hid (I1.out.kept (Turn.of_below (S := fun _ => False) b2) (fun h => h))
        have y2 : w2.cell? ((⟨w.heap.size, 0, none⟩ : Addr).add m) = some (.string ⟨x.toArray⟩) := by
          rw [add_at, Nat.zero_add, I2.out.cell]
          simp [strs, HL.out, strV]
        have B2 := Lib.hid (b1.trans (b2.mono b1.size))
        clear b1 b2
        generalize (⟨w.heap.size, 0, none⟩ : Addr).add m = p at *
        go_wp2_with fail
        refine (CN.out _).mono ?_
        rintro e w3 ⟨rfl, b3⟩
        go_wp2_with fail
        go_ret
        exact ⟨ret_bool HR.out.symm, B2.out.trans (b3.mono B2.out.size)⟩
      | true =>
        rw [hnum] at CN
        rw [hnum, Bool.not_true, Bool.false_or] at HN
        clear hnum
        by_cases h4 : m = 3
        · subst h4
          have HR := Lib.hid (show namedF (bl s) = ls.all octF by rw [HN.out]; rfl)
          have CO := Lib.hid (fun (X : World) (hX : PowTab X) (hi : Is X w.heap.size 9 (strs ls)) => every_any 101 (.inr (.inl rfl)) octF says_oct X (some ⟨w.heap.size, 0, none⟩) ls (3 + 1) (3 + 1) HM.out (by omega) (srcs_is hi 0) hX)
          generalize ls.all octF = b at *
          clear HN
          have at1 := hat.out
          go_enter Tryz.func81, Tryz.ntmps81
          go_wp2_with fail
          refine C1.out.mono ?_
          rintro e w1 ⟨rfl, i1, b1⟩
          have I1 := Lib.hid i1
          clear i1
          go_wp2_with fail
          refine (CE.out w1 (HP.out.below b1) I1.out).mono ?_
          rintro e w2 ⟨rfl, b2⟩
          have I2 := Lib.hid (I1.out.kept (Turn.of_below (S := fun _ => False) b2) (fun h => h))
          have y2 : w2.cell? ⟨w.heap.size, 3, none⟩ = some (.string ⟨x.toArray⟩) := by
            rw [I2.out.cell]
            simp [strs, HL.out, strV]
          have B2 := Lib.hid (b1.trans (b2.mono b1.size))
          clear b1 b2
          go_wp2_with fail
          refine (CN.out _).mono ?_
          rintro e w3 ⟨rfl, b3⟩
          have I3 := Lib.hid (I2.out.kept (Turn.of_below (S := fun _ => False) b3) (fun h => h))
          have B3 := Lib.hid (B2.out.trans (b3.mono B2.out.size))
          clear b3
          go_wp2_with fail
          refine (CO.out w3 (HP.out.below B3.out) I3.out).mono ?_
          rintro e w4 ⟨rfl, b4⟩
          go_wp2_with fail
          go_ret
          exact ⟨ret_bool HR.out.symm, B3.out.trans (b4.mono B3.out.size)⟩
        · have HR := Lib.hid (show namedF (bl s) = false by rw [HN.out, decide_eq_false (by omega)]; rfl)
          have e4 : (((m + 1 : Nat) : Int) == 4) = false := by simp; omega
          clear HN
          have at1 := hat.out
          go_enter Tryz.func81, Tryz.ntmps81
          go_wp2_with fail
          refine C1.out.mono ?_
          rintro e w1 ⟨rfl, i1, b1⟩
          have I1 := Lib.hid i1
          clear i1
          go_wp2_with fail
          refine (CE.out w1 (HP.out.below b1) I1.out).mono ?_
          rintro e w2 ⟨rfl, b2⟩
          have I2 := Lib.hid (I1.out.kept (Turn.of_below (S := fun _ => False) b2) (fun h => h))
          have y2 : w2.cell? ((⟨w.heap.size, 0, none⟩ : Addr).add m) = some (.string ⟨x.toArray⟩) := by
            rw [add_at, Nat.zero_add, I2.out.cell]
            simp [strs, HL.out, strV]
          have B2 := Lib.hid (b1.trans (b2.mono b1.size))
          clear b1 b2
          generalize (⟨w.heap.size, 0, none⟩ : Addr).add m = p at *
          go_wp2_with fail
          refine (CN.out _).mono ?_
          rintro e w3 ⟨rfl, b3⟩
          go_wp2_with fail
          go_ret
          exact ⟨ret_bool HR.out.symm, B2.out.trans (b3.mono B2.out.size)⟩
  · have e1 : (64 : Int) < (s.size : Int) := by omega
    have HR := Lib.hid (show namedF (bl s) = false by unfold namedF; rw [bl_length, decide_eq_false h64]; rfl)
    clear h64
    go_enter Tryz.func81, Tryz.ntmps81
    go_wp2_with fail
    go_ret
    exact ⟨ret_bool HR.out.symm, Below.refl _ _⟩

/-- l[k:] of texts. -/
theorem run_cutS (A : Option Addr) (n c k : Nat) (hk : k ≤ n) (hn : n ≤ c) : ∃ A', (∀ W : World, (Instr.slice 49 (.slice A n c) (some (.int .i64 (k : Int))) none none).run Tryz.prog W = .ok (.slice A' (n - k) (c - k)) W) ∧
    (0 < n - k → A' = A.map (·.add k)) := by
  refine ⟨if c = k then A else A.map (·.add (k * 1)), fun W => ?_, fun h => ?_⟩
  · have h1 : ¬ n < k := by omega
    simp [Instr.slice, run_underlying Tryz.underlying49, Instr.sliceBounds, Instr.sliceBound, asIntOf, h1]
  · rw [if_neg (by omega), Nat.mul_one]
end Go.Proofs.YtopanahgeeolbaaGreatDoor.Uri
