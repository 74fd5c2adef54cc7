/-
  What package date's Text answers.
  Conditions: those that each theorem names.
-/
import Derived.Test.YtdcbcjljmjnopaaGreatDoorDE
namespace Go.Proofs.YtdcbcjljmjnopaaGreatDoor
open Go.RowKit

/-- The tables and variables that package date's calls read. -/
structure DTabs (w : World) : Prop where
  pow : PowTab w
  mon : MonTab w
  day : DayTab w
  syn : SynVar w
theorem DTabs.below {w w' : World} (h : DTabs w) (hb : Below w.heap.size w w') : DTabs w' := ⟨h.pow.below hb, h.mon.below hb, h.day.below hb, h.syn.below hb⟩
/-- What Text answers. -/
def TextTold (p : List UInt8 × Nat) (w : World) (e : Ending) (w' : World) : Prop := e = .returned (.tuple #[.string ⟨p.1.toArray⟩, .int .i64 (p.2 : Int)]) ∧ Below w.heap.size w w'

set_option maxHeartbeats 4000000 in
theorem text_any (n : Nat) (w : World) (ht : DTabs w) : Calls Tryz.prog 53 #[.int .u64 (n : Int)] w (TextTold (textF n) w) := by
  by_cases hn : n ≤ LastN
  · have hd : n / 86400 ≤ 2932896 := by unfold LastN at hn; omega
    have i0 : ¬ (253402300799 : Int) < (n : Int) := by unfold LastN at hn; omega
    have hR : textF n = (wdN (n / 86400 % 7) ++ ([44, 32] ++ (dayTF (n / 86400) ++ ([32] ++ (clockF (n % 86400) ++ [32, 71, 77, 84])))), 0) := if_pos hn
    obtain ⟨k, hk⟩ : ∃ k, k = n / 86400 % 7 := ⟨_, rfl⟩
    have hk7 : k < 7 := by omega
    have wq : ((n : Int) / 86400).tmod 7 = (k : Int) := by
      rw [Int.tmod_eq_emod_of_nonneg (by omega)]
      omega
    have i1 : (0 : Int) ≤ (k : Int) := by omega
    have i2 : (k : Int) < 7 := by omega
    rw [← hk] at hR
    have HR := Lib.hid hR
    have C1 : ∀ X : World, Below w.heap.size w X → Calls Tryz.prog 78 #[.int .u64 ((n : Int) / 86400)] X (Since (dayTF (n / 86400)) w) := fun X hX => by
      rw [show (n : Int) / 86400 = ((n / 86400 : Nat) : Int) by omega]
      exact since_told hX (day_text (n / 86400) hd X (ht.pow.below hX) (ht.mon.below hX))
    have C2 : ∀ X : World, Below w.heap.size w X → Calls Tryz.prog 79 #[.int .u64 ((n : Int) % 86400)] X (Since (clockF (n % 86400)) w) := fun X hX => by
      rw [show (n : Int) % 86400 = ((n % 86400 : Nat) : Int) by omega]
      exact since_told hX (clock_any (n % 86400) (by omega) X (ht.pow.below hX))
    have C1 := Lib.hid C1
    have C2 := Lib.hid C2
    have hc0 := ht.day k hk7
    have YC := Lib.hid (fun (X : World) (hX : Below w.heap.size w X) => ((hX.cell (Lib.lt_of_cell hc0)).trans hc0 : X.cell? ⟨0, k, none⟩ = some (.string ⟨(wdN k).toArray⟩)))
    have l1 := wdN_len k hk7
    have l2 := dayTF_len (n / 86400)
    have l3 := clockF_len (n % 86400)
    have HB := Lib.hid (below_drewN (Below.refl w.heap.size w) 1)
    clear hR hc0 hn ht hk hk7
    generalize textF n = r at *
    generalize dayTF (n / 86400) = a at *
    generalize wdN k = b at *
    generalize clockF (n % 86400) = c at *
    have BD : Hid (Below w.heap.size w w.drew) := HB
    clear HB
    have y0 := YC.out w (Below.refl _ _)
    go_enter Tryz.func53, Tryz.ntmps53
    go_wp2_with fail
    go_region_held3 (fun w' => w'.cell? ⟨0, k, none⟩ = some (.string ⟨b.toArray⟩)) (first | exact y0 | exact y5 | exact y6 | go_keep)
      (first
        | (go_at_call 78; (with_reducible refine (C1.out w.drew BD.out).mono ?_); rintro e w5 ⟨rfl, b5⟩; have y5 := YC.out _ b5; have B5 := Lib.hid b5; clear b5)
        | (go_at_call 79; (with_reducible refine (C2.out _ B5.out).mono ?_); rintro e w6 ⟨rfl, b6⟩; have y6 := YC.out _ b6; have B6 := Lib.hid b6; clear b6))
    go_wp2_with fail
    go_ret2
    exact ⟨by rw [HR.out]; simp only [mk_append, List.append_assoc]; rfl, B6.out⟩
  · have i0 : (253402300799 : Int) < (n : Int) := by unfold LastN at hn; omega
    have hR : textF n = ([], 3) := if_neg hn
    rw [hR]
    clear hR hn ht
    go_enter Tryz.func53, Tryz.ntmps53
    go_wp2_with fail
    go_ret2
    exact ⟨rfl, Below.refl _ _⟩
end Go.Proofs.YtdcbcjljmjnopaaGreatDoor
