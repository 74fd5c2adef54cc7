/-
  What the law TextKnown answers, as a call.
  Conditions: none.
-/
import Derived.Test.YtilfflpjlakkpaaDoorTB
namespace Go.Proofs.YtilfflpjlakkpaaDoor
open Go.RowKit

def cntT (k : Nat) : Nat := ((List.range k).filter fun n => tokB (UInt8.ofNat n)).length
def cntS (k : Nat) : Nat := ((List.range k).filter fun n => shownB (UInt8.ofNat n)).length
theorem cntT_le (k : Nat) : cntT k ≤ k := by
  have := List.length_filter_le (fun n => tokB (UInt8.ofNat n)) (List.range k)
  simpa [cntT] using this
theorem cntS_le (k : Nat) : cntS k ≤ k := by
  have := List.length_filter_le (fun n => shownB (UInt8.ofNat n)) (List.range k)
  simpa [cntS] using this
theorem cntT_succ (k : Nat) : cntT (k + 1) = cntT k + if tokB (UInt8.ofNat k) then 1 else 0 := by
  unfold cntT
  rw [List.range_succ, List.filter_append, List.length_append]
  congr 1
  cases h : tokB (UInt8.ofNat k) <;> simp [h]
theorem cntS_succ (k : Nat) : cntS (k + 1) = cntS k + if shownB (UInt8.ofNat k) then 1 else 0 := by
  unfold cntS
  rw [List.range_succ, List.filter_append, List.length_append]
  congr 1
  cases h : shownB (UInt8.ofNat k) <;> simp [h]
theorem tokF_one (c : UInt8) : tokF [c] = tokB c := by simp [tokF]
theorem visF_one (c : UInt8) : visF [c] = shownB c := by simp [visF]
theorem ofNat_int (k : Nat) (h : k < 256) : (k : Int) = ((UInt8.ofNat k).toNat : Int) := by
  simp
  omega
theorem run_one_text (w : World) (k : Nat) (h : k < 256) : (convert 33 9 (.slice (some ⟨w.heap.size, 0, none⟩) 1 1)).run Tryd.prog (w.alloc (.cells #[.int .u8 (k : Int)] 5)) = .ok (.string ⟨[UInt8.ofNat k].toArray⟩) (w.alloc (.cells #[.int .u8 (k : Int)] 5)) :=
  run_made_text _ _ _ _ (own_one w (UInt8.ofNat k) k (ofNat_int k h))
def badL : List (List UInt8) := [[], [34], [97], [34, 97], [34, 97, 34, 98, 34], [34, 92, 34], [34, 1, 34]]
theorem bad_none (i : Nat) (l : List UInt8) (h : badL[i]? = some l) : unqF l = none ∧ l.length ≤ 10 := by
  have hm : l ∈ badL := List.mem_of_getElem? h
  clear h
  simp only [badL, List.mem_cons, List.not_mem_nil, or_false] at hm
  rcases hm with rfl | rfl | rfl | rfl | rfl | rfl | rfl <;> exact ⟨by decide, by decide⟩

theorem tx_lower_of (s : ByteArray) (l : List UInt8) (h : lowF (bl s) = l) (hs : s.size ≤ 1000000000) (w : World) : Calls Tryd.prog 16 #[.string s] w (Text l w) := by
  subst h
  exact tx_lower s w hs
/-- A list that is empty. -/
def NoList (w : World) (e : Ending) (w' : World) : Prop := ∃ A c, e = .returned (.slice A 0 c) ∧ Below w.heap.size w w'
theorem z_empty_list (s : ByteArray) (h : listF (bl s) = []) (hs : s.size ≤ 1000000000) (w : World) : Calls Tryd.prog 22 #[.string s] w (NoList w) := by
  refine (tx_list s w hs).mono fun e w' h' => ?_
  rw [h] at h'
  obtain ⟨v, o, rfl, hown, _, hb⟩ := h'
  obtain ⟨A, c, rfl, _⟩ := hown.src (fun _ => True) (fun _ _ => trivial)
  exact ⟨A, c, rfl, hb⟩

def KnownRel (w : World) (a b c : Value) (wx : World) : Prop := ∃ k : Nat, k ≤ 256 ∧ c = .int .i64 (k : Int) ∧ a = .int .i64 (cntT k : Nat) ∧ b = .int .i64 (cntS k : Nat) ∧ Below w.heap.size w wx

set_option maxRecDepth 100000 in
set_option maxHeartbeats 8000000 in
theorem text_known_true (w : World) : Calls Tryd.prog 9 #[] w fun e w' => e = .returned (.bool true) ∧ Below w.heap.size w w' := by
  go_enter Tryd.func9, Tryd.ntmps9
  go_wp2
  go_loopw [1, 2, 3] (fun a b c wx => KnownRel w a b c wx) (fun _ _ c _ => 256 - (intOf c).toNat)
  case atStart => exact ⟨0, by omega, rfl, rfl, rfl, Below.refl _ _⟩
  case round =>
    obtain ⟨k, hk, rfl, rfl, rfl, hB⟩ := hrel
    by_cases hlt : k < 256
    · have hr := run_one_text wr k hlt
      have h1 := cntT_le k
      have h2 := cntS_le k
      have H1 := Lib.hid (cntT_succ k)
      have H2 := Lib.hid (cntS_succ k)
      have CT := Lib.hid (fun X => z_token [UInt8.ofNat k] X (by simp))
      have CS := Lib.hid (fun X => z_visible [UInt8.ofNat k] X (by simp))
      rw [tokF_one] at CT
      rw [visF_one] at CS
      have B1 : Below w.heap.size w (wr.alloc (.cells #[.int .u8 (k : Int)] 5)) := hB.alloc hB.size _
      go_wp2_with fail
      refine (CT.out _).mono ?_
      rintro e w1 ⟨rfl, b1⟩
      have B2 := B1.trans (b1.mono (by have := hB.size; simp; omega))
      clear hr b1 B1
      cases htb : tokB (UInt8.ofNat k)
      all_goals
        rw [htb] at H1
        clear htb
        go_wp2_with fail
        refine (CS.out _).mono ?_
        rintro e w2 ⟨rfl, b2⟩
        have B3 := Below.more B2 b2
        cases hsb : shownB (UInt8.ofNat k)
        all_goals
          rw [hsb] at H2
          clear hsb
          go_wp2_with fail
          exact ⟨⟨k + 1, by omega, by simp, by rw [H1.out]; simp, by rw [H2.out]; simp, B3⟩, by simp [intOf]; omega⟩
    · obtain rfl : k = 256 := by omega
      have t1 : cntT 256 = 77 := by decide +kernel
      have t2 : cntS 256 = 224 := by decide +kernel
      rw [t1, t2]
      clear t1 t2
      go_wp2_with fail
      refine (tx_list_of _ [[34, 97, 44, 32, 98]] 1 (by decide) rfl (by omega) (by decide) wr).mono ?_
      rintro e w1 ⟨g1, c1, rfl, hg1, _, hc1, b1⟩
      have x1 := hc1 0 _ rfl
      clear hc1
      go_wp2_with fail
      refine (tx_pair_of _ none (by decide) (by decide) w1).mono ?_
      rintro e w2 ⟨rfl, b2⟩
      go_wp2_with fail
      refine (tx_pair_of _ none (by decide) (by decide) w2).mono ?_
      rintro e w3 ⟨rfl, b3⟩
      go_wp2_with fail
      refine (tx_pair_of _ (some ([120], [97])) (by decide) (by decide) w3).mono ?_
      rintro e w4 ⟨rfl, b4⟩
      have B4 := Below.more b2 (Below.more b3 b4)
      have x2 := (B4.cell (p := ⟨g1, 0, none⟩) hg1).trans x1
      have hg2 := Nat.lt_of_lt_of_le hg1 B4.size
      have hB4 := Below.more hB (Below.more b1 B4)
      clear x1 b1 b2 b3 b4 hB hg1 B4
      obtain ⟨w5, hw5⟩ : ∃ X, X = w4.alloc (.cells (strs badL).toArray 34) := ⟨_, rfl⟩
      have i5 : Is w5 w4.heap.size 34 (strs badL) := by rw [hw5]; exact Is.made w4 34 (strs badL)
      have b5 : Below w4.heap.size w4 w5 := by rw [hw5]; exact (Below.refl _ _).alloc (Nat.le_refl _) _
      have x3 := (b5.cell (p := ⟨g1, 0, none⟩) hg2).trans x2
      have hg3 := Nat.lt_of_lt_of_le hg2 b5.size
      have hB5 := Below.more hB4 b5
      have lt5 := i5.lt
      go_wp2_with fail
      change Code.wp _ _ _ _ (w4.alloc (.cells (strs badL).toArray 34))
      rw [← hw5]
      clear hw5 x2 hg2 hB4 b5
      obtain ⟨wo, hwo⟩ : ∃ X, X = wr := ⟨_, rfl⟩
      subst hwo
      go_loopw [16] (fun i wx => ∃ j : Nat, j ≤ 7 ∧ i = .int .i64 (j : Int) ∧ Below w5.heap.size w5 wx) (fun i _ => 7 - (intOf i).toNat)
      case atStart => exact ⟨0, by omega, rfl, Below.refl _ _⟩
      case round =>
        obtain ⟨j, hj, rfl, hBx⟩ := hrel
        by_cases hlj : j < 7
        · obtain ⟨l, hl⟩ : ∃ l, badL[j]? = some l := ⟨badL[j]'(by simpa [badL] using hlj), List.getElem?_eq_getElem _⟩
          obtain ⟨h1, h2⟩ := bad_none j l hl
          have hc : wr.cell? ⟨w4.heap.size, j, none⟩ = some (.string ⟨l.toArray⟩) := by
            rw [hBx.cell (p := ⟨w4.heap.size, j, none⟩) lt5, i5.cell]
            simp [strs, hl, strV]
          have C := Lib.hid (z_unquote l wr (by omega))
          rw [h1] at C
          clear hl h1
          go_wp2_with fail
          refine C.out.mono ?_
          rintro e w6 ⟨rfl, b6⟩
          go_wp2_with fail
          exact ⟨⟨j + 1, by omega, by simp, hBx.trans (b6.mono hBx.size)⟩, by simp [intOf]; omega⟩
        · have x4 := (hBx.cell (p := ⟨g1, 0, none⟩) hg3).trans x3
          have hB6 := Below.more hB5 hBx
          go_wp2_with fail
          refine (z_empty_list _ (by decide) (by decide) wr).mono ?_
          rintro e w7 ⟨A7, c7, rfl, b7⟩
          go_wp2_with fail
          refine (z_empty_list _ (by decide) (by decide) w7).mono ?_
          rintro e w8 ⟨A8, c8, rfl, b8⟩
          go_wp2_with fail
          refine (tx_lower_of _ [97, 122, 91, 64, 195, 137] (by decide) (by decide) w8).mono ?_
          rintro e w9 ⟨rfl, b9⟩
          go_wp2_with fail
          refine (wakes_true w9).mono ?_
          rintro e w10 ⟨rfl, b10⟩
          go_wp2_with fail
          go_ret
          exact ⟨rfl, Below.more hB6 (Below.more b7 (Below.more b8 (Below.more b9 b10)))⟩
end Go.Proofs.YtilfflpjlakkpaaDoor
