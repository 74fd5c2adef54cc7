/-
  The law HeadKnown: walk.
  Conditions: none.
-/
import Derived.Test.YtdggfonbjhejoaaDoorLA
namespace Go.Proofs.YtdggfonbjhejoaaDoor
open Go.RowKit

theorem bl_app (a b : ByteArray) : bl (a ++ b) = bl a ++ bl b := by simp [bl, ByteArray.data_append]
theorem size_app (a b : ByteArray) : (a ++ b).size = a.size + b.size := by rw [← bl_length, bl_app, List.length_append, bl_length, bl_length]
/-- What is told of a text's bytes. -/
theorem parse_str (HC : HeadC) (s : ByteArray) (R : List Fld × Nat × Nat) (hR : parseH (bl s) = R) (k : Nat) (hk : s.size = k) (hs : k ≤ 100000) (X : World) : ∃ (cap : Nat) (w1 : World), (convert 9 22 (.string s)).run Tryd.prog X = .ok (.slice (some ⟨X.heap.size, 0, none⟩) k cap) w1 ∧
    Calls Tryd.prog 9 #[.slice (some ⟨X.heap.size, 0, none⟩) k cap] w1 (HeadGot R X) := by
  subst hk
  obtain ⟨cap, w1, hrun, row, hb, _⟩ := run_to_bytes X s
  have h2 := Lib.run_convert_string_bytes (P := Tryd.prog) X 9 22 5 s Tryd.underlying9 Tryd.underlying22 Tryd.underlying5
  rw [hrun] at h2
  have hz : s.size ≤ cap := by
    injection h2 with h3 _
    injection h3 with _ _ h4
    rw [h4]
    exact grownCap_ge X s.size 0 5
  refine ⟨cap, w1, hrun, ?_⟩
  rw [← hR]
  refine (HC.parse w1 _ (bl s) s.size cap (bl_length s) hz (by omega) row.src).mono ?_
  rintro e w' ⟨v, o, h1, h2, h3, h4⟩
  exact ⟨v, o, h1, h2, fun b hb' => Nat.le_trans hb.size (h3 b hb'), hb.trans (h4.mono hb.size)⟩
def lineOf (k : Nat) : List UInt8 := 97 :: 58 :: List.replicate k 98
theorem lineOf_length (k : Nat) : (lineOf k).length = k + 2 := by simp [lineOf]
theorem lineOf_succ (k : Nat) : lineOf k ++ [98] = lineOf (k + 1) := by simp [lineOf, List.replicate_succ']
def fieldsOf (k : Nat) : List UInt8 := (List.replicate k [97, 58, 13, 10]).flatten
theorem fieldsOf_length (k : Nat) : (fieldsOf k).length = 4 * k := by
  unfold fieldsOf
  simp [List.length_flatten]
  omega
theorem fieldsOf_succ (k : Nat) : fieldsOf k ++ [97, 58, 13, 10] = fieldsOf (k + 1) := by
  unfold fieldsOf
  rw [List.replicate_succ']
  simp
theorem known_a : (parseH (lineOf 510 ++ [13, 10, 13, 10])).2.2 = 0 := by decide +kernel
theorem known_b : (parseH (lineOf 510 ++ [98])).2.2 = 21 := by decide +kernel
theorem known_c : (parseH (fieldsOf 32 ++ [13, 10])).2.2 = 0 := by decide +kernel
theorem known_d : (parseH (fieldsOf 32 ++ [97])).2.2 = 21 := by decide +kernel
theorem known_e : (parseH (fieldsOf 32 ++ [32])).2.2 = 21 := by decide +kernel
def threeL : List UInt8 := lineOf 510 ++ [13, 10] ++ lineOf 510 ++ [13, 10] ++ lineOf 510 ++ [13, 10]
theorem known_f : (parseH (threeL ++ (lineOf 510).take 502 ++ [13, 10, 13, 10])).2 = (2048, 0) := by decide +kernel
theorem known_g : (parseH (threeL ++ (lineOf 510).take 502 ++ [98, 13, 10, 13, 10])).2.2 = 21 := by decide +kernel
theorem known_h : (parseH (threeL ++ (lineOf 510).take 502 ++ [98, 13, 10, 13])).2.2 = 8 := by decide +kernel
theorem len_f : (threeL ++ (lineOf 510).take 502 ++ [13, 10, 13, 10]).length = 2048 := by decide +kernel
theorem len_g : (threeL ++ (lineOf 510).take 502 ++ [98, 13, 10, 13, 10]).length = 2049 := by decide +kernel
theorem len_h : (threeL ++ (lineOf 510).take 502 ++ [98, 13, 10, 13]).length = 2048 := by decide +kernel
theorem known_may : mayF [([97], ((lineOf 510).drop 2).take (512 - 2) ++ [98])] = false := by decide +kernel
theorem known_may0 : mayF [] = true := by decide +kernel
theorem known_may2 : mayF [([97], [32, 98])] = false := by decide +kernel
theorem known_put : putF [] = some [13, 10] := by decide +kernel
theorem srcf_str (w : World) (a b : ByteArray) : SrcF (w.alloc (.cells #[.string a, .string b] 45)) (fun _ => True) (some ⟨w.heap.size, 0, none⟩) [(bl a, bl b)] := fun _ => by
  have hi := Is.made w 45 [.string a, .string b]
  refine ⟨_, rfl, trivial, by simp, fun i g hg => ?_⟩
  match i, hg with
  | 0, hg =>
    obtain rfl : (bl a, bl b) = g := by simpa using hg
    rw [Nat.zero_mul, add_at, add_at]
    unfold strV
    rw [mk_bl, mk_bl]
    exact ⟨hi.cell 0, hi.cell 1⟩

/-- Texts of which this is told, in an array. -/
def TextsAt (W : World) (g n e : Nat) : Prop := ∀ j, j < n → ∃ s : ByteArray, W.cell? ⟨g, j, none⟩ = some (.string s) ∧ (parseH (bl s)).2.2 = e ∧ s.size ≤ 100
theorem told_of {s : ByteArray} {e : Nat} (h : (parseH (bl s)).2.2 = e) : ∃ l n, parseH (bl s) = (l, n, e) := ⟨(parseH (bl s)).1, (parseH (bl s)).2.1, by rw [← h]⟩

set_option maxHeartbeats 16000000 in
set_option maxRecDepth 100000 in
theorem known_law (HC : HeadC) (w : World) : Calls Tryd.prog 8 #[] w fun e w' => e = .returned (.bool true) ∧ Below w.heap.size w w' := by
  go_enter Tryd.func8, Tryd.ntmps8
  go_wp2_with fail
  generalize hW : World.alloc w _ = W0
  have HB0 : Hid (Below w.heap.size w W0) := Lib.hid (by rw [← hW]; exact (Below.refl _ _).alloc (Nat.le_refl _) _)
  have HBAD : Hid (TextsAt W0 w.heap.size 13 20) := Lib.hid (by
    intro j hj
    rw [← hW, World.cell?_alloc_new]
    rcases (show j = 0 ∨ j = 1 ∨ j = 2 ∨ j = 3 ∨ j = 4 ∨ j = 5 ∨ j = 6 ∨ j = 7 ∨ j = 8 ∨ j = 9 ∨ j = 10 ∨ j = 11 ∨ j = 12 by omega) with rfl | rfl | rfl | rfl | rfl | rfl | rfl | rfl | rfl | rfl | rfl | rfl | rfl
    all_goals exact ⟨_, rfl, by decide +kernel, by decide⟩)
  clear hW
  generalize Value.agg _ = ag
  go_loopw [2] (fun vi wr => ∃ k : Nat, vi = .int .i64 (k : Int) ∧ k ≤ 13 ∧ Hid (Below W0.heap.size W0 wr)) (fun vi _ => 13 - (intOf vi).toNat)
  case atStart => exact ⟨0, rfl, Nat.zero_le _, Lib.hid (Below.refl _ _)⟩
  case round =>
    obtain ⟨k, rfl, hk, HB⟩ := hrel
    by_cases hlt : k < 13
    · obtain ⟨s, hc0, hp, hsz⟩ := HBAD.out k hlt
      obtain ⟨l, n, hpr⟩ := told_of hp
      have hc : wr.cell? ⟨w.heap.size, k, none⟩ = some (.string s) := (HB.out.cell (Lib.lt_of_cell hc0)).trans hc0
      obtain ⟨cap, w1, hcv, C1⟩ := parse_str HC s _ hpr s.size rfl (by omega) wr
      have CP := Lib.hid C1
      have i1 : (0 : Int) ≤ (k : Int) := by omega
      have i2 : (k : Int) < 13 := by omega
      clear hc0 hp hpr C1
      go_wp2_with fail
      refine CP.out.mono ?_
      rintro e v0 ⟨v, o, rfl, _, _, b0⟩
      have BR : Hid (Below W0.heap.size W0 v0) := Lib.hid (HB.out.trans (b0.mono HB.out.size))
      clear b0 HB CP hcv
      go_wp2_with fail
      go_roundw
      case rel => exact ⟨k + 1, by go_num, hlt, BR⟩
      case measure => simp [intOf]; omega
    · obtain rfl : k = 13 := by omega
      have B1 := Lib.hid (HB0.out.trans (HB.out.mono HB0.out.size))
      clear HB HBAD HB0 hk hlt
      obtain ⟨wo, rfl⟩ : ∃ wo, wo = wr := ⟨_, rfl⟩
      go_wp2_with fail
      generalize hW : World.alloc wo _ = W1
      have HB1 : Hid (Below w.heap.size w W1) := Lib.hid (by rw [← hW]; exact B1.out.alloc B1.out.size _)
      have HMORE : Hid (TextsAt W1 wo.heap.size 8 8) := Lib.hid (by
        intro j hj
        rw [← hW, World.cell?_alloc_new]
        rcases (show j = 0 ∨ j = 1 ∨ j = 2 ∨ j = 3 ∨ j = 4 ∨ j = 5 ∨ j = 6 ∨ j = 7 by omega) with rfl | rfl | rfl | rfl | rfl | rfl | rfl | rfl
        all_goals exact ⟨_, rfl, by decide +kernel, by decide⟩)
      clear hW B1
      generalize Value.agg _ = ag2
      rw [show ((13 : Nat) : Int) = 13 from rfl]
      go_loopw [7] (fun vi wr => ∃ k : Nat, vi = .int .i64 (k : Int) ∧ k ≤ 8 ∧ Hid (Below W1.heap.size W1 wr)) (fun vi _ => 8 - (intOf vi).toNat)
      case atStart => exact ⟨0, rfl, Nat.zero_le _, Lib.hid (Below.refl _ _)⟩
      case round =>
        obtain ⟨k, rfl, hk, HB⟩ := hrel
        by_cases hlt : k < 8
        · obtain ⟨s, hc0, hp, hsz⟩ := HMORE.out k hlt
          obtain ⟨l, n, hpr⟩ := told_of hp
          have hc : wr.cell? ⟨wo.heap.size, k, none⟩ = some (.string s) := (HB.out.cell (Lib.lt_of_cell hc0)).trans hc0
          obtain ⟨cap, w1, hcv, C1⟩ := parse_str HC s _ hpr s.size rfl (by omega) wr
          have CP := Lib.hid C1
          have i1 : (0 : Int) ≤ (k : Int) := by omega
          have i2 : (k : Int) < 8 := by omega
          clear hc0 hp hpr C1
          go_wp2_with fail
          refine CP.out.mono ?_
          rintro e v0 ⟨v, o, rfl, _, _, b0⟩
          have BR : Hid (Below W1.heap.size W1 v0) := Lib.hid (HB.out.trans (b0.mono HB.out.size))
          clear b0 HB CP hcv
          go_wp2_with fail
          go_roundw
          case rel => exact ⟨k + 1, by go_num, hlt, BR⟩
          case measure => simp [intOf]; omega
        · obtain rfl : k = 8 := by omega
          have B1 := Lib.hid (HB1.out.trans (HB.out.mono HB1.out.size))
          clear HB HMORE HB1 hk hlt
          have HBW := B1
          clear B1
          obtain ⟨wp, rfl⟩ : ∃ wp, wp = wr := ⟨_, rfl⟩
          go_wp2_with fail
          rw [show ((8 : Nat) : Int) = 8 from rfl]
          go_loopw [11] (fun vs wr => ∃ k : Nat, vs = .string ⟨(lineOf k).toArray⟩ ∧ k ≤ 510 ∧ wr = wp) (fun vs _ => 600 - (match vs with | .string s => s.size | _ => 0))
          case atStart => refine ⟨0, ?_, Nat.zero_le _, ?_⟩ <;> rfl
          case round =>
            obtain ⟨k, rfl, hk, rfl⟩ := hrel
            have hl := lineOf_length k
            by_cases hlt : k < 510
            · have z1 : ¬ 9223372036854775807 < (lineOf k).length + 1 := by omega
              have i1 : ((lineOf k).length : Int) < 512 := by omega
              go_wp2_with fail
              refine ⟨⟨k + 1, ?_, by omega, trivial⟩, ?_⟩
              · rw [show (⟨#[98]⟩ : ByteArray) = ⟨[98].toArray⟩ from rfl, mk_append, lineOf_succ]
              · show 600 - (_ : ByteArray).size < 600 - (_ : ByteArray).size
                rw [size_app]
                have e1 : (⟨(lineOf k).toArray⟩ : ByteArray).size = k + 2 := by rw [← bl_length, bl_mk, hl]
                have e2 : (⟨#[98]⟩ : ByteArray).size = 1 := rfl
                omega
            · obtain rfl : k = 510 := by omega
              have i1 : ¬ ((lineOf 510).length : Int) < 512 := by omega
              have hlb : (lineOf 510).length = 512 := lineOf_length 510
              clear hk hlt
              rw [show (Value.string ⟨(lineOf 510).toArray⟩) = Value.string ⟨(lineOf 510).toArray⟩ from rfl]
              generalize hLB : (⟨(lineOf 510).toArray⟩ : ByteArray) = LB
              have hz : LB.size = 512 := by rw [← hLB, ← bl_length, bl_mk, hlb]
              have hb : bl LB = lineOf 510 := by rw [← hLB, bl_mk]
              have HLB := Lib.hid hb
              clear hLB hb hlb i1 hl
              have i1 : ¬ ((LB.size : Int)) < 512 := by omega
              have B1 := Lib.hid HBW.out
              clear HBW
              obtain ⟨l1, n1, h1⟩ : ∃ l n, parseH (bl (LB ++ ⟨#[13, 10, 13, 10]⟩)) = (l, n, 0) := told_of (s := LB ++ ⟨#[13, 10, 13, 10]⟩) (by rw [show bl (LB ++ ⟨#[13, 10, 13, 10]⟩) = lineOf 510 ++ [13, 10, 13, 10] by simp only [bl_app, HLB.out]; rfl]; exact known_a)
              obtain ⟨cap1, x1, hcv1, C1⟩ := parse_str HC (LB ++ ⟨#[13, 10, 13, 10]⟩) _ h1 516 (by rw [size_app, hz, show (⟨#[13, 10, 13, 10]⟩ : ByteArray).size = 4 from rfl]) (by omega) wr
              have CP := Lib.hid C1
              clear C1 h1
              go_wp2_with fail
              refine CP.out.mono ?_
              rintro e v1 ⟨y1, o1, rfl, _, _, b1⟩
              have B2 := Lib.hid (B1.out.trans (b1.mono B1.out.size))
              clear b1 CP hcv1 B1
              obtain ⟨l2, n2, h2⟩ : ∃ l n, parseH (bl (LB ++ ⟨#[98]⟩)) = (l, n, 21) := told_of (s := LB ++ ⟨#[98]⟩) (by rw [show bl (LB ++ ⟨#[98]⟩) = lineOf 510 ++ [98] by simp only [bl_app, HLB.out]; rfl]; exact known_b)
              obtain ⟨cap2, x2, hcv2, C2⟩ := parse_str HC (LB ++ ⟨#[98]⟩) _ h2 513 (by rw [size_app, hz, show (⟨#[98]⟩ : ByteArray).size = 1 from rfl]) (by omega) v1
              have CP := Lib.hid C2
              clear C2 h2
              go_wp2_with fail
              refine CP.out.mono ?_
              rintro e v2 ⟨y2, o2, rfl, _, _, b2⟩
              have B3 := Lib.hid (B2.out.trans (b2.mono B2.out.size))
              clear b2 CP hcv2 B2
              go_wp2_with fail
              go_loopw [18, 19] (fun vs vi wr => ∃ k : Nat, vs = .string ⟨(fieldsOf k).toArray⟩ ∧ vi = .int .i64 (k : Int) ∧ k ≤ 32 ∧ wr = v2) (fun _ vi _ => 32 - (intOf vi).toNat)
              case atStart => exact ⟨0, rfl, rfl, Nat.zero_le _, rfl⟩
              case round =>
                obtain ⟨k, rfl, rfl, hk, rfl⟩ := hrel
                have hl := fieldsOf_length k
                by_cases hlt : k < 32
                · have z1 : ¬ 9223372036854775807 < (fieldsOf k).length + 4 := by omega
                  go_wp2_with fail
                  go_roundw
                  case rel => exact ⟨k + 1, by rw [show (⟨#[97, 58, 13, 10]⟩ : ByteArray) = ⟨[97, 58, 13, 10].toArray⟩ from rfl, mk_append, fieldsOf_succ], by go_num, hlt, trivial⟩
                  case measure => simp [intOf]; omega
                · obtain rfl : k = 32 := by omega
                  clear hk hlt
                  generalize hFB : (⟨(fieldsOf 32).toArray⟩ : ByteArray) = FB
                  have hz2 : FB.size = 128 := by rw [← hFB, ← bl_length, bl_mk, hl]
                  have hb2 : bl FB = fieldsOf 32 := by rw [← hFB, bl_mk]
                  have HFB := Lib.hid hb2
                  clear hFB hb2 hl
                  have z1 : ¬ 9223372036854775807 < LB.size + 2 := by omega
                  obtain ⟨l3, n3, h3⟩ : ∃ l n, parseH (bl (FB ++ ⟨#[13, 10]⟩)) = (l, n, 0) := told_of (s := FB ++ ⟨#[13, 10]⟩) (by rw [show bl (FB ++ ⟨#[13, 10]⟩) = fieldsOf 32 ++ [13, 10] by simp only [bl_app, HFB.out]; rfl]; exact known_c)
                  obtain ⟨cap3, x3, hcv3, C3⟩ := parse_str HC (FB ++ ⟨#[13, 10]⟩) _ h3 130 (by rw [size_app, hz2, show (⟨#[13, 10]⟩ : ByteArray).size = 2 from rfl]) (by omega) wr
                  have CP := Lib.hid C3
                  clear C3 h3
                  go_wp2_with fail
                  refine CP.out.mono ?_
                  rintro e v3 ⟨y3, o3, rfl, _, _, b3⟩
                  have B4 := Lib.hid (B3.out.trans (b3.mono B3.out.size))
                  clear b3 CP hcv3 B3
                  obtain ⟨l4, n4, h4⟩ : ∃ l n, parseH (bl (FB ++ ⟨#[97]⟩)) = (l, n, 21) := told_of (s := FB ++ ⟨#[97]⟩) (by rw [show bl (FB ++ ⟨#[97]⟩) = fieldsOf 32 ++ [97] by simp only [bl_app, HFB.out]; rfl]; exact known_d)
                  obtain ⟨cap4, x4, hcv4, C4⟩ := parse_str HC (FB ++ ⟨#[97]⟩) _ h4 129 (by rw [size_app, hz2, show (⟨#[97]⟩ : ByteArray).size = 1 from rfl]) (by omega) v3
                  have CP := Lib.hid C4
                  clear C4 h4
                  go_wp2_with fail
                  refine CP.out.mono ?_
                  rintro e v4 ⟨y4, o4, rfl, _, _, b4⟩
                  have B5 := Lib.hid (B4.out.trans (b4.mono B4.out.size))
                  clear b4 CP hcv4 B4
                  obtain ⟨l5, n5, h5⟩ : ∃ l n, parseH (bl (FB ++ ⟨#[32]⟩)) = (l, n, 21) := told_of (s := FB ++ ⟨#[32]⟩) (by rw [show bl (FB ++ ⟨#[32]⟩) = fieldsOf 32 ++ [32] by simp only [bl_app, HFB.out]; rfl]; exact known_e)
                  obtain ⟨cap5, x5, hcv5, C5⟩ := parse_str HC (FB ++ ⟨#[32]⟩) _ h5 129 (by rw [size_app, hz2, show (⟨#[32]⟩ : ByteArray).size = 1 from rfl]) (by omega) v4
                  have CP := Lib.hid C5
                  clear C5 h5
                  go_wp2_with fail
                  refine CP.out.mono ?_
                  rintro e v5 ⟨y5, o5, rfl, _, _, b5⟩
                  have B6 := Lib.hid (B5.out.trans (b5.mono B5.out.size))
                  clear b5 CP hcv5 B5
                  have hbl6 : bl (LB ++ ⟨#[13, 10]⟩ ++ LB ++ ⟨#[13, 10]⟩ ++ LB ++ ⟨#[13, 10]⟩ ++ LB.extract 0 502 ++ ⟨#[13, 10, 13, 10]⟩) = threeL ++ (lineOf 510).take 502 ++ [13, 10, 13, 10] := by
                    simp only [bl_app, extract_bl, piece_front, HLB.out]
                    rfl
                  obtain ⟨ST6, hST6⟩ : ∃ ST : ByteArray, LB ++ ⟨#[13, 10]⟩ ++ LB ++ ⟨#[13, 10]⟩ ++ LB ++ ⟨#[13, 10]⟩ ++ LB.extract 0 502 ++ ⟨#[13, 10, 13, 10]⟩ = ST := ⟨_, rfl⟩
                  rw [hST6] at hbl6
                  obtain ⟨l6, h6⟩ : ∃ l, parseH (bl ST6) = (l, 2048, 0) := ⟨(parseH (threeL ++ (lineOf 510).take 502 ++ [13, 10, 13, 10])).1, by rw [hbl6]; exact Prod.ext rfl known_f⟩
                  have hk6 : ST6.size = 2048 := by
                    have e := congrArg List.length hbl6
                    rw [bl_length] at e
                    exact e.trans len_f
                  obtain ⟨cap6, x6, hcv6, C6⟩ := parse_str HC ST6 _ h6 2048 hk6 (by omega) v5
                  rw [← hST6] at hcv6
                  have CP := Lib.hid C6
                  clear C6 h6 hbl6 hk6 hST6
                  go_wp2_with fail
                  refine CP.out.mono ?_
                  rintro e v6 ⟨y6, o6, rfl, _, _, b6⟩
                  have B7 := Lib.hid (B6.out.trans (b6.mono B6.out.size))
                  clear b6 CP hcv6 B6
                  have hbl7 : bl (LB ++ ⟨#[13, 10]⟩ ++ LB ++ ⟨#[13, 10]⟩ ++ LB ++ ⟨#[13, 10]⟩ ++ LB.extract 0 502 ++ ⟨#[98, 13, 10, 13, 10]⟩) = threeL ++ (lineOf 510).take 502 ++ [98, 13, 10, 13, 10] := by
                    simp only [bl_app, extract_bl, piece_front, HLB.out]
                    rfl
                  obtain ⟨ST7, hST7⟩ : ∃ ST : ByteArray, LB ++ ⟨#[13, 10]⟩ ++ LB ++ ⟨#[13, 10]⟩ ++ LB ++ ⟨#[13, 10]⟩ ++ LB.extract 0 502 ++ ⟨#[98, 13, 10, 13, 10]⟩ = ST := ⟨_, rfl⟩
                  rw [hST7] at hbl7
                  obtain ⟨l7, n7, h7⟩ : ∃ l n, parseH (bl ST7) = (l, n, 21) := told_of (s := ST7) (by rw [hbl7]; exact known_g)
                  have hk7 : ST7.size = 2049 := by
                    have e := congrArg List.length hbl7
                    rw [bl_length] at e
                    exact e.trans len_g
                  obtain ⟨cap7, x7, hcv7, C7⟩ := parse_str HC ST7 _ h7 2049 hk7 (by omega) v6
                  rw [← hST7] at hcv7
                  have CP := Lib.hid C7
                  clear C7 h7 hbl7 hk7 hST7
                  go_wp2_with fail
                  refine CP.out.mono ?_
                  rintro e v7 ⟨y7, o7, rfl, _, _, b7⟩
                  have B8 := Lib.hid (B7.out.trans (b7.mono B7.out.size))
                  clear b7 CP hcv7 B7
                  have hbl8 : bl (LB ++ ⟨#[13, 10]⟩ ++ LB ++ ⟨#[13, 10]⟩ ++ LB ++ ⟨#[13, 10]⟩ ++ LB.extract 0 502 ++ ⟨#[98, 13, 10, 13]⟩) = threeL ++ (lineOf 510).take 502 ++ [98, 13, 10, 13] := by
                    simp only [bl_app, extract_bl, piece_front, HLB.out]
                    rfl
                  obtain ⟨ST8, hST8⟩ : ∃ ST : ByteArray, LB ++ ⟨#[13, 10]⟩ ++ LB ++ ⟨#[13, 10]⟩ ++ LB ++ ⟨#[13, 10]⟩ ++ LB.extract 0 502 ++ ⟨#[98, 13, 10, 13]⟩ = ST := ⟨_, rfl⟩
                  rw [hST8] at hbl8
                  obtain ⟨l8, n8, h8⟩ : ∃ l n, parseH (bl ST8) = (l, n, 8) := told_of (s := ST8) (by rw [hbl8]; exact known_h)
                  have hk8 : ST8.size = 2048 := by
                    have e := congrArg List.length hbl8
                    rw [bl_length] at e
                    exact e.trans len_h
                  obtain ⟨cap8, x8, hcv8, C8⟩ := parse_str HC ST8 _ h8 2048 hk8 (by omega) v7
                  rw [← hST8] at hcv8
                  have CP := Lib.hid C8
                  clear C8 h8 hbl8 hk8 hST8
                  go_wp2_with fail
                  refine CP.out.mono ?_
                  rintro e v8 ⟨y8, o8, rfl, _, _, b8⟩
                  have B9 := Lib.hid (B8.out.trans (b8.mono B8.out.size))
                  clear b8 CP hcv8 B8
                  go_wp2_with fail
                  obtain ⟨LS, hLS⟩ : ∃ LS : ByteArray, LB.extract 2 512 ++ ⟨#[98]⟩ = LS := ⟨_, rfl⟩
                  have hbls : bl LS = ((lineOf 510).drop 2).take (512 - 2) ++ [98] := by
                    rw [← hLS, bl_app, extract_bl]
                    unfold piece
                    rw [HLB.out]
                    rfl
                  rw [hLS]
                  have hmay : mayF [(bl ⟨#[97]⟩, bl LS)] = false := by
                    rw [hbls]
                    exact known_may
                  have hlsz : LS.size = 511 := by
                    have e := congrArg List.length hbls
                    rw [bl_length] at e
                    exact e.trans (by decide +kernel)
                  have SL : Hid (Slim [(bl ⟨#[97]⟩, bl LS)]) := Lib.hid (fun f hf => by
                    simp only [List.mem_singleton] at hf
                    subst hf
                    rw [bl_length, bl_length, hlsz]
                    exact ⟨by decide, by omega⟩)
                  have F9 := Lib.hid (srcf_str v8 ⟨#[97]⟩ LS)
                  have B10 := Lib.hid (B9.out.alloc B9.out.size (.cells #[.string ⟨#[97]⟩, .string LS] 45))
                  have CP := HC.put (v8.alloc (.cells #[.string ⟨#[97]⟩, .string LS] 45)) none [] 0 0 rfl (by omega) (P := fun _ => True) (fun h => absurd h (by simp)) (fun f h => by cases h)
                  unfold PutOf at CP
                  rw [known_put] at CP
                  simp only [Option.getD_some, Option.isSome_some, if_true, List.length_cons, List.length_nil, Nat.zero_add, Nat.reduceAdd] at CP
                  have HMAY := Lib.hid hmay
                  clear hLS hbls hmay hlsz B9
                  refine CP.mono ?_
                  rintro e v9 ⟨A9, c9, rfl, _, s9, b9⟩
                  have S9 := Lib.hid s9
                  have F10 := Lib.hid (F9.out.below b9)
                  have B11 := Lib.hid (B10.out.trans (b9.mono B10.out.size))
                  clear s9 b9 CP F9 B10
                  go_wp2_with fail
                  have CM := HC.may v9 (some ⟨v8.heap.size, 0, none⟩) [(bl ⟨#[97]⟩, bl LS)] 1 1 rfl (by omega) F10.out SL.out
                  rw [HMAY.out] at CM
                  refine CM.mono ?_
                  rintro e v10 ⟨rfl, b10⟩
                  have B12 := Lib.hid (B11.out.trans (b10.mono B11.out.size))
                  have S10 := Lib.hid (S9.out.stay b10)
                  clear b10 CM B11 S9 F10
                  go_wp2_with fail
                  have CM := HC.may v10 none [] 0 0 rfl (by omega) (P := fun _ => True) (fun h => absurd h (by simp)) (fun f h => by cases h)
                  rw [known_may0] at CM
                  refine CM.mono ?_
                  rintro e v11 ⟨rfl, b11⟩
                  have B13 := Lib.hid (B12.out.trans (b11.mono B12.out.size))
                  have hcv : (convert 22 9 (.slice A9 2 c9)).run Tryd.prog v11 = .ok (.string ⟨#[13, 10]⟩) v11 := run_text v11 A9 [13, 10] 2 c9 rfl (S10.out.stay b11)
                  clear b11 CM B12 S10
                  go_wp2_with fail
                  have B14 := Lib.hid (B13.out.alloc B13.out.size (.cells #[.string ⟨#[97]⟩, .string ⟨#[32, 98]⟩] 45))
                  have CM := HC.may (v11.alloc (.cells #[.string ⟨#[97]⟩, .string ⟨#[32, 98]⟩] 45)) (some ⟨v11.heap.size, 0, none⟩) [(bl ⟨#[97]⟩, bl ⟨#[32, 98]⟩)] 1 1 rfl (by omega) (srcf_str v11 ⟨#[97]⟩ ⟨#[32, 98]⟩) (fun f hf => by
                    simp only [List.mem_singleton] at hf
                    subst hf
                    exact ⟨by decide, by decide⟩)
                  rw [show mayF [(bl ⟨#[97]⟩, bl ⟨#[32, 98]⟩)] = false from known_may2] at CM
                  refine CM.mono ?_
                  rintro e v12 ⟨rfl, b12⟩
                  have B15 := Lib.hid (B14.out.trans (b12.mono B14.out.size))
                  clear b12 CM B14 B13 hcv
                  go_wp2_with fail
                  refine (wakes_head HC v12).mono ?_
                  rintro e v13 ⟨rfl, b13⟩
                  have B16 := Lib.hid (B15.out.trans (b13.mono B15.out.size))
                  clear b13 B15
                  go_wp2_with fail
                  go_ret
                  exact ⟨rfl, B16.out⟩
end Go.Proofs.YtdggfonbjhejoaaDoor
