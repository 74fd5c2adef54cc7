/-
  The law UriKnown.
  Conditions: Go's table of powers of ten is as its text lays it.
-/
import Derived.Test.YthkcniimnaephaaDoorYM
import Derived.Great.BuildSlice
import Derived.Great.Walk
import Derived.Deep.WholeRow
namespace Go.Proofs.YthkcniimnaephaaDoor.Uri
open Go.RowKit

theorem bl_app (a b : ByteArray) : bl (a ++ b) = bl a ++ bl b := by simp [bl, ByteArray.data_append]
theorem size_app (a b : ByteArray) : (a ++ b).size = a.size + b.size := by rw [← bl_length, bl_app, List.length_append, bl_length, bl_length]
def aOf (k : Nat) : List UInt8 := List.replicate k 97
theorem aOf_length (k : Nat) : (aOf k).length = k := by simp [aOf]
theorem aOf_succ (k : Nat) : aOf k ++ [97] = aOf (k + 1) := by simp [aOf, List.replicate_succ']
def pOf : Nat → List UInt8
  | 0 => [47]
  | k + 1 => pOf k ++ [37, 97, 70]
theorem pOf_length (k : Nat) : (pOf k).length = 1 + 3 * k := by
  induction k with
  | zero => rfl
  | succ k ih => rw [pOf, List.length_append, ih]; simp; omega
theorem abc_bl : bl (⟨#[97, 98, 99]⟩ : ByteArray) = [97, 98, 99] := rfl
theorem x_bl : bl (⟨#[120]⟩ : ByteArray) = [120] := rfl
theorem a_bl : bl (⟨#[97]⟩ : ByteArray) = [97] := rfl
theorem s_bl : bl (⟨#[47]⟩ : ByteArray) = [47] := rfl
theorem e_bl : bl (⟨#[]⟩ : ByteArray) = [] := rfl
theorem three_ten : min 313 313 - 3 = 310 := rfl
theorem three_min : min 310 313 = 310 := rfl
theorem kn_1 : (textI (aOf 64) 80 ((pOf 104).take 310 ++ [97, 98, 99])).length = 384 := by decide +kernel
theorem kn_2 : textI (aOf 64) 80 ((pOf 104).take 310 ++ [97, 98, 99] ++ [120]) = [] := by decide +kernel
theorem kn_3 : textI (aOf 64 ++ [97]) 80 [47] = [] := by decide +kernel
def odd14 : List ByteArray := [⟨#[104, 116, 116, 112, 58, 47, 47, 97, 46, 47]⟩, ⟨#[104, 116, 116, 112, 58, 47, 47, 46, 97, 47]⟩, ⟨#[104, 116, 116, 112, 58, 47, 47, 97, 46, 46, 98, 47]⟩, ⟨#[104, 116, 116, 112, 58, 47, 47, 49, 50, 55, 46, 49, 47]⟩, ⟨#[104, 116, 116, 112, 58, 47, 47, 50, 49, 51, 48, 55, 48, 54, 52, 51, 51, 47]⟩, ⟨#[104, 116, 116, 112, 58, 47, 47, 48, 120, 55, 102, 47]⟩, ⟨#[104, 116, 116, 112, 58, 47, 47, 48, 120, 47]⟩, ⟨#[104, 116, 116, 112, 58, 47, 47, 97, 46, 48, 120, 49, 102, 47]⟩, ⟨#[104, 116, 116, 112, 58, 47, 47, 49, 46, 50, 46, 51, 46, 48, 52, 47]⟩, ⟨#[104, 116, 116, 112, 58, 47, 47, 49, 46, 50, 46, 51, 46, 50, 53, 54, 47]⟩, ⟨#[104, 116, 116, 112, 58, 47, 47, 49, 46, 50, 46, 51, 46, 52, 46, 53, 47]⟩, ⟨#[104, 116, 116, 112, 58, 47, 47, 97, 46, 49, 47]⟩, ⟨#[104, 116, 116, 112, 58, 47, 47, 49, 46, 50, 46, 51, 47]⟩, ⟨#[104, 116, 116, 112, 58, 47, 47, 97, 46, 98, 46, 99, 46, 52, 47]⟩]
def bad22 : List ByteArray := [⟨#[]⟩, ⟨#[104, 116, 116, 112, 58, 47]⟩, ⟨#[104, 116, 116, 112, 58, 47, 47]⟩, ⟨#[104, 116, 116, 112, 58, 47, 47, 47]⟩, ⟨#[104, 116, 116, 112, 115, 58, 47, 47, 97, 47]⟩, ⟨#[47, 120]⟩, ⟨#[97]⟩, ⟨#[104, 116, 116, 112, 58, 47, 47, 97, 58, 47]⟩, ⟨#[104, 116, 116, 112, 58, 47, 47, 97, 58, 48, 47]⟩, ⟨#[104, 116, 116, 112, 58, 47, 47, 97, 58, 48, 56, 48, 47]⟩, ⟨#[104, 116, 116, 112, 58, 47, 47, 97, 58, 54, 53, 53, 51, 54, 47]⟩, ⟨#[104, 116, 116, 112, 58, 47, 47, 97, 58, 43, 49, 47]⟩, ⟨#[104, 116, 116, 112, 58, 47, 47, 97, 58, 49, 58, 50, 47]⟩, ⟨#[104, 116, 116, 112, 58, 47, 47, 117, 64, 97, 47]⟩, ⟨#[104, 116, 116, 112, 58, 47, 47, 97, 95, 98, 47]⟩, ⟨#[104, 116, 116, 112, 58, 47, 47, 97, 32, 98, 47]⟩, ⟨#[104, 116, 116, 112, 58, 47, 47, 97, 47, 32]⟩, ⟨#[104, 116, 116, 112, 58, 47, 47, 97, 47, 35, 120]⟩, ⟨#[104, 116, 116, 112, 58, 47, 47, 97, 47, 37, 52]⟩, ⟨#[104, 116, 116, 112, 58, 47, 47, 97, 47, 37, 52, 103]⟩, ⟨#[104, 116, 116, 112, 58, 47, 47, 97, 47, 34]⟩, ⟨#[104, 116, 116, 112, 58, 47, 47, 97, 63, 98, 63, 99, 32, 100]⟩]
def none8 : List ByteArray := [⟨#[]⟩, ⟨#[97]⟩, ⟨#[97, 58]⟩, ⟨#[58, 49]⟩, ⟨#[97, 58, 48]⟩, ⟨#[97, 58, 49, 58, 50]⟩, ⟨#[97, 58, 54, 53, 53, 51, 54]⟩, ⟨#[104, 116, 116, 112, 58, 47, 47, 97, 58, 49]⟩]
theorem odd14_no : odd14.all (fun s => decide (urlT (parseF (bl s)) = (bl ⟨#[]⟩, 0, bl ⟨#[]⟩, 23)) && decide (s.size ≤ 100)) = true := by decide +kernel
theorem bad22_no : bad22.all (fun s => decide (urlT (parseF (bl s)) = (bl ⟨#[]⟩, 0, bl ⟨#[]⟩, 23)) && decide (s.size ≤ 100)) = true := by decide +kernel
theorem none8_no : none8.all (fun s => decide (auV (authorityF (bl s)) = (bl ⟨#[]⟩, 0, 23)) && decide (s.size ≤ 100)) = true := by decide +kernel
/-- Texts that are no URL's, no authority's, in an array. -/
def NoUrls (W : World) (g n : Nat) : Prop := ∀ j, j < n → ∃ s : ByteArray, W.cell? ⟨g, j, none⟩ = some (.string s) ∧ urlT (parseF (bl s)) = (bl ⟨#[]⟩, 0, bl ⟨#[]⟩, 23) ∧ s.size ≤ 100
def NoAuths (W : World) (g n : Nat) : Prop := ∀ j, j < n → ∃ s : ByteArray, W.cell? ⟨g, j, none⟩ = some (.string s) ∧ auV (authorityF (bl s)) = (bl ⟨#[]⟩, 0, 23) ∧ s.size ≤ 100

theorem arr_at (w : World) (T : TypeId) (l : List ByteArray) (j : Nat) (hj : j < l.length) : (w.alloc (.cells (l.map Value.string).toArray T)).cell? ⟨w.heap.size, j, none⟩ = some (.string l[j]) := by
  rw [World.cell?_alloc_new]
  simp [hj]
theorem no_urls (w : World) (T : TypeId) (l : List ByteArray) (h : l.all (fun s => decide (urlT (parseF (bl s)) = (bl ⟨#[]⟩, 0, bl ⟨#[]⟩, 23)) && decide (s.size ≤ 100)) = true) : NoUrls (w.alloc (.cells (l.map Value.string).toArray T)) w.heap.size l.length := by
  intro j hj
  have := List.all_eq_true.1 h l[j] (List.getElem_mem hj)
  simp only [Bool.and_eq_true, decide_eq_true_eq] at this
  exact ⟨l[j], arr_at w T l j hj, this.1, this.2⟩
theorem no_auths (w : World) (T : TypeId) (l : List ByteArray) (h : l.all (fun s => decide (auV (authorityF (bl s)) = (bl ⟨#[]⟩, 0, 23)) && decide (s.size ≤ 100)) = true) : NoAuths (w.alloc (.cells (l.map Value.string).toArray T)) w.heap.size l.length := by
  intro j hj
  have := List.all_eq_true.1 h l[j] (List.getElem_mem hj)
  simp only [Bool.and_eq_true, decide_eq_true_eq] at this
  exact ⟨l[j], arr_at w T l j hj, this.1, this.2⟩


/-- What stands behind the n-th semicolon. -/
def tailOf : Nat → Code → Code
  | 0, c => c
  | n + 1, .seq _ b => tailOf n b
  | _, c => c
/-- A frame of whatever values. -/
def lit8 (u : Nat → Value) : Array Value := #[u 0, u 1, u 2, u 3, u 4, u 5, u 6, u 7, u 8, u 9, u 10, u 11, u 12, u 13, u 14, u 15, u 16, u 17, u 18, u 19, u 20, u 21, u 22, u 23, u 24, u 25, u 26, u 27, u 28, u 29, u 30, u 31, u 32, u 33, u 34, u 35, u 36, u 37, u 38, u 39, u 40, u 41, u 42, u 43, u 44, u 45, u 46, u 47, u 48, u 49, u 50, u 51, u 52, u 53, u 54, u 55, u 56, u 57, u 58, u 59, u 60, u 61, u 62, u 63, u 64, u 65, u 66, u 67, u 68, u 69, u 70, u 71, u 72, u 73, u 74, u 75, u 76, u 77, u 78, u 79, u 80, u 81, u 82, u 83, u 84, u 85, u 86, u 87, u 88, u 89, u 90, u 91, u 92, u 93, u 94, u 95, u 96, u 97, u 98, u 99, u 100, u 101, u 102, u 103, u 104, u 105, u 106, u 107, u 108, u 109, u 110, u 111, u 112, u 113, u 114, u 115, u 116, u 117, u 118, u 119, u 120, u 121, u 122, u 123, u 124, u 125, u 126, u 127, u 128, u 129, u 130, u 131, u 132, u 133, u 134, u 135, u 136, u 137, u 138, u 139, u 140, u 141, u 142, u 143, u 144, u 145, u 146, u 147, u 148, u 149, u 150, u 151, u 152, u 153, u 154, u 155, u 156, u 157, u 158, u 159, u 160, u 161, u 162, u 163, u 164, u 165, u 166, u 167, u 168, u 169, u 170, u 171, u 172, u 173, u 174, u 175, u 176, u 177, u 178, u 179, u 180, u 181, u 182, u 183, u 184, u 185, u 186, u 187, u 188, u 189, u 190, u 191, u 192, u 193, u 194, u 195, u 196, u 197, u 198, u 199, u 200, u 201]
def Good8 (w0 : World) (a : Act) (w : World) : Prop := ∃ u : Nat → Value, lit8 u = a.tmps ∧ a.defers = [] ∧ Below w0.heap.size w0 w

theorem good8_mk (w0 : World) (t : Array Value) (w : World) (h : lit8 (fun i => t.getD i undef) = t) (hB : Below w0.heap.size w0 w) : Good8 w0 ⟨t, []⟩ w := ⟨_, h, rfl, hB⟩

set_option maxHeartbeats 16000000 in
set_option maxRecDepth 100000 in
theorem rest8 (w : World) (hp : PowTab w) (a : Act) (wo3 : World) (hg : Good8 w a wo3) : Code.wp Tryd.prog (tailOf 8 (Tryd.f7.body.getD .skip)) (bodyPost Tryd.prog Tryd.f7 fun e w' => e = .returned (.bool true) ∧ Below w.heap.size w w') a wo3 := by
  obtain ⟨u, hu, hd, hb⟩ := hg
  obtain ⟨t, ds⟩ := a
  simp only at hu hd
  subst hu hd
  have BX3 := Lib.hid hb
  have HP := Lib.hid hp
  clear hb hp
  unfold lit8
  conv => arg 2; whnf
  go_wp2_with fail
  go_loopw [14] (fun vs wr => ∃ k : Nat, vs = .string ⟨(aOf k).toArray⟩ ∧ k ≤ 64 ∧ wr = wo3) (fun vs _ => 600 - (match vs with | .string s => s.size | _ => 0))
  case atStart => refine ⟨0, ?_, Nat.zero_le _, ?_⟩ <;> rfl
  case round =>
    obtain ⟨k, rfl, hk, rfl⟩ := hrel
    have hl := aOf_length k
    by_cases hlt : k < 64
    · have z1 : ¬ 9223372036854775807 < (aOf k).length + 1 := by omega
      have i1 : ((aOf k).length : Int) < 64 := by omega
      go_wp2_with fail
      refine ⟨⟨k + 1, ?_, by omega, trivial⟩, ?_⟩
      · rw [show (⟨#[97]⟩ : ByteArray) = ⟨[97].toArray⟩ from rfl, mk_append, aOf_succ]
      · show 600 - (_ : ByteArray).size < 600 - (_ : ByteArray).size
        rw [size_app]
        have e1 : (⟨(aOf k).toArray⟩ : ByteArray).size = k := by rw [← bl_length, bl_mk, hl]
        have e2 : (⟨#[97]⟩ : ByteArray).size = 1 := rfl
        omega
    · obtain rfl : k = 64 := by omega
      clear hk hlt
      generalize hHB : (⟨(aOf 64).toArray⟩ : ByteArray) = HB
      have hhz : HB.size = 64 := by rw [← hHB, ← bl_length, bl_mk, hl]
      have hhb : bl HB = aOf 64 := by rw [← hHB, bl_mk]
      have i1 : ¬ ((HB.size : Int)) < 64 := by omega
      obtain ⟨wo4, rfl⟩ : ∃ wo, wo = wr := ⟨_, rfl⟩
      clear hHB hl
      have HHB := Lib.hid hhb
      have HHZ := Lib.hid hhz
      clear hhb hhz
      go_wp2_with fail
      go_loopw [15] (fun vs wr => ∃ k : Nat, vs = .string ⟨(pOf k).toArray⟩ ∧ k ≤ 104 ∧ wr = wo4) (fun vs _ => 600 - (match vs with | .string s => s.size | _ => 0))
      case atStart => refine ⟨0, ?_, Nat.zero_le _, ?_⟩ <;> rfl
      case round =>
        obtain ⟨k, rfl, hk, rfl⟩ := hrel
        have hl := pOf_length k
        by_cases hlt : k < 104
        · have z1 : ¬ 9223372036854775807 < (pOf k).length + 3 := by omega
          have i1 : ((pOf k).length : Int) < 313 := by omega
          go_wp2_with fail
          refine ⟨⟨k + 1, ?_, by omega, trivial⟩, ?_⟩
          · rw [show (⟨#[37, 97, 70]⟩ : ByteArray) = ⟨[37, 97, 70].toArray⟩ from rfl, mk_append, show pOf k ++ [37, 97, 70] = pOf (k + 1) from rfl]
          · show 600 - (_ : ByteArray).size < 600 - (_ : ByteArray).size
            rw [size_app]
            have e1 : (⟨(pOf k).toArray⟩ : ByteArray).size = (1 + 3 * k) := by rw [← bl_length, bl_mk, hl]
            have e2 : (⟨#[37, 97, 70]⟩ : ByteArray).size = 3 := rfl
            omega
        · obtain rfl : k = 104 := by omega
          clear hk hlt
          generalize hPB : (⟨(pOf 104).toArray⟩ : ByteArray) = PB
          have hpz : PB.size = 313 := by rw [← hPB, ← bl_length, bl_mk, hl]
          have hpb : bl PB = pOf 104 := by rw [← hPB, bl_mk]
          have i2 : ¬ ((PB.size : Int)) < 313 := by omega
          have i3 : (313 : Int) ≤ (PB.size : Int) := by omega
          obtain ⟨PY, hPY⟩ : ∃ PY : ByteArray, PY = (PB.extract 0 313).extract 0 (min 313 PB.size - 3) ++ (⟨#[97, 98, 99]⟩ : ByteArray) := ⟨_, rfl⟩
          have hpyb : bl PY = (pOf 104).take 310 ++ [97, 98, 99] := by
            rw [hPY, bl_app, extract_bl, piece_front, extract_bl, piece_front, hpb, hpz, abc_bl, three_ten, List.take_take, three_min]
          have hpyz : PY.size = 313 := by rw [← bl_length, hpyb, List.length_append, List.length_take, pOf_length]; decide
          have x5 : ¬ 9223372036854775807 < PY.size + 1 := by omega
          have hhz := HHZ.out
          have hhb := HHB.out
          have x6 : ¬ 9223372036854775807 < HB.size + 1 := by omega
          obtain ⟨TA, hTA⟩ : ∃ TA : ByteArray, bl TA = textI (aOf 64) 80 ((pOf 104).take 310 ++ [97, 98, 99]) := ⟨⟨_⟩, bl_mk _⟩
          have hTz : TA.size = 384 := by rw [← bl_length, hTA]; exact kn_1
          have K1 := Lib.hid (fun (X : World) (hX : PowTab X) => text_at HB PY TA 80 (by rw [hhb, hpyb, hTA]) X (by omega) (by omega) ⟨by decide, by decide⟩ hX)
          have K2 := Lib.hid (fun (X : World) (hX : PowTab X) => text_at HB (PY ++ (⟨#[120]⟩ : ByteArray)) ⟨#[]⟩ 80 (by rw [hhb, bl_app, hpyb, x_bl, e_bl]; exact kn_2) X (by omega) (by rw [size_app, hpyz]; decide) ⟨by decide, by decide⟩ hX)
          have K3 := Lib.hid (fun (X : World) (hX : PowTab X) => text_at (HB ++ (⟨#[97]⟩ : ByteArray)) ⟨#[47]⟩ ⟨#[]⟩ 80 (by rw [bl_app, hhb, a_bl, s_bl, e_bl]; exact kn_3) X (by rw [size_app, hhz]; decide) (by decide) ⟨by decide, by decide⟩ hX)
          have HPY := Lib.hid hPY
          have e384 : ((TA.size : Int) == 384) = true := by rw [hTz]; rfl
          clear hPB hl hpz hpb hpyb hhz hhb hTA hTz hPY hpyz
          obtain ⟨wo5, rfl⟩ : ∃ wo, wo = wr := ⟨_, rfl⟩
          have HLE := Lib.hid (show w.heap.size ≤ wo5.heap.size from BX3.out.size)
          go_upto_region 33 with fail
          rw [← HPY.out]
          have Iu42 := Lib.hid (Is.made wo5 23 [.string HB, .int .i64 80, .string PY])
          have B42 := Lib.hid (BX3.out.alloc BX3.out.size (.cells #[.string HB, .int .i64 80, .string PY] 23))
          generalize wo5.alloc _ = w42 at *
          clear BX3 HPY i2 i3
          have yu0 : w42.cell? ⟨wo5.heap.size, 0, none⟩ = some (.string HB) := Iu42.out.cell 0
          have yu1 : w42.cell? ⟨wo5.heap.size, 1, none⟩ = some (.int .i64 80) := Iu42.out.cell 1
          have yu2 : w42.cell? ⟨wo5.heap.size, 2, none⟩ = some (.string PY) := Iu42.out.cell 2
          go_wp2_with fail
          clear yu0 yu1 yu2
          refine (K1.out _ (HP.out.below B42.out)).mono ?_
          rintro e w43 ⟨rfl, b⟩
          have Iu43 := Lib.hid (Iu42.out.kept (Turn.of_below (S := fun _ => False) b) (fun h => h))
          have B43 := Lib.hid (B42.out.trans (b.mono B42.out.size))
          clear b Iu42 B42
          have yu0 : w43.cell? ⟨wo5.heap.size, 0, none⟩ = some (.string HB) := Iu43.out.cell 0
          have yu1 : w43.cell? ⟨wo5.heap.size, 1, none⟩ = some (.int .i64 80) := Iu43.out.cell 1
          have yu2 : w43.cell? ⟨wo5.heap.size, 2, none⟩ = some (.string PY) := Iu43.out.cell 2
          have yf2 : w43.frozen? ⟨wo5.heap.size, 2, none⟩ = false := Iu43.out.free 2
          have Iu50 := Lib.hid (Iu43.out.set 2 (.string (PY ++ (⟨#[120]⟩ : ByteArray))))
          have B50 := Lib.hid (B43.out.setCell (p := ⟨wo5.heap.size, 2, none⟩) HLE.out (.string (PY ++ (⟨#[120]⟩ : ByteArray))))
          clear Iu43 B43
          go_upto_region 35 with fail
          generalize w43.setCell _ _ = w50 at *
          clear yu0 yu1 yu2 yf2
          have yu0 : w50.cell? ⟨wo5.heap.size, 0, none⟩ = some (.string HB) := Iu50.out.cell 0
          have yu1 : w50.cell? ⟨wo5.heap.size, 1, none⟩ = some (.int .i64 80) := Iu50.out.cell 1
          have yu2 : w50.cell? ⟨wo5.heap.size, 2, none⟩ = some (.string (PY ++ (⟨#[120]⟩ : ByteArray))) := Iu50.out.cell 2
          go_wp2_with fail
          clear yu0 yu1 yu2
          refine (K2.out _ (HP.out.below B50.out)).mono ?_
          rintro e w51 ⟨rfl, b⟩
          have Iu51 := Lib.hid (Iu50.out.kept (Turn.of_below (S := fun _ => False) b) (fun h => h))
          have B51 := Lib.hid (B50.out.trans (b.mono B50.out.size))
          clear b Iu50 B50
          clear Iu51
          go_wp2_with fail
          refine (K3.out _ (HP.out.below B51.out)).mono ?_
          rintro e w52 ⟨rfl, b⟩
          have B52 := Lib.hid (B51.out.trans (b.mono B51.out.size))
          clear b B51
          go_wp2_with fail
          refine (parse_at ⟨#[104, 116, 116, 112, 58, 47, 47, 97, 63, 98, 63, 99]⟩ ⟨#[97]⟩ ⟨#[47, 63, 98, 63, 99]⟩ 80 0 (by decide +kernel) _ (by decide) (HP.out.below B52.out)).mono ?_
          rintro e w53 ⟨rfl, b⟩
          have B53 := Lib.hid (B52.out.trans (b.mono B52.out.size))
          clear b B52
          have B54 := Lib.hid (B53.out.alloc B53.out.size (.cells #[.string ⟨#[97]⟩, .int .i64 80, .string ⟨#[47, 63, 98, 63, 99]⟩] 23))
          have Ix54 := Lib.hid (Is.made w53 23 [.string ⟨#[97]⟩, .int .i64 80, .string ⟨#[47, 63, 98, 63, 99]⟩])
          clear B53
          go_upto_region 38 with fail
          generalize w53.alloc _ = w54 at *
          go_wp2_with fail
          refine (parse_at ⟨#[104, 116, 116, 112, 58, 47, 47, 97, 47, 63]⟩ ⟨#[97]⟩ ⟨#[47, 63]⟩ 80 0 (by decide +kernel) _ (by decide) (HP.out.below B54.out)).mono ?_
          rintro e w55 ⟨rfl, b⟩
          have Ix55 := Lib.hid (Ix54.out.kept (Turn.of_below (S := fun _ => False) b) (fun h => h))
          have B55 := Lib.hid (B54.out.trans (b.mono B54.out.size))
          clear b Ix54 B54
          have Ix56 := Lib.hid (Ix55.out.alloc (.cells #[.string ⟨#[97]⟩, .int .i64 80, .string ⟨#[47, 63]⟩] 23))
          have B56 := Lib.hid (B55.out.alloc B55.out.size (.cells #[.string ⟨#[97]⟩, .int .i64 80, .string ⟨#[47, 63]⟩] 23))
          have Iy56 := Lib.hid (Is.made w55 23 [.string ⟨#[97]⟩, .int .i64 80, .string ⟨#[47, 63]⟩])
          clear Ix55 B55
          go_upto_region 39 with fail
          generalize w55.alloc _ = w56 at *
          have yx0 : w56.cell? ⟨w53.heap.size, 0, none⟩ = some (.string ⟨#[97]⟩) := Ix56.out.cell 0
          have yx1 : w56.cell? ⟨w53.heap.size, 1, none⟩ = some (.int .i64 80) := Ix56.out.cell 1
          have yx2 : w56.cell? ⟨w53.heap.size, 2, none⟩ = some (.string ⟨#[47, 63, 98, 63, 99]⟩) := Ix56.out.cell 2
          go_wp2_with fail
          clear yx0 yx1 yx2
          refine (join_at ⟨#[97]⟩ ⟨#[47, 63, 98, 63, 99]⟩ ⟨#[47, 47, 99]⟩ ⟨#[]⟩ ⟨#[]⟩ 80 0 23 (by decide +kernel) _ (by decide) (by decide) (by decide) ⟨by decide, by decide⟩ (HP.out.below B56.out)).mono ?_
          rintro e w57 ⟨rfl, b⟩
          have Ix57 := Lib.hid (Ix56.out.kept (Turn.of_below (S := fun _ => False) b) (fun h => h))
          have Iy57 := Lib.hid (Iy56.out.kept (Turn.of_below (S := fun _ => False) b) (fun h => h))
          have B57 := Lib.hid (B56.out.trans (b.mono B56.out.size))
          clear b Ix56 Iy56 B56
          have Ix58 := Lib.hid (Ix57.out.alloc (.cells #[.string ⟨#[]⟩, .int .i64 0, .string ⟨#[]⟩] 23))
          have Iy58 := Lib.hid (Iy57.out.alloc (.cells #[.string ⟨#[]⟩, .int .i64 0, .string ⟨#[]⟩] 23))
          have B58 := Lib.hid (B57.out.alloc B57.out.size (.cells #[.string ⟨#[]⟩, .int .i64 0, .string ⟨#[]⟩] 23))
          have Iz58 := Lib.hid (Is.made w57 23 [.string ⟨#[]⟩, .int .i64 0, .string ⟨#[]⟩])
          clear Ix57 Iy57 B57
          go_upto_region 40 with fail
          generalize w57.alloc _ = w58 at *
          clear Iz58
          have yx0 : w58.cell? ⟨w53.heap.size, 0, none⟩ = some (.string ⟨#[97]⟩) := Ix58.out.cell 0
          have yx1 : w58.cell? ⟨w53.heap.size, 1, none⟩ = some (.int .i64 80) := Ix58.out.cell 1
          have yx2 : w58.cell? ⟨w53.heap.size, 2, none⟩ = some (.string ⟨#[47, 63, 98, 63, 99]⟩) := Ix58.out.cell 2
          go_wp2_with fail
          clear yx0 yx1 yx2
          refine (join_at ⟨#[97]⟩ ⟨#[47, 63, 98, 63, 99]⟩ ⟨#[104, 116, 116, 112, 58, 47, 47, 99, 47, 100]⟩ ⟨#[99]⟩ ⟨#[47, 100]⟩ 80 80 0 (by decide +kernel) _ (by decide) (by decide) (by decide) ⟨by decide, by decide⟩ (HP.out.below B58.out)).mono ?_
          rintro e w59 ⟨rfl, b⟩
          have Ix59 := Lib.hid (Ix58.out.kept (Turn.of_below (S := fun _ => False) b) (fun h => h))
          have Iy59 := Lib.hid (Iy58.out.kept (Turn.of_below (S := fun _ => False) b) (fun h => h))
          have B59 := Lib.hid (B58.out.trans (b.mono B58.out.size))
          clear b Ix58 Iy58 B58
          have Ix60 := Lib.hid (Ix59.out.alloc (.cells #[.string ⟨#[99]⟩, .int .i64 80, .string ⟨#[47, 100]⟩] 23))
          have Iy60 := Lib.hid (Iy59.out.alloc (.cells #[.string ⟨#[99]⟩, .int .i64 80, .string ⟨#[47, 100]⟩] 23))
          have B60 := Lib.hid (B59.out.alloc B59.out.size (.cells #[.string ⟨#[99]⟩, .int .i64 80, .string ⟨#[47, 100]⟩] 23))
          have Iz60 := Lib.hid (Is.made w59 23 [.string ⟨#[99]⟩, .int .i64 80, .string ⟨#[47, 100]⟩])
          clear Ix59 Iy59 B59
          go_upto_region 41 with fail
          generalize w59.alloc _ = w60 at *
          have yx0 : w60.cell? ⟨w53.heap.size, 0, none⟩ = some (.string ⟨#[97]⟩) := Ix60.out.cell 0
          have yx1 : w60.cell? ⟨w53.heap.size, 1, none⟩ = some (.int .i64 80) := Ix60.out.cell 1
          have yx2 : w60.cell? ⟨w53.heap.size, 2, none⟩ = some (.string ⟨#[47, 63, 98, 63, 99]⟩) := Ix60.out.cell 2
          have yy0 : w60.cell? ⟨w55.heap.size, 0, none⟩ = some (.string ⟨#[97]⟩) := Iy60.out.cell 0
          have yy1 : w60.cell? ⟨w55.heap.size, 1, none⟩ = some (.int .i64 80) := Iy60.out.cell 1
          have yy2 : w60.cell? ⟨w55.heap.size, 2, none⟩ = some (.string ⟨#[47, 63]⟩) := Iy60.out.cell 2
          have yz0 : w60.cell? ⟨w59.heap.size, 0, none⟩ = some (.string ⟨#[99]⟩) := Iz60.out.cell 0
          have yz1 : w60.cell? ⟨w59.heap.size, 1, none⟩ = some (.int .i64 80) := Iz60.out.cell 1
          have yz2 : w60.cell? ⟨w59.heap.size, 2, none⟩ = some (.string ⟨#[47, 100]⟩) := Iz60.out.cell 2
          go_wp2_with fail
          clear yx0 yx1 yx2
          clear yy0 yy1 yy2
          clear yz0 yz1 yz2
          refine (text_at ⟨#[]⟩ ⟨#[]⟩ ⟨#[]⟩ 0 (by decide +kernel) _ (by decide) (by decide) ⟨by decide, by decide⟩ (HP.out.below B60.out)).mono ?_
          rintro e w61 ⟨rfl, b⟩
          have Ix61 := Lib.hid (Ix60.out.kept (Turn.of_below (S := fun _ => False) b) (fun h => h))
          have Iy61 := Lib.hid (Iy60.out.kept (Turn.of_below (S := fun _ => False) b) (fun h => h))
          have Iz61 := Lib.hid (Iz60.out.kept (Turn.of_below (S := fun _ => False) b) (fun h => h))
          have B61 := Lib.hid (B60.out.trans (b.mono B60.out.size))
          clear b Ix60 Iy60 Iz60 B60
          go_wp2_with fail
          refine (host_at ⟨#[97]⟩ ⟨#[120]⟩ ⟨#[]⟩ 1 (by decide +kernel) _ (by decide) (by decide) ⟨by decide, by decide⟩ (HP.out.below B61.out)).mono ?_
          rintro e w62 ⟨rfl, b⟩
          have Ix62 := Lib.hid (Ix61.out.kept (Turn.of_below (S := fun _ => False) b) (fun h => h))
          have Iy62 := Lib.hid (Iy61.out.kept (Turn.of_below (S := fun _ => False) b) (fun h => h))
          have Iz62 := Lib.hid (Iz61.out.kept (Turn.of_below (S := fun _ => False) b) (fun h => h))
          have B62 := Lib.hid (B61.out.trans (b.mono B61.out.size))
          clear b Ix61 Iy61 Iz61 B61
          go_wp2_with fail
          refine (wakes_any _ (HP.out.below B62.out)).mono ?_
          rintro e w63 ⟨rfl, b⟩
          have Ix63 := Lib.hid (Ix62.out.kept (Turn.of_below (S := fun _ => False) b) (fun h => h))
          have Iy63 := Lib.hid (Iy62.out.kept (Turn.of_below (S := fun _ => False) b) (fun h => h))
          have Iz63 := Lib.hid (Iz62.out.kept (Turn.of_below (S := fun _ => False) b) (fun h => h))
          have B63 := Lib.hid (B62.out.trans (b.mono B62.out.size))
          clear b Ix62 Iy62 Iz62 B62
          go_wp2_with fail
          go_ret
          exact ⟨rfl, B63.out⟩

set_option maxHeartbeats 16000000 in
set_option maxRecDepth 100000 in
theorem rest6 (w : World) (hp : PowTab w) (a : Act) (wo2 : World) (hg : Good8 w a wo2) : Code.wp Tryd.prog (tailOf 6 (Tryd.f7.body.getD .skip)) (bodyPost Tryd.prog Tryd.f7 fun e w' => e = .returned (.bool true) ∧ Below w.heap.size w w') a wo2 := by
  obtain ⟨u, hu, hd, hb⟩ := hg
  obtain ⟨t, ds⟩ := a
  simp only at hu hd
  subst hu hd
  have BX2 := Lib.hid hb
  have HP := Lib.hid hp
  clear hb hp
  unfold lit8
  conv => arg 2; whnf
  go_wp2_with fail
  generalize hW : World.alloc wo2 _ = W3
  have HB3 : Hid (Below w.heap.size w W3) := Lib.hid (by rw [← hW]; exact BX2.out.alloc BX2.out.size _)
  have HN3 : Hid (NoAuths W3 wo2.heap.size 8) := Lib.hid (by rw [← hW]; exact no_auths wo2 _ none8 none8_no)
  clear hW
  generalize Value.agg _ = ag3
  rename_i K8 hc8
  have hK8 : ∀ a' w', Good8 w a' w' → K8 a' w' := fun a' w' hg => hc8 a' w' (rest8 w (HP.out) a' w' hg)
  clear hc8
  go_loopw [10] (fun vi wr => ∃ k : Nat, vi = .int .i64 (k : Int) ∧ k ≤ 8 ∧ Hid (Below W3.heap.size W3 wr)) (fun vi _ => 8 - (intOf vi).toNat)
  case atStart => exact ⟨0, rfl, Nat.zero_le _, Lib.hid (Below.refl _ _)⟩
  case round =>
    obtain ⟨k, rfl, hk, HB⟩ := hrel
    by_cases hlt : k < 8
    · obtain ⟨s, hc0, hpr, hsz⟩ := HN3.out k hlt
      have hc : wr.cell? ⟨wo2.heap.size, k, none⟩ = some (.string s) := (HB.out.cell (Lib.lt_of_cell hc0)).trans hc0
      have CP := Lib.hid (authority_at s ⟨#[]⟩ 0 23 hpr wr (by omega) ((HP.out.below HB3.out).below HB.out))
      have i1 : (0 : Int) ≤ (k : Int) := by omega
      have i2 : (k : Int) < 8 := by omega
      clear hc0 hpr
      go_wp2_with fail
      refine CP.out.mono ?_
      rintro e v0 ⟨rfl, b0⟩
      have BR : Hid (Below W3.heap.size W3 v0) := Lib.hid (HB.out.trans (b0.mono HB.out.size))
      clear b0 HB CP
      go_wp2_with fail
      go_roundw
      case rel => exact ⟨k + 1, by go_num, hlt, BR⟩
      case measure => simp [intOf]; omega
    · obtain rfl : k = 8 := by omega
      have BX3 := Lib.hid (HB3.out.trans (HB.out.mono HB3.out.size))
      clear HB HN3 HB3 hk hlt
      obtain ⟨wo3, rfl⟩ : ∃ wo, wo = wr := ⟨_, rfl⟩
      go_wp2_with fail
      exact good8_mk w _ _ (by rfl) BX3.out
/-- The frame ahead of the second loop. -/
def Good5 (w0 : World) (a : Act) (w : World) : Prop := ∃ (u : Nat → Value) (g : Nat), lit8 u = a.tmps ∧ a.defers = [] ∧ u 5 = .pointer (some ⟨g, 0, none⟩) ∧ Below w0.heap.size w0 w ∧ NoUrls w g 22
theorem good5_mk (w0 : World) (a : Act) (w : World) (g : Nat) (h : lit8 (fun i => a.tmps.getD i undef) = a.tmps) (hd : a.defers = []) (h5 : a.tmps.getD 5 undef = .pointer (some ⟨g, 0, none⟩)) (hB : Below w0.heap.size w0 w) (hN : NoUrls w g 22) : Good5 w0 a w := ⟨_, g, h, hd, h5, hB, hN⟩
def cells22 : Array Value := (bad22.map Value.string).toArray
def zeros22 : Array Value := (List.replicate 22 (Value.string ⟨#[]⟩)).toArray


set_option maxHeartbeats 16000000 in
set_option maxRecDepth 100000 in
theorem rest5 (w : World) (hp : PowTab w) (a : Act) (W2 : World) (hg : Good5 w a W2) : Code.wp Tryd.prog (tailOf 5 (Tryd.f7.body.getD .skip)) (bodyPost Tryd.prog Tryd.f7 fun e w' => e = .returned (.bool true) ∧ Below w.heap.size w w') a W2 := by
  obtain ⟨u, g, hu, hd, h5, hb, hn⟩ := hg
  obtain ⟨t, ds⟩ := a
  simp only at hu hd
  subst hu hd
  have HB2 := Lib.hid hb
  have HN2 := Lib.hid hn
  have HP := Lib.hid hp
  clear hb hp hn
  unfold lit8
  rw [h5]
  clear h5
  conv => arg 2; whnf
  go_wp2_with fail
  rename_i K8 hc8
  have hK8 : ∀ a' w', Good8 w a' w' → K8 a' w' := fun a' w' hg => hc8 a' w' (rest6 w (HP.out) a' w' hg)
  clear hc8
  go_loopw [6] (fun vi wr => ∃ k : Nat, vi = .int .i64 (k : Int) ∧ k ≤ 22 ∧ Hid (Below W2.heap.size W2 wr)) (fun vi _ => 22 - (intOf vi).toNat)
  case atStart => exact ⟨0, rfl, Nat.zero_le _, Lib.hid (Below.refl _ _)⟩
  case round =>
    obtain ⟨k, rfl, hk, HB⟩ := hrel
    by_cases hlt : k < 22
    · obtain ⟨s, hc0, hpr, hsz⟩ := HN2.out k hlt
      have hc : wr.cell? ⟨g, k, none⟩ = some (.string s) := (HB.out.cell (Lib.lt_of_cell hc0)).trans hc0
      have CP := Lib.hid (parse_at s ⟨#[]⟩ ⟨#[]⟩ 0 23 hpr wr (by omega) ((HP.out.below HB2.out).below HB.out))
      have i1 : (0 : Int) ≤ (k : Int) := by omega
      have i2 : (k : Int) < 22 := by omega
      clear hc0 hpr
      go_wp2_with fail
      refine CP.out.mono ?_
      rintro e v0 ⟨rfl, b0⟩
      have BR : Hid (Below W2.heap.size W2 v0) := Lib.hid (HB.out.trans (b0.mono HB.out.size))
      clear b0 HB CP
      go_wp2_with fail
      go_roundw
      case rel => exact ⟨k + 1, by go_num, hlt, Lib.hid (BR.out.alloc BR.out.size _)⟩
      case measure => simp [intOf]; omega
    · obtain rfl : k = 22 := by omega
      have BX2 := Lib.hid (HB2.out.trans (HB.out.mono HB2.out.size))
      clear HB HN2 HB2 hk hlt
      obtain ⟨wo2, rfl⟩ : ∃ wo, wo = wr := ⟨_, rfl⟩
      go_wp2_with fail
      exact good8_mk w _ _ (by rfl) BX2.out

set_option maxHeartbeats 16000000 in
set_option maxRecDepth 100000 in
theorem rest4 (w : World) (hp : PowTab w) (a : Act) (wo7 : World) (hg : Good8 w a wo7) : Code.wp Tryd.prog (tailOf 4 (Tryd.f7.body.getD .skip)) (bodyPost Tryd.prog Tryd.f7 fun e w' => e = .returned (.bool true) ∧ Below w.heap.size w w') a wo7 := by
  obtain ⟨u, hu, hd, hb⟩ := hg
  obtain ⟨t, ds⟩ := a
  simp only at hu hd
  subst hu hd
  have BX7 := Lib.hid hb
  have HP := Lib.hid hp
  clear hb hp
  unfold lit8
  conv => arg 2; whnf
  apply wp_seq_k
  intro K8 hc8
  have hK8 : ∀ a' w', Good5 w a' w' → K8 a' w' := fun a' w' hg => hc8 a' w' (rest5 w (HP.out) a' w' hg)
  clear hc8
  refine wp_region_lit ?_
  refine wpList_buildTo rfl _ _ rfl (some 64) rfl cells22 (by as_aux_lemma => kernel_rfl) ?_
  refine Great.wpList_allocTo rfl (some 5) rfl (.pointer (some ⟨wo7.heap.size, 0, none⟩)) (.cells zeros22 44) (by as_aux_lemma => kernel_rfl) ?_
  refine wpList_store_rowTo rfl _ (.tmp 5) (.tmp 64) rfl rfl wo7.heap.size cells22 (by as_aux_lemma => kernel_rfl) (by as_aux_lemma => kernel_rfl) _ _ (heap_alloc_last wo7 _) (by as_aux_lemma => kernel_rfl) (by as_aux_lemma => kernel_rfl) (by as_aux_lemma => kernel_rfl) ?_
  rw [World.setRow_alloc_new]
  refine wpList_nil ?_
  exact hK8 _ _ (good5_mk w _ _ wo7.heap.size (by as_aux_lemma => kernel_rfl) (by as_aux_lemma => kernel_rfl) (by as_aux_lemma => kernel_rfl) (BX7.out.alloc BX7.out.size _) (no_urls wo7 _ bad22 bad22_no))

set_option maxHeartbeats 16000000 in
set_option maxRecDepth 100000 in
theorem rest3 (w : World) (hp : PowTab w) (a : Act) (wo1 : World) (hg : Good8 w a wo1) : Code.wp Tryd.prog (tailOf 3 (Tryd.f7.body.getD .skip)) (bodyPost Tryd.prog Tryd.f7 fun e w' => e = .returned (.bool true) ∧ Below w.heap.size w w') a wo1 := by
  obtain ⟨u, hu, hd, hb⟩ := hg
  obtain ⟨t, ds⟩ := a
  simp only at hu hd
  subst hu hd
  have BX1 := Lib.hid hb
  have HP := Lib.hid hp
  clear hb hp
  unfold lit8
  conv => arg 2; whnf
  apply wp_seq_k
  intro K8 hc8
  have hK8 : ∀ a' w', Good8 w a' w' → K8 a' w' := fun a' w' hg => hc8 a' w' (rest4 w (HP.out) a' w' hg)
  clear hc8
  go_wp2_with fail
  refine (named_at ⟨#[49, 46, 50, 46, 51, 46, 48]⟩ true (by decide +kernel) _ (HP.out.below BX1.out)).mono ?_
  rintro e w11 ⟨rfl, b⟩
  have B11 := Lib.hid (BX1.out.trans (b.mono BX1.out.size))
  clear b BX1
  go_wp2_with fail
  refine (named_at ⟨#[48, 120, 49, 103]⟩ true (by decide +kernel) _ (HP.out.below B11.out)).mono ?_
  rintro e w12 ⟨rfl, b⟩
  have B12 := Lib.hid (B11.out.trans (b.mono B11.out.size))
  clear b B11
  go_wp2_with fail
  refine (named_at ⟨#[49, 97]⟩ true (by decide +kernel) _ (HP.out.below B12.out)).mono ?_
  rintro e w13 ⟨rfl, b⟩
  have B13 := Lib.hid (B12.out.trans (b.mono B12.out.size))
  clear b B12
  go_wp2_with fail
  refine (named_at ⟨#[48, 120, 55, 102, 46, 97]⟩ true (by decide +kernel) _ (HP.out.below B13.out)).mono ?_
  rintro e w14 ⟨rfl, b⟩
  have B14 := Lib.hid (B13.out.trans (b.mono B13.out.size))
  clear b B13
  go_wp2_with fail
  refine (named_at ⟨#[50, 53, 53, 46, 50, 53, 53, 46, 50, 53, 53, 46, 50, 53, 53]⟩ true (by decide +kernel) _ (HP.out.below B14.out)).mono ?_
  rintro e w15 ⟨rfl, b⟩
  have B15 := Lib.hid (B14.out.trans (b.mono B14.out.size))
  clear b B14
  go_wp2_with fail
  refine (named_at ⟨#[45]⟩ true (by decide +kernel) _ (HP.out.below B15.out)).mono ?_
  rintro e w16 ⟨rfl, b⟩
  have B16 := Lib.hid (B15.out.trans (b.mono B15.out.size))
  clear b B15
  go_wp2_with fail
  exact good8_mk w _ _ (by rfl) B16.out

set_option maxHeartbeats 16000000 in
set_option maxRecDepth 100000 in
theorem known_law (w : World) (hp : PowTab w) : Calls Tryd.prog 7 #[] w fun e w' => e = .returned (.bool true) ∧ Below w.heap.size w w' := by
  have HP := Lib.hid hp
  clear hp
  go_enter Tryd.func7, Tryd.ntmps7
  go_wp2_with fail
  generalize hW : World.alloc w _ = W1
  have HB1 : Hid (Below w.heap.size w W1) := Lib.hid (by rw [← hW]; exact (Below.refl _ _).alloc (Nat.le_refl _) _)
  have HN1 : Hid (NoUrls W1 w.heap.size 14) := Lib.hid (by rw [← hW]; exact no_urls w _ odd14 odd14_no)
  clear hW
  generalize Value.agg _ = ag1
  rename_i K8 hc8
  have hK8 : ∀ a' w', Good8 w a' w' → K8 a' w' := fun a' w' hg => hc8 a' w' (rest3 w (HP.out) a' w' hg)
  clear hc8
  go_loopw [2] (fun vi wr => ∃ k : Nat, vi = .int .i64 (k : Int) ∧ k ≤ 14 ∧ Hid (Below W1.heap.size W1 wr)) (fun vi _ => 14 - (intOf vi).toNat)
  case atStart => exact ⟨0, rfl, Nat.zero_le _, Lib.hid (Below.refl _ _)⟩
  case round =>
    obtain ⟨k, rfl, hk, HB⟩ := hrel
    by_cases hlt : k < 14
    · obtain ⟨s, hc0, hpr, hsz⟩ := HN1.out k hlt
      have hc : wr.cell? ⟨w.heap.size, k, none⟩ = some (.string s) := (HB.out.cell (Lib.lt_of_cell hc0)).trans hc0
      have CP := Lib.hid (parse_at s ⟨#[]⟩ ⟨#[]⟩ 0 23 hpr wr (by omega) ((HP.out.below HB1.out).below HB.out))
      have i1 : (0 : Int) ≤ (k : Int) := by omega
      have i2 : (k : Int) < 14 := by omega
      clear hc0 hpr
      go_wp2_with fail
      refine CP.out.mono ?_
      rintro e v0 ⟨rfl, b0⟩
      have BR : Hid (Below W1.heap.size W1 v0) := Lib.hid (HB.out.trans (b0.mono HB.out.size))
      clear b0 HB CP
      go_wp2_with fail
      go_roundw
      case rel => exact ⟨k + 1, by go_num, hlt, Lib.hid (BR.out.alloc BR.out.size _)⟩
      case measure => simp [intOf]; omega
    · obtain rfl : k = 14 := by omega
      have BX1 := Lib.hid (HB1.out.trans (HB.out.mono HB1.out.size))
      clear HB HN1 HB1 hk hlt
      obtain ⟨wo1, rfl⟩ : ∃ wo, wo = wr := ⟨_, rfl⟩
      go_wp2_with fail
      exact good8_mk w _ _ (by rfl) BX1.out
end Go.Proofs.YthkcniimnaephaaDoor.Uri
