/-
  What the reference's Authority and Parse of package uri answer.
  Conditions: those that each theorem names.
-/
import Derived.Test.YthkcniimnaephaaGreatDoorYV
namespace Go.Proofs.YthkcniimnaephaaGreatDoor.Uri
open Go.RowKit

theorem colon_is (c : UInt8) : (bl (⟨#[58]⟩ : ByteArray)).contains c = (fun c => c == 58) c := by
  rw [show bl (⟨#[58]⟩ : ByteArray) = [58] from rfl, Bool.eq_iff_iff]
  simp
theorem end_is (c : UInt8) : (bl (⟨#[47, 63]⟩ : ByteArray)).contains c = endB c := by
  rw [show bl (⟨#[47, 63]⟩ : ByteArray) = [47, 63] from rfl]
  unfold endB
  rw [Bool.eq_iff_iff]
  simp
theorem au_ref (l : List UInt8) : authorityF l = if namedF (lowF (cutC 58 l).1) = true ∧ portR (cutC 58 l).2 ≠ 0 then some (lowF (cutC 58 l).1, portR (cutC 58 l).2) else none := by
  unfold authorityF portR
  cases numbF 65535 (cutC 58 l).2 with
  | none =>
    rw [if_neg (fun h => h.2 rfl)]
  | some p =>
    simp only [Option.getD_some]
    by_cases h0 : p = 0
    · rw [if_pos h0, if_neg (fun h => h.2 h0)]
    · rw [if_neg h0]
      by_cases hn : namedF (lowF (cutC 58 l).1) = true
      · rw [if_pos hn, if_pos ⟨hn, h0⟩]
      · rw [if_neg hn, if_neg (fun h => hn h.1)]
theorem portR_le (l : List UInt8) : portR l ≤ 65535 := by
  unfold portR
  cases hn : numbF 65535 l with
  | none => exact Nat.zero_le _
  | some p => exact (numb_some hn).1
theorem rport_none (a : List UInt8) (h : 58 ∉ a) : rportF a = 80 := by
  unfold rportF
  rw [if_neg (by simpa using h)]
theorem rport_some (a : List UInt8) (h : 58 ∈ a) : rportF a = portR (cutC 58 a).2 := by
  unfold rportF portR
  rw [if_pos (by simpa using h)]
theorem empty_yes (s : ByteArray) (h : bl s = []) : s.toList.isEmpty = true := by rw [toList_bl, h]; rfl
theorem empty_no (s : ByteArray) (c : UInt8) (l : List UInt8) (h : bl s = c :: l) : s.toList.isEmpty = false := by rw [toList_bl, h]; rfl
theorem size_bl (s : ByteArray) (l : List UInt8) (h : bl s = l) : s.size = l.length := by rw [← bl_length, h]
theorem tail_bl (s : ByteArray) (c : UInt8) (l : List UInt8) (h : bl s = c :: l) : bl (s.extract 1 s.size) = l := by
  rw [extract_bl, piece_back, h]
  rfl
theorem bl_app' (a b : ByteArray) : bl (a ++ b) = bl a ++ bl b := by simp [bl, ByteArray.data_append]
theorem cutC_lenA (l : List UInt8) : (cutC 58 l).1.length ≤ l.length ∧ (cutC 58 l).2.length ≤ l.length := cutC_len 58 l

set_option maxHeartbeats 4000000 in
theorem rparse_no (s : ByteArray) (w : World) (hb : (lowF ((bl s).take 7) == httpL) = false) : Calls Tryz.prog 18 #[.string s] w (UrlGot (urlT (parseF (bl s))) w) := by
  obtain ⟨g, hg⟩ : ∃ g, w.heap.size = g := ⟨_, rfl⟩
  have I0 := Lib.hid (show Is (w.alloc (.cells #[.string ⟨#[]⟩, .int .i64 0, .string ⟨#[]⟩] 23)) g 23 [.string ⟨#[]⟩, .int .i64 0, .string ⟨#[]⟩] by have := Is.made w 23 [.string ⟨#[]⟩, .int .i64 0, .string ⟨#[]⟩]; rwa [hg] at this)
  have B0 := Lib.hid (show Below w.heap.size w (w.alloc (.cells #[.string ⟨#[]⟩, .int .i64 0, .string ⟨#[]⟩] 23)) from (Below.refl _ _).alloc (Nat.le_refl _) _)
  have HG := Lib.hid hg
  have HR := Lib.hid (parse_out (bl s) hb)
  unfold UrlGot
  by_cases h7 : s.size < 7
  · have m1 : (s.size : Int) < 7 := by omega
    clear hb hg h7
    go_enter Tryz.func18, Tryz.ntmps18
    go_wp2_with fail
    try simp only [HG.out]
    refine bodyPost_ret (results_cell1 rfl _ _ g _ _ _ _ rfl I0.out Tryz.underlying23 rfl (by kernel_rfl)) rfl ?_
    refine ⟨by rw [HR.out]; rfl, ?_⟩
    rw [← HG.out]
    exact B0.out
  · have m1 : ¬ (s.size : Int) < 7 := by omega
    have m4 : (7 : Int) ≤ (s.size : Int) := by omega
    obtain ⟨L, hL⟩ : ∃ L : ByteArray, L = ⟨(lowF ((bl s).take 7)).toArray⟩ := ⟨_, rfl⟩
    have CL := fun X : World => lower_any (s.extract 0 7) X (by rw [← bl_length, extract_bl, piece_front, List.length_take]; omega)
    unfold Text at CL
    rw [extract_bl, piece_front] at CL
    simp only [← hL] at CL
    have eL : (L.toList == [104, 116, 116, 112, 58, 47, 47]) = false := by
      rw [toList_bl, hL, bl_mk]
      exact hb
    have D1 := Lib.hid CL
    clear CL hb hg h7 hL
    go_enter Tryz.func18, Tryz.ntmps18
    go_wp2_with fail
    try simp only [HG.out]
    refine (D1.out _).mono ?_
    rintro e w1 ⟨rfl, b1⟩
    have I1 := Lib.hid (I0.out.kept (Turn.of_below (S := fun _ => False) b1) (fun h => h))
    have B1 := Lib.hid (B0.out.trans (b1.mono B0.out.size))
    clear b1 I0 B0
    have c0 : w1.cell? ⟨g, 0, none⟩ = some (.string ⟨#[]⟩) := I1.out.cell 0
    have f0 : w1.frozen? ⟨g, 0, none⟩ = false := I1.out.free 0
    have c1 : w1.cell? ⟨g, 1, none⟩ = some (.int .i64 0) := I1.out.cell 1
    have f1 : w1.frozen? ⟨g, 1, none⟩ = false := I1.out.free 1
    have c2 : w1.cell? ⟨g, 2, none⟩ = some (.string ⟨#[]⟩) := I1.out.cell 2
    have f2 : w1.frozen? ⟨g, 2, none⟩ = false := I1.out.free 2
    have I9 := Lib.hid (put3_is I1.out (.string ⟨#[]⟩) (.int .i64 0) (.string ⟨#[]⟩))
    have B9 := Lib.hid (put3_below B1.out (Nat.le_of_eq HG.out) (.string ⟨#[]⟩) (.int .i64 0) (.string ⟨#[]⟩))
    go_wp2_with fail
    refine bodyPost_ret (results_cell1 rfl _ _ g _ _ _ _ rfl I9.out Tryz.underlying23 rfl (by kernel_rfl)) rfl ?_
    exact ⟨by rw [HR.out]; rfl, B9.out⟩

set_option maxHeartbeats 8000000 in
theorem rparse_ce (s : ByteArray) (w : World) (hs : s.size ≤ 2000000) (hb : (lowF ((bl s).take 7) == httpL) = true) (hc : 58 ∈ (cutA ((bl s).drop 7)).1) (hq : (cutA ((bl s).drop 7)).2 = []) : Calls Tryz.prog 18 #[.string s] w (UrlGot (urlT (parseF (bl s))) w) := by
  obtain ⟨g, hg⟩ : ∃ g, w.heap.size = g := ⟨_, rfl⟩
  have I0 := Lib.hid (show Is (w.alloc (.cells #[.string ⟨#[]⟩, .int .i64 0, .string ⟨#[]⟩] 23)) g 23 [.string ⟨#[]⟩, .int .i64 0, .string ⟨#[]⟩] by have := Is.made w 23 [.string ⟨#[]⟩, .int .i64 0, .string ⟨#[]⟩]; rwa [hg] at this)
  have B0 := Lib.hid (show Below w.heap.size w (w.alloc (.cells #[.string ⟨#[]⟩, .int .i64 0, .string ⟨#[]⟩] 23)) from (Below.refl _ _).alloc (Nat.le_refl _) _)
  have HG := Lib.hid hg
  have h7 := seven hb
  rw [bl_length] at h7
  have HE := parse_ref (bl s)
  simp only [beq_iff_eq.1 hb, true_and] at HE
  have m1 : ¬ (s.size : Int) < 7 := by omega
  have m4 : (7 : Int) ≤ (s.size : Int) := by omega
  have CL := fun X : World => lower_any (s.extract 0 7) X (by rw [← bl_length, extract_bl, piece_front, List.length_take]; omega)
  unfold Text at CL
  rw [extract_bl, piece_front, beq_iff_eq.1 hb, show (⟨httpL.toArray⟩ : ByteArray) = ⟨#[104, 116, 116, 112, 58, 47, 47]⟩ from rfl] at CL
  have C1 := Lib.hid CL
  have CC := fun X : World => rcut_any (s.extract 7 s.size) ⟨#[47, 63]⟩ endB end_is X (by have := extract_size s 7 s.size; omega) (by decide)
  rw [extract_bl, piece_back, cutB_end] at CC
  obtain ⟨l1, l2⟩ := cutA_len ((bl s).drop 7)
  rw [List.length_drop, bl_length] at l1 l2
  unfold rurlF at HE
  generalize (cutA ((bl s).drop 7)).1 = a at *
  generalize (cutA ((bl s).drop 7)).2 = q at *
  obtain ⟨A, hA⟩ : ∃ A : ByteArray, A = ⟨a.toArray⟩ := ⟨_, rfl⟩
  obtain ⟨Q, hQ⟩ : ∃ Q : ByteArray, Q = ⟨q.toArray⟩ := ⟨_, rfl⟩
  have hAb : bl A = a := by rw [hA, bl_mk]
  have hQb : bl Q = q := by rw [hQ, bl_mk]
  simp only [← hA, ← hQ] at CC
  have hAz := size_bl A a hAb
  have hQz := size_bl Q q hQb
  have C2 := Lib.hid CC
  have CD := fun X : World => rcut_any A ⟨#[58]⟩ (fun c => c == 58) colon_is X (by omega) (by decide)
  rw [hAb] at CD
  have z2 : ¬ 9223372036854775807 < 1 + Q.size := by omega
  have hPb : bl ((⟨#[47]⟩ : ByteArray) ++ Q) = slashF q := by
    unfold slashF
    rw [if_neg (by rw [hq]; simp), bl_app', hQb]; rfl
  have hPz : ((⟨#[47]⟩ : ByteArray) ++ Q).size ≤ 140737488351232 := by
    rw [size_bl _ _ hPb]
    unfold slashF
    split <;> (try simp) <;> omega
  have eQ := empty_yes Q (by rw [hQb, hq])
  rcases cutB_colon a with ⟨hno, _, _⟩ | ⟨a1, b, hcb, hcc, _⟩
  · exact absurd hc hno
  obtain ⟨l3, l4⟩ := cutC_lenA a
  rw [hcb] at CD
  rw [rport_some a hc, hcc] at HE
  rw [hcc] at l3 l4
  simp only at l3 l4
  obtain ⟨A1, hA1⟩ : ∃ A : ByteArray, A = ⟨a1.toArray⟩ := ⟨_, rfl⟩
  obtain ⟨M, hM⟩ : ∃ M : ByteArray, M = ⟨(58 :: b).toArray⟩ := ⟨_, rfl⟩
  have hA1b : bl A1 = a1 := by rw [hA1, bl_mk]
  have hMb : bl M = 58 :: b := by rw [hM, bl_mk]
  simp only [← hA1, ← hM] at CD
  have hA1z := size_bl A1 _ hA1b
  have CP := fun X : World => rport_any (M.extract 1 M.size) X
  rw [tail_bl M 58 b hMb] at CP
  have eM := empty_no M 58 b hMb
  have iM : (1 : Int) ≤ (M.size : Int) := by rw [size_bl M _ hMb]; simp; omega
  have C4 := Lib.hid CP
  have hn := portR_le b
  clear CP hA1 hM hMb hcb hcc
  generalize portR b = n at *
  have C3 := Lib.hid CD
  obtain ⟨L, hL⟩ : ∃ L : ByteArray, L = ⟨(lowF a1).toArray⟩ := ⟨_, rfl⟩
  have hLb : bl L = lowF a1 := by rw [hL, bl_mk]
  have CW := fun X : World => lower_any A1 X (by omega)
  unfold Text at CW
  rw [hA1b] at CW
  simp only [← hL] at CW
  have C5 := Lib.hid CW
  have CM := fun X : World => rmay_any L ((⟨#[47]⟩ : ByteArray) ++ Q) (n : Int) X (by rw [size_bl L _ hLb, lowF_length]; omega) hPz
  rw [hLb, hPb] at CM
  simp only at HE
  have HL := Lib.hid hL
  have HPB := Lib.hid (show ((⟨#[47]⟩ : ByteArray) ++ Q) = ⟨(slashF q).toArray⟩ by rw [← hPb, mk_bl])
  clear CL CC CD CW hb hg h7 l1 l2 hA hQ hAb hQb hAz hQz hPb hPz hc hq hs hL hLb l3 l4 hA1b hA1z
  generalize slashF q = r at *
  generalize lowF a1 = ln at *
  generalize mayF ln (n : Int) r = mb at *
  have C6 := Lib.hid CM
  have HE := Lib.hid HE
  clear CM
  unfold UrlGot
  cases mb with
  | false =>
    have HR := Lib.hid (show parseF (bl s) = none by rw [HE.out, if_neg Bool.false_ne_true])
    clear HE
    go_enter Tryz.func18, Tryz.ntmps18
    go_wp2_with fail
    try simp only [HG.out]
    refine (C1.out _).mono ?_
    rintro e w1 ⟨rfl, b1⟩
    have I1 := Lib.hid (I0.out.kept (Turn.of_below (S := fun _ => False) b1) (fun h => h))
    have B1 := Lib.hid (B0.out.trans (b1.mono B0.out.size))
    clear b1 I0 B0
    go_wp2_with fail
    refine (C2.out _).mono ?_
    rintro e w2 ⟨rfl, b2⟩
    have I2 := Lib.hid (I1.out.kept (Turn.of_below (S := fun _ => False) b2) (fun h => h))
    have B2 := Lib.hid (B1.out.trans (b2.mono B1.out.size))
    clear b2 I1 B1
    go_wp2_with fail
    refine (C3.out _).mono ?_
    rintro e w3 ⟨rfl, b3⟩
    have I3 := Lib.hid (I2.out.kept (Turn.of_below (S := fun _ => False) b3) (fun h => h))
    have B3 := Lib.hid (B2.out.trans (b3.mono B2.out.size))
    clear b3 I2 B2
    go_wp2_with fail
    refine (C5.out _).mono ?_
    rintro e w4 ⟨rfl, b4⟩
    have I4 := Lib.hid (I3.out.kept (Turn.of_below (S := fun _ => False) b4) (fun h => h))
    have B4 := Lib.hid (B3.out.trans (b4.mono B3.out.size))
    clear b4 I3 B3
    have I5 := Lib.hid (I4.out.alloc (.cells #[.string L, .int .i64 80, .string ((⟨#[47]⟩ : ByteArray) ++ Q)] 23))
    have B5 := Lib.hid (B4.out.alloc B4.out.size (.cells #[.string L, .int .i64 80, .string ((⟨#[47]⟩ : ByteArray) ++ Q)] 23))
    have U5 := Lib.hid (Is.made w4 23 [.string L, .int .i64 80, .string ((⟨#[47]⟩ : ByteArray) ++ Q)])
    have HW := Lib.hid B4.out.size
    have HGL := Lib.hid I4.out.lt
    go_upto_region 8 with fail
    generalize w4.alloc _ = w5 at *
    obtain ⟨g2, hg2⟩ : ∃ g2, w4.heap.size = g2 := ⟨_, rfl⟩
    simp only [hg2]
    rw [hg2] at U5 HW HGL
    clear hg2 I4 B4
    have y1 : w5.cell? ⟨g2, 1, none⟩ = some (.int .i64 80) := U5.out.cell 1
    have yf : w5.frozen? ⟨g2, 1, none⟩ = false := U5.out.free 1
    go_wp2_with fail
    refine (C4.out _).mono ?_
    rintro e w6 ⟨rfl, rfl⟩
    have U6 := Lib.hid (U5.out.set 1 (.int .i64 (n : Int)))
    have B6 := Lib.hid (B5.out.setCell (p := ⟨g2, 1, none⟩) HW.out (.int .i64 (n : Int)))
    have I6 := Lib.hid (I5.out.kept (((Turn.refl (· = g2) w5).setCell (p := ⟨g2, 1, none⟩) (fun _ => rfl) (.int .i64 (n : Int)))) (fun h => by have := HGL.out; omega))
    go_upto_region 10 with fail
    generalize w5.setCell _ _ = w6 at *
    clear y1 yf U5 B5 I5
    have y0 : w6.cell? ⟨g2, 0, none⟩ = some (.string L) := U6.out.cell 0
    have y1 : w6.cell? ⟨g2, 1, none⟩ = some (.int .i64 (n : Int)) := U6.out.cell 1
    have y2 : w6.cell? ⟨g2, 2, none⟩ = some (.string ((⟨#[47]⟩ : ByteArray) ++ Q)) := U6.out.cell 2
    go_wp2_with fail
    refine (C6.out _).mono ?_
    rintro e w7 ⟨rfl, b7⟩
    clear y0 y1 y2
    have I7 := Lib.hid (I6.out.kept (Turn.of_below (S := fun _ => False) b7) (fun h => h))
    have B7 := Lib.hid (B6.out.trans (b7.mono B6.out.size))
    have U7 := Lib.hid (U6.out.kept (Turn.of_below (S := fun _ => False) b7) (fun h => h))
    clear b7 I6 B6 U6
    have c0 : w7.cell? ⟨g, 0, none⟩ = some (.string ⟨#[]⟩) := I7.out.cell 0
    have f0 : w7.frozen? ⟨g, 0, none⟩ = false := I7.out.free 0
    have c1 : w7.cell? ⟨g, 1, none⟩ = some (.int .i64 0) := I7.out.cell 1
    have f1 : w7.frozen? ⟨g, 1, none⟩ = false := I7.out.free 1
    have c2 : w7.cell? ⟨g, 2, none⟩ = some (.string ⟨#[]⟩) := I7.out.cell 2
    have f2 : w7.frozen? ⟨g, 2, none⟩ = false := I7.out.free 2
    have I9 := Lib.hid (put3_is I7.out (.string ⟨#[]⟩) (.int .i64 0) (.string ⟨#[]⟩))
    have B9 := Lib.hid (put3_below B7.out (Nat.le_of_eq HG.out) (.string ⟨#[]⟩) (.int .i64 0) (.string ⟨#[]⟩))
    go_wp2_with fail
    refine bodyPost_ret (results_cell1 rfl _ _ g _ _ _ _ rfl I9.out Tryz.underlying23 rfl (by kernel_rfl)) rfl ?_
    exact ⟨by rw [HR.out]; rfl, B9.out⟩
  | true =>
    have HR := Lib.hid (show parseF (bl s) = some (ln, n, r) by rw [HE.out, if_pos rfl])
    clear HE
    go_enter Tryz.func18, Tryz.ntmps18
    go_wp2_with fail
    try simp only [HG.out]
    refine (C1.out _).mono ?_
    rintro e w1 ⟨rfl, b1⟩
    have I1 := Lib.hid (I0.out.kept (Turn.of_below (S := fun _ => False) b1) (fun h => h))
    have B1 := Lib.hid (B0.out.trans (b1.mono B0.out.size))
    clear b1 I0 B0
    go_wp2_with fail
    refine (C2.out _).mono ?_
    rintro e w2 ⟨rfl, b2⟩
    have I2 := Lib.hid (I1.out.kept (Turn.of_below (S := fun _ => False) b2) (fun h => h))
    have B2 := Lib.hid (B1.out.trans (b2.mono B1.out.size))
    clear b2 I1 B1
    go_wp2_with fail
    refine (C3.out _).mono ?_
    rintro e w3 ⟨rfl, b3⟩
    have I3 := Lib.hid (I2.out.kept (Turn.of_below (S := fun _ => False) b3) (fun h => h))
    have B3 := Lib.hid (B2.out.trans (b3.mono B2.out.size))
    clear b3 I2 B2
    go_wp2_with fail
    refine (C5.out _).mono ?_
    rintro e w4 ⟨rfl, b4⟩
    have I4 := Lib.hid (I3.out.kept (Turn.of_below (S := fun _ => False) b4) (fun h => h))
    have B4 := Lib.hid (B3.out.trans (b4.mono B3.out.size))
    clear b4 I3 B3
    have I5 := Lib.hid (I4.out.alloc (.cells #[.string L, .int .i64 80, .string ((⟨#[47]⟩ : ByteArray) ++ Q)] 23))
    have B5 := Lib.hid (B4.out.alloc B4.out.size (.cells #[.string L, .int .i64 80, .string ((⟨#[47]⟩ : ByteArray) ++ Q)] 23))
    have U5 := Lib.hid (Is.made w4 23 [.string L, .int .i64 80, .string ((⟨#[47]⟩ : ByteArray) ++ Q)])
    have HW := Lib.hid B4.out.size
    have HGL := Lib.hid I4.out.lt
    go_upto_region 8 with fail
    generalize w4.alloc _ = w5 at *
    obtain ⟨g2, hg2⟩ : ∃ g2, w4.heap.size = g2 := ⟨_, rfl⟩
    simp only [hg2]
    rw [hg2] at U5 HW HGL
    clear hg2 I4 B4
    have y1 : w5.cell? ⟨g2, 1, none⟩ = some (.int .i64 80) := U5.out.cell 1
    have yf : w5.frozen? ⟨g2, 1, none⟩ = false := U5.out.free 1
    go_wp2_with fail
    refine (C4.out _).mono ?_
    rintro e w6 ⟨rfl, rfl⟩
    have U6 := Lib.hid (U5.out.set 1 (.int .i64 (n : Int)))
    have B6 := Lib.hid (B5.out.setCell (p := ⟨g2, 1, none⟩) HW.out (.int .i64 (n : Int)))
    have I6 := Lib.hid (I5.out.kept (((Turn.refl (· = g2) w5).setCell (p := ⟨g2, 1, none⟩) (fun _ => rfl) (.int .i64 (n : Int)))) (fun h => by have := HGL.out; omega))
    go_upto_region 10 with fail
    generalize w5.setCell _ _ = w6 at *
    clear y1 yf U5 B5 I5
    have y0 : w6.cell? ⟨g2, 0, none⟩ = some (.string L) := U6.out.cell 0
    have y1 : w6.cell? ⟨g2, 1, none⟩ = some (.int .i64 (n : Int)) := U6.out.cell 1
    have y2 : w6.cell? ⟨g2, 2, none⟩ = some (.string ((⟨#[47]⟩ : ByteArray) ++ Q)) := U6.out.cell 2
    go_wp2_with fail
    refine (C6.out _).mono ?_
    rintro e w7 ⟨rfl, b7⟩
    clear y0 y1 y2
    have I7 := Lib.hid (I6.out.kept (Turn.of_below (S := fun _ => False) b7) (fun h => h))
    have B7 := Lib.hid (B6.out.trans (b7.mono B6.out.size))
    have U7 := Lib.hid (U6.out.kept (Turn.of_below (S := fun _ => False) b7) (fun h => h))
    clear b7 I6 B6 U6
    have c0 : w7.cell? ⟨g, 0, none⟩ = some (.string ⟨#[]⟩) := I7.out.cell 0
    have f0 : w7.frozen? ⟨g, 0, none⟩ = false := I7.out.free 0
    have c1 : w7.cell? ⟨g, 1, none⟩ = some (.int .i64 0) := I7.out.cell 1
    have f1 : w7.frozen? ⟨g, 1, none⟩ = false := I7.out.free 1
    have c2 : w7.cell? ⟨g, 2, none⟩ = some (.string ⟨#[]⟩) := I7.out.cell 2
    have f2 : w7.frozen? ⟨g, 2, none⟩ = false := I7.out.free 2
    have y0 : w7.cell? ⟨g2, 0, none⟩ = some (.string L) := U7.out.cell 0
    have y1 : w7.cell? ⟨g2, 1, none⟩ = some (.int .i64 (n : Int)) := U7.out.cell 1
    have y2 : w7.cell? ⟨g2, 2, none⟩ = some (.string ((⟨#[47]⟩ : ByteArray) ++ Q)) := U7.out.cell 2
    have I9 := Lib.hid (put3_is I7.out (.string L) (.int .i64 (n : Int)) (.string ((⟨#[47]⟩ : ByteArray) ++ Q)))
    have B9 := Lib.hid (put3_below B7.out (Nat.le_of_eq HG.out) (.string L) (.int .i64 (n : Int)) (.string ((⟨#[47]⟩ : ByteArray) ++ Q)))
    go_wp2_with fail
    refine bodyPost_ret (results_cell1 rfl _ _ g _ _ _ _ rfl I9.out Tryz.underlying23 rfl (by kernel_rfl)) rfl ?_
    refine ⟨?_, B9.out⟩
    rw [HR.out, HL.out]
    show Ending.returned (.tuple #[.agg #[.string ⟨ln.toArray⟩, .int .i64 (n : Int), .string ((⟨#[47]⟩ : ByteArray) ++ Q)], .int .i64 0]) = Ending.returned (.tuple #[.agg #[.string ⟨ln.toArray⟩, .int .i64 (n : Int), .string ⟨r.toArray⟩], .int .i64 0])
    rw [HPB.out]

set_option maxHeartbeats 8000000 in
theorem rparse_cs (s : ByteArray) (w : World) (hs : s.size ≤ 2000000) (hb : (lowF ((bl s).take 7) == httpL) = true) (hc : 58 ∈ (cutA ((bl s).drop 7)).1) (hq : (cutA ((bl s).drop 7)).2.take 1 = [47]) : Calls Tryz.prog 18 #[.string s] w (UrlGot (urlT (parseF (bl s))) w) := by
  obtain ⟨g, hg⟩ : ∃ g, w.heap.size = g := ⟨_, rfl⟩
  have I0 := Lib.hid (show Is (w.alloc (.cells #[.string ⟨#[]⟩, .int .i64 0, .string ⟨#[]⟩] 23)) g 23 [.string ⟨#[]⟩, .int .i64 0, .string ⟨#[]⟩] by have := Is.made w 23 [.string ⟨#[]⟩, .int .i64 0, .string ⟨#[]⟩]; rwa [hg] at this)
  have B0 := Lib.hid (show Below w.heap.size w (w.alloc (.cells #[.string ⟨#[]⟩, .int .i64 0, .string ⟨#[]⟩] 23)) from (Below.refl _ _).alloc (Nat.le_refl _) _)
  have HG := Lib.hid hg
  have h7 := seven hb
  rw [bl_length] at h7
  have HE := parse_ref (bl s)
  simp only [beq_iff_eq.1 hb, true_and] at HE
  have m1 : ¬ (s.size : Int) < 7 := by omega
  have m4 : (7 : Int) ≤ (s.size : Int) := by omega
  have CL := fun X : World => lower_any (s.extract 0 7) X (by rw [← bl_length, extract_bl, piece_front, List.length_take]; omega)
  unfold Text at CL
  rw [extract_bl, piece_front, beq_iff_eq.1 hb, show (⟨httpL.toArray⟩ : ByteArray) = ⟨#[104, 116, 116, 112, 58, 47, 47]⟩ from rfl] at CL
  have C1 := Lib.hid CL
  have CC := fun X : World => rcut_any (s.extract 7 s.size) ⟨#[47, 63]⟩ endB end_is X (by have := extract_size s 7 s.size; omega) (by decide)
  rw [extract_bl, piece_back, cutB_end] at CC
  obtain ⟨l1, l2⟩ := cutA_len ((bl s).drop 7)
  rw [List.length_drop, bl_length] at l1 l2
  unfold rurlF at HE
  generalize (cutA ((bl s).drop 7)).1 = a at *
  generalize (cutA ((bl s).drop 7)).2 = q at *
  obtain ⟨A, hA⟩ : ∃ A : ByteArray, A = ⟨a.toArray⟩ := ⟨_, rfl⟩
  obtain ⟨Q, hQ⟩ : ∃ Q : ByteArray, Q = ⟨q.toArray⟩ := ⟨_, rfl⟩
  have hAb : bl A = a := by rw [hA, bl_mk]
  have hQb : bl Q = q := by rw [hQ, bl_mk]
  simp only [← hA, ← hQ] at CC
  have hAz := size_bl A a hAb
  have hQz := size_bl Q q hQb
  have C2 := Lib.hid CC
  have CD := fun X : World => rcut_any A ⟨#[58]⟩ (fun c => c == 58) colon_is X (by omega) (by decide)
  rw [hAb] at CD
  have z2 : ¬ 9223372036854775807 < 1 + Q.size := by omega
  have hPb : bl Q = slashF q := by
    unfold slashF
    rw [if_pos hq, hQb]
  have hPz : Q.size ≤ 140737488351232 := by
    rw [size_bl _ _ hPb]
    unfold slashF
    split <;> (try simp) <;> omega
  obtain ⟨q', hq'⟩ : ∃ q', q = 47 :: q' := by
    cases q with
    | nil => simp at hq
    | cons c q' => exact ⟨q', by simp at hq; rw [hq]⟩
  have eQ := empty_no Q 47 q' (by rw [hQb, hq'])
  have iQ : 0 < Q.size := by rw [hQz, hq']; simp
  have iQ' : (0 : Int) < (Q.size : Int) := by omega
  have hQ0 : Q[0] = 47 := by
    have := first_is Q iQ
    rw [hQb, hq'] at this
    simpa using this.symm
  have hbi := byte_int Q[0] 63
  rw [show ((63 : UInt8).toNat : Int) = 63 from rfl, show (Q[0] == 63) = false by rw [hQ0]; decide] at hbi
  clear hQ0 hq'
  rcases cutB_colon a with ⟨hno, _, _⟩ | ⟨a1, b, hcb, hcc, _⟩
  · exact absurd hc hno
  obtain ⟨l3, l4⟩ := cutC_lenA a
  rw [hcb] at CD
  rw [rport_some a hc, hcc] at HE
  rw [hcc] at l3 l4
  simp only at l3 l4
  obtain ⟨A1, hA1⟩ : ∃ A : ByteArray, A = ⟨a1.toArray⟩ := ⟨_, rfl⟩
  obtain ⟨M, hM⟩ : ∃ M : ByteArray, M = ⟨(58 :: b).toArray⟩ := ⟨_, rfl⟩
  have hA1b : bl A1 = a1 := by rw [hA1, bl_mk]
  have hMb : bl M = 58 :: b := by rw [hM, bl_mk]
  simp only [← hA1, ← hM] at CD
  have hA1z := size_bl A1 _ hA1b
  have CP := fun X : World => rport_any (M.extract 1 M.size) X
  rw [tail_bl M 58 b hMb] at CP
  have eM := empty_no M 58 b hMb
  have iM : (1 : Int) ≤ (M.size : Int) := by rw [size_bl M _ hMb]; simp; omega
  have C4 := Lib.hid CP
  have hn := portR_le b
  clear CP hA1 hM hMb hcb hcc
  generalize portR b = n at *
  have C3 := Lib.hid CD
  obtain ⟨L, hL⟩ : ∃ L : ByteArray, L = ⟨(lowF a1).toArray⟩ := ⟨_, rfl⟩
  have hLb : bl L = lowF a1 := by rw [hL, bl_mk]
  have CW := fun X : World => lower_any A1 X (by omega)
  unfold Text at CW
  rw [hA1b] at CW
  simp only [← hL] at CW
  have C5 := Lib.hid CW
  have CM := fun X : World => rmay_any L Q (n : Int) X (by rw [size_bl L _ hLb, lowF_length]; omega) hPz
  rw [hLb, hPb] at CM
  simp only at HE
  have HL := Lib.hid hL
  have HPB := Lib.hid (show Q = ⟨(slashF q).toArray⟩ by rw [← hPb, mk_bl])
  clear CL CC CD CW hb hg h7 l1 l2 hA hQ hAb hQb hAz hQz hPb hPz hc hq hs hL hLb l3 l4 hA1b hA1z
  generalize slashF q = r at *
  generalize lowF a1 = ln at *
  generalize mayF ln (n : Int) r = mb at *
  have C6 := Lib.hid CM
  have HE := Lib.hid HE
  clear CM
  unfold UrlGot
  cases mb with
  | false =>
    have HR := Lib.hid (show parseF (bl s) = none by rw [HE.out, if_neg Bool.false_ne_true])
    clear HE
    go_enter Tryz.func18, Tryz.ntmps18
    go_wp2_with fail
    try simp only [HG.out]
    refine (C1.out _).mono ?_
    rintro e w1 ⟨rfl, b1⟩
    have I1 := Lib.hid (I0.out.kept (Turn.of_below (S := fun _ => False) b1) (fun h => h))
    have B1 := Lib.hid (B0.out.trans (b1.mono B0.out.size))
    clear b1 I0 B0
    go_wp2_with fail
    refine (C2.out _).mono ?_
    rintro e w2 ⟨rfl, b2⟩
    have I2 := Lib.hid (I1.out.kept (Turn.of_below (S := fun _ => False) b2) (fun h => h))
    have B2 := Lib.hid (B1.out.trans (b2.mono B1.out.size))
    clear b2 I1 B1
    go_wp2_with fail
    refine (C3.out _).mono ?_
    rintro e w3 ⟨rfl, b3⟩
    have I3 := Lib.hid (I2.out.kept (Turn.of_below (S := fun _ => False) b3) (fun h => h))
    have B3 := Lib.hid (B2.out.trans (b3.mono B2.out.size))
    clear b3 I2 B2
    go_wp2_with fail
    refine (C5.out _).mono ?_
    rintro e w4 ⟨rfl, b4⟩
    have I4 := Lib.hid (I3.out.kept (Turn.of_below (S := fun _ => False) b4) (fun h => h))
    have B4 := Lib.hid (B3.out.trans (b4.mono B3.out.size))
    clear b4 I3 B3
    have I5 := Lib.hid (I4.out.alloc (.cells #[.string L, .int .i64 80, .string Q] 23))
    have B5 := Lib.hid (B4.out.alloc B4.out.size (.cells #[.string L, .int .i64 80, .string Q] 23))
    have U5 := Lib.hid (Is.made w4 23 [.string L, .int .i64 80, .string Q])
    have HW := Lib.hid B4.out.size
    have HGL := Lib.hid I4.out.lt
    go_upto_region 8 with fail
    generalize w4.alloc _ = w5 at *
    obtain ⟨g2, hg2⟩ : ∃ g2, w4.heap.size = g2 := ⟨_, rfl⟩
    simp only [hg2]
    rw [hg2] at U5 HW HGL
    clear hg2 I4 B4
    have y1 : w5.cell? ⟨g2, 1, none⟩ = some (.int .i64 80) := U5.out.cell 1
    have yf : w5.frozen? ⟨g2, 1, none⟩ = false := U5.out.free 1
    go_wp2_with fail
    refine (C4.out _).mono ?_
    rintro e w6 ⟨rfl, rfl⟩
    have U6 := Lib.hid (U5.out.set 1 (.int .i64 (n : Int)))
    have B6 := Lib.hid (B5.out.setCell (p := ⟨g2, 1, none⟩) HW.out (.int .i64 (n : Int)))
    have I6 := Lib.hid (I5.out.kept (((Turn.refl (· = g2) w5).setCell (p := ⟨g2, 1, none⟩) (fun _ => rfl) (.int .i64 (n : Int)))) (fun h => by have := HGL.out; omega))
    go_upto_region 10 with fail
    generalize w5.setCell _ _ = w6 at *
    clear y1 yf U5 B5 I5
    have y0 : w6.cell? ⟨g2, 0, none⟩ = some (.string L) := U6.out.cell 0
    have y1 : w6.cell? ⟨g2, 1, none⟩ = some (.int .i64 (n : Int)) := U6.out.cell 1
    have y2 : w6.cell? ⟨g2, 2, none⟩ = some (.string Q) := U6.out.cell 2
    go_wp2_with fail
    refine (C6.out _).mono ?_
    rintro e w7 ⟨rfl, b7⟩
    clear y0 y1 y2
    have I7 := Lib.hid (I6.out.kept (Turn.of_below (S := fun _ => False) b7) (fun h => h))
    have B7 := Lib.hid (B6.out.trans (b7.mono B6.out.size))
    have U7 := Lib.hid (U6.out.kept (Turn.of_below (S := fun _ => False) b7) (fun h => h))
    clear b7 I6 B6 U6
    have c0 : w7.cell? ⟨g, 0, none⟩ = some (.string ⟨#[]⟩) := I7.out.cell 0
    have f0 : w7.frozen? ⟨g, 0, none⟩ = false := I7.out.free 0
    have c1 : w7.cell? ⟨g, 1, none⟩ = some (.int .i64 0) := I7.out.cell 1
    have f1 : w7.frozen? ⟨g, 1, none⟩ = false := I7.out.free 1
    have c2 : w7.cell? ⟨g, 2, none⟩ = some (.string ⟨#[]⟩) := I7.out.cell 2
    have f2 : w7.frozen? ⟨g, 2, none⟩ = false := I7.out.free 2
    have I9 := Lib.hid (put3_is I7.out (.string ⟨#[]⟩) (.int .i64 0) (.string ⟨#[]⟩))
    have B9 := Lib.hid (put3_below B7.out (Nat.le_of_eq HG.out) (.string ⟨#[]⟩) (.int .i64 0) (.string ⟨#[]⟩))
    go_wp2_with fail
    refine bodyPost_ret (results_cell1 rfl _ _ g _ _ _ _ rfl I9.out Tryz.underlying23 rfl (by kernel_rfl)) rfl ?_
    exact ⟨by rw [HR.out]; rfl, B9.out⟩
  | true =>
    have HR := Lib.hid (show parseF (bl s) = some (ln, n, r) by rw [HE.out, if_pos rfl])
    clear HE
    go_enter Tryz.func18, Tryz.ntmps18
    go_wp2_with fail
    try simp only [HG.out]
    refine (C1.out _).mono ?_
    rintro e w1 ⟨rfl, b1⟩
    have I1 := Lib.hid (I0.out.kept (Turn.of_below (S := fun _ => False) b1) (fun h => h))
    have B1 := Lib.hid (B0.out.trans (b1.mono B0.out.size))
    clear b1 I0 B0
    go_wp2_with fail
    refine (C2.out _).mono ?_
    rintro e w2 ⟨rfl, b2⟩
    have I2 := Lib.hid (I1.out.kept (Turn.of_below (S := fun _ => False) b2) (fun h => h))
    have B2 := Lib.hid (B1.out.trans (b2.mono B1.out.size))
    clear b2 I1 B1
    go_wp2_with fail
    refine (C3.out _).mono ?_
    rintro e w3 ⟨rfl, b3⟩
    have I3 := Lib.hid (I2.out.kept (Turn.of_below (S := fun _ => False) b3) (fun h => h))
    have B3 := Lib.hid (B2.out.trans (b3.mono B2.out.size))
    clear b3 I2 B2
    go_wp2_with fail
    refine (C5.out _).mono ?_
    rintro e w4 ⟨rfl, b4⟩
    have I4 := Lib.hid (I3.out.kept (Turn.of_below (S := fun _ => False) b4) (fun h => h))
    have B4 := Lib.hid (B3.out.trans (b4.mono B3.out.size))
    clear b4 I3 B3
    have I5 := Lib.hid (I4.out.alloc (.cells #[.string L, .int .i64 80, .string Q] 23))
    have B5 := Lib.hid (B4.out.alloc B4.out.size (.cells #[.string L, .int .i64 80, .string Q] 23))
    have U5 := Lib.hid (Is.made w4 23 [.string L, .int .i64 80, .string Q])
    have HW := Lib.hid B4.out.size
    have HGL := Lib.hid I4.out.lt
    go_upto_region 8 with fail
    generalize w4.alloc _ = w5 at *
    obtain ⟨g2, hg2⟩ : ∃ g2, w4.heap.size = g2 := ⟨_, rfl⟩
    simp only [hg2]
    rw [hg2] at U5 HW HGL
    clear hg2 I4 B4
    have y1 : w5.cell? ⟨g2, 1, none⟩ = some (.int .i64 80) := U5.out.cell 1
    have yf : w5.frozen? ⟨g2, 1, none⟩ = false := U5.out.free 1
    go_wp2_with fail
    refine (C4.out _).mono ?_
    rintro e w6 ⟨rfl, rfl⟩
    have U6 := Lib.hid (U5.out.set 1 (.int .i64 (n : Int)))
    have B6 := Lib.hid (B5.out.setCell (p := ⟨g2, 1, none⟩) HW.out (.int .i64 (n : Int)))
    have I6 := Lib.hid (I5.out.kept (((Turn.refl (· = g2) w5).setCell (p := ⟨g2, 1, none⟩) (fun _ => rfl) (.int .i64 (n : Int)))) (fun h => by have := HGL.out; omega))
    go_upto_region 10 with fail
    generalize w5.setCell _ _ = w6 at *
    clear y1 yf U5 B5 I5
    have y0 : w6.cell? ⟨g2, 0, none⟩ = some (.string L) := U6.out.cell 0
    have y1 : w6.cell? ⟨g2, 1, none⟩ = some (.int .i64 (n : Int)) := U6.out.cell 1
    have y2 : w6.cell? ⟨g2, 2, none⟩ = some (.string Q) := U6.out.cell 2
    go_wp2_with fail
    refine (C6.out _).mono ?_
    rintro e w7 ⟨rfl, b7⟩
    clear y0 y1 y2
    have I7 := Lib.hid (I6.out.kept (Turn.of_below (S := fun _ => False) b7) (fun h => h))
    have B7 := Lib.hid (B6.out.trans (b7.mono B6.out.size))
    have U7 := Lib.hid (U6.out.kept (Turn.of_below (S := fun _ => False) b7) (fun h => h))
    clear b7 I6 B6 U6
    have c0 : w7.cell? ⟨g, 0, none⟩ = some (.string ⟨#[]⟩) := I7.out.cell 0
    have f0 : w7.frozen? ⟨g, 0, none⟩ = false := I7.out.free 0
    have c1 : w7.cell? ⟨g, 1, none⟩ = some (.int .i64 0) := I7.out.cell 1
    have f1 : w7.frozen? ⟨g, 1, none⟩ = false := I7.out.free 1
    have c2 : w7.cell? ⟨g, 2, none⟩ = some (.string ⟨#[]⟩) := I7.out.cell 2
    have f2 : w7.frozen? ⟨g, 2, none⟩ = false := I7.out.free 2
    have y0 : w7.cell? ⟨g2, 0, none⟩ = some (.string L) := U7.out.cell 0
    have y1 : w7.cell? ⟨g2, 1, none⟩ = some (.int .i64 (n : Int)) := U7.out.cell 1
    have y2 : w7.cell? ⟨g2, 2, none⟩ = some (.string Q) := U7.out.cell 2
    have I9 := Lib.hid (put3_is I7.out (.string L) (.int .i64 (n : Int)) (.string Q))
    have B9 := Lib.hid (put3_below B7.out (Nat.le_of_eq HG.out) (.string L) (.int .i64 (n : Int)) (.string Q))
    go_wp2_with fail
    refine bodyPost_ret (results_cell1 rfl _ _ g _ _ _ _ rfl I9.out Tryz.underlying23 rfl (by kernel_rfl)) rfl ?_
    refine ⟨?_, B9.out⟩
    rw [HR.out, HL.out]
    show Ending.returned (.tuple #[.agg #[.string ⟨ln.toArray⟩, .int .i64 (n : Int), .string Q], .int .i64 0]) = Ending.returned (.tuple #[.agg #[.string ⟨ln.toArray⟩, .int .i64 (n : Int), .string ⟨r.toArray⟩], .int .i64 0])
    rw [HPB.out]

set_option maxHeartbeats 8000000 in
theorem rparse_cq (s : ByteArray) (w : World) (hs : s.size ≤ 2000000) (hb : (lowF ((bl s).take 7) == httpL) = true) (hc : 58 ∈ (cutA ((bl s).drop 7)).1) (hq : (cutA ((bl s).drop 7)).2.take 1 = [63]) : Calls Tryz.prog 18 #[.string s] w (UrlGot (urlT (parseF (bl s))) w) := by
  obtain ⟨g, hg⟩ : ∃ g, w.heap.size = g := ⟨_, rfl⟩
  have I0 := Lib.hid (show Is (w.alloc (.cells #[.string ⟨#[]⟩, .int .i64 0, .string ⟨#[]⟩] 23)) g 23 [.string ⟨#[]⟩, .int .i64 0, .string ⟨#[]⟩] by have := Is.made w 23 [.string ⟨#[]⟩, .int .i64 0, .string ⟨#[]⟩]; rwa [hg] at this)
  have B0 := Lib.hid (show Below w.heap.size w (w.alloc (.cells #[.string ⟨#[]⟩, .int .i64 0, .string ⟨#[]⟩] 23)) from (Below.refl _ _).alloc (Nat.le_refl _) _)
  have HG := Lib.hid hg
  have h7 := seven hb
  rw [bl_length] at h7
  have HE := parse_ref (bl s)
  simp only [beq_iff_eq.1 hb, true_and] at HE
  have m1 : ¬ (s.size : Int) < 7 := by omega
  have m4 : (7 : Int) ≤ (s.size : Int) := by omega
  have CL := fun X : World => lower_any (s.extract 0 7) X (by rw [← bl_length, extract_bl, piece_front, List.length_take]; omega)
  unfold Text at CL
  rw [extract_bl, piece_front, beq_iff_eq.1 hb, show (⟨httpL.toArray⟩ : ByteArray) = ⟨#[104, 116, 116, 112, 58, 47, 47]⟩ from rfl] at CL
  have C1 := Lib.hid CL
  have CC := fun X : World => rcut_any (s.extract 7 s.size) ⟨#[47, 63]⟩ endB end_is X (by have := extract_size s 7 s.size; omega) (by decide)
  rw [extract_bl, piece_back, cutB_end] at CC
  obtain ⟨l1, l2⟩ := cutA_len ((bl s).drop 7)
  rw [List.length_drop, bl_length] at l1 l2
  unfold rurlF at HE
  generalize (cutA ((bl s).drop 7)).1 = a at *
  generalize (cutA ((bl s).drop 7)).2 = q at *
  obtain ⟨A, hA⟩ : ∃ A : ByteArray, A = ⟨a.toArray⟩ := ⟨_, rfl⟩
  obtain ⟨Q, hQ⟩ : ∃ Q : ByteArray, Q = ⟨q.toArray⟩ := ⟨_, rfl⟩
  have hAb : bl A = a := by rw [hA, bl_mk]
  have hQb : bl Q = q := by rw [hQ, bl_mk]
  simp only [← hA, ← hQ] at CC
  have hAz := size_bl A a hAb
  have hQz := size_bl Q q hQb
  have C2 := Lib.hid CC
  have CD := fun X : World => rcut_any A ⟨#[58]⟩ (fun c => c == 58) colon_is X (by omega) (by decide)
  rw [hAb] at CD
  have z2 : ¬ 9223372036854775807 < 1 + Q.size := by omega
  have hPb : bl ((⟨#[47]⟩ : ByteArray) ++ Q) = slashF q := by
    unfold slashF
    rw [if_neg (by rw [hq]; simp), bl_app', hQb]; rfl
  have hPz : ((⟨#[47]⟩ : ByteArray) ++ Q).size ≤ 140737488351232 := by
    rw [size_bl _ _ hPb]
    unfold slashF
    split <;> (try simp) <;> omega
  obtain ⟨q', hq'⟩ : ∃ q', q = 63 :: q' := by
    cases q with
    | nil => simp at hq
    | cons c q' => exact ⟨q', by simp at hq; rw [hq]⟩
  have eQ := empty_no Q 63 q' (by rw [hQb, hq'])
  have iQ : 0 < Q.size := by rw [hQz, hq']; simp
  have iQ' : (0 : Int) < (Q.size : Int) := by omega
  have hQ0 : Q[0] = 63 := by
    have := first_is Q iQ
    rw [hQb, hq'] at this
    simpa using this.symm
  have hbi := byte_int Q[0] 63
  rw [show ((63 : UInt8).toNat : Int) = 63 from rfl, show (Q[0] == 63) = true by rw [hQ0]; decide] at hbi
  clear hQ0 hq'
  rcases cutB_colon a with ⟨hno, _, _⟩ | ⟨a1, b, hcb, hcc, _⟩
  · exact absurd hc hno
  obtain ⟨l3, l4⟩ := cutC_lenA a
  rw [hcb] at CD
  rw [rport_some a hc, hcc] at HE
  rw [hcc] at l3 l4
  simp only at l3 l4
  obtain ⟨A1, hA1⟩ : ∃ A : ByteArray, A = ⟨a1.toArray⟩ := ⟨_, rfl⟩
  obtain ⟨M, hM⟩ : ∃ M : ByteArray, M = ⟨(58 :: b).toArray⟩ := ⟨_, rfl⟩
  have hA1b : bl A1 = a1 := by rw [hA1, bl_mk]
  have hMb : bl M = 58 :: b := by rw [hM, bl_mk]
  simp only [← hA1, ← hM] at CD
  have hA1z := size_bl A1 _ hA1b
  have CP := fun X : World => rport_any (M.extract 1 M.size) X
  rw [tail_bl M 58 b hMb] at CP
  have eM := empty_no M 58 b hMb
  have iM : (1 : Int) ≤ (M.size : Int) := by rw [size_bl M _ hMb]; simp; omega
  have C4 := Lib.hid CP
  have hn := portR_le b
  clear CP hA1 hM hMb hcb hcc
  generalize portR b = n at *
  have C3 := Lib.hid CD
  obtain ⟨L, hL⟩ : ∃ L : ByteArray, L = ⟨(lowF a1).toArray⟩ := ⟨_, rfl⟩
  have hLb : bl L = lowF a1 := by rw [hL, bl_mk]
  have CW := fun X : World => lower_any A1 X (by omega)
  unfold Text at CW
  rw [hA1b] at CW
  simp only [← hL] at CW
  have C5 := Lib.hid CW
  have CM := fun X : World => rmay_any L ((⟨#[47]⟩ : ByteArray) ++ Q) (n : Int) X (by rw [size_bl L _ hLb, lowF_length]; omega) hPz
  rw [hLb, hPb] at CM
  simp only at HE
  have HL := Lib.hid hL
  have HPB := Lib.hid (show ((⟨#[47]⟩ : ByteArray) ++ Q) = ⟨(slashF q).toArray⟩ by rw [← hPb, mk_bl])
  clear CL CC CD CW hb hg h7 l1 l2 hA hQ hAb hQb hAz hQz hPb hPz hc hq hs hL hLb l3 l4 hA1b hA1z
  generalize slashF q = r at *
  generalize lowF a1 = ln at *
  generalize mayF ln (n : Int) r = mb at *
  have C6 := Lib.hid CM
  have HE := Lib.hid HE
  clear CM
  unfold UrlGot
  cases mb with
  | false =>
    have HR := Lib.hid (show parseF (bl s) = none by rw [HE.out, if_neg Bool.false_ne_true])
    clear HE
    go_enter Tryz.func18, Tryz.ntmps18
    go_wp2_with fail
    try simp only [HG.out]
    refine (C1.out _).mono ?_
    rintro e w1 ⟨rfl, b1⟩
    have I1 := Lib.hid (I0.out.kept (Turn.of_below (S := fun _ => False) b1) (fun h => h))
    have B1 := Lib.hid (B0.out.trans (b1.mono B0.out.size))
    clear b1 I0 B0
    go_wp2_with fail
    refine (C2.out _).mono ?_
    rintro e w2 ⟨rfl, b2⟩
    have I2 := Lib.hid (I1.out.kept (Turn.of_below (S := fun _ => False) b2) (fun h => h))
    have B2 := Lib.hid (B1.out.trans (b2.mono B1.out.size))
    clear b2 I1 B1
    go_wp2_with fail
    refine (C3.out _).mono ?_
    rintro e w3 ⟨rfl, b3⟩
    have I3 := Lib.hid (I2.out.kept (Turn.of_below (S := fun _ => False) b3) (fun h => h))
    have B3 := Lib.hid (B2.out.trans (b3.mono B2.out.size))
    clear b3 I2 B2
    go_wp2_with fail
    refine (C5.out _).mono ?_
    rintro e w4 ⟨rfl, b4⟩
    have I4 := Lib.hid (I3.out.kept (Turn.of_below (S := fun _ => False) b4) (fun h => h))
    have B4 := Lib.hid (B3.out.trans (b4.mono B3.out.size))
    clear b4 I3 B3
    have I5 := Lib.hid (I4.out.alloc (.cells #[.string L, .int .i64 80, .string ((⟨#[47]⟩ : ByteArray) ++ Q)] 23))
    have B5 := Lib.hid (B4.out.alloc B4.out.size (.cells #[.string L, .int .i64 80, .string ((⟨#[47]⟩ : ByteArray) ++ Q)] 23))
    have U5 := Lib.hid (Is.made w4 23 [.string L, .int .i64 80, .string ((⟨#[47]⟩ : ByteArray) ++ Q)])
    have HW := Lib.hid B4.out.size
    have HGL := Lib.hid I4.out.lt
    go_upto_region 8 with fail
    generalize w4.alloc _ = w5 at *
    obtain ⟨g2, hg2⟩ : ∃ g2, w4.heap.size = g2 := ⟨_, rfl⟩
    simp only [hg2]
    rw [hg2] at U5 HW HGL
    clear hg2 I4 B4
    have y1 : w5.cell? ⟨g2, 1, none⟩ = some (.int .i64 80) := U5.out.cell 1
    have yf : w5.frozen? ⟨g2, 1, none⟩ = false := U5.out.free 1
    go_wp2_with fail
    refine (C4.out _).mono ?_
    rintro e w6 ⟨rfl, rfl⟩
    have U6 := Lib.hid (U5.out.set 1 (.int .i64 (n : Int)))
    have B6 := Lib.hid (B5.out.setCell (p := ⟨g2, 1, none⟩) HW.out (.int .i64 (n : Int)))
    have I6 := Lib.hid (I5.out.kept (((Turn.refl (· = g2) w5).setCell (p := ⟨g2, 1, none⟩) (fun _ => rfl) (.int .i64 (n : Int)))) (fun h => by have := HGL.out; omega))
    go_upto_region 10 with fail
    generalize w5.setCell _ _ = w6 at *
    clear y1 yf U5 B5 I5
    have y0 : w6.cell? ⟨g2, 0, none⟩ = some (.string L) := U6.out.cell 0
    have y1 : w6.cell? ⟨g2, 1, none⟩ = some (.int .i64 (n : Int)) := U6.out.cell 1
    have y2 : w6.cell? ⟨g2, 2, none⟩ = some (.string ((⟨#[47]⟩ : ByteArray) ++ Q)) := U6.out.cell 2
    go_wp2_with fail
    refine (C6.out _).mono ?_
    rintro e w7 ⟨rfl, b7⟩
    clear y0 y1 y2
    have I7 := Lib.hid (I6.out.kept (Turn.of_below (S := fun _ => False) b7) (fun h => h))
    have B7 := Lib.hid (B6.out.trans (b7.mono B6.out.size))
    have U7 := Lib.hid (U6.out.kept (Turn.of_below (S := fun _ => False) b7) (fun h => h))
    clear b7 I6 B6 U6
    have c0 : w7.cell? ⟨g, 0, none⟩ = some (.string ⟨#[]⟩) := I7.out.cell 0
    have f0 : w7.frozen? ⟨g, 0, none⟩ = false := I7.out.free 0
    have c1 : w7.cell? ⟨g, 1, none⟩ = some (.int .i64 0) := I7.out.cell 1
    have f1 : w7.frozen? ⟨g, 1, none⟩ = false := I7.out.free 1
    have c2 : w7.cell? ⟨g, 2, none⟩ = some (.string ⟨#[]⟩) := I7.out.cell 2
    have f2 : w7.frozen? ⟨g, 2, none⟩ = false := I7.out.free 2
    have I9 := Lib.hid (put3_is I7.out (.string ⟨#[]⟩) (.int .i64 0) (.string ⟨#[]⟩))
    have B9 := Lib.hid (put3_below B7.out (Nat.le_of_eq HG.out) (.string ⟨#[]⟩) (.int .i64 0) (.string ⟨#[]⟩))
    go_wp2_with fail
    refine bodyPost_ret (results_cell1 rfl _ _ g _ _ _ _ rfl I9.out Tryz.underlying23 rfl (by kernel_rfl)) rfl ?_
    exact ⟨by rw [HR.out]; rfl, B9.out⟩
  | true =>
    have HR := Lib.hid (show parseF (bl s) = some (ln, n, r) by rw [HE.out, if_pos rfl])
    clear HE
    go_enter Tryz.func18, Tryz.ntmps18
    go_wp2_with fail
    try simp only [HG.out]
    refine (C1.out _).mono ?_
    rintro e w1 ⟨rfl, b1⟩
    have I1 := Lib.hid (I0.out.kept (Turn.of_below (S := fun _ => False) b1) (fun h => h))
    have B1 := Lib.hid (B0.out.trans (b1.mono B0.out.size))
    clear b1 I0 B0
    go_wp2_with fail
    refine (C2.out _).mono ?_
    rintro e w2 ⟨rfl, b2⟩
    have I2 := Lib.hid (I1.out.kept (Turn.of_below (S := fun _ => False) b2) (fun h => h))
    have B2 := Lib.hid (B1.out.trans (b2.mono B1.out.size))
    clear b2 I1 B1
    go_wp2_with fail
    refine (C3.out _).mono ?_
    rintro e w3 ⟨rfl, b3⟩
    have I3 := Lib.hid (I2.out.kept (Turn.of_below (S := fun _ => False) b3) (fun h => h))
    have B3 := Lib.hid (B2.out.trans (b3.mono B2.out.size))
    clear b3 I2 B2
    go_wp2_with fail
    refine (C5.out _).mono ?_
    rintro e w4 ⟨rfl, b4⟩
    have I4 := Lib.hid (I3.out.kept (Turn.of_below (S := fun _ => False) b4) (fun h => h))
    have B4 := Lib.hid (B3.out.trans (b4.mono B3.out.size))
    clear b4 I3 B3
    have I5 := Lib.hid (I4.out.alloc (.cells #[.string L, .int .i64 80, .string ((⟨#[47]⟩ : ByteArray) ++ Q)] 23))
    have B5 := Lib.hid (B4.out.alloc B4.out.size (.cells #[.string L, .int .i64 80, .string ((⟨#[47]⟩ : ByteArray) ++ Q)] 23))
    have U5 := Lib.hid (Is.made w4 23 [.string L, .int .i64 80, .string ((⟨#[47]⟩ : ByteArray) ++ Q)])
    have HW := Lib.hid B4.out.size
    have HGL := Lib.hid I4.out.lt
    go_upto_region 8 with fail
    generalize w4.alloc _ = w5 at *
    obtain ⟨g2, hg2⟩ : ∃ g2, w4.heap.size = g2 := ⟨_, rfl⟩
    simp only [hg2]
    rw [hg2] at U5 HW HGL
    clear hg2 I4 B4
    have y1 : w5.cell? ⟨g2, 1, none⟩ = some (.int .i64 80) := U5.out.cell 1
    have yf : w5.frozen? ⟨g2, 1, none⟩ = false := U5.out.free 1
    go_wp2_with fail
    refine (C4.out _).mono ?_
    rintro e w6 ⟨rfl, rfl⟩
    have U6 := Lib.hid (U5.out.set 1 (.int .i64 (n : Int)))
    have B6 := Lib.hid (B5.out.setCell (p := ⟨g2, 1, none⟩) HW.out (.int .i64 (n : Int)))
    have I6 := Lib.hid (I5.out.kept (((Turn.refl (· = g2) w5).setCell (p := ⟨g2, 1, none⟩) (fun _ => rfl) (.int .i64 (n : Int)))) (fun h => by have := HGL.out; omega))
    go_upto_region 10 with fail
    generalize w5.setCell _ _ = w6 at *
    clear y1 yf U5 B5 I5
    have y0 : w6.cell? ⟨g2, 0, none⟩ = some (.string L) := U6.out.cell 0
    have y1 : w6.cell? ⟨g2, 1, none⟩ = some (.int .i64 (n : Int)) := U6.out.cell 1
    have y2 : w6.cell? ⟨g2, 2, none⟩ = some (.string ((⟨#[47]⟩ : ByteArray) ++ Q)) := U6.out.cell 2
    go_wp2_with fail
    refine (C6.out _).mono ?_
    rintro e w7 ⟨rfl, b7⟩
    clear y0 y1 y2
    have I7 := Lib.hid (I6.out.kept (Turn.of_below (S := fun _ => False) b7) (fun h => h))
    have B7 := Lib.hid (B6.out.trans (b7.mono B6.out.size))
    have U7 := Lib.hid (U6.out.kept (Turn.of_below (S := fun _ => False) b7) (fun h => h))
    clear b7 I6 B6 U6
    have c0 : w7.cell? ⟨g, 0, none⟩ = some (.string ⟨#[]⟩) := I7.out.cell 0
    have f0 : w7.frozen? ⟨g, 0, none⟩ = false := I7.out.free 0
    have c1 : w7.cell? ⟨g, 1, none⟩ = some (.int .i64 0) := I7.out.cell 1
    have f1 : w7.frozen? ⟨g, 1, none⟩ = false := I7.out.free 1
    have c2 : w7.cell? ⟨g, 2, none⟩ = some (.string ⟨#[]⟩) := I7.out.cell 2
    have f2 : w7.frozen? ⟨g, 2, none⟩ = false := I7.out.free 2
    have y0 : w7.cell? ⟨g2, 0, none⟩ = some (.string L) := U7.out.cell 0
    have y1 : w7.cell? ⟨g2, 1, none⟩ = some (.int .i64 (n : Int)) := U7.out.cell 1
    have y2 : w7.cell? ⟨g2, 2, none⟩ = some (.string ((⟨#[47]⟩ : ByteArray) ++ Q)) := U7.out.cell 2
    have I9 := Lib.hid (put3_is I7.out (.string L) (.int .i64 (n : Int)) (.string ((⟨#[47]⟩ : ByteArray) ++ Q)))
    have B9 := Lib.hid (put3_below B7.out (Nat.le_of_eq HG.out) (.string L) (.int .i64 (n : Int)) (.string ((⟨#[47]⟩ : ByteArray) ++ Q)))
    go_wp2_with fail
    refine bodyPost_ret (results_cell1 rfl _ _ g _ _ _ _ rfl I9.out Tryz.underlying23 rfl (by kernel_rfl)) rfl ?_
    refine ⟨?_, B9.out⟩
    rw [HR.out, HL.out]
    show Ending.returned (.tuple #[.agg #[.string ⟨ln.toArray⟩, .int .i64 (n : Int), .string ((⟨#[47]⟩ : ByteArray) ++ Q)], .int .i64 0]) = Ending.returned (.tuple #[.agg #[.string ⟨ln.toArray⟩, .int .i64 (n : Int), .string ⟨r.toArray⟩], .int .i64 0])
    rw [HPB.out]

set_option maxHeartbeats 8000000 in
theorem rparse_ne (s : ByteArray) (w : World) (hs : s.size ≤ 2000000) (hb : (lowF ((bl s).take 7) == httpL) = true) (hc : 58 ∉ (cutA ((bl s).drop 7)).1) (hq : (cutA ((bl s).drop 7)).2 = []) : Calls Tryz.prog 18 #[.string s] w (UrlGot (urlT (parseF (bl s))) w) := by
  obtain ⟨g, hg⟩ : ∃ g, w.heap.size = g := ⟨_, rfl⟩
  have I0 := Lib.hid (show Is (w.alloc (.cells #[.string ⟨#[]⟩, .int .i64 0, .string ⟨#[]⟩] 23)) g 23 [.string ⟨#[]⟩, .int .i64 0, .string ⟨#[]⟩] by have := Is.made w 23 [.string ⟨#[]⟩, .int .i64 0, .string ⟨#[]⟩]; rwa [hg] at this)
  have B0 := Lib.hid (show Below w.heap.size w (w.alloc (.cells #[.string ⟨#[]⟩, .int .i64 0, .string ⟨#[]⟩] 23)) from (Below.refl _ _).alloc (Nat.le_refl _) _)
  have HG := Lib.hid hg
  have h7 := seven hb
  rw [bl_length] at h7
  have HE := parse_ref (bl s)
  simp only [beq_iff_eq.1 hb, true_and] at HE
  have m1 : ¬ (s.size : Int) < 7 := by omega
  have m4 : (7 : Int) ≤ (s.size : Int) := by omega
  have CL := fun X : World => lower_any (s.extract 0 7) X (by rw [← bl_length, extract_bl, piece_front, List.length_take]; omega)
  unfold Text at CL
  rw [extract_bl, piece_front, beq_iff_eq.1 hb, show (⟨httpL.toArray⟩ : ByteArray) = ⟨#[104, 116, 116, 112, 58, 47, 47]⟩ from rfl] at CL
  have C1 := Lib.hid CL
  have CC := fun X : World => rcut_any (s.extract 7 s.size) ⟨#[47, 63]⟩ endB end_is X (by have := extract_size s 7 s.size; omega) (by decide)
  rw [extract_bl, piece_back, cutB_end] at CC
  obtain ⟨l1, l2⟩ := cutA_len ((bl s).drop 7)
  rw [List.length_drop, bl_length] at l1 l2
  unfold rurlF at HE
  generalize (cutA ((bl s).drop 7)).1 = a at *
  generalize (cutA ((bl s).drop 7)).2 = q at *
  obtain ⟨A, hA⟩ : ∃ A : ByteArray, A = ⟨a.toArray⟩ := ⟨_, rfl⟩
  obtain ⟨Q, hQ⟩ : ∃ Q : ByteArray, Q = ⟨q.toArray⟩ := ⟨_, rfl⟩
  have hAb : bl A = a := by rw [hA, bl_mk]
  have hQb : bl Q = q := by rw [hQ, bl_mk]
  simp only [← hA, ← hQ] at CC
  have hAz := size_bl A a hAb
  have hQz := size_bl Q q hQb
  have C2 := Lib.hid CC
  have CD := fun X : World => rcut_any A ⟨#[58]⟩ (fun c => c == 58) colon_is X (by omega) (by decide)
  rw [hAb] at CD
  have z2 : ¬ 9223372036854775807 < 1 + Q.size := by omega
  have hPb : bl ((⟨#[47]⟩ : ByteArray) ++ Q) = slashF q := by
    unfold slashF
    rw [if_neg (by rw [hq]; simp), bl_app', hQb]; rfl
  have hPz : ((⟨#[47]⟩ : ByteArray) ++ Q).size ≤ 140737488351232 := by
    rw [size_bl _ _ hPb]
    unfold slashF
    split <;> (try simp) <;> omega
  have eQ := empty_yes Q (by rw [hQb, hq])
  rcases cutB_colon a with ⟨_, hcb, hcc⟩ | ⟨_, _, _, _, hin⟩
  case inr => exact absurd hin hc
  rw [hcb, ← hA, show (⟨([] : List UInt8).toArray⟩ : ByteArray) = ⟨#[]⟩ from rfl] at CD
  rw [rport_none a hc, hcc] at HE
  clear hcb hcc
  have C3 := Lib.hid CD
  obtain ⟨L, hL⟩ : ∃ L : ByteArray, L = ⟨(lowF a).toArray⟩ := ⟨_, rfl⟩
  have hLb : bl L = lowF a := by rw [hL, bl_mk]
  have CW := fun X : World => lower_any A X (by omega)
  unfold Text at CW
  rw [hAb] at CW
  simp only [← hL] at CW
  have C5 := Lib.hid CW
  have CM := fun X : World => rmay_any L ((⟨#[47]⟩ : ByteArray) ++ Q) 80 X (by rw [size_bl L _ hLb, lowF_length]; omega) hPz
  rw [hLb, hPb] at CM
  simp only at HE
  have HL := Lib.hid hL
  have HPB := Lib.hid (show ((⟨#[47]⟩ : ByteArray) ++ Q) = ⟨(slashF q).toArray⟩ by rw [← hPb, mk_bl])
  clear CL CC CD CW hb hg h7 l1 l2 hA hQ hAb hQb hAz hQz hPb hPz hc hq hs hL hLb
  generalize slashF q = r at *
  generalize lowF a = ln at *
  rw [show ((80 : Nat) : Int) = 80 from rfl] at HE
  generalize mayF ln 80 r = mb at *
  have C6 := Lib.hid CM
  have HE := Lib.hid HE
  clear CM
  unfold UrlGot
  cases mb with
  | false =>
    have HR := Lib.hid (show parseF (bl s) = none by rw [HE.out, if_neg Bool.false_ne_true])
    clear HE
    go_enter Tryz.func18, Tryz.ntmps18
    go_wp2_with fail
    try simp only [HG.out]
    refine (C1.out _).mono ?_
    rintro e w1 ⟨rfl, b1⟩
    have I1 := Lib.hid (I0.out.kept (Turn.of_below (S := fun _ => False) b1) (fun h => h))
    have B1 := Lib.hid (B0.out.trans (b1.mono B0.out.size))
    clear b1 I0 B0
    go_wp2_with fail
    refine (C2.out _).mono ?_
    rintro e w2 ⟨rfl, b2⟩
    have I2 := Lib.hid (I1.out.kept (Turn.of_below (S := fun _ => False) b2) (fun h => h))
    have B2 := Lib.hid (B1.out.trans (b2.mono B1.out.size))
    clear b2 I1 B1
    go_wp2_with fail
    refine (C3.out _).mono ?_
    rintro e w3 ⟨rfl, b3⟩
    have I3 := Lib.hid (I2.out.kept (Turn.of_below (S := fun _ => False) b3) (fun h => h))
    have B3 := Lib.hid (B2.out.trans (b3.mono B2.out.size))
    clear b3 I2 B2
    go_wp2_with fail
    refine (C5.out _).mono ?_
    rintro e w4 ⟨rfl, b4⟩
    have I4 := Lib.hid (I3.out.kept (Turn.of_below (S := fun _ => False) b4) (fun h => h))
    have B4 := Lib.hid (B3.out.trans (b4.mono B3.out.size))
    clear b4 I3 B3
    have I5 := Lib.hid (I4.out.alloc (.cells #[.string L, .int .i64 80, .string ((⟨#[47]⟩ : ByteArray) ++ Q)] 23))
    have B5 := Lib.hid (B4.out.alloc B4.out.size (.cells #[.string L, .int .i64 80, .string ((⟨#[47]⟩ : ByteArray) ++ Q)] 23))
    have U5 := Lib.hid (Is.made w4 23 [.string L, .int .i64 80, .string ((⟨#[47]⟩ : ByteArray) ++ Q)])
    have HW := Lib.hid B4.out.size
    have HGL := Lib.hid I4.out.lt
    go_upto_region 8 with fail
    generalize w4.alloc _ = w5 at *
    obtain ⟨g2, hg2⟩ : ∃ g2, w4.heap.size = g2 := ⟨_, rfl⟩
    simp only [hg2]
    rw [hg2] at U5 HW HGL
    clear hg2 I4 B4
    have y0 : w5.cell? ⟨g2, 0, none⟩ = some (.string L) := U5.out.cell 0
    have y1 : w5.cell? ⟨g2, 1, none⟩ = some (.int .i64 80) := U5.out.cell 1
    have y2 : w5.cell? ⟨g2, 2, none⟩ = some (.string ((⟨#[47]⟩ : ByteArray) ++ Q)) := U5.out.cell 2
    go_wp2_with fail
    refine (C6.out _).mono ?_
    rintro e w7 ⟨rfl, b7⟩
    clear y0 y1 y2
    have I7 := Lib.hid (I5.out.kept (Turn.of_below (S := fun _ => False) b7) (fun h => h))
    have B7 := Lib.hid (B5.out.trans (b7.mono B5.out.size))
    have U7 := Lib.hid (U5.out.kept (Turn.of_below (S := fun _ => False) b7) (fun h => h))
    clear b7 I5 B5 U5
    have c0 : w7.cell? ⟨g, 0, none⟩ = some (.string ⟨#[]⟩) := I7.out.cell 0
    have f0 : w7.frozen? ⟨g, 0, none⟩ = false := I7.out.free 0
    have c1 : w7.cell? ⟨g, 1, none⟩ = some (.int .i64 0) := I7.out.cell 1
    have f1 : w7.frozen? ⟨g, 1, none⟩ = false := I7.out.free 1
    have c2 : w7.cell? ⟨g, 2, none⟩ = some (.string ⟨#[]⟩) := I7.out.cell 2
    have f2 : w7.frozen? ⟨g, 2, none⟩ = false := I7.out.free 2
    have I9 := Lib.hid (put3_is I7.out (.string ⟨#[]⟩) (.int .i64 0) (.string ⟨#[]⟩))
    have B9 := Lib.hid (put3_below B7.out (Nat.le_of_eq HG.out) (.string ⟨#[]⟩) (.int .i64 0) (.string ⟨#[]⟩))
    go_wp2_with fail
    refine bodyPost_ret (results_cell1 rfl _ _ g _ _ _ _ rfl I9.out Tryz.underlying23 rfl (by kernel_rfl)) rfl ?_
    exact ⟨by rw [HR.out]; rfl, B9.out⟩
  | true =>
    have HR := Lib.hid (show parseF (bl s) = some (ln, 80, r) by rw [HE.out, if_pos rfl])
    clear HE
    go_enter Tryz.func18, Tryz.ntmps18
    go_wp2_with fail
    try simp only [HG.out]
    refine (C1.out _).mono ?_
    rintro e w1 ⟨rfl, b1⟩
    have I1 := Lib.hid (I0.out.kept (Turn.of_below (S := fun _ => False) b1) (fun h => h))
    have B1 := Lib.hid (B0.out.trans (b1.mono B0.out.size))
    clear b1 I0 B0
    go_wp2_with fail
    refine (C2.out _).mono ?_
    rintro e w2 ⟨rfl, b2⟩
    have I2 := Lib.hid (I1.out.kept (Turn.of_below (S := fun _ => False) b2) (fun h => h))
    have B2 := Lib.hid (B1.out.trans (b2.mono B1.out.size))
    clear b2 I1 B1
    go_wp2_with fail
    refine (C3.out _).mono ?_
    rintro e w3 ⟨rfl, b3⟩
    have I3 := Lib.hid (I2.out.kept (Turn.of_below (S := fun _ => False) b3) (fun h => h))
    have B3 := Lib.hid (B2.out.trans (b3.mono B2.out.size))
    clear b3 I2 B2
    go_wp2_with fail
    refine (C5.out _).mono ?_
    rintro e w4 ⟨rfl, b4⟩
    have I4 := Lib.hid (I3.out.kept (Turn.of_below (S := fun _ => False) b4) (fun h => h))
    have B4 := Lib.hid (B3.out.trans (b4.mono B3.out.size))
    clear b4 I3 B3
    have I5 := Lib.hid (I4.out.alloc (.cells #[.string L, .int .i64 80, .string ((⟨#[47]⟩ : ByteArray) ++ Q)] 23))
    have B5 := Lib.hid (B4.out.alloc B4.out.size (.cells #[.string L, .int .i64 80, .string ((⟨#[47]⟩ : ByteArray) ++ Q)] 23))
    have U5 := Lib.hid (Is.made w4 23 [.string L, .int .i64 80, .string ((⟨#[47]⟩ : ByteArray) ++ Q)])
    have HW := Lib.hid B4.out.size
    have HGL := Lib.hid I4.out.lt
    go_upto_region 8 with fail
    generalize w4.alloc _ = w5 at *
    obtain ⟨g2, hg2⟩ : ∃ g2, w4.heap.size = g2 := ⟨_, rfl⟩
    simp only [hg2]
    rw [hg2] at U5 HW HGL
    clear hg2 I4 B4
    have y0 : w5.cell? ⟨g2, 0, none⟩ = some (.string L) := U5.out.cell 0
    have y1 : w5.cell? ⟨g2, 1, none⟩ = some (.int .i64 80) := U5.out.cell 1
    have y2 : w5.cell? ⟨g2, 2, none⟩ = some (.string ((⟨#[47]⟩ : ByteArray) ++ Q)) := U5.out.cell 2
    go_wp2_with fail
    refine (C6.out _).mono ?_
    rintro e w7 ⟨rfl, b7⟩
    clear y0 y1 y2
    have I7 := Lib.hid (I5.out.kept (Turn.of_below (S := fun _ => False) b7) (fun h => h))
    have B7 := Lib.hid (B5.out.trans (b7.mono B5.out.size))
    have U7 := Lib.hid (U5.out.kept (Turn.of_below (S := fun _ => False) b7) (fun h => h))
    clear b7 I5 B5 U5
    have c0 : w7.cell? ⟨g, 0, none⟩ = some (.string ⟨#[]⟩) := I7.out.cell 0
    have f0 : w7.frozen? ⟨g, 0, none⟩ = false := I7.out.free 0
    have c1 : w7.cell? ⟨g, 1, none⟩ = some (.int .i64 0) := I7.out.cell 1
    have f1 : w7.frozen? ⟨g, 1, none⟩ = false := I7.out.free 1
    have c2 : w7.cell? ⟨g, 2, none⟩ = some (.string ⟨#[]⟩) := I7.out.cell 2
    have f2 : w7.frozen? ⟨g, 2, none⟩ = false := I7.out.free 2
    have y0 : w7.cell? ⟨g2, 0, none⟩ = some (.string L) := U7.out.cell 0
    have y1 : w7.cell? ⟨g2, 1, none⟩ = some (.int .i64 80) := U7.out.cell 1
    have y2 : w7.cell? ⟨g2, 2, none⟩ = some (.string ((⟨#[47]⟩ : ByteArray) ++ Q)) := U7.out.cell 2
    have I9 := Lib.hid (put3_is I7.out (.string L) (.int .i64 80) (.string ((⟨#[47]⟩ : ByteArray) ++ Q)))
    have B9 := Lib.hid (put3_below B7.out (Nat.le_of_eq HG.out) (.string L) (.int .i64 80) (.string ((⟨#[47]⟩ : ByteArray) ++ Q)))
    go_wp2_with fail
    refine bodyPost_ret (results_cell1 rfl _ _ g _ _ _ _ rfl I9.out Tryz.underlying23 rfl (by kernel_rfl)) rfl ?_
    refine ⟨?_, B9.out⟩
    rw [HR.out, HL.out]
    show Ending.returned (.tuple #[.agg #[.string ⟨ln.toArray⟩, .int .i64 80, .string ((⟨#[47]⟩ : ByteArray) ++ Q)], .int .i64 0]) = Ending.returned (.tuple #[.agg #[.string ⟨ln.toArray⟩, .int .i64 80, .string ⟨r.toArray⟩], .int .i64 0])
    rw [HPB.out]

set_option maxHeartbeats 8000000 in
theorem rparse_ns (s : ByteArray) (w : World) (hs : s.size ≤ 2000000) (hb : (lowF ((bl s).take 7) == httpL) = true) (hc : 58 ∉ (cutA ((bl s).drop 7)).1) (hq : (cutA ((bl s).drop 7)).2.take 1 = [47]) : Calls Tryz.prog 18 #[.string s] w (UrlGot (urlT (parseF (bl s))) w) := by
  obtain ⟨g, hg⟩ : ∃ g, w.heap.size = g := ⟨_, rfl⟩
  have I0 := Lib.hid (show Is (w.alloc (.cells #[.string ⟨#[]⟩, .int .i64 0, .string ⟨#[]⟩] 23)) g 23 [.string ⟨#[]⟩, .int .i64 0, .string ⟨#[]⟩] by have := Is.made w 23 [.string ⟨#[]⟩, .int .i64 0, .string ⟨#[]⟩]; rwa [hg] at this)
  have B0 := Lib.hid (show Below w.heap.size w (w.alloc (.cells #[.string ⟨#[]⟩, .int .i64 0, .string ⟨#[]⟩] 23)) from (Below.refl _ _).alloc (Nat.le_refl _) _)
  have HG := Lib.hid hg
  have h7 := seven hb
  rw [bl_length] at h7
  have HE := parse_ref (bl s)
  simp only [beq_iff_eq.1 hb, true_and] at HE
  have m1 : ¬ (s.size : Int) < 7 := by omega
  have m4 : (7 : Int) ≤ (s.size : Int) := by omega
  have CL := fun X : World => lower_any (s.extract 0 7) X (by rw [← bl_length, extract_bl, piece_front, List.length_take]; omega)
  unfold Text at CL
  rw [extract_bl, piece_front, beq_iff_eq.1 hb, show (⟨httpL.toArray⟩ : ByteArray) = ⟨#[104, 116, 116, 112, 58, 47, 47]⟩ from rfl] at CL
  have C1 := Lib.hid CL
  have CC := fun X : World => rcut_any (s.extract 7 s.size) ⟨#[47, 63]⟩ endB end_is X (by have := extract_size s 7 s.size; omega) (by decide)
  rw [extract_bl, piece_back, cutB_end] at CC
  obtain ⟨l1, l2⟩ := cutA_len ((bl s).drop 7)
  rw [List.length_drop, bl_length] at l1 l2
  unfold rurlF at HE
  generalize (cutA ((bl s).drop 7)).1 = a at *
  generalize (cutA ((bl s).drop 7)).2 = q at *
  obtain ⟨A, hA⟩ : ∃ A : ByteArray, A = ⟨a.toArray⟩ := ⟨_, rfl⟩
  obtain ⟨Q, hQ⟩ : ∃ Q : ByteArray, Q = ⟨q.toArray⟩ := ⟨_, rfl⟩
  have hAb : bl A = a := by rw [hA, bl_mk]
  have hQb : bl Q = q := by rw [hQ, bl_mk]
  simp only [← hA, ← hQ] at CC
  have hAz := size_bl A a hAb
  have hQz := size_bl Q q hQb
  have C2 := Lib.hid CC
  have CD := fun X : World => rcut_any A ⟨#[58]⟩ (fun c => c == 58) colon_is X (by omega) (by decide)
  rw [hAb] at CD
  have z2 : ¬ 9223372036854775807 < 1 + Q.size := by omega
  have hPb : bl Q = slashF q := by
    unfold slashF
    rw [if_pos hq, hQb]
  have hPz : Q.size ≤ 140737488351232 := by
    rw [size_bl _ _ hPb]
    unfold slashF
    split <;> (try simp) <;> omega
  obtain ⟨q', hq'⟩ : ∃ q', q = 47 :: q' := by
    cases q with
    | nil => simp at hq
    | cons c q' => exact ⟨q', by simp at hq; rw [hq]⟩
  have eQ := empty_no Q 47 q' (by rw [hQb, hq'])
  have iQ : 0 < Q.size := by rw [hQz, hq']; simp
  have iQ' : (0 : Int) < (Q.size : Int) := by omega
  have hQ0 : Q[0] = 47 := by
    have := first_is Q iQ
    rw [hQb, hq'] at this
    simpa using this.symm
  have hbi := byte_int Q[0] 63
  rw [show ((63 : UInt8).toNat : Int) = 63 from rfl, show (Q[0] == 63) = false by rw [hQ0]; decide] at hbi
  clear hQ0 hq'
  rcases cutB_colon a with ⟨_, hcb, hcc⟩ | ⟨_, _, _, _, hin⟩
  case inr => exact absurd hin hc
  rw [hcb, ← hA, show (⟨([] : List UInt8).toArray⟩ : ByteArray) = ⟨#[]⟩ from rfl] at CD
  rw [rport_none a hc, hcc] at HE
  clear hcb hcc
  have C3 := Lib.hid CD
  obtain ⟨L, hL⟩ : ∃ L : ByteArray, L = ⟨(lowF a).toArray⟩ := ⟨_, rfl⟩
  have hLb : bl L = lowF a := by rw [hL, bl_mk]
  have CW := fun X : World => lower_any A X (by omega)
  unfold Text at CW
  rw [hAb] at CW
  simp only [← hL] at CW
  have C5 := Lib.hid CW
  have CM := fun X : World => rmay_any L Q 80 X (by rw [size_bl L _ hLb, lowF_length]; omega) hPz
  rw [hLb, hPb] at CM
  simp only at HE
  have HL := Lib.hid hL
  have HPB := Lib.hid (show Q = ⟨(slashF q).toArray⟩ by rw [← hPb, mk_bl])
  clear CL CC CD CW hb hg h7 l1 l2 hA hQ hAb hQb hAz hQz hPb hPz hc hq hs hL hLb
  generalize slashF q = r at *
  generalize lowF a = ln at *
  rw [show ((80 : Nat) : Int) = 80 from rfl] at HE
  generalize mayF ln 80 r = mb at *
  have C6 := Lib.hid CM
  have HE := Lib.hid HE
  clear CM
  unfold UrlGot
  cases mb with
  | false =>
    have HR := Lib.hid (show parseF (bl s) = none by rw [HE.out, if_neg Bool.false_ne_true])
    clear HE
    go_enter Tryz.func18, Tryz.ntmps18
    go_wp2_with fail
    try simp only [HG.out]
    refine (C1.out _).mono ?_
    rintro e w1 ⟨rfl, b1⟩
    have I1 := Lib.hid (I0.out.kept (Turn.of_below (S := fun _ => False) b1) (fun h => h))
    have B1 := Lib.hid (B0.out.trans (b1.mono B0.out.size))
    clear b1 I0 B0
    go_wp2_with fail
    refine (C2.out _).mono ?_
    rintro e w2 ⟨rfl, b2⟩
    have I2 := Lib.hid (I1.out.kept (Turn.of_below (S := fun _ => False) b2) (fun h => h))
    have B2 := Lib.hid (B1.out.trans (b2.mono B1.out.size))
    clear b2 I1 B1
    go_wp2_with fail
    refine (C3.out _).mono ?_
    rintro e w3 ⟨rfl, b3⟩
    have I3 := Lib.hid (I2.out.kept (Turn.of_below (S := fun _ => False) b3) (fun h => h))
    have B3 := Lib.hid (B2.out.trans (b3.mono B2.out.size))
    clear b3 I2 B2
    go_wp2_with fail
    refine (C5.out _).mono ?_
    rintro e w4 ⟨rfl, b4⟩
    have I4 := Lib.hid (I3.out.kept (Turn.of_below (S := fun _ => False) b4) (fun h => h))
    have B4 := Lib.hid (B3.out.trans (b4.mono B3.out.size))
    clear b4 I3 B3
    have I5 := Lib.hid (I4.out.alloc (.cells #[.string L, .int .i64 80, .string Q] 23))
    have B5 := Lib.hid (B4.out.alloc B4.out.size (.cells #[.string L, .int .i64 80, .string Q] 23))
    have U5 := Lib.hid (Is.made w4 23 [.string L, .int .i64 80, .string Q])
    have HW := Lib.hid B4.out.size
    have HGL := Lib.hid I4.out.lt
    go_upto_region 8 with fail
    generalize w4.alloc _ = w5 at *
    obtain ⟨g2, hg2⟩ : ∃ g2, w4.heap.size = g2 := ⟨_, rfl⟩
    simp only [hg2]
    rw [hg2] at U5 HW HGL
    clear hg2 I4 B4
    have y0 : w5.cell? ⟨g2, 0, none⟩ = some (.string L) := U5.out.cell 0
    have y1 : w5.cell? ⟨g2, 1, none⟩ = some (.int .i64 80) := U5.out.cell 1
    have y2 : w5.cell? ⟨g2, 2, none⟩ = some (.string Q) := U5.out.cell 2
    go_wp2_with fail
    refine (C6.out _).mono ?_
    rintro e w7 ⟨rfl, b7⟩
    clear y0 y1 y2
    have I7 := Lib.hid (I5.out.kept (Turn.of_below (S := fun _ => False) b7) (fun h => h))
    have B7 := Lib.hid (B5.out.trans (b7.mono B5.out.size))
    have U7 := Lib.hid (U5.out.kept (Turn.of_below (S := fun _ => False) b7) (fun h => h))
    clear b7 I5 B5 U5
    have c0 : w7.cell? ⟨g, 0, none⟩ = some (.string ⟨#[]⟩) := I7.out.cell 0
    have f0 : w7.frozen? ⟨g, 0, none⟩ = false := I7.out.free 0
    have c1 : w7.cell? ⟨g, 1, none⟩ = some (.int .i64 0) := I7.out.cell 1
    have f1 : w7.frozen? ⟨g, 1, none⟩ = false := I7.out.free 1
    have c2 : w7.cell? ⟨g, 2, none⟩ = some (.string ⟨#[]⟩) := I7.out.cell 2
    have f2 : w7.frozen? ⟨g, 2, none⟩ = false := I7.out.free 2
    have I9 := Lib.hid (put3_is I7.out (.string ⟨#[]⟩) (.int .i64 0) (.string ⟨#[]⟩))
    have B9 := Lib.hid (put3_below B7.out (Nat.le_of_eq HG.out) (.string ⟨#[]⟩) (.int .i64 0) (.string ⟨#[]⟩))
    go_wp2_with fail
    refine bodyPost_ret (results_cell1 rfl _ _ g _ _ _ _ rfl I9.out Tryz.underlying23 rfl (by kernel_rfl)) rfl ?_
    exact ⟨by rw [HR.out]; rfl, B9.out⟩
  | true =>
    have HR := Lib.hid (show parseF (bl s) = some (ln, 80, r) by rw [HE.out, if_pos rfl])
    clear HE
    go_enter Tryz.func18, Tryz.ntmps18
    go_wp2_with fail
    try simp only [HG.out]
    refine (C1.out _).mono ?_
    rintro e w1 ⟨rfl, b1⟩
    have I1 := Lib.hid (I0.out.kept (Turn.of_below (S := fun _ => False) b1) (fun h => h))
    have B1 := Lib.hid (B0.out.trans (b1.mono B0.out.size))
    clear b1 I0 B0
    go_wp2_with fail
    refine (C2.out _).mono ?_
    rintro e w2 ⟨rfl, b2⟩
    have I2 := Lib.hid (I1.out.kept (Turn.of_below (S := fun _ => False) b2) (fun h => h))
    have B2 := Lib.hid (B1.out.trans (b2.mono B1.out.size))
    clear b2 I1 B1
    go_wp2_with fail
    refine (C3.out _).mono ?_
    rintro e w3 ⟨rfl, b3⟩
    have I3 := Lib.hid (I2.out.kept (Turn.of_below (S := fun _ => False) b3) (fun h => h))
    have B3 := Lib.hid (B2.out.trans (b3.mono B2.out.size))
    clear b3 I2 B2
    go_wp2_with fail
    refine (C5.out _).mono ?_
    rintro e w4 ⟨rfl, b4⟩
    have I4 := Lib.hid (I3.out.kept (Turn.of_below (S := fun _ => False) b4) (fun h => h))
    have B4 := Lib.hid (B3.out.trans (b4.mono B3.out.size))
    clear b4 I3 B3
    have I5 := Lib.hid (I4.out.alloc (.cells #[.string L, .int .i64 80, .string Q] 23))
    have B5 := Lib.hid (B4.out.alloc B4.out.size (.cells #[.string L, .int .i64 80, .string Q] 23))
    have U5 := Lib.hid (Is.made w4 23 [.string L, .int .i64 80, .string Q])
    have HW := Lib.hid B4.out.size
    have HGL := Lib.hid I4.out.lt
    go_upto_region 8 with fail
    generalize w4.alloc _ = w5 at *
    obtain ⟨g2, hg2⟩ : ∃ g2, w4.heap.size = g2 := ⟨_, rfl⟩
    simp only [hg2]
    rw [hg2] at U5 HW HGL
    clear hg2 I4 B4
    have y0 : w5.cell? ⟨g2, 0, none⟩ = some (.string L) := U5.out.cell 0
    have y1 : w5.cell? ⟨g2, 1, none⟩ = some (.int .i64 80) := U5.out.cell 1
    have y2 : w5.cell? ⟨g2, 2, none⟩ = some (.string Q) := U5.out.cell 2
    go_wp2_with fail
    refine (C6.out _).mono ?_
    rintro e w7 ⟨rfl, b7⟩
    clear y0 y1 y2
    have I7 := Lib.hid (I5.out.kept (Turn.of_below (S := fun _ => False) b7) (fun h => h))
    have B7 := Lib.hid (B5.out.trans (b7.mono B5.out.size))
    have U7 := Lib.hid (U5.out.kept (Turn.of_below (S := fun _ => False) b7) (fun h => h))
    clear b7 I5 B5 U5
    have c0 : w7.cell? ⟨g, 0, none⟩ = some (.string ⟨#[]⟩) := I7.out.cell 0
    have f0 : w7.frozen? ⟨g, 0, none⟩ = false := I7.out.free 0
    have c1 : w7.cell? ⟨g, 1, none⟩ = some (.int .i64 0) := I7.out.cell 1
    have f1 : w7.frozen? ⟨g, 1, none⟩ = false := I7.out.free 1
    have c2 : w7.cell? ⟨g, 2, none⟩ = some (.string ⟨#[]⟩) := I7.out.cell 2
    have f2 : w7.frozen? ⟨g, 2, none⟩ = false := I7.out.free 2
    have y0 : w7.cell? ⟨g2, 0, none⟩ = some (.string L) := U7.out.cell 0
    have y1 : w7.cell? ⟨g2, 1, none⟩ = some (.int .i64 80) := U7.out.cell 1
    have y2 : w7.cell? ⟨g2, 2, none⟩ = some (.string Q) := U7.out.cell 2
    have I9 := Lib.hid (put3_is I7.out (.string L) (.int .i64 80) (.string Q))
    have B9 := Lib.hid (put3_below B7.out (Nat.le_of_eq HG.out) (.string L) (.int .i64 80) (.string Q))
    go_wp2_with fail
    refine bodyPost_ret (results_cell1 rfl _ _ g _ _ _ _ rfl I9.out Tryz.underlying23 rfl (by kernel_rfl)) rfl ?_
    refine ⟨?_, B9.out⟩
    rw [HR.out, HL.out]
    show Ending.returned (.tuple #[.agg #[.string ⟨ln.toArray⟩, .int .i64 80, .string Q], .int .i64 0]) = Ending.returned (.tuple #[.agg #[.string ⟨ln.toArray⟩, .int .i64 80, .string ⟨r.toArray⟩], .int .i64 0])
    rw [HPB.out]

set_option maxHeartbeats 8000000 in
theorem rparse_nq (s : ByteArray) (w : World) (hs : s.size ≤ 2000000) (hb : (lowF ((bl s).take 7) == httpL) = true) (hc : 58 ∉ (cutA ((bl s).drop 7)).1) (hq : (cutA ((bl s).drop 7)).2.take 1 = [63]) : Calls Tryz.prog 18 #[.string s] w (UrlGot (urlT (parseF (bl s))) w) := by
  obtain ⟨g, hg⟩ : ∃ g, w.heap.size = g := ⟨_, rfl⟩
  have I0 := Lib.hid (show Is (w.alloc (.cells #[.string ⟨#[]⟩, .int .i64 0, .string ⟨#[]⟩] 23)) g 23 [.string ⟨#[]⟩, .int .i64 0, .string ⟨#[]⟩] by have := Is.made w 23 [.string ⟨#[]⟩, .int .i64 0, .string ⟨#[]⟩]; rwa [hg] at this)
  have B0 := Lib.hid (show Below w.heap.size w (w.alloc (.cells #[.string ⟨#[]⟩, .int .i64 0, .string ⟨#[]⟩] 23)) from (Below.refl _ _).alloc (Nat.le_refl _) _)
  have HG := Lib.hid hg
  have h7 := seven hb
  rw [bl_length] at h7
  have HE := parse_ref (bl s)
  simp only [beq_iff_eq.1 hb, true_and] at HE
  have m1 : ¬ (s.size : Int) < 7 := by omega
  have m4 : (7 : Int) ≤ (s.size : Int) := by omega
  have CL := fun X : World => lower_any (s.extract 0 7) X (by rw [← bl_length, extract_bl, piece_front, List.length_take]; omega)
  unfold Text at CL
  rw [extract_bl, piece_front, beq_iff_eq.1 hb, show (⟨httpL.toArray⟩ : ByteArray) = ⟨#[104, 116, 116, 112, 58, 47, 47]⟩ from rfl] at CL
  have C1 := Lib.hid CL
  have CC := fun X : World => rcut_any (s.extract 7 s.size) ⟨#[47, 63]⟩ endB end_is X (by have := extract_size s 7 s.size; omega) (by decide)
  rw [extract_bl, piece_back, cutB_end] at CC
  obtain ⟨l1, l2⟩ := cutA_len ((bl s).drop 7)
  rw [List.length_drop, bl_length] at l1 l2
  unfold rurlF at HE
  generalize (cutA ((bl s).drop 7)).1 = a at *
  generalize (cutA ((bl s).drop 7)).2 = q at *
  obtain ⟨A, hA⟩ : ∃ A : ByteArray, A = ⟨a.toArray⟩ := ⟨_, rfl⟩
  obtain ⟨Q, hQ⟩ : ∃ Q : ByteArray, Q = ⟨q.toArray⟩ := ⟨_, rfl⟩
  have hAb : bl A = a := by rw [hA, bl_mk]
  have hQb : bl Q = q := by rw [hQ, bl_mk]
  simp only [← hA, ← hQ] at CC
  have hAz := size_bl A a hAb
  have hQz := size_bl Q q hQb
  have C2 := Lib.hid CC
  have CD := fun X : World => rcut_any A ⟨#[58]⟩ (fun c => c == 58) colon_is X (by omega) (by decide)
  rw [hAb] at CD
  have z2 : ¬ 9223372036854775807 < 1 + Q.size := by omega
  have hPb : bl ((⟨#[47]⟩ : ByteArray) ++ Q) = slashF q := by
    unfold slashF
    rw [if_neg (by rw [hq]; simp), bl_app', hQb]; rfl
  have hPz : ((⟨#[47]⟩ : ByteArray) ++ Q).size ≤ 140737488351232 := by
    rw [size_bl _ _ hPb]
    unfold slashF
    split <;> (try simp) <;> omega
  obtain ⟨q', hq'⟩ : ∃ q', q = 63 :: q' := by
    cases q with
    | nil => simp at hq
    | cons c q' => exact ⟨q', by simp at hq; rw [hq]⟩
  have eQ := empty_no Q 63 q' (by rw [hQb, hq'])
  have iQ : 0 < Q.size := by rw [hQz, hq']; simp
  have iQ' : (0 : Int) < (Q.size : Int) := by omega
  have hQ0 : Q[0] = 63 := by
    have := first_is Q iQ
    rw [hQb, hq'] at this
    simpa using this.symm
  have hbi := byte_int Q[0] 63
  rw [show ((63 : UInt8).toNat : Int) = 63 from rfl, show (Q[0] == 63) = true by rw [hQ0]; decide] at hbi
  clear hQ0 hq'
  rcases cutB_colon a with ⟨_, hcb, hcc⟩ | ⟨_, _, _, _, hin⟩
  case inr => exact absurd hin hc
  rw [hcb, ← hA, show (⟨([] : List UInt8).toArray⟩ : ByteArray) = ⟨#[]⟩ from rfl] at CD
  rw [rport_none a hc, hcc] at HE
  clear hcb hcc
  have C3 := Lib.hid CD
  obtain ⟨L, hL⟩ : ∃ L : ByteArray, L = ⟨(lowF a).toArray⟩ := ⟨_, rfl⟩
  have hLb : bl L = lowF a := by rw [hL, bl_mk]
  have CW := fun X : World => lower_any A X (by omega)
  unfold Text at CW
  rw [hAb] at CW
  simp only [← hL] at CW
  have C5 := Lib.hid CW
  have CM := fun X : World => rmay_any L ((⟨#[47]⟩ : ByteArray) ++ Q) 80 X (by rw [size_bl L _ hLb, lowF_length]; omega) hPz
  rw [hLb, hPb] at CM
  simp only at HE
  have HL := Lib.hid hL
  have HPB := Lib.hid (show ((⟨#[47]⟩ : ByteArray) ++ Q) = ⟨(slashF q).toArray⟩ by rw [← hPb, mk_bl])
  clear CL CC CD CW hb hg h7 l1 l2 hA hQ hAb hQb hAz hQz hPb hPz hc hq hs hL hLb
  generalize slashF q = r at *
  generalize lowF a = ln at *
  rw [show ((80 : Nat) : Int) = 80 from rfl] at HE
  generalize mayF ln 80 r = mb at *
  have C6 := Lib.hid CM
  have HE := Lib.hid HE
  clear CM
  unfold UrlGot
  cases mb with
  | false =>
    have HR := Lib.hid (show parseF (bl s) = none by rw [HE.out, if_neg Bool.false_ne_true])
    clear HE
    go_enter Tryz.func18, Tryz.ntmps18
    go_wp2_with fail
    try simp only [HG.out]
    refine (C1.out _).mono ?_
    rintro e w1 ⟨rfl, b1⟩
    have I1 := Lib.hid (I0.out.kept (Turn.of_below (S := fun _ => False) b1) (fun h => h))
    have B1 := Lib.hid (B0.out.trans (b1.mono B0.out.size))
    clear b1 I0 B0
    go_wp2_with fail
    refine (C2.out _).mono ?_
    rintro e w2 ⟨rfl, b2⟩
    have I2 := Lib.hid (I1.out.kept (Turn.of_below (S := fun _ => False) b2) (fun h => h))
    have B2 := Lib.hid (B1.out.trans (b2.mono B1.out.size))
    clear b2 I1 B1
    go_wp2_with fail
    refine (C3.out _).mono ?_
    rintro e w3 ⟨rfl, b3⟩
    have I3 := Lib.hid (I2.out.kept (Turn.of_below (S := fun _ => False) b3) (fun h => h))
    have B3 := Lib.hid (B2.out.trans (b3.mono B2.out.size))
    clear b3 I2 B2
    go_wp2_with fail
    refine (C5.out _).mono ?_
    rintro e w4 ⟨rfl, b4⟩
    have I4 := Lib.hid (I3.out.kept (Turn.of_below (S := fun _ => False) b4) (fun h => h))
    have B4 := Lib.hid (B3.out.trans (b4.mono B3.out.size))
    clear b4 I3 B3
    have I5 := Lib.hid (I4.out.alloc (.cells #[.string L, .int .i64 80, .string ((⟨#[47]⟩ : ByteArray) ++ Q)] 23))
    have B5 := Lib.hid (B4.out.alloc B4.out.size (.cells #[.string L, .int .i64 80, .string ((⟨#[47]⟩ : ByteArray) ++ Q)] 23))
    have U5 := Lib.hid (Is.made w4 23 [.string L, .int .i64 80, .string ((⟨#[47]⟩ : ByteArray) ++ Q)])
    have HW := Lib.hid B4.out.size
    have HGL := Lib.hid I4.out.lt
    go_upto_region 8 with fail
    generalize w4.alloc _ = w5 at *
    obtain ⟨g2, hg2⟩ : ∃ g2, w4.heap.size = g2 := ⟨_, rfl⟩
    simp only [hg2]
    rw [hg2] at U5 HW HGL
    clear hg2 I4 B4
    have y0 : w5.cell? ⟨g2, 0, none⟩ = some (.string L) := U5.out.cell 0
    have y1 : w5.cell? ⟨g2, 1, none⟩ = some (.int .i64 80) := U5.out.cell 1
    have y2 : w5.cell? ⟨g2, 2, none⟩ = some (.string ((⟨#[47]⟩ : ByteArray) ++ Q)) := U5.out.cell 2
    go_wp2_with fail
    refine (C6.out _).mono ?_
    rintro e w7 ⟨rfl, b7⟩
    clear y0 y1 y2
    have I7 := Lib.hid (I5.out.kept (Turn.of_below (S := fun _ => False) b7) (fun h => h))
    have B7 := Lib.hid (B5.out.trans (b7.mono B5.out.size))
    have U7 := Lib.hid (U5.out.kept (Turn.of_below (S := fun _ => False) b7) (fun h => h))
    clear b7 I5 B5 U5
    have c0 : w7.cell? ⟨g, 0, none⟩ = some (.string ⟨#[]⟩) := I7.out.cell 0
    have f0 : w7.frozen? ⟨g, 0, none⟩ = false := I7.out.free 0
    have c1 : w7.cell? ⟨g, 1, none⟩ = some (.int .i64 0) := I7.out.cell 1
    have f1 : w7.frozen? ⟨g, 1, none⟩ = false := I7.out.free 1
    have c2 : w7.cell? ⟨g, 2, none⟩ = some (.string ⟨#[]⟩) := I7.out.cell 2
    have f2 : w7.frozen? ⟨g, 2, none⟩ = false := I7.out.free 2
    have I9 := Lib.hid (put3_is I7.out (.string ⟨#[]⟩) (.int .i64 0) (.string ⟨#[]⟩))
    have B9 := Lib.hid (put3_below B7.out (Nat.le_of_eq HG.out) (.string ⟨#[]⟩) (.int .i64 0) (.string ⟨#[]⟩))
    go_wp2_with fail
    refine bodyPost_ret (results_cell1 rfl _ _ g _ _ _ _ rfl I9.out Tryz.underlying23 rfl (by kernel_rfl)) rfl ?_
    exact ⟨by rw [HR.out]; rfl, B9.out⟩
  | true =>
    have HR := Lib.hid (show parseF (bl s) = some (ln, 80, r) by rw [HE.out, if_pos rfl])
    clear HE
    go_enter Tryz.func18, Tryz.ntmps18
    go_wp2_with fail
    try simp only [HG.out]
    refine (C1.out _).mono ?_
    rintro e w1 ⟨rfl, b1⟩
    have I1 := Lib.hid (I0.out.kept (Turn.of_below (S := fun _ => False) b1) (fun h => h))
    have B1 := Lib.hid (B0.out.trans (b1.mono B0.out.size))
    clear b1 I0 B0
    go_wp2_with fail
    refine (C2.out _).mono ?_
    rintro e w2 ⟨rfl, b2⟩
    have I2 := Lib.hid (I1.out.kept (Turn.of_below (S := fun _ => False) b2) (fun h => h))
    have B2 := Lib.hid (B1.out.trans (b2.mono B1.out.size))
    clear b2 I1 B1
    go_wp2_with fail
    refine (C3.out _).mono ?_
    rintro e w3 ⟨rfl, b3⟩
    have I3 := Lib.hid (I2.out.kept (Turn.of_below (S := fun _ => False) b3) (fun h => h))
    have B3 := Lib.hid (B2.out.trans (b3.mono B2.out.size))
    clear b3 I2 B2
    go_wp2_with fail
    refine (C5.out _).mono ?_
    rintro e w4 ⟨rfl, b4⟩
    have I4 := Lib.hid (I3.out.kept (Turn.of_below (S := fun _ => False) b4) (fun h => h))
    have B4 := Lib.hid (B3.out.trans (b4.mono B3.out.size))
    clear b4 I3 B3
    have I5 := Lib.hid (I4.out.alloc (.cells #[.string L, .int .i64 80, .string ((⟨#[47]⟩ : ByteArray) ++ Q)] 23))
    have B5 := Lib.hid (B4.out.alloc B4.out.size (.cells #[.string L, .int .i64 80, .string ((⟨#[47]⟩ : ByteArray) ++ Q)] 23))
    have U5 := Lib.hid (Is.made w4 23 [.string L, .int .i64 80, .string ((⟨#[47]⟩ : ByteArray) ++ Q)])
    have HW := Lib.hid B4.out.size
    have HGL := Lib.hid I4.out.lt
    go_upto_region 8 with fail
    generalize w4.alloc _ = w5 at *
    obtain ⟨g2, hg2⟩ : ∃ g2, w4.heap.size = g2 := ⟨_, rfl⟩
    simp only [hg2]
    rw [hg2] at U5 HW HGL
    clear hg2 I4 B4
    have y0 : w5.cell? ⟨g2, 0, none⟩ = some (.string L) := U5.out.cell 0
    have y1 : w5.cell? ⟨g2, 1, none⟩ = some (.int .i64 80) := U5.out.cell 1
    have y2 : w5.cell? ⟨g2, 2, none⟩ = some (.string ((⟨#[47]⟩ : ByteArray) ++ Q)) := U5.out.cell 2
    go_wp2_with fail
    refine (C6.out _).mono ?_
    rintro e w7 ⟨rfl, b7⟩
    clear y0 y1 y2
    have I7 := Lib.hid (I5.out.kept (Turn.of_below (S := fun _ => False) b7) (fun h => h))
    have B7 := Lib.hid (B5.out.trans (b7.mono B5.out.size))
    have U7 := Lib.hid (U5.out.kept (Turn.of_below (S := fun _ => False) b7) (fun h => h))
    clear b7 I5 B5 U5
    have c0 : w7.cell? ⟨g, 0, none⟩ = some (.string ⟨#[]⟩) := I7.out.cell 0
    have f0 : w7.frozen? ⟨g, 0, none⟩ = false := I7.out.free 0
    have c1 : w7.cell? ⟨g, 1, none⟩ = some (.int .i64 0) := I7.out.cell 1
    have f1 : w7.frozen? ⟨g, 1, none⟩ = false := I7.out.free 1
    have c2 : w7.cell? ⟨g, 2, none⟩ = some (.string ⟨#[]⟩) := I7.out.cell 2
    have f2 : w7.frozen? ⟨g, 2, none⟩ = false := I7.out.free 2
    have y0 : w7.cell? ⟨g2, 0, none⟩ = some (.string L) := U7.out.cell 0
    have y1 : w7.cell? ⟨g2, 1, none⟩ = some (.int .i64 80) := U7.out.cell 1
    have y2 : w7.cell? ⟨g2, 2, none⟩ = some (.string ((⟨#[47]⟩ : ByteArray) ++ Q)) := U7.out.cell 2
    have I9 := Lib.hid (put3_is I7.out (.string L) (.int .i64 80) (.string ((⟨#[47]⟩ : ByteArray) ++ Q)))
    have B9 := Lib.hid (put3_below B7.out (Nat.le_of_eq HG.out) (.string L) (.int .i64 80) (.string ((⟨#[47]⟩ : ByteArray) ++ Q)))
    go_wp2_with fail
    refine bodyPost_ret (results_cell1 rfl _ _ g _ _ _ _ rfl I9.out Tryz.underlying23 rfl (by kernel_rfl)) rfl ?_
    refine ⟨?_, B9.out⟩
    rw [HR.out, HL.out]
    show Ending.returned (.tuple #[.agg #[.string ⟨ln.toArray⟩, .int .i64 80, .string ((⟨#[47]⟩ : ByteArray) ++ Q)], .int .i64 0]) = Ending.returned (.tuple #[.agg #[.string ⟨ln.toArray⟩, .int .i64 80, .string ⟨r.toArray⟩], .int .i64 0])
    rw [HPB.out]

theorem rparse_any (s : ByteArray) (w : World) (hs : s.size ≤ 2000000) : Calls Tryz.prog 18 #[.string s] w (UrlGot (urlT (parseF (bl s))) w) := by
  cases hb : (lowF ((bl s).take 7) == httpL) with
  | false => exact rparse_no s w hb
  | true =>
    by_cases hc : 58 ∈ (cutA ((bl s).drop 7)).1
    · rcases cut_head ((bl s).drop 7) with h | h | h
      · exact rparse_ce s w hs hb hc h
      · exact rparse_cs s w hs hb hc h
      · exact rparse_cq s w hs hb hc h
    · rcases cut_head ((bl s).drop 7) with h | h | h
      · exact rparse_ne s w hs hb hc h
      · exact rparse_ns s w hs hb hc h
      · exact rparse_nq s w hs hb hc h
end Go.Proofs.YthkcniimnaephaaGreatDoor.Uri
