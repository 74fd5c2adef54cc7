/-
  What strings.IndexAny of "/?" does (of any text), and package uri's cut.
  Conditions: those that each theorem names.
-/
import Derived.Test.YthkcniimnaephaaGreatDoorYD
import Derived.Test.YthkcniimnaephaaGreatDoorYE
import Derived.Shelf.Strings.AsciiSet
namespace Go.Proofs.YthkcniimnaephaaGreatDoor.Uri
open Go.RowKit

/-- The place of the first '/' or '?'; -1: there is none. -/
def endAt (l : List UInt8) : Int := if (cutA l).2 = [] then -1 else ((cutA l).1.length : Int)
theorem endAt_hit (l : List UInt8) (k : Nat) (c : UInt8) (h : (l.take k).all (fun c => !endB c) = true) (hk : l[k]? = some c) (hc : endB c = true) : endAt l = (k : Int) := by
  have hlt : k < l.length := (List.getElem?_eq_some_iff.1 hk).1
  have hl : l = l.take k ++ c :: l.drop (k + 1) := by
    have h1 := List.drop_eq_getElem_cons hlt
    have h2 : l[k] = c := (List.getElem?_eq_some_iff.1 hk).2
    rw [h2] at h1
    rw [← h1, List.take_append_drop]
  unfold endAt
  rw [hl, cutA_hit (l.take k) c _ h hc, if_neg (by simp)]
  simp
  omega
theorem endAt_none (l : List UInt8) (h : l.all (fun c => !endB c) = true) : endAt l = -1 := by
  unfold endAt
  rw [cutA_none l h, if_pos rfl]
def endS : ByteArray := ⟨#[47, 63]⟩
theorem endS_low : ∀ c ∈ bl endS, c.toNat < 128 := by decide
theorem endS_has (c : UInt8) : (bl endS).contains c = endB c := by
  have := byte_every (fun c => (bl endS).contains c == endB c) (by decide +kernel) c
  simpa using this
theorem set_info : (Tryz.prog.info? 74).map (fun i => (i.zero, i.size)) = some (some (.agg (Array.replicate 256 (.bool false))), 256) := by kernel_rfl
theorem noend_snoc (s : ByteArray) (k : Nat) (h : k < s.size) (h1 : ((bl s).take k).all (fun c => !endB c) = true) (h2 : endB s[k] = false) : ((bl s).take (k + 1)).all (fun c => !endB c) = true := by
  rw [bl_take s k h, List.all_append, h1]
  simp [h2]
theorem noend_all (s : ByteArray) (k : Nat) (h : ¬ k < s.size) (h1 : ((bl s).take k).all (fun c => !endB c) = true) : (bl s).all (fun c => !endB c) = true := by
  rw [List.take_of_length_le (by rw [bl_length]; omega)] at h1
  exact h1

set_option maxHeartbeats 2000000 in
set_option maxRecDepth 100000 in
theorem any_short (s : ByteArray) (w : World) (h8 : s.size ≤ 8) : Calls Tryz.prog 56 #[.string s, .string endS] w fun e w' => e = .returned (.int .i64 (endAt (bl s))) ∧ Below w.heap.size w w' := by
  have hS := Tryz.strings_shouldUseASCIISet (s.size : Int) w
  rw [show decide ((8 : Int) < (s.size : Int)) = false by simp; omega] at hS
  have CS := Lib.hid hS
  have CL := Lib.hid (fun (c : UInt8) (X : World) (h : c.toNat < 128) => Tryz.strings_IndexRune_ascii endS (c.toNat : Int) X (by omega) (by omega))
  have CH := Lib.hid (fun (r : Int) (X : World) (h1 : 128 ≤ r) (h2 : r ≤ 2147483647) => index_high endS endS_low (by decide) r X h1 h2)
  have HE := Lib.hid endS_has
  have e0 : endS.toList.isEmpty = false := by rw [Lib.toList_data]; rfl
  have e1 : ((endS.size : Int) == 1) = false := by decide
  clear hS
  go_enter Tryz.func56, Tryz.ntmps56
  go_wp2_with fail
  refine CS.out.mono ?_
  rintro e w1 ⟨rfl, rfl⟩
  go_wp2_with fail
  go_loopw [9, 10] (fun _ _ wx => ∃ k : Nat, k ≤ s.size ∧ AtIter wx w1.heap.size s k ∧ Below w1.heap.size w1 wx ∧ ((bl s).take k).all (fun c => !endB c) = true) (fun _ _ wx => s.size - wx.iterPos w1.heap.size)
  case atStart => exact ⟨0, Nat.zero_le _, AtIter.start _ _, (Below.refl _ _).alloc (Nat.le_refl _) _, rfl⟩
  case round =>
    obtain ⟨k, hk, hit, hB, hall⟩ := hrel
    have HALL := Lib.hid hall
    have HM := Lib.hid hit.pos
    clear hall
    by_cases hlt : k < s.size
    · have HG := Lib.hid (bl_get s k hlt)
      have HSN := Lib.hid (noend_snoc s k hlt HALL.out)
      rcases decode_step s k hlt with ⟨hc, hd⟩ | ⟨hc, r, n, hd, hr1, hr2, hn, hw⟩
      · obtain ⟨w2, hnx, hit1, t1, z1⟩ := next_some (P := Tryz.prog) hit hlt hd
        have hB1 : Below w1.heap.size w1 w2 := hB.trans ⟨t1.os, t1.tape, t1.output, t1.size, fun b hb => t1.block b (by have := hB.size; omega) (by omega)⟩
        clear hd z1 t1
        have C := CL.out s[k] w2 hc
        have hback : ((s[k].toNat : Int)).toNat.toUInt8 = s[k] := by simp
        rw [hback] at C
        have hix := index_mem (bl endS) s[k]
        rw [HE.out] at hix
        have hge := Lib.indexByte_ge (bl endS) s[k]
        rw [show endS.data.toList = bl endS from rfl] at C
        clear hback
        generalize s[k] = c at *
        generalize Lib.indexByte (bl endS) c = i at *
        have C1 := Lib.hid C
        clear C
        cases hec : endB c with
        | true =>
          rw [hec] at hix
          have hi : (0 : Int) ≤ i := of_decide_eq_true hix
          have HF := Lib.hid (endAt_hit (bl s) k c HALL.out HG.out hec)
          clear hix hec
          go_wp2_with fail
          refine C1.out.mono ?_
          rintro e w3 ⟨rfl, rfl⟩
          go_wp2_with fail
          go_ret
          exact ⟨by rw [HF.out]; rfl, hB1⟩
        | false =>
          rw [hec] at hix
          have hi : ¬ (0 : Int) ≤ i := of_decide_eq_false hix
          have HF := Lib.hid (HSN.out hec)
          clear hix hec
          go_wp2_with fail
          refine C1.out.mono ?_
          rintro e w3 ⟨rfl, rfl⟩
          go_wp2_with fail
          go_roundw
          case rel => exact ⟨k + 1, hlt, hit1, hB1, HF.out⟩
          case measure => rw [hit1.pos, HM.out]; omega
      · obtain ⟨w2, hnx, hit1, t1, z1⟩ := next_some (P := Tryz.prog) hit hlt hd
        have hB1 : Below w1.heap.size w1 w2 := hB.trans ⟨t1.os, t1.tape, t1.output, t1.size, fun b hb => t1.block b (by have := hB.size; omega) (by omega)⟩
        have HW := Lib.hid hw
        clear hd z1 t1 hw HSN HG
        have C := Lib.hid (CH.out (r : Int) w2 (by omega) (by omega))
        go_wp2_with fail
        refine C.out.mono ?_
        rintro e w3 ⟨rfl, b3⟩
        have hit2 : AtIter w3 w1.heap.size s (k + (n + 1)) := hit1.kept (Turn.of_below (S := fun _ => False) b3) (fun h => h)
        go_wp2_with fail
        go_roundw
        case rel =>
          refine ⟨k + (n + 1), hn, hit2, hB1.trans (b3.mono hB1.size), ?_⟩
          rw [List.take_add, List.all_append, HALL.out, Bool.true_and, List.all_eq_true]
          intro d hd
          have := HW.out d hd
          unfold endB
          have h1 : (d == 47) = false := by rw [beq_eq_false_iff_ne]; rintro rfl; simp at this
          have h2 : (d == 63) = false := by rw [beq_eq_false_iff_ne]; rintro rfl; simp at this
          simp [h1, h2]
        case measure => rw [hit2.pos, HM.out]; omega
    · have hnx := next_none (P := Tryz.prog) hit hlt
      have HF := Lib.hid (endAt_none (bl s) (noend_all s k hlt HALL.out))
      go_wp2_with fail
      go_ret
      exact ⟨by rw [HF.out]; rfl, hB⟩

set_option maxHeartbeats 4000000 in
set_option maxRecDepth 1000000 in
theorem any_long (s : ByteArray) (w : World) (h8 : 8 < s.size) (hs : s.size ≤ 1125899906842624) : Calls Tryz.prog 56 #[.string s, .string endS] w fun e w' => e = .returned (.int .i64 (endAt (bl s))) ∧ Below w.heap.size w w' := by
  have hS := Tryz.strings_shouldUseASCIISet (s.size : Int) w
  rw [show decide ((8 : Int) < (s.size : Int)) = true by simp; omega] at hS
  have CS := Lib.hid hS
  have hlo : ∀ (j : Nat) (b : UInt8), endS.data.toList[j]? = some b → b.toNat < 128 := fun j b h => endS_low b (List.mem_of_getElem? h)
  have CM := Lib.hid (Tryz.strings_makeASCIISet (zero_of_info set_info).1 endS w (by decide) hlo)
  have hsz := Lib.setCells_size endS.data.toList
  have hone := Lib.setCells_one endS.data.toList
  have hat := fun x : UInt8 => Lib.setCells_at endS.data.toList x
  have HE := Lib.hid endS_has
  have e0 : endS.toList.isEmpty = false := by rw [Lib.toList_data]; rfl
  have e1 : ((endS.size : Int) == 1) = false := by decide
  clear hS hlo
  generalize Lib.setCells endS.data.toList = S at *
  go_enter Tryz.func56, Tryz.ntmps56
  go_wp2_with fail
  refine CS.out.mono ?_
  rintro e w1 ⟨rfl, rfl⟩
  go_wp2_with fail
  refine CM.out.mono ?_
  rintro e w2 ⟨rfl, hw2⟩
  go_wp2_with fail
  have hz : Tryz.zeroCells74 = Array.replicate 256 (.bool false) := by kernel_rfl
  have hsc : (storeCells ⟨w1.heap.size + 1, 0, none⟩ S.toList 0).run Tryz.prog ((w1.alloc (.cells S 74)).alloc (.cells Tryz.zeroCells74 74)) = .ok () ((w1.alloc (.cells S 74)).alloc (.cells S 74)) := by
    have := run_storeCells_new (P := Tryz.prog) (w1.alloc (.cells S 74)) 74 Tryz.zeroCells74 S (by rw [hsz]; kernel_rfl) (by rw [hsz, hz, Array.size_replicate]) hone
    simpa using this
  subst hw2
  simp only [hsc, Result.andThen]
  rw [Oper.upon_skip]
  have hcell : ∀ x : UInt8, ((w1.alloc (.cells S 74)).alloc (.cells S 74)).cell? ⟨w1.heap.size + 1, x.toNat, none⟩ = some (.bool (endB x)) := fun x => by
    rw [World.cell?_alloc_at _ _ _ _ (by simp), hat x, ← HE.out x]
    rfl
  have HCELL := Lib.hid hcell
  have hB : Below w1.heap.size w1 ((w1.alloc (.cells S 74)).alloc (.cells S 74)) := ((Below.refl _ _).alloc (Nat.le_refl _) _).alloc (by simp) _
  have HB := Lib.hid hB
  clear hsc hz hcell hB hat hone hsz
  generalize (w1.alloc (.cells S 74)).alloc (.cells S 74) = w3 at *
  go_wp2_with fail
  go_loopw [8] (fun vi wx => ∃ k : Nat, vi = .int .i64 (k : Int) ∧ k ≤ s.size ∧ wx = w3 ∧ Hid (((bl s).take k).all (fun c => !endB c) = true)) (fun vi _ => s.size - (intOf vi).toNat)
  case atStart => exact ⟨0, rfl, Nat.zero_le _, rfl, Lib.hid rfl⟩
  case round =>
    obtain ⟨k, rfl, hk, rfl, HALL⟩ := hrel
    by_cases hlt : k < s.size
    · have HG := Lib.hid (bl_get s k hlt)
      have HSN := Lib.hid (noend_snoc s k hlt HALL.out)
      have hc := HCELL.out s[k]
      generalize hsk : s[k] = c at *
      have CC := Lib.hid (Tryz.asciiSet_contains (w1.heap.size + 1) c (endB c) wr hc)
      clear hc
      cases hec : endB c with
      | true =>
        rw [hec] at CC
        have HF := Lib.hid (endAt_hit (bl s) k c HALL.out HG.out hec)
        clear hec
        go_wp2_with fail
        refine CC.out.mono ?_
        rintro e w4 ⟨rfl, rfl⟩
        go_wp2_with fail
        go_ret
        exact ⟨by rw [HF.out]; rfl, HB.out⟩
      | false =>
        rw [hec] at CC
        have HF := Lib.hid (HSN.out hec)
        clear hec
        go_wp2_with fail
        refine CC.out.mono ?_
        rintro e w4 ⟨rfl, rfl⟩
        go_wp2_with fail
        go_roundw
        case rel => exact ⟨k + 1, by go_num, hlt, trivial, HF⟩
        case measure => simp [intOf]; omega
    · have HF := Lib.hid (endAt_none (bl s) (noend_all s k hlt HALL.out))
      go_wp2_with fail
      go_ret
      exact ⟨by rw [HF.out]; rfl, HB.out⟩
theorem any_any (s : ByteArray) (w : World) (hs : s.size ≤ 1125899906842624) : Calls Tryz.prog 56 #[.string s, .string endS] w fun e w' => e = .returned (.int .i64 (endAt (bl s))) ∧ Below w.heap.size w w' := by
  by_cases h8 : s.size ≤ 8
  · exact any_short s w h8
  · exact any_long s w (by omega) hs

/-- What package uri's cut tells. -/
def CutA (l : List UInt8) (w : World) (e : Ending) (w' : World) : Prop := e = .returned (.tuple #[.string ⟨(cutA l).1.toArray⟩, .string ⟨(cutA l).2.toArray⟩]) ∧ Below w.heap.size w w'
set_option maxHeartbeats 2000000 in
theorem ucut_any (s : ByteArray) (w : World) (hs : s.size ≤ 1125899906842624) : Calls Tryz.prog 34 #[.string s] w (CutA (bl s) w) := by
  have C0 := any_any s w hs
  rcases cutA_or (bl s) with ⟨h1, h2⟩ | ⟨a, c, b, hl, h1, h2, h3⟩
  · rw [endAt_none _ h1] at C0
    have C := Lib.hid C0
    have HC := Lib.hid h2
    clear C0 h1 h2
    go_enter Tryz.func34, Tryz.ntmps34
    go_wp2_with fail
    refine C.out.mono ?_
    rintro e w' ⟨rfl, b'⟩
    go_wp2_with fail
    go_ret2
    refine ⟨?_, b'⟩
    rw [HC.out]
    simp only
    rw [mk_bl]
    rfl
  · rw [endAt_hit (bl s) a.length c (by rw [hl, List.take_left' rfl]; exact h1) (by rw [hl, List.getElem?_append_right (Nat.le_refl _)]; simp) h2] at C0
    have C := Lib.hid C0
    have HC := Lib.hid h3
    have hsz : s.size = a.length + 1 + b.length := by rw [← bl_length, hl]; simp; omega
    have x1 : s.extract 0 a.length = ⟨a.toArray⟩ := by
      rw [← mk_bl (s.extract 0 a.length), extract_bl, piece_front, hl, List.take_left' rfl]
    have x2 : s.extract a.length s.size = ⟨(c :: b).toArray⟩ := by
      rw [← mk_bl (s.extract a.length s.size), extract_bl, piece_back, hl, List.drop_left' rfl]
    have X1 := Lib.hid x1
    have X2 := Lib.hid x2
    have c1 : (0 : Int) ≤ (a.length : Int) := by omega
    have c2 : (a.length : Int) ≤ (s.size : Int) := by omega
    clear C0 h1 h2 h3 hl x1 x2 hsz
    go_enter Tryz.func34, Tryz.ntmps34
    go_wp2_with fail
    refine C.out.mono ?_
    rintro e v ⟨rfl, b'⟩
    have B1 := Lib.hid b'
    clear b'
    go_wp2_with fail
    go_quiet (fail)
    have HB : Hid (Below w.heap.size w (v.drewN nq)) := Lib.hid (below_drewN B1.out nq)
    go_wp2_with fail
    go_ret2
    refine ⟨?_, HB.out⟩
    rw [HC.out]
    simp only
    rw [← X1.out, ← X2.out]
    rfl
end Go.Proofs.YthkcniimnaephaaGreatDoor.Uri
