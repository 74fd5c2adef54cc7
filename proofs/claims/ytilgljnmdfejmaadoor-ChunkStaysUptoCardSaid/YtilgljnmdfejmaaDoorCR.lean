/-
  The landed chunk.Put, and the word of the landed code's contracts.
  Conditions: those that each theorem names.
-/
import Derived.Test.YtilgljnmdfejmaaDoorCP
import Derived.Test.YtilgljnmdfejmaaDoorCE
import Derived.Test.YtilgljnmdfejmaaDoorNF
import Derived.Lib.BufferWrite
import Derived.Test.YtilgljnmdfejmaaDoorCF
namespace Go.Proofs.YtilgljnmdfejmaaDoor
open Go.RowKit

theorem vals_splice (cur x : List UInt8) (off : Nat) : vals (splice cur off x) = splice (vals cur) off (vals x) := by
  unfold splice
  rw [vals_append, vals_append, vals_take, vals_drop, vals_length]
/-- A copy from a text into a block. -/
theorem copy_text_in (w : World) (g off dLen dCap : Nat) (cur x : List UInt8) (t : ByteArray) (ht : bl t = x) (h : Is w g 5 (vals cur)) (hd : x.length ≤ dLen) (hfit : off + x.length ≤ cur.length) :
    ∃ w', (Builtin.copy_ #[22, 9] 3 #[.slice (some ⟨g, off, none⟩) dLen dCap, .string t]).run Tryd.prog w = .ok (.int .i64 (x.length : Int)) w' ∧ Is w' g 5 (vals (splice cur off x)) ∧ Turn (· = g) w w' ∧ w'.heap.size = w.heap.size := by
  have hsz : t.size = x.length := by rw [← ht, bl_length]
  have hrun := Lib.run_copy_row_string (P := Tryd.prog) w 22 9 3 5 g off dLen dCap t (vals cur).toArray 5 Tryd.underlying22 byteSize h (by omega) (by rw [List.size_toArray, vals_length]; omega)
  have e : ((vals cur).toArray.toList.take off ++ Lib.byteCells t.data.toList ++ (vals cur).toArray.toList.drop (off + t.size)) = vals (splice cur off x) := by
    rw [vals_splice, List.toList_toArray, hsz]
    unfold splice
    rw [vals_length, List.append_assoc, show t.data.toList = x from ht]
    rfl
  rw [e, hsz] at hrun
  exact ⟨_, hrun, h.setRow _, (Turn.refl (· = g) w).setRow (fun _ => rfl) _, by simp [World.setRow]⟩
/-- A copy from bytes into a block. -/
theorem copy_src_in {P : Nat → Prop} (w : World) (g off dLen dCap : Nat) (cur x : List UInt8) (A : Option Addr) (m c : Nat) (hx : x.length = m) (hs : Src w P A x) (h : Is w g 5 (vals cur)) (hd : m ≤ dLen) (hfit : off + m ≤ cur.length) :
    ∃ w', (Builtin.copy_ #[22, 22] 3 #[.slice (some ⟨g, off, none⟩) dLen dCap, .slice A m c]).run Tryd.prog w = .ok (.int .i64 (m : Int)) w' ∧ Is w' g 5 (vals (splice cur off x)) ∧ Turn (· = g) w w' ∧ w'.heap.size = w.heap.size := by
  obtain ⟨w', hrun, his, ht, hz⟩ := run_copy_in (P := Tryd.prog) w 22 22 3 5 Tryd.underlying22 byteSize (some ⟨g, off, none⟩) A dLen dCap m c m g off (vals cur) 5 h (vals x) (by rw [vals_length]; exact hx)
    (Nat.min_eq_left hd).symm (fun h0 => by
      obtain ⟨ad, hA, _, _, hc⟩ := hs (by omega)
      exact ⟨rfl, ad, hA, hc⟩) (by rw [vals_length]; exact hfit) (vals_one x)
  rw [← vals_splice] at his
  exact ⟨w', hrun, his, ht, hz⟩
theorem bl_join (s t : ByteArray) : bl (s ++ t) = bl s ++ bl t := by
  unfold bl
  rw [ByteArray.data_append, Array.toList_append]

set_option maxHeartbeats 4000000 in
set_option maxRecDepth 100000 in
theorem chunkOf_any (w : World) (A : Option Addr) (x : List UInt8) (m c : Nat) (hx : x.length = m) (hmc : m ≤ c) (hm : m ≤ 4096) (h : Src w (fun _ => True) A x) (hz : ZeroTab w) :
    Calls Tryd.prog 21 #[.slice A m c] w fun e w' => ∃ A' L c', e = .returned (.slice A' L c') ∧ (chunkF x).length = L ∧ Src w' (fun _ => True) A' (chunkF x) ∧ Below w.heap.size w w' := by
  by_cases h0 : m = 0
  · have hx0 : x = [] := List.eq_nil_of_length_eq_zero (by omega)
    subst h0 hx0
    clear h hz
    go_enter Tryd.func21, Tryd.ntmps21
    go_wp2_with fail
    go_ret
    exact ⟨none, 0, 0, rfl, rfl, (fun h => by simp [chunkF] at h), Below.refl _ _⟩
  · have e0 : ((m : Int) == 0) = false := by simp; omega
    have e0n : ¬ m = 0 := h0
    have hxn : x ≠ [] := fun e => h0 (by rw [← hx, e]; rfl)
    have CH := Lib.hid (hextext_any m w hz)
    rw [writeF_ok 16 m (by unfold Most; omega)] at CH
    unfold Wrote at CH
    simp only at CH
    obtain ⟨S, hS⟩ : ∃ S : ByteArray, S = ⟨(numF 16 m).toArray⟩ := ⟨_, rfl⟩
    rw [← hS] at CH
    have hbs : bl S = numF 16 m := by rw [hS, bl_mk]
    have hSl : S.size = (numF 16 m).length := by rw [← hbs, bl_length]
    have hS4 : S.size ≤ 4 := by rw [hSl]; exact hex_length m (by omega)
    obtain ⟨N, hN⟩ : ∃ N, S.size + m + 4 = N := ⟨_, rfl⟩
    have HC := Lib.hid (show chunkF x = (numF 16 m ++ [13, 10]) ++ (x ++ [13, 10]) by unfold chunkF; rw [if_neg hxn, hx, List.append_assoc])
    have wm : IntKind.u64.wrap (m : Int) = (m : Int) := by rw [IntKind.wrap_u64]; omega
    have wr1 : IntKind.i64.wrap ((S.size : Int) + (m : Int)) = (S.size : Int) + (m : Int) := by rw [IntKind.wrap_i64]; omega
    have wr2 : IntKind.i64.wrap ((S.size : Int) + (m : Int) + 4) = (N : Int) := by rw [IntKind.wrap_i64]; omega
    have H := Lib.hid h
    have HX := Lib.hid hx
    have HB := Lib.hid hbs
    have HSL := Lib.hid hSl
    clear h hz hx hS hbs hSl hxn
    go_enter Tryd.func21, Tryd.ntmps21
    go_wp2_with fail
    refine CH.out.mono ?_
    rintro e w1 ⟨rfl, b1⟩
    obtain ⟨w2, hmk, is2, t2, z2⟩ := run_make_bytes N (by omega) w1
    obtain ⟨w3, hr3, is3, t3, z3⟩ := copy_text_in w2 w1.heap.size 0 N N _ (numF 16 m ++ [13, 10]) (S ++ ⟨#[13, 10]⟩) (by rw [bl_join, HB.out]; rfl) is2 (by rw [List.length_append, ← HSL.out]; simp; omega) (by rw [List.length_append, ← HSL.out, List.length_replicate]; simp; omega)
    have b2 : Below w.heap.size w w2 := b1.trans ⟨t2.os, t2.tape, t2.output, t2.size, fun b hb => t2.block b (by have := b1.size; omega) (fun h => h)⟩
    have b3 : Below w.heap.size w w3 := b2.trans ⟨t3.os, t3.tape, t3.output, t3.size, fun b hb => t3.block b (by have := b2.size; omega) (by have := b1.size; omega)⟩
    obtain ⟨k, hk⟩ : ∃ k, S.size + 2 = k := ⟨_, rfl⟩
    have hl3 : (numF 16 m ++ [13, 10]).length = k := by rw [List.length_append, ← HSL.out]; simpa using hk
    rw [hl3] at hr3
    obtain ⟨w4, hr4, is4, t4, z4⟩ := copy_src_in w3 w1.heap.size k (N - k) (N - k) _ x A m c HX.out (H.out.kept (Turn.of_below (S := fun _ => False) b3) (fun _ _ h => h)) is3 (by omega) (by rw [length_splice _ _ _ (by rw [hl3, List.length_replicate]; omega), List.length_replicate]; omega)
    have b4 : Below w.heap.size w w4 := b3.trans ⟨t4.os, t4.tape, t4.output, t4.size, fun b hb => t4.block b (by have := b3.size; omega) (by have := b1.size; omega)⟩
    obtain ⟨w5, hr5, is5, t5, z5⟩ := copy_text_in w4 w1.heap.size (k + m) (N - (k + m)) (N - (k + m)) _ [13, 10] ⟨#[13, 10]⟩ rfl is4 (by simp; omega) (by
      rw [length_splice _ _ _ (by rw [length_splice _ _ _ (by rw [hl3, List.length_replicate]; omega), List.length_replicate, HX.out]; omega), length_splice _ _ _ (by rw [hl3, List.length_replicate]; omega), List.length_replicate]; simp; omega)
    have b5 : Below w.heap.size w w5 := b4.trans ⟨t5.os, t5.tape, t5.output, t5.size, fun b hb => t5.block b (by have := b4.size; omega) (by have := b1.size; omega)⟩
    rw [splice_splice_splice _ _ _ _ k m hl3 HX.out (by rw [List.length_replicate]; simp; omega), ← HC.out] at is5
    have HL := Lib.hid (show (chunkF x).length = N by rw [HC.out, List.length_append, hl3, List.length_append, HX.out]; simp; omega)
    have IS5 := Lib.hid is5
    have B5 := Lib.hid b5
    have R3 := Lib.hid hr3
    have R4 := Lib.hid hr4
    have R5 := Lib.hid hr5
    have hcut : ∀ (j : Nat), j < N → ∀ X : World, (Instr.slice 22 (.slice (some ⟨w1.heap.size, 0, none⟩) N N) (some (.int .i64 (j : Int))) none none).run Tryd.prog X = .ok (.slice (some ⟨w1.heap.size, j, none⟩) (N - j) (N - j)) X := fun j hj X => by
      obtain ⟨A', h1, h2⟩ := run_cut (some ⟨w1.heap.size, 0, none⟩) N N j (by omega) (Nat.le_refl _)
      rw [h1 X, h2 (by omega)]
      simp only [Option.map_some, add_at, Nat.zero_add]
    have hc1 := hcut k (by omega)
    have hc2 : ∀ X : World, (Instr.slice 22 (.slice (some ⟨w1.heap.size, 0, none⟩) N N) (some (.int .i64 ((k : Int) + (m : Int)))) none none).run Tryd.prog X = .ok (.slice (some ⟨w1.heap.size, k + m, none⟩) (N - (k + m)) (N - (k + m))) X := fun X => by
      have := hcut (k + m) (by omega) X
      rwa [show ((k + m : Nat) : Int) = (k : Int) + (m : Int) by omega] at this
    have wr3 : IntKind.i64.wrap ((k : Int) + (m : Int)) = (k : Int) + (m : Int) := by rw [IntKind.wrap_i64]; omega
    clear hcut b1 b2 b3 b4 b5 is2 is3 is4 is5 t2 t3 t4 t5 z2 z3 z4 z5 hr3 hr4 hr5 hl3 CH H
    go_wp2_with (first
      | (refine copy_by rfl (.tmp 24) (.tmp 26) 22 9 rfl _ _ _ w3 rfl rfl R3.out ?_)
      | (refine copy_by rfl (.tmp 31) (.tmp 32) 22 22 rfl _ _ _ w4 rfl rfl R4.out ?_)
      | (refine copy_by rfl (.tmp 37) (.const (.string ⟨#[13, 10]⟩)) 22 9 rfl _ _ _ w5 rfl rfl R5.out ?_))
    go_ret
    exact ⟨_, N, N, rfl, HL.out, IS5.out.src _ trivial, B5.out⟩
end Go.Proofs.YtilgljnmdfejmaaDoor

namespace Go.Proofs.YtilgljnmdfejmaaDoor
open Go.RowKit

set_option maxHeartbeats 16000000 in
set_option maxRecDepth 100000 in
theorem put_any (w : World) (A : Option Addr) (ps : List (List UInt8)) (n c : Nat) (hn : ps.length = n) (hmax : n ≤ 5864062014805) (h : SrcL w A ps) (hs : ∀ x ∈ ps, x.length ≤ 140737488351232) (hz : ZeroTab w) :
    Calls Tryd.prog 12 #[.slice A n c] w (PutGot8 (putC ps) w) := by
  have HN := Lib.hid hn
  have H := Lib.hid h
  have HS := Lib.hid hs
  have HZ := Lib.hid hz
  obtain ⟨R, hR⟩ : ∃ R, putC ps = R := ⟨_, rfl⟩
  rw [hR]
  have HR := Lib.hid hR
  clear hn h hs hR hz
  go_enter Tryd.func12, Tryd.ntmps12
  go_wp2_with fail
  go_loopw [4, 5, 10] (fun vb vt vi wr => ∃ (k T : Nat) (o : Option Nat) (out : List UInt8), vi = .int .i64 (k : Int) ∧ vt = .int .i64 (4096 - (T : Int)) ∧ k ≤ n ∧ T ≤ 4096 ∧ Hid (totalF (ps.take k) = T) ∧ Hid ((ps.take k).flatMap chunkF = out) ∧ Hid (Own wr vb o out) ∧ Hid (∀ b, o = some b → w.heap.size ≤ b) ∧ Hid (Below w.heap.size w wr)) (fun _ _ vi _ => n - (intOf vi).toNat)
  case atStart => exact ⟨0, 0, none, [], rfl, rfl, Nat.zero_le _, by omega, Lib.hid rfl, Lib.hid rfl, Lib.hid (Own.nil _), Lib.hid (fun _ h => by cases h), Lib.hid (Below.refl _ _)⟩
  case round =>
    obtain ⟨k, T, o, out, rfl, rfl, hk, hT, HT, HO, HW, HOB, HB⟩ := hrel
    have hol : out.length ≤ 36864 := by
      have := chunks_length (ps.take k) (by rw [HT.out]; exact hT)
      rw [HO.out, HT.out] at this
      omega
    by_cases hlt : k < n
    · obtain ⟨p, x, Ax, cx, hx, hat, y0, hpb, hcx, hsx⟩ := H.out.at (c := c) HN.out hlt HB.out
      have hxl := HS.out x (List.mem_of_getElem? hx)
      have HT2 := Lib.hid (show totalF (ps.take (k + 1)) = T + x.length by rw [take_snoc ps k x hx, totalF_snoc, HT.out])
      have HO2 := Lib.hid (show (ps.take (k + 1)).flatMap chunkF = out ++ chunkF x by rw [take_snoc ps k x hx, List.flatMap_append, HO.out]; simp)
      by_cases hbig : 4096 < T + x.length
      · have HF := Lib.hid (show R = ([], 21) by
          rw [← HR.out]
          unfold putC
          rw [if_pos]
          have := totalF_take ps (k + 1)
          rw [HT2.out] at this
          omega)
        have e1 : decide ((4096 : Int) - (T : Int) < (x.length : Int)) = true := decide_eq_true (by omega)
        clear hbig hx hsx
        go_wp2_with fail
        go_ret2
        exact ⟨_, none, by rw [HF.out]; rfl, by rw [HF.out]; exact Own.nil _, fun _ h => (by cases h), HB.out⟩
      · have e1 : decide ((4096 : Int) - (T : Int) < (x.length : Int)) = false := decide_eq_false (by omega)
        have hm : x.length ≤ 4096 := by omega
        have hT2 : T + x.length ≤ 4096 := by omega
        have wr1 : IntKind.i64.wrap (4096 - (T : Int) - (x.length : Int)) = 4096 - (T : Int) - (x.length : Int) := by rw [IntKind.wrap_i64]; omega
        have CC := Lib.hid (chunkOf_any wr Ax x x.length cx rfl hcx hm hsx (HZ.out.below HB.out))
        have HCL := Lib.hid (show (chunkF x).length ≤ 36864 by
          have h1 := chunks_length [x] (by simp [totalF]; omega)
          simp [totalF] at h1
          omega)
        clear hbig hx hsx
        go_wp2_with fail
        refine CC.out.mono ?_
        rintro e w1 ⟨A1, L1, c1, rfl, hl1, s1, b1⟩
        have B1 := Lib.hid (HB.out.trans (b1.mono HB.out.size))
        have O1 := HW.out.kept (Turn.of_below (S := fun _ => False) b1) (fun _ _ h => h)
        obtain ⟨v2, w2, o2, r2, own2, t2, f2⟩ := run_append_src w1 _ o out (chunkF x) O1 A1 L1 c1 hl1 s1 (by have := HCL.out; omega)
        have b2 := below_own B1.out HOB.out t2
        have F2 := Lib.hid (show ∀ b, o2 = some b → w.heap.size ≤ b from fun b hb => by
          rcases f2 with h | h
          · exact HOB.out b (by rw [← h]; exact hb)
          · rw [h] at hb; injection hb with hb; have := B1.out.size; omega)
        have R2 := Lib.hid r2
        have O2 := Lib.hid own2
        have B2 := Lib.hid b2
        clear r2 own2 t2 f2 b2 s1 b1 O1 hl1
        go_wp2_with (at_builtin; refine append_by rfl (.tmp 22) (.tmp 24) 22 rfl _ _ v2 w2 rfl rfl R2.out ?_)
        go_roundw
        case rel => exact ⟨k + 1, T + x.length, o2, _, by go_num, by go_num, hlt, hT2, HT2, HO2, O2, F2, B2⟩
        case measure => simp [intOf]; omega
    · have HF := Lib.hid (show R = (out ++ [48, 13, 10, 13, 10], 0) by
        rw [← HR.out]
        have h1 := HT.out
        have h2 := HO.out
        rw [List.take_of_length_le (by rw [HN.out]; omega)] at h1 h2
        unfold putC codedF endC
        rw [if_neg (by omega), h2])
      obtain ⟨v1, w1, o1, r1, own1, t1, f1⟩ := run_add_tx w.heap.size wr _ o out ⟨#[48, 13, 10, 13, 10]⟩ HW.out HOB.out HB.out.size (by show out.length + 5 ≤ _; omega)
      have b1 := below_own HB.out HOB.out t1
      have R1 := Lib.hid r1
      have O1 := Lib.hid own1
      have F1 := Lib.hid f1
      have B1 := Lib.hid b1
      clear r1 own1 t1 f1 b1
      go_wp2_with (at_builtin; refine append_tx_by rfl (.tmp 27) _ 22 9 rfl _ _ v1 w1 rfl rfl R1.out ?_)
      go_ret2
      exact ⟨v1, o1, by rw [HF.out]; rfl, by rw [HF.out]; exact O1.out, F1.out, B1.out⟩

/-- The landed code's contracts hold. -/
theorem chunkC : ChunkC := ⟨fun w A bs n c hn hnc hmax h => take_any w A bs n c hn hnc hmax h, fun w A ps n c hn hmax h hs hz => put_any w A ps n c hn hmax h hs hz⟩
end Go.Proofs.YtilgljnmdfejmaaDoor
