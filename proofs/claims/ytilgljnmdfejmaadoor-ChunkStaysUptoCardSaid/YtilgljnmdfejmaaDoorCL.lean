/-
  The law ChunkBack: the walk where the parts are small enough in all; the law.
  Conditions: what the arguments read as; the landed code's contracts.
-/
import Derived.Test.YtilgljnmdfejmaaDoorCK
namespace Go.Proofs.YtilgljnmdfejmaaDoor
open Go.RowKit

theorem front8 (A : Option Addr) (n c k : Nat) (hk : k ≤ c) : ∃ A', (∀ W : World, (Instr.slice 22 (.slice A n c) none (some (.int .i64 (k : Int))) none).run Tryd.prog W = .ok (.slice A' k c) W) ∧
    ∀ (w : World) (P : Nat → Prop) (bs : List UInt8), bs.length = n → k ≤ n → Src w P A bs → Src w P A' (bs.take k) := by
  refine ⟨if c = 0 then A else A.map (·.add (0 * 1)), fun W => ?_, fun w P bs hn hkn h => ?_⟩
  · simp [Instr.slice, run_underlying Tryd.underlying22, Instr.sliceBounds, Instr.sliceBound, asIntOf, hk]
  · intro h0
    rw [List.length_take] at h0
    obtain ⟨ad, rfl, hP, hlt, hc⟩ := h (by omega)
    rw [if_neg (by omega)]
    refine ⟨ad.add (0 * 1), rfl, ?_, ?_, fun i v hv => ?_⟩
    · unfold Addr.add; split <;> exact hP
    · unfold Addr.add; split <;> exact hlt
    · rw [add_add_at, Nat.zero_mul, Nat.zero_add]
      refine hc i v ?_
      rw [vals_take, List.getElem?_take] at hv
      split at hv
      · exact hv
      · cases hv
theorem SrcL.below {w w' : World} {A : Option Addr} {ps : List (List UInt8)} (h : SrcL w A ps) (hB : Below w.heap.size w w') : SrcL w' A ps := fun h0 => by
  obtain ⟨ad, hA, hb, hc⟩ := h h0
  refine ⟨ad, hA, Nat.lt_of_lt_of_le hb hB.size, fun i x hx => ?_⟩
  obtain ⟨Ax, cx, c1, c2, c3⟩ := hc i x hx
  have hblk : (ad.add i).block = ad.block := by unfold Addr.add; split <;> rfl
  exact ⟨Ax, cx, (hB.cell (by rw [hblk]; exact hb)).trans c1, c2, c3.kept (Turn.of_below (S := fun _ => False) hB) (fun _ _ h => h)⟩
theorem take_whole (ps : List (List UInt8)) (t : List UInt8) (h : totalF ps ≤ 4096) : takeF (codedF ps ++ t) = (ps.flatten, (codedF ps).length, 0) := by
  unfold takeF
  rw [takeG_fuel _ (max (codedF ps ++ t).length ps.length + 1) 0 [] _ (by omega) (by omega), take_coded t ps _ 0 [] (by omega) (by simpa using h)]
  simp
theorem take_part (ps : List (List UInt8)) (j : Nat) (h : totalF ps ≤ 4096) (hj : j < (codedF ps).length) : takeF ((codedF ps).take j) = ([], 0, 8) :=
  take_prefix ps _ 0 j [] (by simpa using h) hj

set_option maxHeartbeats 16000000 in
set_option maxRecDepth 100000 in
theorem back8_small (HC : ChunkC) (w : World) (A : Option Addr) (ps : List (List UInt8)) (n c : Nat) (hn : ps.length = n) (hnc : n ≤ c) (hmax : n ≤ 5864062014805) (h : SrcL w A ps) (hs : ∀ x ∈ ps, x.length ≤ 140737488351232)
    (A' : Option Addr) (tl : List UInt8) (n' c' : Nat) (hn' : tl.length = n') (hmax' : n' ≤ 100000000) (h' : Src w (fun _ => True) A' tl) (cut : Nat) (hcut : cut ≤ 65535) (hz : ZeroTab w) (hsmall : totalF ps ≤ 4096) :
    Calls Tryd.prog 5 #[.slice A n c, .slice A' n' c', .int .u16 (cut : Int)] w fun e w' => e = .returned (.bool true) ∧ Below w.heap.size w w' := by
  subst hn'
  have C1 := Lib.hid (HC.put w A ps n c hn hmax h hs hz)
  have CW := Lib.hid (fun (X : World) (hX : Below w.heap.size w X) => awake8_any HC X (hz.below hX))
  have HCT := Lib.hid HC.take
  have HN := Lib.hid hn
  have H := Lib.hid h
  have H' := Lib.hid h'
  have HS := Lib.hid hs
  unfold PutGot8 at C1
  have HR := Lib.hid (show putC ps = (codedF ps, 0) from if_neg (by omega))
  have TW := Lib.hid (take_whole ps tl hsmall)
  have TP := Lib.hid (fun j hj => take_part ps j hsmall hj)
  have hc5 := coded_length ps
  have hc9 : (codedF ps).length ≤ 40000 := by
    have := chunks_length ps hsmall
    unfold codedF endC
    rw [List.length_append]
    simp only [List.length_cons, List.length_nil]
    omega
  have CJ := Lib.hid (fun (X : World) (hX : Below w.heap.size w X) => bjoin_any X A ps n c hn hnc hmax (h.below hX) hsmall)
  have HFL := Lib.hid (show totalF ps ≤ 4096 from hsmall)
  rw [HR.out] at C1
  simp only at C1
  clear hn h hs h' hz HC HR
  generalize codedF ps = cd at *
  generalize ps.flatten = fl at *
  obtain ⟨F, hF⟩ : ∃ F, fl.length = F := ⟨_, rfl⟩
  obtain ⟨L, hL⟩ : ∃ L, cd.length = L := ⟨_, rfl⟩
  rw [hL] at hc5 hc9
  go_enter Tryd.func5, Tryd.ntmps5
  go_wp2_with fail
  refine C1.out.mono ?_
  rintro e w1 ⟨v1, o1, rfl, own1, f1, b1⟩
  obtain ⟨A1, c1, hv1, hc1, s1, _⟩ := own1.block
  subst hv1
  have B1 := Lib.hid b1
  rw [hL] at hc1 ⊢
  go_wp2_with fail
  go_loop [9, 25, 11] (fun vt vi v11 => ∃ k T : Nat, vi = .int .i64 (k : Int) ∧ vt = .int .i64 (T : Int) ∧ k ≤ n ∧ T ≤ 4096 ∧ Hid (totalF (ps.take k) = T)) (fun _ vi _ => n - (intOf vi).toNat)
  case atStart => exact ⟨0, 0, rfl, rfl, Nat.zero_le _, by omega, Lib.hid rfl⟩
  case round =>
    obtain ⟨k, T, rfl, rfl, hk, hT, HK⟩ := hrel
    by_cases hlt : k < n
    · obtain ⟨p, x, Ax, cx, hx, hat, y0, _, _, _⟩ := H.out.at (c := c) HN.out hlt B1.out
      have hxl := HS.out x (List.mem_of_getElem? hx)
      have HK2 := Lib.hid (show totalF (ps.take (k + 1)) = T + x.length by
        have := HK.out
        rw [take_snoc ps k x hx, totalF_snoc]
        omega)
      have hT2b : T + x.length ≤ 4096 := by
        have := totalF_take ps (k + 1)
        have := HK2.out
        have := HFL.out
        omega
      have hmin : min ((T : Int) + (x.length : Int)) 4097 = ((T + x.length : Nat) : Int) := by omega
      clear hx
      go_wp2_with fail
      exact ⟨⟨k + 1, T + x.length, by go_num, rfl, hlt, hT2b, HK2⟩, by simp [intOf]; omega⟩
    · have e0 : ((L : Int) == 0) = false := by simp; omega
      have hs2 : ∀ {A : Option Addr} {l : List UInt8}, Src w (fun _ => True) A l → ∀ {X : World}, Below w.heap.size w X → Src X (fun _ => True) A l := fun h _ hX => h.kept (Turn.of_below (S := fun _ => False) hX) (fun _ _ h => h)
      have b2' : Below w1.heap.size w1 (w1.alloc (.cells #[] 5)) := (Below.refl _ _).alloc (Nat.le_refl _) _
      have b2 : Below w.heap.size w (w1.alloc (.cells #[] 5)) := B1.out.alloc B1.out.size _
      obtain ⟨v3, w3, o3, r3, own3, t3, f3⟩ := run_append_src (w1.alloc (.cells #[] 5)) _ _ [] cd (Own.built w1) A1 L c1 hL (s1.kept (Turn.of_below (S := fun _ => False) b2') (fun _ _ h => h)) (by simp; omega)
      rw [List.nil_append] at own3
      have b3 : Below w.heap.size w w3 := below_own b2 (fun b hb => by injection hb with hb; have := B1.out.size; omega) t3
      have b3' : Below w1.heap.size w1 w3 := below_own b2' (fun b hb => by injection hb with hb; omega) t3
      have f3w : ∀ b, o3 = some b → w1.heap.size ≤ b := fun b hb => by
        rcases f3 with h | h
        · rw [h] at hb; injection hb with hb; omega
        · rw [h] at hb; injection hb with hb; simp at hb; omega
      have f3' : ∀ b, o3 = some b → w.heap.size ≤ b := fun b hb => Nat.le_trans B1.out.size (f3w b hb)
      obtain ⟨v4, w4, o4, r4, own4, t4, f4⟩ := run_append_src w3 v3 o3 cd tl own3 A' tl.length c' rfl (hs2 H'.out b3) (by omega)
      have b4 : Below w.heap.size w w4 := below_own b3 f3' t4
      have b4' : Below w1.heap.size w1 w4 := below_own b3' f3w t4
      have hlen : (cd ++ tl).length = L + tl.length := by rw [List.length_append, hL]
      obtain ⟨A4, c4, hv4, hc4, s4, g4⟩ := own4.block
      subst hv4
      have S14 := Lib.hid (s1.kept (Turn.of_below (S := fun _ => False) b4') (fun _ _ h => h))
      have C2 := Lib.hid (HCT.out w4 A4 (cd ++ tl) _ c4 rfl hc4 (by omega) s4)
      rw [TW.out, hL] at C2
      unfold TakeGot at C2
      simp only at C2
      obtain ⟨j, hj⟩ : ∃ j, cut % L = j := ⟨_, rfl⟩
      have hjL : j < L := by rw [← hj]; exact Nat.mod_lt _ (by omega)
      have hrem : ((cut : Int)).tmod (L : Int) = (j : Int) := by rw [← hj, Int.tmod_eq_emod_of_nonneg (by omega)]; rfl
      have TPj := Lib.hid (TP.out j (by omega))
      have R3 := Lib.hid r3
      have R4 := Lib.hid r4
      have B4 := Lib.hid b4
      have HT : totalF (ps.take k) = totalF ps := by rw [List.take_of_length_le (by rw [HN.out]; omega)]
      have e7 : decide ((T : Int) ≤ 4096) = true := decide_eq_true (by omega)
      clear own1 f1 b1 s1 b2 b2' hs2 own3 t3 f3 f3' f3w b3 b3' own4 t4 f4 b4 b4' g4 s4 r3 r4 TW TP hj HT
      rw [hlen] at C2 hc4 R4
      go_wp2_with (first
        | (at_builtin; refine append_by rfl (.tmp 55) (.tmp 56) 22 rfl _ _ v3 w3 rfl rfl R3.out ?_)
        | (at_builtin; refine append_by rfl (.tmp 57) (.tmp 58) 22 rfl _ _ _ w4 rfl rfl R4.out ?_))
      refine C2.out.mono ?_
      rintro e w5 ⟨v5, o5, rfl, own5, f5, b5⟩
      obtain ⟨A5, c5, hv5, _, s5, g5⟩ := own5.block
      rw [hF] at hv5
      subst hv5
      have B5 := Lib.hid (B4.out.trans (b5.mono B4.out.size))
      have S15 := S14.out.kept (Turn.of_below (S := fun _ => False) b5) (fun _ _ h => h)
      have S5 := Lib.hid s5
      obtain ⟨A6, hsl, hsrc⟩ := front8 A1 L c1 j (by omega)
      have C3 := Lib.hid (HCT.out w5 A6 (cd.take j) j c1 (by rw [List.length_take]; omega) (by omega) (by omega) (hsrc w5 _ cd hL (by omega) S15))
      rw [TPj.out] at C3
      unfold TakeGot at C3
      simp only at C3
      have i1 : ¬ (L : Int) = 0 := by omega
      clear own5 f5 b5 s5 g5 S14 S15 hsrc C2 R3 R4
      go_wp2_with fail
      refine C3.out.mono ?_
      rintro e w6 ⟨v6, o6, rfl, own6, _, b6⟩
      obtain ⟨A6', c6, hv6, _, _, _⟩ := own6.block
      simp only [List.length_nil] at hv6
      subst hv6
      have B6 := Lib.hid (B5.out.trans (b6.mono B5.out.size))
      have S6 := Lib.hid (S5.out.kept (Turn.of_below (S := fun _ => False) b6) (fun _ _ h => h))
      clear own6 b6 C3 S5
      go_wp2_with fail
      refine (CW.out _ B6.out).mono ?_
      rintro e w7 ⟨rfl, b7⟩
      have B7 := Lib.hid (B6.out.trans (b7.mono B6.out.size))
      have S7 := Lib.hid (S6.out.kept (Turn.of_below (S := fun _ => False) b7) (fun _ _ h => h))
      clear b7 S6
      go_wp2_with fail
      refine (CJ.out _ B7.out).mono ?_
      rintro e w8 ⟨A8, c8, rfl, s8, b8⟩
      have B8 := Lib.hid (B7.out.trans (b8.mono B7.out.size))
      have CE := Lib.hid (bequal_any w8 A5 A8 fl fl F c5 F c8 hF hF (S7.out.kept (Turn.of_below (S := fun _ => False) b8) (fun _ _ h => h)) s8)
      rw [show (fl == fl) = true by simp] at CE
      rw [hF]
      clear b8 s8 S7
      go_wp2_with fail
      refine CE.out.mono ?_
      rintro e w9 ⟨rfl, rfl⟩
      go_wp2_with fail
      go_ret
      exact ⟨rfl, B8.out⟩
theorem back8_law (HC : ChunkC) (w : World) (A : Option Addr) (ps : List (List UInt8)) (n c : Nat) (hn : ps.length = n) (hnc : n ≤ c) (hmax : n ≤ 5864062014805) (h : SrcL w A ps) (hs : ∀ x ∈ ps, x.length ≤ 140737488351232)
    (A' : Option Addr) (tl : List UInt8) (n' c' : Nat) (hn' : tl.length = n') (hmax' : n' ≤ 100000000) (h' : Src w (fun _ => True) A' tl) (cut : Nat) (hcut : cut ≤ 65535) (hz : ZeroTab w) :
    Calls Tryd.prog 5 #[.slice A n c, .slice A' n' c', .int .u16 (cut : Int)] w fun e w' => e = .returned (.bool true) ∧ Below w.heap.size w w' := by
  by_cases hb : 4096 < totalF ps
  · exact back8_big HC w A ps n c hn hmax h hs A' tl n' c' hn' hmax' h' cut hz hb
  · exact back8_small HC w A ps n c hn hnc hmax h hs A' tl n' c' hn' hmax' h' cut hcut hz (by omega)
end Go.Proofs.YtilgljnmdfejmaaDoor
