/-
  The law ChunkTakes: walk.
  Conditions: what the argument reads as; the landed code's contracts.
-/
import Derived.Test.YtilgljnmdfejmaaDoorCG
namespace Go.Proofs.YtilgljnmdfejmaaDoor
open Go.RowKit

set_option maxHeartbeats 16000000 in
set_option maxRecDepth 100000 in
theorem takes_law (HC : ChunkC) (w : World) (A : Option Addr) (bs : List UInt8) (n c : Nat) (hn : bs.length = n) (hnc : n ≤ c) (hmax : n ≤ 140737488351232) (h : Src w (fun _ => True) A bs) (hz : ZeroTab w) :
    Calls Tryd.prog 3 #[.slice A n c] w fun e w' => e = .returned (.bool true) ∧ Below w.heap.size w w' := by
  subst hn
  have b0 : Below w.heap.size w (w.alloc (.cells #[] 5)) := (Below.refl _ _).alloc (Nat.le_refl _) _
  obtain ⟨v1, w1, o1, hrun, own1, t1, f1⟩ := run_append_src (w.alloc (.cells #[] 5)) _ _ [] bs (Own.built w) A bs.length c rfl (h.kept (Turn.of_below (S := fun _ => False) b0) (fun _ _ h => h)) (by simp; omega)
  rw [List.nil_append] at own1
  have b1 : Below w.heap.size w w1 := below_own b0 (fun b hb => by injection hb with hb; omega) t1
  obtain ⟨A1, c1, hv1, hc1, s1, g1⟩ := own1.block
  subst hv1
  have HO1 := Lib.hid (show ∀ k, o1 = some k → k < w1.heap.size from own1.lt)
  have R1 := Lib.hid hrun
  have B1 := Lib.hid b1
  have S1 := Lib.hid s1
  have OW1 := Lib.hid own1
  have H := Lib.hid h
  have HZ := Lib.hid hz
  have C1 := Lib.hid (HC.take w1 A1 bs bs.length c1 rfl hc1 hmax s1)
  have C2 := Lib.hid (fun (X : World) (hX : Below w.heap.size w X) => rtake_any X A bs bs.length c rfl hnc hmax (h.kept (Turn.of_below (S := fun _ => False) hX) (fun _ _ h => h)))
  have CW := Lib.hid (fun (X : World) (hX : Below w.heap.size w X) => awake8_any HC X (hz.below hX))
  unfold TakeGot at C1 C2
  have hrb := takeF_small bs
  generalize hT : takeF bs = R at *
  obtain ⟨rb, ru, re⟩ := R
  simp only at C1 C2 hrb
  clear b0 hrun own1 t1 f1 b1 s1 g1 h hz hT
  go_enter Tryd.func3, Tryd.ntmps3
  go_wp2_with (at_builtin; refine append_by rfl (.tmp 12) (.tmp 13) 22 rfl _ _ _ w1 rfl rfl R1.out ?_)
  refine C1.out.mono ?_
  rintro e w2 ⟨v2, o2, rfl, own2, f2, b2⟩
  obtain ⟨A2, c2, hv2, _, s2, g2⟩ := own2.block
  subst hv2
  have B2 := Lib.hid (B1.out.trans (b2.mono B1.out.size))
  have F2 := Lib.hid f2
  have S1b := Lib.hid (S1.out.kept (Turn.of_below (S := fun _ => False) b2) (fun _ _ h => h))
  have HW12 := Lib.hid b2.size
  have S2 := Lib.hid s2
  have G2 := Lib.hid g2
  have O2 := Lib.hid own2
  have OW1b := Lib.hid (OW1.out.kept (Turn.of_below (S := fun _ => False) b2) (fun _ _ h => h))
  clear own2 f2 b2 s2 g2
  go_wp2_with fail
  refine (C2.out _ B2.out).mono ?_
  rintro e w3 ⟨v3, o3, rfl, own3, f3, b3⟩
  obtain ⟨A3, c3, hv3, _, s3, g3⟩ := own3.block
  subst hv3
  have B3 := Lib.hid (B2.out.trans (b3.mono B2.out.size))
  have S2c := Lib.hid (S2.out.kept (Turn.of_below (S := fun _ => False) b3) (fun _ _ h => h))
  have S3 := Lib.hid s3
  have OW1c := Lib.hid (OW1b.out.kept (Turn.of_below (S := fun _ => False) b3) (fun _ _ h => h))
  have HW23 := Lib.hid b3.size
  have G2c := Lib.hid (show 0 < rb.length → ∃ g, A2 = some ⟨g, 0, none⟩ ∧ o2 = some g ∧ BytesAt w3 g rb.length from fun h0 => by
    obtain ⟨g, h1, h2, h3⟩ := G2.out h0
    exact ⟨g, h1, h2, h3.kept (Turn.of_below (S := fun _ => False) b3) (fun h => h)⟩)
  clear own3 f3 b3 s3 g3
  have e1 : ((re : Int) == (re : Int)) = true := by simp
  have e2 : ((ru : Int) == (ru : Int)) = true := by simp
  have CE := Lib.hid (bequal_any w3 A2 A3 rb rb rb.length c2 rb.length c3 rfl rfl S2c.out S3.out)
  rw [show (rb == rb) = true by simp] at CE
  go_wp2_with fail
  refine CE.out.mono ?_
  rintro e w4 ⟨rfl, rfl⟩
  go_wp2_with fail
  go_loopw [42, 11] (fun vi v1 wr => ∃ k : Nat, vi = .int .i64 (k : Int) ∧ k ≤ rb.length ∧ Hid (Turn (fun b => o2 = some b) w3 wr) ∧ Hid (0 < rb.length → ∃ g, A2 = some ⟨g, 0, none⟩ ∧ o2 = some g ∧ BytesAt wr g rb.length)) (fun vi _ _ => rb.length - (intOf vi).toNat)
  case atStart => exact ⟨0, rfl, Nat.zero_le _, Lib.hid (Turn.refl _ _), G2c⟩
  case round =>
    obtain ⟨k, rfl, hk, HT, HG⟩ := hrel
    by_cases hlt : k < rb.length
    · obtain ⟨g, hA2, ho2, hby⟩ := HG.out (by omega)
      subst hA2
      obtain ⟨d, y0, yf⟩ := hby.cell k hlt
      obtain ⟨d', hx⟩ := xor_byte d
      have hat := run_at 22 5 Tryd.underlying22 (by kernel_rfl) ⟨g, 0, none⟩ rb.length c2 k hlt
      rw [add_at, Nat.zero_add] at hat
      have HT2 := Lib.hid (HT.out.setCell (p := ⟨g, k, none⟩) (fun _ => ho2) (.int .u8 (d'.toNat : Int)))
      have HG2 := Lib.hid (show 0 < rb.length → ∃ g', (some ⟨g, 0, none⟩ : Option Addr) = some ⟨g', 0, none⟩ ∧ o2 = some g' ∧ BytesAt (wr.setCell ⟨g, k, none⟩ (.int .u8 (d'.toNat : Int))) g' rb.length from fun _ => ⟨g, rfl, ho2, hby.set k d'⟩)
      clear hby
      go_wp2_with fail
      go_roundw
      case rel => exact ⟨k + 1, by go_num, hlt, HT2, HG2⟩
      case measure => simp [intOf]; omega
    · have hBr := below_own B3.out (fun b hb => Nat.le_trans B1.out.size (F2.out b hb)) HT.out
      have OWr := OW1c.out.kept HT.out (fun k' h1 h2 => by
        have := HO1.out k' h1
        have := F2.out k' h2
        omega)
      have BR := Lib.hid hBr
      have OR := Lib.hid OWr
      clear hBr OWr
      go_wp2_with fail
      refine (CW.out _ BR.out).mono ?_
      rintro e w5 ⟨rfl, b5⟩
      have B5 := Lib.hid (BR.out.trans (b5.mono BR.out.size))
      obtain ⟨A9, c9, hv9, s9⟩ := (OR.out.kept (Turn.of_below (S := fun _ => False) b5) (fun _ _ h => h)).src (fun _ => True) (fun _ _ => trivial)
      injection hv9 with hA9 _ hc9
      subst hA9
      have CE2 := Lib.hid (bequal_any w5 A1 A bs bs bs.length c1 bs.length c rfl rfl s9 (H.out.kept (Turn.of_below (S := fun _ => False) B5.out) (fun _ _ h => h)))
      rw [show (bs == bs) = true by simp] at CE2
      clear b5 s9 hc9
      go_wp2_with fail
      refine CE2.out.mono ?_
      rintro e w6 ⟨rfl, rfl⟩
      go_wp2_with fail
      go_ret
      exact ⟨rfl, B5.out⟩
end Go.Proofs.YtilgljnmdfejmaaDoor
