/-
  The law ChunkBack: the walk where the parts are too long in all.
  Conditions: what the arguments read as; the landed code's contracts.
-/
import Derived.Test.YtilgljnmdfejmaaDoorCG
import Derived.Test.YtilgljnmdfejmaaDoorCJ
namespace Go.Proofs.YtilgljnmdfejmaaDoor
open Go.RowKit

set_option maxHeartbeats 16000000 in
set_option maxRecDepth 100000 in
theorem back8_big (HC : ChunkC) (w : World) (A : Option Addr) (ps : List (List UInt8)) (n c : Nat) (hn : ps.length = n) (hmax : n ≤ 5864062014805) (h : SrcL w A ps) (hs : ∀ x ∈ ps, x.length ≤ 140737488351232)
    (A' : Option Addr) (tl : List UInt8) (n' c' : Nat) (hn' : tl.length = n') (hmax' : n' ≤ 100000000) (h' : Src w (fun _ => True) A' tl) (cut : Nat) (hz : ZeroTab w) (hbig : 4096 < totalF ps) :
    Calls Tryd.prog 5 #[.slice A n c, .slice A' n' c', .int .u16 (cut : Int)] w fun e w' => e = .returned (.bool true) ∧ Below w.heap.size w w' := by
  subst hn'
  have C1 := Lib.hid (HC.put w A ps n c hn hmax h hs hz)
  have CW := Lib.hid (fun (X : World) (hX : Below w.heap.size w X) => awake8_any HC X (hz.below hX))
  have HTK := Lib.hid HC.take
  have HN := Lib.hid hn
  have H := Lib.hid h
  have H' := Lib.hid h'
  have HS := Lib.hid hs
  unfold PutGot8 at C1
  clear hn h hs h' hz HC
  have HR := Lib.hid (show putC ps = ([], 21) from if_pos hbig)
  rw [HR.out] at C1
  simp only at C1
  go_enter Tryd.func5, Tryd.ntmps5
  go_wp2_with fail
  refine C1.out.mono ?_
  rintro e w1 ⟨v1, o1, rfl, own1, f1, b1⟩
  obtain ⟨A1, c1, hv1, hc1, s1, _⟩ := own1.block
  subst hv1
  have B1 := Lib.hid b1
  clear own1 f1 b1 s1 hc1
  go_wp2_with fail
  go_loop [9, 25, 11] (fun vt vi v11 => ∃ k T : Nat, vi = .int .i64 (k : Int) ∧ vt = .int .i64 (T : Int) ∧ k ≤ n ∧ T ≤ 4097 ∧ Hid (min (totalF (ps.take k)) 4097 = T)) (fun _ vi _ => n - (intOf vi).toNat)
  case atStart => exact ⟨0, 0, rfl, rfl, Nat.zero_le _, by omega, Lib.hid rfl⟩
  case round =>
    obtain ⟨k, T, rfl, rfl, hk, hT, HK⟩ := hrel
    by_cases hlt : k < n
    · obtain ⟨p, x, Ax, cx, hx, hat, y0, _, _, _⟩ := H.out.at (c := c) HN.out hlt B1.out
      have hxl := HS.out x (List.mem_of_getElem? hx)
      obtain ⟨T2, hT2⟩ : ∃ T2, T2 = min (T + x.length) 4097 := ⟨_, rfl⟩
      have hmin : min ((T : Int) + (x.length : Int)) 4097 = (T2 : Int) := by omega
      have HK2 := Lib.hid (show min (totalF (ps.take (k + 1))) 4097 = T2 by
        have := HK.out
        rw [take_snoc ps k x hx, totalF_snoc]
        omega)
      have hT2b : T2 ≤ 4097 := by omega
      clear hx hT2
      go_wp2_with fail
      exact ⟨⟨k + 1, T2, by go_num, rfl, hlt, hT2b, HK2⟩, by simp [intOf]; omega⟩
    · have hT3 : T = 4097 := by
        have := HK.out
        rw [List.take_of_length_le (by rw [HN.out]; omega)] at this
        omega
      subst hT3
      go_wp2_with fail
      refine (CW.out _ B1.out).mono ?_
      rintro e w2 ⟨rfl, b2⟩
      have B2 := Lib.hid (B1.out.trans (b2.mono B1.out.size))
      clear b2
      go_wp2_with fail
      go_ret
      exact ⟨rfl, B2.out⟩
end Go.Proofs.YtilgljnmdfejmaaDoor
