/-
  The law FrameTells: walk.
  Conditions: what the arguments read as.
-/
import Derived.Test.YtcpohdejdiljnaaDoorFW
namespace Go.Proofs.YtcpohdejdiljnaaDoor
open Go.RowKit

set_option maxHeartbeats 8000000 in
set_option maxRecDepth 100000 in
theorem tells_law {P : Nat → Prop} (st : Int) (m : ByteArray) (mi : Int) (w : World) (A : Option Addr) (ls : List Fld) (n c : Nat) (hn : ls.length = n) (h : SrcF w P A ls) (hb : bulkF ls ≤ 100000000) :
    Calls Tryd.prog 3 #[.agg #[.int .i64 st, .string m, .int .i64 mi, .slice A n c]] w fun e w' => e = .returned (.bool true) ∧ Below w.heap.size w w' := by
  subst hn
  have hm := Meek.small (ls := ls) (by omega)
  have hlen := bulkF_len ls
  have hmax : ls.length ≤ 100000000 := by omega
  have bx0 := BoxAt.made w 24 st m mi (.slice A ls.length c)
  have b0 := ((Below.refl w.heap.size w).alloc (Nat.le_refl _) (.cells #[.int .i64 st, .string m, .int .i64 mi, .slice A ls.length c] 24))
  obtain ⟨w0, hw0⟩ : ∃ w0, w0 = w.alloc (.cells #[.int .i64 st, .string m, .int .i64 mi, .slice A ls.length c] 24) := ⟨_, rfl⟩
  have hz0 : w0.heap.size = w.heap.size + 1 := by rw [hw0]; simp
  rw [← hw0] at bx0 b0
  have b1 := b0.alloc b0.size (.cells #[] 34)
  have c1 : Below w0.heap.size w0 (w0.alloc (.cells #[] 34)) := (Below.refl _ _).alloc (Nat.le_refl _) _
  have bx1 := bx0.below c1
  have own1 := OwnF.built w0
  obtain ⟨v', w2, o', hrun, own', t', ho'⟩ := run_append_srcF (w0.alloc (.cells #[] 34)) _ _ [] ls own1 A ls.length c rfl ((h.below b0).below c1) (by simp; omega)
  rw [List.nil_append] at own'
  have bx2 := bx1.turn t' (by intro h; injection h with h; omega)
  have b2 := Turn.none_below b1 (by intro k h; injection h with h; omega) t'
  have h2 := h.below b2
  obtain ⟨A', c', hv', src'⟩ := own'.src (fun _ => True) (fun _ _ => trivial)
  subst hv'
  rw [hz0, hw0] at hrun
  have HR := Lib.hid hrun
  have HA := Lib.hid src'
  have HS := Lib.hid h2
  have B2 := Lib.hid b2
  have BX := Lib.hid bx2
  obtain ⟨g, hg⟩ : ∃ g, g = w.heap.size := ⟨_, rfl⟩
  have HG := Lib.hid hg
  have C1 := Lib.hid (fun (X : World) (hX : Below w2.heap.size w2 X) => request_any mi X A' ls ls.length c' rfl (src'.below hX) hm.fit)
  have C2 := Lib.hid (fun (X : World) (hX : Below w2.heap.size w2 X) => rrequest_any mi X A ls ls.length c rfl (h2.below hX) hm)
  have C3 := Lib.hid (fun (X : World) (hX : Below w2.heap.size w2 X) => response_any st m mi X A' ls ls.length c' rfl (src'.below hX) hm.fit)
  have C4 := Lib.hid (fun (X : World) (hX : Below w2.heap.size w2 X) => rresponse_any st m mi X A ls ls.length c rfl (h2.below hX) hm)
  generalize reqK mi ls = p at *
  generalize resK st (bl m) p = q at *
  unfold Tells kdV at C1 C2 C3 C4
  have CW := Lib.hid (fun X : World => awake_any X)
  have Dw2 := Lib.hid (Below.refl w2.heap.size w2)
  obtain ⟨k0, k1, k2, k3⟩ := BX.out
  clear h hb hm hlen bx0 b0 b1 c1 bx1 own1 own' t' ho' bx2 b2 h2 hrun src' hw0 hz0 hg
  go_enter Tryd.func3, Tryd.ntmps3
  go_wp2_with (at_builtin; refine append_by rfl (.tmp 17) (.tmp 19) 22 rfl _ _ _ w2 rfl rfl HR.out ?_)
  refine (C1.out _ Dw2.out).mono ?_
  rintro e w3 ⟨rfl, bw3⟩
  have Dw3 := Lib.hid (Dw2.out.trans (bw3.mono Dw2.out.size))
  obtain ⟨k0, k1, k2, k3⟩ := BX.out.below Dw3.out
  clear bw3
  go_wp2_with fail
  refine (C2.out _ Dw3.out).mono ?_
  rintro e w4 ⟨rfl, bw4⟩
  have Dw4 := Lib.hid (Dw3.out.trans (bw4.mono Dw3.out.size))
  obtain ⟨k0, k1, k2, k3⟩ := BX.out.below Dw4.out
  clear bw4
  go_wp2_with fail
  refine (C3.out _ Dw4.out).mono ?_
  rintro e w5 ⟨rfl, bw5⟩
  have Dw5 := Lib.hid (Dw4.out.trans (bw5.mono Dw4.out.size))
  obtain ⟨k0, k1, k2, k3⟩ := BX.out.below Dw5.out
  clear bw5
  go_wp2_with fail
  refine (C4.out _ Dw5.out).mono ?_
  rintro e w6 ⟨rfl, bw6⟩
  have Dw6 := Lib.hid (Dw5.out.trans (bw6.mono Dw5.out.size))
  obtain ⟨k0, k1, k2, k3⟩ := BX.out.below Dw6.out
  clear bw6
  go_wp2_with fail
  go_loopw [65, 16] (fun vi v2 wr => ∃ k : Nat, vi = .int .i64 (k : Int) ∧ k ≤ ls.length ∧ Hid (Below w2.heap.size w2 wr)) (fun vi _ _ => ls.length - (intOf vi).toNat)
  case atStart => exact ⟨0, rfl, Nat.zero_le _, Dw6⟩
  case round =>
    obtain ⟨k, rfl, hk, HB⟩ := hrel
    obtain ⟨k0, k1, k2, k3⟩ := BX.out.below HB.out
    by_cases hlt : k < ls.length
    · obtain ⟨p1, f, hf, hat, y0, y1, _, _⟩ := HA.out.at (c := c') rfl hlt HB.out
      obtain ⟨p2, f', hf', hat', y0', y1', _, _⟩ := HS.out.at (c := c) rfl hlt HB.out
      obtain rfl : f = f' := by rw [hf] at hf'; exact Option.some.inj hf'
      have hg := fldGuard
      have hq := run_neq_fld ⟨f.1.toArray⟩ ⟨f.2.toArray⟩ ⟨f.1.toArray⟩ ⟨f.2.toArray⟩
      rw [show (!((⟨f.1.toArray⟩ : ByteArray).toList == (⟨f.1.toArray⟩ : ByteArray).toList && (⟨f.2.toArray⟩ : ByteArray).toList == (⟨f.2.toArray⟩ : ByteArray).toList)) = false by simp] at hq
      clear hf hf'
      go_wp2_with fail
      go_quiet (fail)
      go_wp2_with fail
      go_roundw
      case rel => exact ⟨k + 1, by go_num, hlt, Lib.hid (below_drewN HB.out _)⟩
      case measure => simp [intOf]; omega
    · go_wp2_with fail
      refine (CW.out _).mono ?_
      rintro e w7 ⟨rfl, b7⟩
      have B7 := Lib.hid ((B2.out.trans (HB.out.mono B2.out.size)).trans (b7.mono (Nat.le_trans B2.out.size HB.out.size)))
      clear b7
      have e1 : ((p.1 : Int) == (p.1 : Int)) = true := by simp
      have e2 : ((p.2.1 : Int) == (p.2.1 : Int)) = true := by simp
      have e3 : ((p.2.2 : Int) == (p.2.2 : Int)) = true := by simp
      have e4 : ((q.1 : Int) == (q.1 : Int)) = true := by simp
      have e5 : ((q.2.1 : Int) == (q.2.1 : Int)) = true := by simp
      have e6 : ((q.2.2 : Int) == (q.2.2 : Int)) = true := by simp
      go_wp2_with fail
      go_ret
      exact ⟨rfl, B7.out⟩
end Go.Proofs.YtcpohdejdiljnaaDoor
