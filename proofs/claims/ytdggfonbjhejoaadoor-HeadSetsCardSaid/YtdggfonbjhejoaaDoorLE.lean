/-
  The law HeadSets: walk.
  Conditions: what the arguments read as.
-/
import Derived.Test.YtdggfonbjhejoaaDoorLA
namespace Go.Proofs.YtdggfonbjhejoaaDoor
open Go.RowKit

theorem goneF_one (nm : List UInt8) (f : Fld) : goneF [nm] f = sameN nm f := by simp [goneF, sameN]
theorem sameN_low (nm : List UInt8) (f : Fld) : sameN (lowF nm) f = sameN nm f := by unfold sameN; rw [lowF_twice]
theorem drop_low (ls : List Fld) (nm : List UInt8) : dropF ls [lowF nm] = dropF ls [nm] := by
  unfold dropF
  congr 1
  funext f
  rw [goneF_one, goneF_one, sameN_low]
theorem drop_nil (ls : List Fld) : dropF ls [] = ls := by
  unfold dropF
  exact List.filter_eq_self.2 (fun f _ => rfl)
theorem get_drop (ls : List Fld) (nm : List UInt8) : getF (dropF ls [nm]) nm = [] := by
  unfold getF dropF
  rw [List.filter_filter, List.filter_eq_nil_iff.2, List.map_nil]
  intro f _
  rw [goneF_one]
  cases sameN nm f <;> simp
theorem get_with (ls : List Fld) (nm v : List UInt8) : getF (withF ls nm v) (lowF nm) = [v] := by
  have h : ∀ (l : List Fld), getF l (lowF nm) = getF l nm := fun l => by
    unfold getF
    congr 2
    funext f
    exact sameN_low nm f
  rw [h]
  unfold withF
  rw [getF_snoc, get_drop, if_pos (by simp [sameN])]
  rfl
theorem drop_with (ls : List Fld) (nm v : List UInt8) : dropF (withF ls nm v) [nm] = dropF ls [nm] := by
  unfold withF
  rw [dropF_snoc, if_pos (by simp [goneF]), List.append_nil]
  unfold dropF
  rw [List.filter_filter]
  congr 1
  funext f
  cases goneF [nm] f <;> rfl
theorem slim_drop {ls : List Fld} (h : Slim ls) (names : List (List UInt8)) : Slim (dropF ls names) := fun f hf => h f ((List.mem_filter.1 hf).1)
theorem slim_with {ls : List Fld} (h : Slim ls) {nm v : List UInt8} (hnm : nm.length ≤ 140737488351232) (hv : v.length ≤ 140737488351232) : Slim (withF ls nm v) := fun f hf => by
  unfold withF at hf
  rcases List.mem_append.1 hf with h1 | h1
  · exact slim_drop h _ f h1
  · simp only [List.mem_singleton] at h1
    subst h1
    exact ⟨hnm, hv⟩
theorem low_len (nm : List UInt8) : (lowF nm).length = nm.length := lowF_length nm

set_option maxHeartbeats 16000000 in
set_option maxRecDepth 100000 in
theorem sets_law {P : Nat → Prop} (HC : HeadC) (w : World) (A : Option Addr) (ls : List Fld) (n c : Nat) (hn : ls.length = n) (hmax : n * 32 ≤ 140737488351232) (h : SrcF w P A ls) (hs : Slim ls) (nm v : List UInt8) (hnm : nm.length ≤ 140737488351232) (hv : v.length ≤ 140737488351232) :
    Calls Tryd.prog 7 #[.slice A n c, .string ⟨nm.toArray⟩, .string ⟨v.toArray⟩] w fun e w' => e = .returned (.bool true) ∧ Below w.heap.size w w' := by
  obtain ⟨lo, hlo⟩ : ∃ lo, lowF nm = lo := ⟨_, rfl⟩
  have hlol : lo.length ≤ 140737488351232 := by rw [← hlo, low_len]; exact hnm
  have CW := HC.with_ w A ls n c hn hmax h hs nm v hnm hv
  obtain ⟨wl, hwl⟩ : ∃ wl, withF ls nm v = wl := ⟨_, rfl⟩
  obtain ⟨dl, hdl⟩ : ∃ dl, dropF ls [nm] = dl := ⟨_, rfl⟩
  have g1 := get_with ls nm v
  have g2 := drop_with ls nm v
  have g3 := get_drop ls nm
  have g4 := drop_low ls nm
  have sw := slim_with hs (nm := nm) hnm hv
  have sd := slim_drop hs [nm]
  have hwn : wl.length = dl.length + 1 := by rw [← hwl, ← hdl]; simp [withF]
  have hdn : dl.length ≤ n := by rw [← hdl, ← hn]; exact dropF_length ls [nm]
  rw [hwl, hlo] at g1
  rw [hwl, hdl] at g2
  rw [hdl] at g3
  rw [hlo, hdl] at g4
  rw [hwl] at CW sw
  rw [hdl] at sd
  obtain ⟨dn, hdnn⟩ : ∃ dn, dl.length = dn := ⟨_, rfl⟩
  rw [hdnn] at hwn hdn
  have HWN := Lib.hid hwn
  have HDN := Lib.hid hdnn
  have G1 := Lib.hid g1
  have G2 := Lib.hid g2
  have G3 := Lib.hid g3
  have G4 := Lib.hid g4
  have SW := Lib.hid sw
  have SD := Lib.hid sd
  have HN := Lib.hid hn
  have L := Lib.hid h
  have HS := Lib.hid hs
  have HNM := Lib.hid hnm
  have HLL := Lib.hid hlol
  have CW' := Lib.hid CW
  have KL := Lib.hid (fun X : World => ty_lower ⟨nm.toArray⟩ X)
  unfold Text at KL
  rw [bl_mk, hlo] at KL
  clear CW hwl hdl g1 g2 g3 g4 sw sd hwn hdnn hn h hs hnm hlol hlo hv
  go_enter Tryd.func7, Tryd.ntmps7
  go_wp2_with fail
  refine CW'.out.mono ?_
  rintro e w1 ⟨v1, o1, rfl, own1, _, b1⟩
  obtain ⟨A1, c1, hv1, src1⟩ := own1.src (fun _ => True) (fun _ _ => trivial)
  rw [HWN.out] at hv1
  subst hv1
  have W1 := Lib.hid src1
  have X1 := Lib.hid b1
  clear own1 src1 b1 CW'
  go_wp2_with fail
  refine (KL.out _).mono ?_
  rintro e w2 ⟨rfl, b2⟩
  have W2 := Lib.hid (W1.out.below b2)
  have X2 := Lib.hid (X1.out.trans (b2.mono X1.out.size))
  clear b2 W1 X1
  go_wp2_with fail
  have CG := HC.get w2 A1 wl (dn + 1) c1 HWN.out (by omega) W2.out SW.out ⟨lo.toArray⟩ (by rw [← bl_length, bl_mk]; exact HLL.out)
  rw [bl_mk, G1.out] at CG
  refine CG.mono ?_
  rintro e w3 ⟨v3, o3, rfl, own3, _, b3⟩
  obtain ⟨A3, c3, hv3, src3⟩ := own3.src (fun _ => True) (fun _ _ => trivial)
  simp only [List.length_cons, List.length_nil] at hv3
  subst hv3
  have V3 := Lib.hid src3
  have W3 := Lib.hid (W2.out.below b3)
  have X3 := Lib.hid (X2.out.trans (b3.mono X2.out.size))
  clear own3 src3 b3 CG W2 X2
  go_wp2_with fail
  have hb3 : Below w3.heap.size w3 (w3.alloc (.cells #[.string ⟨nm.toArray⟩] 9)) := (Below.refl _ _).alloc (Nat.le_refl _) _
  have CD := HC.drop _ A1 (some ⟨w3.heap.size, 0, none⟩) wl [nm] (dn + 1) c1 1 1 HWN.out rfl (by omega) (by omega) (W3.out.below hb3) (srcs_one w3 nm) SW.out (fun x hx => by
    simp only [List.mem_singleton] at hx
    rw [hx]
    exact HNM.out)
  rw [G2.out] at CD
  refine CD.mono ?_
  rintro e w4 ⟨v4, o4, rfl, own4, _, b4⟩
  obtain ⟨A4, c4, hv4, src4⟩ := own4.src (fun _ => True) (fun _ _ => trivial)
  rw [HDN.out] at hv4
  subst hv4
  have D4 := Lib.hid src4
  have b34 := hb3.trans (b4.mono hb3.size)
  have V4 := Lib.hid (V3.out.below b34)
  have X4 := Lib.hid (X3.out.trans (b34.mono X3.out.size))
  clear own4 src4 b4 hb3 b34 CD V3 W3 X3
  obtain ⟨pv, xv, hxv, hatv, yv, _, _⟩ := V4.out.at (c := c3) (k := 0) rfl (by simp) (Below.refl _ _)
  obtain rfl : xv = v := (Option.some.inj hxv).symm
  have hatv2 : ∀ Wx, (Instr.indexAt 32 (.slice A3 1 c3) (.int .i64 0)).run Tryd.prog Wx = .ok (.pointer (some pv)) Wx := hatv
  obtain ⟨Vs, hVs⟩ : ∃ Vs : ByteArray, Vs = ⟨xv.toArray⟩ := ⟨_, rfl⟩
  rw [← hVs] at yv
  simp only [← hVs]
  clear hxv hatv hVs
  go_wp2_with fail
  have CG := HC.get w4 A4 dl dn c4 HDN.out (by omega) D4.out SD.out ⟨nm.toArray⟩ (by rw [← bl_length, bl_mk]; exact HNM.out)
  rw [bl_mk, G3.out] at CG
  refine CG.mono ?_
  rintro e w5 ⟨v5, o5, rfl, own5, _, b5⟩
  obtain ⟨A5, c5, hv5, _⟩ := own5.src (fun _ => True) (fun _ _ => trivial)
  simp only [List.length_nil] at hv5
  subst hv5
  have D5 := Lib.hid (D4.out.below b5)
  have X5 := Lib.hid (X4.out.trans (b5.mono X4.out.size))
  clear own5 b5 CG D4 X4 V4 yv hatv2
  go_wp2_with fail
  refine (KL.out _).mono ?_
  rintro e w6 ⟨rfl, b6⟩
  have D6 := Lib.hid (D5.out.below b6)
  have X6 := Lib.hid (X5.out.trans (b6.mono X5.out.size))
  clear b6 D5 X5
  go_wp2_with fail
  have hb6 : Below w6.heap.size w6 (w6.alloc (.cells #[.string ⟨lo.toArray⟩] 9)) := (Below.refl _ _).alloc (Nat.le_refl _) _
  have X6' := X6.out.trans (hb6.mono X6.out.size)
  have CD := HC.drop _ A (some ⟨w6.heap.size, 0, none⟩) ls [lo] n c 1 1 HN.out rfl (by omega) (by omega) (L.out.below X6') (srcs_one w6 lo) HS.out (fun x hx => by
    simp only [List.mem_singleton] at hx
    rw [hx]
    exact HLL.out)
  rw [G4.out] at CD
  refine CD.mono ?_
  rintro e w7 ⟨v7, o7, rfl, own7, _, b7⟩
  obtain ⟨A7, c7, hv7, src7⟩ := own7.src (fun _ => True) (fun _ _ => trivial)
  rw [HDN.out] at hv7
  subst hv7
  have b67 := hb6.trans (b7.mono hb6.size)
  have X7 := Lib.hid (X6.out.trans (b67.mono X6.out.size))
  have CS := rsame_any w7 A4 A7 dl dl dn dn c4 c7 HDN.out HDN.out (by omega) (D6.out.below b67) src7
  rw [show (dl == dl) = true by simp] at CS
  have CS' := Lib.hid CS
  clear own7 src7 b7 b67 hb6 X6' CD X6 D6 CS
  go_wp2_with fail
  refine CS'.out.mono ?_
  rintro e w8 ⟨rfl, b8⟩
  have X8 := Lib.hid (X7.out.trans (b8.mono X7.out.size))
  clear b8 CS' X7
  go_wp2_with fail
  have CD := HC.drop w8 A none ls [] n c 0 0 HN.out rfl (by omega) (by omega) (L.out.below X8.out) (P' := fun _ => True) (fun h => absurd h (by simp)) HS.out (fun x hx => by cases hx)
  rw [drop_nil] at CD
  refine CD.mono ?_
  rintro e w9 ⟨v9, o9, rfl, own9, _, b9⟩
  obtain ⟨A9, c9, hv9, src9⟩ := own9.src (fun _ => True) (fun _ _ => trivial)
  rw [HN.out] at hv9
  subst hv9
  have X9 := Lib.hid (X8.out.trans (b9.mono X8.out.size))
  have CS := rsame_any w9 A9 A ls ls n n c9 c HN.out HN.out (by omega) src9 (L.out.below X9.out)
  rw [show (ls == ls) = true by simp] at CS
  have CS' := Lib.hid CS
  clear own9 src9 b9 CD X8 CS
  go_wp2_with fail
  refine CS'.out.mono ?_
  rintro e w10 ⟨rfl, b10⟩
  have X10 := Lib.hid (X9.out.trans (b10.mono X9.out.size))
  clear b10 CS' X9
  go_wp2_with fail
  refine (wakes_head HC w10).mono ?_
  rintro e w11 ⟨rfl, b11⟩
  have X11 := Lib.hid (X10.out.trans (b11.mono X10.out.size))
  clear b11
  go_wp2_with fail
  go_ret
  exact ⟨rfl, X11.out⟩
end Go.Proofs.YtdggfonbjhejoaaDoor
