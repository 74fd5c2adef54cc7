/-
  What the laws of layer 17 ask first: the document's examples.
  Conditions: Go's and the project's tables are as their texts lay them.
-/
import Derived.Test.YtdcbcjljmjnopaaGreatDoorJE
import Derived.Test.YtdcbcjljmjnopaaGreatDoorJF
namespace Go.Proofs.YtdcbcjljmjnopaaGreatDoor.Fre
open Go.RowKit Hop Con

def flatT (fs : List Fld) : List (List UInt8) := fs.flatMap fun f => [f.1, f.2]
theorem flat_length : ∀ fs : List Fld, (flatT fs).length = 2 * fs.length
  | [] => rfl
  | f :: r => by
    have := flat_length r
    show ((f.1 :: f.2 :: flatT r)).length = 2 * (r.length + 1)
    rw [List.length_cons, List.length_cons, this]
    omega
theorem flat_get : ∀ (fs : List Fld) (k : Nat), (flatT fs)[2 * k]? = fs[k]?.map (·.1) ∧ (flatT fs)[2 * k + 1]? = fs[k]?.map (·.2)
  | [], k => by simp [flatT]
  | f :: r, 0 => by simp [flatT]
  | f :: r, k + 1 => by
    have := flat_get r k
    have e : flatT (f :: r) = f.1 :: f.2 :: flatT r := rfl
    rw [e, show 2 * (k + 1) = 2 * k + 1 + 1 by omega]
    simp only [List.getElem?_cons_succ]
    exact this
theorem OwnF.reads {w : World} {A : Option Addr} {n c : Nat} {o : Option Nat} {ls : List Fld} (h : OwnF w (.slice A n c) o ls) : SrcF w (fun _ => True) A ls := by
  obtain ⟨A', c', he, hs⟩ := h.src (fun _ => True) (fun _ _ => trivial)
  injection he with h1 h2 h3
  rw [h1]
  exact hs

set_option maxHeartbeats 4000000 in
set_option maxRecDepth 100000 in
theorem laidF_any {P : Nat → Prop} (w : World) (A : Option Addr) (n c : Nat) (fs : List Fld) (hn : (flatT fs).length = n) (hm : fs.length ≤ 1000) (h : SrcS w P A (flatT fs)) :
    Calls Tryz.prog 17 #[.slice A n c] w fun e w' => ∃ v o, e = .returned v ∧ OwnF w' v o fs ∧ (∀ b, o = some b → w.heap.size ≤ b) ∧ Below w.heap.size w w' := by
  have hl := flat_length fs
  have HN := Lib.hid hn
  have H := Lib.hid h
  have HL := Lib.hid hl
  have hn2 : n ≤ 2000 := by omega
  obtain ⟨m, hmm⟩ : ∃ m, fs.length = m := ⟨_, rfl⟩
  have HM := Lib.hid hmm
  have HNM := Lib.hid (show n = 2 * m by omega)
  clear hn h hl hm hmm
  go_enter Tryz.func17, Tryz.ntmps17
  go_wp2_with fail
  go_loopw [3, 4] (fun v vi wr => ∃ (k i : Nat) (o : Option Nat), vi = .int .i64 (i : Int) ∧ i ≤ n ∧ Hid (i = 2 * k) ∧ Hid (OwnF wr v o (fs.take k)) ∧ Hid (∀ b, o = some b → w.heap.size ≤ b) ∧ Hid (Below w.heap.size w wr)) (fun _ vi _ => n - (intOf vi).toNat)
  case atStart => exact ⟨0, 0, none, rfl, Nat.zero_le _, Lib.hid rfl, Lib.hid (OwnF.nil _), Lib.hid (fun _ h => by cases h), Lib.hid (Below.refl _ _)⟩
  case round =>
    obtain ⟨k, i, o, rfl, hi, HI, HO, HOB, HB⟩ := hrel
    by_cases hlt : i + 1 < n
    · obtain ⟨f, hf⟩ : ∃ f, fs[k]? = some f := by
        have : k < fs.length := by have := HM.out; have := HNM.out; have := HI.out; omega
        exact ⟨fs[k], List.getElem?_eq_getElem this⟩
      obtain ⟨g1, g2⟩ := flat_get fs k
      rw [hf, ← HI.out] at g1 g2
      obtain ⟨p1, x1, hx1, hat1, y1, _, q1⟩ := H.out.at (c := c) (k := i) HN.out (by omega) HB.out
      obtain ⟨p2, x2, hx2, hat2, y2, _, q2⟩ := H.out.at (c := c) (k := i + 1) HN.out hlt HB.out
      obtain rfl : f.1 = x1 := by rw [g1] at hx1; exact Option.some.inj hx1
      obtain rfl : f.2 = x2 := by rw [g2] at hx2; exact Option.some.inj hx2
      rw [show ((i + 1 : Nat) : Int) = (i : Int) + 1 by omega] at hat2
      have hlen : (fs.take k).length ≤ 1000 := by rw [List.length_take, HM.out]; have := HNM.out; omega
      obtain ⟨v', w', o', hrun, own', t', ho'⟩ := run_push_fld wr.drew _ o (fs.take k) f (HO.out.kept (Turn.of_below (S := fun _ => False) (below_drewN (Below.refl wr.heap.size wr) 1)) (fun _ _ h => h)) (by omega)
      have BD : Below w.heap.size w wr.drew := below_drewN HB.out 1
      have TT := Lib.hid (own_turn BD HOB.out t' ho')
      have HK := Lib.hid (take_snoc fs k f hf)
      have HR := Lib.hid hrun
      have OO := Lib.hid own'
      have kr : wr.drew.cell? p1 = some (.string ⟨f.1.toArray⟩) ∧ wr.drew.cell? p2 = some (.string ⟨f.2.toArray⟩) := ⟨(below_drewN (Below.refl wr.heap.size wr) 1).cell (Lib.lt_of_cell y1) |>.trans y1, (below_drewN (Below.refl wr.heap.size wr) 1).cell (Lib.lt_of_cell y2) |>.trans y2⟩
      have kw : wr.cell? p1 = some (.string ⟨f.1.toArray⟩) ∧ wr.cell? p2 = some (.string ⟨f.2.toArray⟩) := ⟨y1, y2⟩
      have wi : IntKind.i64.wrap ((i : Int) + 1) = (i : Int) + 1 := wrap_i64 _ (by omega)
      have k9 : w'.cell? p1 = some (.string ⟨f.1.toArray⟩) ∧ w'.cell? p2 = some (.string ⟨f.2.toArray⟩) := ⟨(TT.out.1.cell q1).trans ((HB.out.cell q1).symm.trans y1), (TT.out.1.cell q2).trans ((HB.out.cell q2).symm.trans y2)⟩
      clear hrun own' t' ho' BD hf q1 q2 hx1 hx2 g1 g2 y1 y2 hlen
      generalize f.1 = a at *
      generalize f.2 = b at *
      go_wp2_with fail
      go_region_held3 (fun w' => w'.cell? p1 = some (.string ⟨a.toArray⟩) ∧ w'.cell? p2 = some (.string ⟨b.toArray⟩)) (first | (with_reducible exact kw) | (with_reducible exact kr) | (with_reducible exact k9) | go_keep)
        (first | (refine step_append_by rfl (.tmp 12) (.tmp 23) 23 rfl _ _ v' w' rfl rfl HR.out ?_))
      go_wp2_with fail
      go_roundw
      case rel => exact ⟨k + 1, i + 2, o', by go_num, by have := HNM.out; have := HI.out; omega, Lib.hid (by have := HI.out; omega), Lib.hid (by rw [HK.out]; exact OO.out), Lib.hid TT.out.2, Lib.hid TT.out.1⟩
      case measure => simp [intOf]; omega
    · have HQ := Lib.hid (show fs.take k = fs by rw [List.take_of_length_le (by rw [HM.out]; have := HNM.out; have := HI.out; omega)])
      go_wp2_with fail
      go_ret
      exact ⟨_, o, rfl, by have := HO.out; rwa [HQ.out] at this, HOB.out, HB.out⟩
end Go.Proofs.YtdcbcjljmjnopaaGreatDoor.Fre

namespace Go.Proofs.YtdcbcjljmjnopaaGreatDoor.Fre
open Go.RowKit Hop Con

set_option maxHeartbeats 16000000 in
set_option maxRecDepth 100000 in
theorem awake_any (w0 : World) (ht : DTabs w0) : Calls Tryz.prog 11 #[] w0 fun e w' => e = .returned (.bool true) ∧ Below w0.heap.size w0 w' := by
  have HT := Lib.hid ht
  clear ht
  go_enter Tryz.func11, Tryz.ntmps11
  have B0 : Hid (Below w0.heap.size w0 w0) := Lib.hid (Below.refl _ _)
  have bb := (Below.refl w0.heap.size w0).alloc (Nat.le_refl _) (.cells #[.string ⟨#[67, 97, 99, 104, 101, 45, 67, 111, 110, 116, 114, 111, 108]⟩, .string ⟨#[109, 97, 120, 45, 97, 103, 101, 61, 54, 48, 44, 32, 115, 45, 109, 97, 120, 97, 103, 101, 61, 53]⟩] 9)
  have s1 : SrcS (w0.alloc (.cells #[.string ⟨#[67, 97, 99, 104, 101, 45, 67, 111, 110, 116, 114, 111, 108]⟩, .string ⟨#[109, 97, 120, 45, 97, 103, 101, 61, 54, 48, 44, 32, 115, 45, 109, 97, 120, 97, 103, 101, 61, 53]⟩] 9)) (fun _ => True) (some ⟨w0.heap.size, 0, none⟩) (flatT [([67, 97, 99, 104, 101, 45, 67, 111, 110, 116, 114, 111, 108], [109, 97, 120, 45, 97, 103, 101, 61, 54, 48, 44, 32, 115, 45, 109, 97, 120, 97, 103, 101, 61, 53])]) := srcs_made w0 [[67, 97, 99, 104, 101, 45, 67, 111, 110, 116, 114, 111, 108], [109, 97, 120, 45, 97, 103, 101, 61, 54, 48, 44, 32, 115, 45, 109, 97, 120, 97, 103, 101, 61, 53]]
  have C := laidF_any (w0.alloc (.cells #[.string ⟨#[67, 97, 99, 104, 101, 45, 67, 111, 110, 116, 114, 111, 108]⟩, .string ⟨#[109, 97, 120, 45, 97, 103, 101, 61, 54, 48, 44, 32, 115, 45, 109, 97, 120, 97, 103, 101, 61, 53]⟩] 9)) (some ⟨w0.heap.size, 0, none⟩) 2 2 [([67, 97, 99, 104, 101, 45, 67, 111, 110, 116, 114, 111, 108], [109, 97, 120, 45, 97, 103, 101, 61, 54, 48, 44, 32, 115, 45, 109, 97, 120, 97, 103, 101, 61, 53])] rfl (by decide) s1
  go_wp2_with fail
  refine C.mono ?_
  rintro e w1 ⟨v, o, rfl, own, _, b⟩
  obtain ⟨Aa, ca, hv, src⟩ := own.src (fun _ => True) (fun _ _ => trivial)
  rw [show ([([67, 97, 99, 104, 101, 45, 67, 111, 110, 116, 114, 111, 108], [109, 97, 120, 45, 97, 103, 101, 61, 54, 48, 44, 32, 115, 45, 109, 97, 120, 97, 103, 101, 61, 53])] : List Fld).length = 1 from rfl] at hv
  subst hv
  have Sa := Lib.hid src
  clear own src C s1
  have b2 := bb.trans (b.mono bb.size)
  have B1 := Lib.hid (B0.out.trans (b2.mono B0.out.size))
  clear B0
  clear b bb b2
  have C := life_any w1 200 ⟨#[]⟩ 0 Aa 1 ca none 0 0 [([67, 97, 99, 104, 101, 45, 67, 111, 110, 116, 114, 111, 108], [109, 97, 120, 45, 97, 103, 101, 61, 54, 48, 44, 32, 115, 45, 109, 97, 120, 97, 103, 101, 61, 53])] rfl (by decide) Sa.out (HT.out.below B1.out)
  rw [show lifeF 200 [([67, 97, 99, 104, 101, 45, 67, 111, 110, 116, 114, 111, 108], [109, 97, 120, 45, 97, 103, 101, 61, 54, 48, 44, 32, 115, 45, 109, 97, 120, 97, 103, 101, 61, 53])] = (5, true) by decide +kernel] at C
  unfold LifeTold at C
  go_wp2_with fail
  clear Sa
  refine (C).mono ?_
  rintro e w2 ⟨rfl, b⟩
  clear C
  have B2 := Lib.hid (B1.out.trans (b.mono B1.out.size))
  clear B1
  clear b
  have bb := (Below.refl w2.heap.size w2).alloc (Nat.le_refl _) (.cells #[.string ⟨#[68, 97, 116, 101]⟩, .string ⟨#[83, 117, 110, 44, 32, 48, 54, 32, 78, 111, 118, 32, 49, 57, 57, 52, 32, 48, 56, 58, 52, 57, 58, 51, 55, 32, 71, 77, 84]⟩, .string ⟨#[69, 120, 112, 105, 114, 101, 115]⟩, .string ⟨#[83, 117, 110, 44, 32, 48, 54, 32, 78, 111, 118, 32, 49, 57, 57, 52, 32, 48, 56, 58, 52, 57, 58, 52, 55, 32, 71, 77, 84]⟩] 9)
  have s1 : SrcS (w2.alloc (.cells #[.string ⟨#[68, 97, 116, 101]⟩, .string ⟨#[83, 117, 110, 44, 32, 48, 54, 32, 78, 111, 118, 32, 49, 57, 57, 52, 32, 48, 56, 58, 52, 57, 58, 51, 55, 32, 71, 77, 84]⟩, .string ⟨#[69, 120, 112, 105, 114, 101, 115]⟩, .string ⟨#[83, 117, 110, 44, 32, 48, 54, 32, 78, 111, 118, 32, 49, 57, 57, 52, 32, 48, 56, 58, 52, 57, 58, 52, 55, 32, 71, 77, 84]⟩] 9)) (fun _ => True) (some ⟨w2.heap.size, 0, none⟩) (flatT [([68, 97, 116, 101], [83, 117, 110, 44, 32, 48, 54, 32, 78, 111, 118, 32, 49, 57, 57, 52, 32, 48, 56, 58, 52, 57, 58, 51, 55, 32, 71, 77, 84]), ([69, 120, 112, 105, 114, 101, 115], [83, 117, 110, 44, 32, 48, 54, 32, 78, 111, 118, 32, 49, 57, 57, 52, 32, 48, 56, 58, 52, 57, 58, 52, 55, 32, 71, 77, 84])]) := srcs_made w2 [[68, 97, 116, 101], [83, 117, 110, 44, 32, 48, 54, 32, 78, 111, 118, 32, 49, 57, 57, 52, 32, 48, 56, 58, 52, 57, 58, 51, 55, 32, 71, 77, 84], [69, 120, 112, 105, 114, 101, 115], [83, 117, 110, 44, 32, 48, 54, 32, 78, 111, 118, 32, 49, 57, 57, 52, 32, 48, 56, 58, 52, 57, 58, 52, 55, 32, 71, 77, 84]]
  have C := laidF_any (w2.alloc (.cells #[.string ⟨#[68, 97, 116, 101]⟩, .string ⟨#[83, 117, 110, 44, 32, 48, 54, 32, 78, 111, 118, 32, 49, 57, 57, 52, 32, 48, 56, 58, 52, 57, 58, 51, 55, 32, 71, 77, 84]⟩, .string ⟨#[69, 120, 112, 105, 114, 101, 115]⟩, .string ⟨#[83, 117, 110, 44, 32, 48, 54, 32, 78, 111, 118, 32, 49, 57, 57, 52, 32, 48, 56, 58, 52, 57, 58, 52, 55, 32, 71, 77, 84]⟩] 9)) (some ⟨w2.heap.size, 0, none⟩) 4 4 [([68, 97, 116, 101], [83, 117, 110, 44, 32, 48, 54, 32, 78, 111, 118, 32, 49, 57, 57, 52, 32, 48, 56, 58, 52, 57, 58, 51, 55, 32, 71, 77, 84]), ([69, 120, 112, 105, 114, 101, 115], [83, 117, 110, 44, 32, 48, 54, 32, 78, 111, 118, 32, 49, 57, 57, 52, 32, 48, 56, 58, 52, 57, 58, 52, 55, 32, 71, 77, 84])] rfl (by decide) s1
  go_wp2_with fail
  refine C.mono ?_
  rintro e w3 ⟨v, o, rfl, own, _, b⟩
  obtain ⟨Ab, cb, hv, src⟩ := own.src (fun _ => True) (fun _ _ => trivial)
  rw [show ([([68, 97, 116, 101], [83, 117, 110, 44, 32, 48, 54, 32, 78, 111, 118, 32, 49, 57, 57, 52, 32, 48, 56, 58, 52, 57, 58, 51, 55, 32, 71, 77, 84]), ([69, 120, 112, 105, 114, 101, 115], [83, 117, 110, 44, 32, 48, 54, 32, 78, 111, 118, 32, 49, 57, 57, 52, 32, 48, 56, 58, 52, 57, 58, 52, 55, 32, 71, 77, 84])] : List Fld).length = 2 from rfl] at hv
  subst hv
  have Sb := Lib.hid src
  clear own src C s1
  have b2 := bb.trans (b.mono bb.size)
  have B3 := Lib.hid (B2.out.trans (b2.mono B2.out.size))
  clear B2
  clear b bb b2
  have C := life_any w3 200 ⟨#[]⟩ 0 Ab 2 cb none 0 0 [([68, 97, 116, 101], [83, 117, 110, 44, 32, 48, 54, 32, 78, 111, 118, 32, 49, 57, 57, 52, 32, 48, 56, 58, 52, 57, 58, 51, 55, 32, 71, 77, 84]), ([69, 120, 112, 105, 114, 101, 115], [83, 117, 110, 44, 32, 48, 54, 32, 78, 111, 118, 32, 49, 57, 57, 52, 32, 48, 56, 58, 52, 57, 58, 52, 55, 32, 71, 77, 84])] rfl (by decide) Sb.out (HT.out.below B3.out)
  rw [show lifeF 200 [([68, 97, 116, 101], [83, 117, 110, 44, 32, 48, 54, 32, 78, 111, 118, 32, 49, 57, 57, 52, 32, 48, 56, 58, 52, 57, 58, 51, 55, 32, 71, 77, 84]), ([69, 120, 112, 105, 114, 101, 115], [83, 117, 110, 44, 32, 48, 54, 32, 78, 111, 118, 32, 49, 57, 57, 52, 32, 48, 56, 58, 52, 57, 58, 52, 55, 32, 71, 77, 84])] = (10, true) by decide +kernel] at C
  unfold LifeTold at C
  go_wp2_with fail
  clear Sb
  refine (C).mono ?_
  rintro e w4 ⟨rfl, b⟩
  clear C
  have B4 := Lib.hid (B3.out.trans (b.mono B3.out.size))
  clear B3
  clear b
  have bb := (Below.refl w4.heap.size w4).alloc (Nat.le_refl _) (.cells #[.string ⟨#[65, 103, 101]⟩, .string ⟨#[55]⟩] 9)
  have s1 : SrcS (w4.alloc (.cells #[.string ⟨#[65, 103, 101]⟩, .string ⟨#[55]⟩] 9)) (fun _ => True) (some ⟨w4.heap.size, 0, none⟩) (flatT [([65, 103, 101], [55])]) := srcs_made w4 [[65, 103, 101], [55]]
  have C := laidF_any (w4.alloc (.cells #[.string ⟨#[65, 103, 101]⟩, .string ⟨#[55]⟩] 9)) (some ⟨w4.heap.size, 0, none⟩) 2 2 [([65, 103, 101], [55])] rfl (by decide) s1
  go_wp2_with fail
  refine C.mono ?_
  rintro e w5 ⟨v, o, rfl, own, _, b⟩
  obtain ⟨Ad, cd, hv, src⟩ := own.src (fun _ => True) (fun _ _ => trivial)
  rw [show ([([65, 103, 101], [55])] : List Fld).length = 1 from rfl] at hv
  subst hv
  have Sd := Lib.hid src
  clear own src C s1
  have b2 := bb.trans (b.mono bb.size)
  have B5 := Lib.hid (B4.out.trans (b2.mono B4.out.size))
  clear B4
  clear b bb b2
  have C := age_any w5 ⟨#[]⟩ 1000 3000 none 0 0 200 ⟨#[]⟩ 0 Ad 1 cd none 0 0 5500 [([65, 103, 101], [55])] rfl (by decide) Sd.out (HT.out.below B5.out) (by decide) (by decide)
  rw [show ageF [([65, 103, 101], [55])] 1000 3000 5500 = 11 by decide +kernel] at C
  go_wp2_with fail
  clear Sd
  refine (C).mono ?_
  rintro e w6 ⟨rfl, b⟩
  clear C
  have B6 := Lib.hid (B5.out.trans (b.mono B5.out.size))
  clear B5
  clear b
  go_wp2_with fail
  go_ret
  exact ⟨rfl, B6.out⟩
end Go.Proofs.YtdcbcjljmjnopaaGreatDoor.Fre
