/-
  Package vary's Select.
  Conditions: the list holds at most 1000000000 bytes; the names' number and lengths.
-/
import Derived.Test.YtbkpiadbgpnhlaaDoorWC
import Derived.Deep.RegionHeld3
import Derived.Deep.RegionLaw
namespace Go.Proofs.YtbkpiadbgpnhlaaDoor.Var
open Go.RowKit Go.Maps Hop

theorem drew_below {B : Nat} {a w : World} (h : Below B a w) : Below B a w.drew := ⟨h.os, h.tape, h.output, h.size, h.block⟩
theorem put_below {B : Nat} {a w : World} (h : Below B a w) {g : Nat} (hg : B ≤ g) (u : Value) : Below B a (w.setCell ⟨g, 0, none⟩ u) :=
  ⟨h.os, h.tape, h.output, by simpa [World.setCell] using h.size, fun k hk => (Below.heap_setCell w ⟨g, 0, none⟩ u k (by show ¬ k = g; omega)).trans (h.block k hk)⟩
def Gathers (gw : Nat) (o : Option Nat) (ls : List Fld) (w : World) (e : Ending) (w' : World) : Prop :=
  e = .returned (.tuple #[]) ∧ ∃ v' o', Is w' gw 22 [v'] ∧ OwnF w' v' o' ls ∧ Turn (fun k => k = gw ∨ o = some k) w w' ∧ ∀ k, o' = some k → o = some k ∨ w.heap.size ≤ k
set_option maxHeartbeats 8000000 in
set_option maxRecDepth 100000 in
theorem gather_any (nm : ByteArray) (ga gw bm base q : Nat) (v : Value) (o : Option Nat) (r ls : List Fld) (X : World) (hnm : nm.size ≤ 140737488351232) (hb : bulkF ls ≤ 1000000000) (hA : X.cell? ⟨ga, 0, none⟩ = some (.map (some bm))) (hJ : JoinAt X base bm q ls)
    (hW : Is X gw 22 [v]) (hO : OwnF X v o r) (hog : ∀ k, o = some k → k ≠ gw) (hlen : r.length ≤ 1000000000000) :
    Calls Tryd.prog 24 #[.string nm, .pointer (some ⟨ga, 0, none⟩), .pointer (some ⟨gw, 0, none⟩)] X (Gathers gw o (r ++ wantF ls (bl nm)) X) := by
  have CL := Lib.hid (fun W : World => ty_lower nm W)
  unfold Text at CL
  obtain ⟨L, hL⟩ : ∃ L : ByteArray, L = ⟨(lowF (bl nm)).toArray⟩ := ⟨_, rfl⟩
  have HLB := Lib.hid (show bl L = lowF (bl nm) by rw [hL, bl_mk])
  have HLS := Lib.hid (show L.size ≤ maxLen by rw [← bl_length, HLB.out, lowF_length, bl_length]; unfold maxLen; omega)
  rw [← hL] at CL
  have HGA := Lib.hid (Lib.lt_of_cell hA)
  have HJ := Lib.hid hJ
  have HW := Lib.hid hW
  have HO := Lib.hid hO
  have HOG := Lib.hid hog
  have HBK := Lib.hid hb
  have HNM := Lib.hid hnm
  clear hL hJ hW hO hog hb hnm
  have e0 : Below X.heap.size X X := Below.refl _ _
  have e1 : Below X.heap.size X (X.alloc (.cells #[.slice none 0 0] 46)) := (Below.refl _ _).alloc (Nat.le_refl _) _
  cases hv : valK ls (lowF (bl nm)) with
  | none =>
    have HV := Lib.hid hv
    have LK := Lib.hid (fun (W : World) (hW : Below X.heap.size X W) => ((HJ.out.below hW).look_none L (lowF (bl nm)) HLB.out HLS.out HV.out).1)
    clear hv
    have i1 := Is.made X 46 [.slice none 0 0]
    have HI1 := Lib.hid i1
    have za : (X.alloc (.cells #[.slice none 0 0] 46)).cell? ⟨ga, 0, none⟩ = some (.map (some bm)) := (e1.cell HGA.out).trans hA
    have D0 := Lib.hid (drew_below e0)
    have D1 := Lib.hid (drew_below e1)
    clear i1 e0 e1
    go_enter Tryd.func24, Tryd.ntmps24
    go_upto_region 0 with fail
    go_cut [4, 5] from 6 to 12 (fun s4 s5 wx => ∃ g, s4 = .pointer (some ⟨g, 0, none⟩) ∧ s5 = .bool false ∧ Hid (Below X.heap.size X wx))
    case first =>
      go_region_held3 (fun w' => w'.cell? ⟨ga, 0, none⟩ = some (.map (some bm))) (first | (with_reducible exact hA) | (with_reducible exact za) | (with_reducible exact z5) | (with_reducible exact z6) | (with_reducible exact z7) | go_keep)
        (first
          | (go_at_call 19
             (with_reducible refine (CL.out X.drew).mono ?_)
             rintro e w5 ⟨rfl, b5⟩
             have B5 : Hid (Below X.heap.size X w5) := Lib.hid (D0.out.trans (b5.mono D0.out.size))
             have z5 : w5.cell? ⟨ga, 0, none⟩ = some (.map (some bm)) := (B5.out.cell HGA.out).trans hA
             have B6 : Hid (Below X.heap.size X (w5.alloc (.cells #[.slice none 0 0] 46))) := Lib.hid (B5.out.alloc B5.out.size _)
             have z6 : (w5.alloc (.cells #[.slice none 0 0] 46)).cell? ⟨ga, 0, none⟩ = some (.map (some bm)) := (B6.out.cell HGA.out).trans hA
             have B7 : Hid (Below X.heap.size X ((w5.alloc (.cells #[.slice none 0 0] 46)).setCell ⟨w5.heap.size, 0, none⟩ (.slice none 0 0))) := Lib.hid (put_below B6.out B5.out.size _)
             have z7 := (B7.out.cell HGA.out).trans hA
             have l5 := LK.out w5 B5.out
             have l6 := LK.out (w5.alloc (.cells #[.slice none 0 0] 46)) B6.out
             clear b5)
          | (go_at_call 19
             (with_reducible refine (CL.out (X.alloc (.cells #[.slice none 0 0] 46)).drew).mono ?_)
             rintro e w5 ⟨rfl, b5⟩
             have B5 : Hid (Below X.heap.size X w5) := Lib.hid (D1.out.trans (b5.mono D1.out.size))
             have i5 := is_below HI1.out.drew b5
             have z5 : w5.cell? ⟨ga, 0, none⟩ = some (.map (some bm)) := (B5.out.cell HGA.out).trans hA
             have x5 : w5.cell? ⟨X.heap.size, 0, none⟩ = some (.slice none 0 0) := i5.cell 0
             have x5f := i5.free 0
             have B7 : Hid (Below X.heap.size X (w5.setCell ⟨X.heap.size, 0, none⟩ (.slice none 0 0))) := Lib.hid (put_below B5.out (Nat.le_refl _) _)
             have z7 := (B7.out.cell HGA.out).trans hA
             have l5 := LK.out w5 B5.out
             clear b5 i5))
      all_goals
        go_wp2_with fail
        go_meet
        first
          | exact ⟨_, rfl, rfl, B7⟩
          | exact ⟨_, rfl, rfl, B6⟩
    case rest =>
      obtain ⟨g, rfl, rfl, hX⟩ := hcut
      go_wp2_with fail
      go_end0
      refine ⟨rfl, v, o, is_below HW.out hX.out, ?_, Turn.of_below hX.out, fun k hk => .inl hk⟩
      rw [show wantF ls (bl nm) = [] by unfold wantF; rw [HV.out], List.append_nil]
      exact HO.out.kept (Turn.of_below (S := fun _ => False) hX.out) (fun _ _ h => h)
  | some val =>
    have HV := Lib.hid hv
    obtain ⟨x0, ox, ownx, hbx, lkx⟩ := HJ.out.look_all L (lowF (bl nm)) HLB.out HLS.out val hv
    obtain ⟨Ax, cx, hx, srx⟩ := ownx.src (fun _ => True) (fun _ _ => trivial)
    obtain ⟨qx, hqx⟩ : ∃ q, val.length = q := ⟨_, rfl⟩
    have HQX := Lib.hid hqx
    rw [hqx] at hx
    subst hx
    have HOX := Lib.hid ownx
    have LK := Lib.hid lkx
    clear hv hqx lkx ownx hbx srx
    have HI1 := Lib.hid (Is.made X 46 [.slice none 0 0])
    have za : (X.alloc (.cells #[.slice none 0 0] 46)).cell? ⟨ga, 0, none⟩ = some (.map (some bm)) := (e1.cell HGA.out).trans hA
    have D0 := Lib.hid (drew_below e0)
    have D1 := Lib.hid (drew_below e1)
    clear e0 e1
    go_enter Tryd.func24, Tryd.ntmps24
    go_upto_region 0 with fail
    go_cut [4, 5] from 6 to 12 (fun s4 s5 wx => ∃ g, s4 = .pointer (some ⟨g, 0, none⟩) ∧ s5 = .bool true ∧ Hid (Below X.heap.size X wx) ∧ Hid (Is wx g 46 [.slice Ax qx cx]) ∧ Hid (X.heap.size ≤ g))
    case first =>
      go_region_held3 (fun w' => w'.cell? ⟨ga, 0, none⟩ = some (.map (some bm))) (first | (with_reducible exact hA) | (with_reducible exact za) | (with_reducible exact z5) | (with_reducible exact z6) | (with_reducible exact z7) | go_keep)
        (first
          | (go_at_call 19
             (with_reducible refine (CL.out X.drew).mono ?_)
             rintro e w5 ⟨rfl, b5⟩
             have B5 : Hid (Below X.heap.size X w5) := Lib.hid (D0.out.trans (b5.mono D0.out.size))
             have z5 : w5.cell? ⟨ga, 0, none⟩ = some (.map (some bm)) := (B5.out.cell HGA.out).trans hA
             have B6 : Hid (Below X.heap.size X (w5.alloc (.cells #[.slice none 0 0] 46))) := Lib.hid (B5.out.alloc B5.out.size _)
             have z6 : (w5.alloc (.cells #[.slice none 0 0] 46)).cell? ⟨ga, 0, none⟩ = some (.map (some bm)) := (B6.out.cell HGA.out).trans hA
             have B7 : Hid (Below X.heap.size X (w5.alloc (.cells #[.slice Ax qx cx] 46))) := Lib.hid (B5.out.alloc B5.out.size _)
             have z7 := (B7.out.cell HGA.out).trans hA
             have G7 : Hid (X.heap.size ≤ w5.heap.size) := Lib.hid B5.out.size
             have I7 : Hid (Is (w5.alloc (.cells #[.slice Ax qx cx] 46)) w5.heap.size 46 [.slice Ax qx cx]) := Lib.hid (Is.made w5 46 [.slice Ax qx cx])
             have l5 := LK.out w5 B5.out
             have l6 := LK.out (w5.alloc (.cells #[.slice none 0 0] 46)) B6.out
             clear b5)
          | (go_at_call 19
             (with_reducible refine (CL.out (X.alloc (.cells #[.slice none 0 0] 46)).drew).mono ?_)
             rintro e w5 ⟨rfl, b5⟩
             have B5 : Hid (Below X.heap.size X w5) := Lib.hid (D1.out.trans (b5.mono D1.out.size))
             have i5 := is_below HI1.out.drew b5
             have z5 : w5.cell? ⟨ga, 0, none⟩ = some (.map (some bm)) := (B5.out.cell HGA.out).trans hA
             have x5 : w5.cell? ⟨X.heap.size, 0, none⟩ = some (.slice none 0 0) := i5.cell 0
             have x5f := i5.free 0
             have B7 : Hid (Below X.heap.size X (w5.setCell ⟨X.heap.size, 0, none⟩ (.slice Ax qx cx))) := Lib.hid (put_below B5.out (Nat.le_refl _) _)
             have z7 := (B7.out.cell HGA.out).trans hA
             have G7 : Hid (X.heap.size ≤ X.heap.size) := Lib.hid (Nat.le_refl _)
             have I7 : Hid (Is (w5.setCell ⟨X.heap.size, 0, none⟩ (.slice Ax qx cx)) X.heap.size 46 [.slice Ax qx cx]) := Lib.hid (i5.set 0 _)
             have l5 := LK.out w5 B5.out
             clear b5 i5))
      all_goals
        go_wp2_with fail
        go_meet
        exact ⟨_, rfl, rfl, B7, I7, G7⟩
    case rest =>
      obtain ⟨g, rfl, rfl, hX, hI, hG⟩ := hcut
      clear D0 D1 za HI1 LK CL
      obtain ⟨Vs, hVs⟩ : ∃ V : ByteArray, V = ⟨val.toArray⟩ := ⟨_, rfl⟩
      have HVS := Lib.hid hVs
      have CT := Lib.hid (fun (W : World) (hW : Below X.heap.size X W) => run_made_text W (.slice Ax qx cx) ox val (HOX.out.kept (Turn.of_below (S := fun _ => False) hW) (fun _ _ h => h)))
      rw [← hVs] at CT
      have CC := Lib.hid (fun W : World => clone_any nm W (by have := HNM.out; omega))
      have HP := Lib.hid (fun (W : World) (hB : Below X.heap.size X W) => run_push_fld W v o r (bl nm, val) (HO.out.kept (Turn.of_below (S := fun _ => False) hB) (fun _ _ h => h)) (by omega))
      simp only [mk_bl] at HP
      rw [← hVs] at HP
      clear hVs
      have g0 : ∀ W : World, Below X.heap.size X W → (W.cell? ⟨gw, 0, none⟩ = some v ∧ W.frozen? ⟨gw, 0, none⟩ = false) := fun W hW => ⟨(is_below HW.out hW).cell 0, (is_below HW.out hW).free 0⟩
      have GG := Lib.hid g0
      clear g0
      go_upto_region 2 with fail
      have hD := Lib.hid (drew_below hX.out)
      have x0 : wc.drew.cell? ⟨g, 0, none⟩ = some (.slice Ax qx cx) := hI.out.drew.cell 0
      obtain ⟨yd, ydf⟩ := GG.out wc.drew hD.out
      have td := CT.out wc.drew hD.out
      have HI2 := Lib.hid hI.out.drew
      obtain ⟨wd, hwd⟩ : ∃ wd, wc.drew = wd := ⟨_, rfl⟩
      rw [hwd] at hD x0 yd ydf td HI2
      have HWD := Lib.hid hwd
      clear hI hX
      go_region_law (first
          | (go_simp
             go_at_call 25
             (with_reducible refine (CC.out wd).mono ?_)
             rintro e w6 ⟨rfl, b6⟩
             have B6 : Hid (Below X.heap.size X w6) := Lib.hid (hD.out.trans (b6.mono hD.out.size))
             have x6 : w6.cell? ⟨g, 0, none⟩ = some (.slice Ax qx cx) := (is_below HI2.out b6).cell 0
             obtain ⟨y6, y6f⟩ := GG.out w6 B6.out
             have t6 := CT.out w6 B6.out
             have B7 : Hid (Below X.heap.size X (w6.alloc (.cells #[.string nm, .string Vs] 32))) := Lib.hid (B6.out.alloc B6.out.size _)
             obtain ⟨y7, y7f⟩ := GG.out _ B7.out
             clear b6)
          | (obtain ⟨v', w', o', hrun, own', tn', ho'⟩ := HP.out w6 B6.out
             obtain ⟨A', c', hv', _⟩ := own'.src (fun _ => True) (fun _ _ => trivial)
             obtain ⟨n', hn'⟩ : ∃ n', (r ++ [(bl nm, val)]).length = n' := ⟨_, rfl⟩
             rw [hn'] at hv'
             subst hv'
             clear hn'
             refine step_append_by rfl (.tmp 14) (.tmp 21) 22 rfl _ _ _ w' rfl rfl hrun ?_
             have OO := Lib.hid own'
             have TT := Lib.hid tn'
             have HOO := Lib.hid ho'
             have i9 : Is w' gw 22 [v] := (is_below HW.out B6.out).kept tn' (fun e => HOG.out gw e rfl)
             have y9 := i9.cell 0
             have y9f := i9.free 0
             have HI9 := Lib.hid i9
             clear own' tn' ho' hrun i9))
      all_goals
        go_wp2_with fail
        go_end0
        refine ⟨rfl, _, o', HI9.out.set 0 _, ?_, ?_, fun k hk => ?_⟩
        · rw [show wantF ls (bl nm) = [(bl nm, val)] by unfold wantF; rw [HV.out]]
          refine OO.out.kept ((Turn.refl (fun k => k = gw) _).setCell (p := ⟨gw, 0, none⟩) (fun _ => rfl) _) (fun k hk e => ?_)
          rcases HOO.out k hk with h | h
          · exact HOG.out k h e
          · have h1 := HW.out.lt
            have h2 := B6.out.size
            omega
        · exact ((Turn.of_below (S := fun k => k = gw ∨ o = some k) B6.out).trans (TT.out.mono (S' := fun k => k = gw ∨ o = some k) (fun k _ h => .inr h)) (fun k _ h => h)).setCell (p := ⟨gw, 0, none⟩) (fun _ => .inl rfl) _
        · rcases HOO.out k hk with h | h
          · exact .inl h
          · exact .inr (Nat.le_trans B6.out.size h)
end Go.Proofs.YtbkpiadbgpnhlaaDoor.Var
