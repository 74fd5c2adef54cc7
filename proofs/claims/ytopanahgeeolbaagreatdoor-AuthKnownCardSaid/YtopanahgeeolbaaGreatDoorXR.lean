/-
  AuthLess: a configuration that may be stays one without any of its tenants, as long as one is left; with one more just if that may be, its token is another one, and there are not too many.
  Conditions: the tenants, their Rules, and these' Methods, lie in memory; Go's table of powers of ten is as its text lays it.
-/
import Derived.Test.YtopanahgeeolbaaGreatDoorXP
import Derived.Test.YtopanahgeeolbaaGreatDoorXL
import Derived.Test.YtopanahgeeolbaaGreatDoorJ
import Derived.Deep.CutRange
import Derived.BigRegion
import Derived.Deep.RegionHeld3
namespace Go.Proofs.YtopanahgeeolbaaGreatDoor.Aut
open Go.RowKit Acl

def hasTok (L : List TeE) (t : TeE) : Bool := L.any fun x => bl x.tok == bl t.tok
theorem unl_sub {a b : List TeE} (h : List.Sublist a b) (hb : unlF b = true) : unlF a = true := by
  unfold unlF at hb ⊢
  exact decide_eq_true ((of_decide_eq_true hb).sublist (h.map _))
theorem unl_more (a b : List TeE) (t : TeE) : unlF ((a ++ [t]) ++ b) = (unlF (a ++ b) && !hasTok (a ++ b) t) := by
  have hp : (((a ++ [t]) ++ b).map fun t => bl t.tok).Perm (bl t.tok :: ((a ++ b).map fun t => bl t.tok)) := by
    have : ((a ++ [t]) ++ b).Perm (t :: (a ++ b)) := by
      rw [List.append_assoc]
      exact List.perm_middle
    exact this.map _
  unfold unlF hasTok
  rw [Bool.eq_iff_iff, decide_eq_true_eq, hp.nodup_iff, List.nodup_cons, Bool.and_eq_true, decide_eq_true_eq, Bool.not_eq_true', List.any_eq_false]
  constructor
  · rintro ⟨h1, h2⟩
    exact ⟨h2, fun x hx e => h1 (List.mem_map.2 ⟨x, hx, beq_iff_eq.1 e⟩)⟩
  · rintro ⟨h1, h2⟩
    refine ⟨fun hm => ?_, h1⟩
    obtain ⟨x, hx, e⟩ := List.mem_map.1 hm
    exact h2 x hx (beq_iff_eq.2 e)
theorem conf_less {L : List TeE} {st ti : Int} {k : Nat} (h : confF L st ti = true) (hk : k < L.length) : confF (L.take k ++ L.drop (k + 1)) st ti = decide (1 < L.length) := by
  obtain ⟨⟨h1, h2, h3⟩, h4, h5⟩ := conf_parts h
  have hs : List.Sublist (L.take k ++ L.drop (k + 1)) L := by
    conv => rhs; rw [← List.take_append_drop k L]
    refine List.Sublist.append (List.Sublist.refl _) ?_
    rw [← List.drop_drop]
    exact List.drop_sublist _ _
  have hl : (L.take k ++ L.drop (k + 1)).length = L.length - 1 := by
    rw [List.length_append, List.length_take, List.length_drop]
    omega
  unfold confF
  rw [hl, h3, unl_sub hs h5, show (L.take k ++ L.drop (k + 1)).all tenF = true from List.all_eq_true.2 fun x hx => List.all_eq_true.1 h4 x (hs.subset hx)]
  rw [Bool.eq_iff_iff]
  simp
  omega
theorem conf_more {L : List TeE} {st ti : Int} {k : Nat} {t : TeE} (h : confF L st ti = true) : confF ((L.take k ++ [t]) ++ L.drop k) st ti = ((tenF t && !hasTok L t) && decide (L.length < 8)) := by
  obtain ⟨⟨h1, h2, h3⟩, h4, h5⟩ := conf_parts h
  have hl : ((L.take k ++ [t]) ++ L.drop k).length = L.length + 1 := by
    rw [List.length_append, List.length_append, List.length_take, List.length_drop, List.length_singleton]
    omega
  have ha : ((L.take k ++ [t]) ++ L.drop k).all tenF = tenF t := by
    rw [List.all_append, List.all_append, show (L.take k).all tenF = true from List.all_eq_true.2 fun x hx => List.all_eq_true.1 h4 x (List.mem_of_mem_take hx), show (L.drop k).all tenF = true from List.all_eq_true.2 fun x hx => List.all_eq_true.1 h4 x (List.mem_of_mem_drop hx)]
    simp
  unfold confF
  rw [hl, h3, ha, unl_more, List.take_append_drop, h5]
  rw [Bool.eq_iff_iff]
  simp only [Bool.and_eq_true, decide_eq_true_eq, Bool.true_and, Bool.and_true]
  constructor
  · rintro ⟨⟨a, b⟩, c, d⟩
    exact ⟨⟨c, d⟩, by omega⟩
  · rintro ⟨⟨c, d⟩, e⟩
    exact ⟨⟨by omega, by omega⟩, c, d⟩

/-! ## pieces -/
theorem run_front_te (A : Option Addr) (n c k : Nat) (hk : k ≤ c) : ∃ A', (∀ W : World, (Instr.slice 22 (.slice A n c) none (some (.int .i64 (k : Int))) none).run Tryz.prog W = .ok (.slice A' k c) W) ∧
    ∀ (w : World) (P : Nat → Prop) (ls : List TeE), SrcT w P A ls → SrcT w P A' (ls.take k) := by
  refine ⟨if c = 0 then A else A.map (·.add (0 * 9)), fun W => ?_, fun w P ls h => ?_⟩
  · simp [Instr.slice, run_underlying Tryz.underlying22, Instr.sliceBounds, Instr.sliceBound, asIntOf, hk]
  · have : (if c = 0 then A else A.map (·.add (0 * 9))) = A := by
      split
      · rfl
      · cases A with
        | none => rfl
        | some a => simp [Addr.add]
    rw [this]
    exact h.take k
theorem run_back_te (A : Option Addr) (n c k : Nat) (hk : k ≤ n) (hn : n ≤ c) : ∃ A', (∀ W : World, (Instr.slice 22 (.slice A n c) (some (.int .i64 (k : Int))) none none).run Tryz.prog W = .ok (.slice A' (n - k) (c - k)) W) ∧
    ∀ (w : World) (P : Nat → Prop) (ls : List TeE), ls.length = n → SrcT w P A ls → SrcT w P A' (ls.drop k) := by
  refine ⟨if c = k then A else A.map (·.add (k * 9)), fun W => ?_, fun w P ls hl h h0 => ?_⟩
  · obtain ⟨i, hi, hs⟩ := Option.map_eq_some_iff.1 teSize
    simp [Instr.slice, run_underlying Tryz.underlying22, Instr.sliceBounds, Instr.sliceBound, asIntOf, hk, sizeOf, typeInfo, hi, hs]
  · rw [List.length_drop] at h0
    obtain ⟨ad, hA, hP, hlt, hc⟩ := h (by omega)
    rw [if_neg (by omega), hA]
    have hb : (ad.add (k * 9)).block = ad.block := by unfold Addr.add; split <;> rfl
    refine ⟨ad.add (k * 9), rfl, by rw [hb]; exact hP, by rw [hb]; exact hlt, fun i r hr j v hv => ?_⟩
    rw [List.getElem?_drop] at hr
    rw [add_add_at, show k * 9 + (i * 9 + j) = (k + i) * 9 + j by omega]
    exact hc _ r hr j v hv
end Go.Proofs.YtopanahgeeolbaaGreatDoor.Aut

namespace Go.Proofs.YtopanahgeeolbaaGreatDoor.Aut
open Go.RowKit Acl

theorem held10 {w' : World} {g : Nat} {A : Option Addr} {n c : Nat} {st ti : Int} {t : TeE} (hc : Is w' g 24 [.slice A n c, .int .i64 st, .int .i64 ti]) (ht : Is w' (g + 1) 27 t.cells) :
    w'.cell? ⟨g, 0, none⟩ = some (.slice A n c) ∧ w'.cell? ⟨g + 1, 0, none⟩ = some (.string t.tok) ∧ w'.cell? ⟨g + 1, 1, none⟩ = some (.slice t.A t.n t.c) ∧ w'.cell? ⟨g + 1, 2, none⟩ = some (.int .i64 t.nb) ∧ w'.cell? ⟨g + 1, 3, none⟩ = some (.int .i64 t.ne) ∧ w'.cell? ⟨g + 1, 4, none⟩ = some (.int .i64 t.ns) ∧ w'.cell? ⟨g + 1, 5, none⟩ = some (.int .i64 t.nc) ∧ w'.cell? ⟨g + 1, 6, none⟩ = some (.int .i64 t.nw) ∧ w'.cell? ⟨g + 1, 7, none⟩ = some (.int .i64 t.nr) ∧ w'.cell? ⟨g + 1, 8, none⟩ = some (.int .i64 t.nu) := ⟨hc.cell 0, ht.cell 0, ht.cell 1, ht.cell 2, ht.cell 3, ht.cell 4, ht.cell 5, ht.cell 6, ht.cell 7, ht.cell 8⟩
theorem held16 {w' : World} {g g8 g9 : Nat} {A A5 A6 : Option Addr} {n c q c5 r c6 : Nat} {st ti : Int} {t : TeE} (h8 : Is w' g8 24 [.slice A5 q c5, .int .i64 st, .int .i64 ti]) (h9 : Is w' g9 24 [.slice A6 r c6, .int .i64 st, .int .i64 ti]) (hc : Is w' g 24 [.slice A n c, .int .i64 st, .int .i64 ti]) (ht : Is w' (g + 1) 27 t.cells) :
    w'.cell? ⟨g8, 0, none⟩ = some (.slice A5 q c5) ∧ w'.cell? ⟨g8, 1, none⟩ = some (.int .i64 st) ∧ w'.cell? ⟨g8, 2, none⟩ = some (.int .i64 ti) ∧ w'.cell? ⟨g9, 0, none⟩ = some (.slice A6 r c6) ∧ w'.cell? ⟨g9, 1, none⟩ = some (.int .i64 st) ∧ w'.cell? ⟨g9, 2, none⟩ = some (.int .i64 ti) ∧ w'.cell? ⟨g, 0, none⟩ = some (.slice A n c) ∧ w'.cell? ⟨g + 1, 0, none⟩ = some (.string t.tok) ∧ w'.cell? ⟨g + 1, 1, none⟩ = some (.slice t.A t.n t.c) ∧ w'.cell? ⟨g + 1, 2, none⟩ = some (.int .i64 t.nb) ∧ w'.cell? ⟨g + 1, 3, none⟩ = some (.int .i64 t.ne) ∧ w'.cell? ⟨g + 1, 4, none⟩ = some (.int .i64 t.ns) ∧ w'.cell? ⟨g + 1, 5, none⟩ = some (.int .i64 t.nc) ∧ w'.cell? ⟨g + 1, 6, none⟩ = some (.int .i64 t.nw) ∧ w'.cell? ⟨g + 1, 7, none⟩ = some (.int .i64 t.nr) ∧ w'.cell? ⟨g + 1, 8, none⟩ = some (.int .i64 t.nu) := ⟨h8.cell 0, h8.cell 1, h8.cell 2, h9.cell 0, h9.cell 1, h9.cell 2, held10 hc ht⟩
theorem ownt_at {w : World} {A : Option Addr} {n c : Nat} {o : Option Nat} {ls : List TeE} (h : OwnT w (.slice A n c) o ls) : SrcT w (fun _ => True) A ls := by
  obtain ⟨A', c', hv, _, s⟩ := h.src (fun _ => True) (fun _ _ => trivial)
  injection hv with h1 h2 h3
  rw [h1]
  exact s
set_option maxHeartbeats 16000000 in
set_option maxRecDepth 100000 in
theorem less_law (w : World) (A : Option Addr) (L : List TeE) (n c : Nat) (st ti : Int) (hn : L.length = n) (hnc : n ≤ c) (hmax : n ≤ 140737488351232) (h : SrcT w (fun _ => True) A L) (hok : ∀ t ∈ L, t.Ok w) (t : TeE) (ht : t.Ok w) (m : Nat) (hm : m ≤ 255) (hp : PowTab w) :
    Calls Tryz.prog 7 #[.agg #[.slice A n c, .int .i64 st, .int .i64 ti], .agg #[.string t.tok, .slice t.A t.n t.c, .int .i64 t.nb, .int .i64 t.ne, .int .i64 t.ns, .int .i64 t.nc, .int .i64 t.nw, .int .i64 t.nr, .int .i64 t.nu], .int .u8 (m : Int)] w fun e w' => e = .returned (.bool true) ∧ Below w.heap.size w w' := by
  have Ic := Lib.hid (((Is.made w 24 [.slice A n c, .int .i64 st, .int .i64 ti])).alloc (.cells #[.string t.tok, .slice t.A t.n t.c, .int .i64 t.nb, .int .i64 t.ne, .int .i64 t.ns, .int .i64 t.nc, .int .i64 t.nw, .int .i64 t.nr, .int .i64 t.nu] 27))
  have it := TeE.box (w := w.alloc (.cells #[.slice A n c, .int .i64 st, .int .i64 ti] 24)) (t := t)
  rw [show (w.alloc (.cells #[.slice A n c, .int .i64 st, .int .i64 ti] 24)).heap.size = w.heap.size + 1 by simp] at it
  have It := Lib.hid it
  have B0 : Hid (Below w.heap.size w ((w.alloc (.cells #[.slice A n c, .int .i64 st, .int .i64 ti] 24)).alloc (.cells #[.string t.tok, .slice t.A t.n t.c, .int .i64 t.nb, .int .i64 t.ne, .int .i64 t.ns, .int .i64 t.nc, .int .i64 t.nw, .int .i64 t.nr, .int .i64 t.nu] 27))) := Lib.hid (((Below.refl _ _).alloc (Nat.le_refl _) _).alloc (by simp) _)
  have CC := Lib.hid (fun (W : World) (hB : Below w.heap.size w W) => config_any W A L n c st ti hn hmax (h.below hB) (fun t ht => (hok t ht).below hB) (hp.below hB))
  have CW := Lib.hid (fun (W : World) (hB : Below w.heap.size w W) => wakes_any W (hp.below hB))
  have CT := Lib.hid (fun (W : World) (hB : Below w.heap.size w W) => tenant_any t W (ht.below hB) (hp.below hB))
  have HN := Lib.hid hn
  have H := Lib.hid h
  have HOK := Lib.hid hok
  have HTO := Lib.hid ht
  have HP := Lib.hid hp
  clear hn hmax h hok ht hp it
  obtain ⟨w0, hw0⟩ : ∃ w0, (w.alloc (.cells #[.slice A n c, .int .i64 st, .int .i64 ti] 24)).alloc (.cells #[.string t.tok, .slice t.A t.n t.c, .int .i64 t.nb, .int .i64 t.ne, .int .i64 t.ns, .int .i64 t.nc, .int .i64 t.nw, .int .i64 t.nr, .int .i64 t.nu] 27) = w0 := ⟨_, rfl⟩
  have CC0 := Lib.hid (CC.out _ B0.out)
  rw [hw0] at Ic It B0 CC0
  have HW := Lib.hid hw0
  clear hw0
  cases hc : confF L st ti with
  | false =>
    rw [hc] at CC0
    clear hc
    go_enter Tryz.func7, Tryz.ntmps7
    go_wp2_with fail
    rw [HW.out]
    refine CC0.out.mono ?_
    rintro e w1 ⟨rfl, b1⟩
    have B1 := Lib.hid (B0.out.trans (b1.mono B0.out.size))
    clear b1
    go_wp2_with fail
    refine (CW.out _ B1.out).mono ?_
    rintro e w2 ⟨rfl, b2⟩
    have B2 := Lib.hid (B1.out.trans (b2.mono B1.out.size))
    clear b2
    go_wp2_with fail
    go_ret
    exact ⟨rfl, B2.out⟩
  | true =>
    rw [hc] at CC0
    have HCF := Lib.hid hc
    obtain ⟨⟨h1, h8, _⟩, _, _⟩ := conf_parts hc
    rw [HN.out] at h1 h8
    have HK := Lib.hid (show m % n < n from Nat.mod_lt _ (by omega))
    have er : ((m : Int)).tmod (n : Int) = ((m % n : Nat) : Int) := by rw [Int.tmod_eq_emod_of_nonneg (by omega)]; rfl
    obtain ⟨k, hk⟩ : ∃ k, m % n = k := ⟨_, rfl⟩
    rw [hk] at HK er
    have hn0 : ¬ (n : Int) = 0 := by omega
    have hn0' : ¬ n = 0 := by omega
    clear hk hc
    go_enter Tryz.func7, Tryz.ntmps7
    go_wp2_with fail
    rw [HW.out]
    refine CC0.out.mono ?_
    rintro e w1 ⟨rfl, b1⟩
    have B1 := Lib.hid (B0.out.trans (b1.mono B0.out.size))
    have Jc := Lib.hid (is_below Ic.out b1)
    have Jt := Lib.hid (is_below It.out b1)
    clear b1 Ic It B0 CC0
    obtain ⟨g, hg⟩ : ∃ g, w.heap.size = g := ⟨_, rfl⟩
    rw [hg] at Jc Jt ⊢
    have HG := Lib.hid hg
    clear hg
    have x0 := Jc.out.cell 0
    have x1 := Jc.out.cell 1
    have x2 := Jc.out.cell 2
    simp only [List.getElem?_cons_zero, List.getElem?_cons_succ] at x0 x1 x2
    go_wp2_with fail
    go_cut [8, 9] from 22 to 23 (fun p8 p9 wx => ∃ g8 g9, p8 = .pointer (some ⟨g8, 0, none⟩) ∧ p9 = .pointer (some ⟨g9, 0, none⟩) ∧ Hid (g8 ≠ g9) ∧ Hid (w1.heap.size ≤ g8) ∧ Hid (w1.heap.size ≤ g9) ∧ Hid (Is wx g8 24 [.slice A n c, .int .i64 st, .int .i64 ti]) ∧ Hid (Is wx g9 24 [.slice A n c, .int .i64 st, .int .i64 ti]) ∧ Hid (Below w1.heap.size w1 wx))
    case first =>
      have hgl : g < w1.heap.size := Jc.out.lt
      have a1 := Jc.out.alloc (.cells #[.slice none 0 0, .int .i64 0, .int .i64 0] 24)
      have a2 := a1.alloc (.cells #[.slice none 0 0, .int .i64 0, .int .i64 0] 24)
      have y10 := a1.cell 0
      have y11 := a1.cell 1
      have y12 := a1.cell 2
      have y20 := a2.cell 0
      have y21 := a2.cell 1
      have y22 := a2.cell 2
      simp only [List.getElem?_cons_zero, List.getElem?_cons_succ] at y10 y11 y12 y20 y21 y22
      clear a1 a2
      have i8 := ((Is.made w1 24 [.slice A n c, .int .i64 st, .int .i64 ti]).alloc (.cells #[.slice A n c, .int .i64 st, .int .i64 ti] 24)).drew
      have i9 := (Is.made (w1.alloc (.cells #[.slice A n c, .int .i64 st, .int .i64 ti] 24)) 24 [.slice A n c, .int .i64 st, .int .i64 ti]).drew
      rw [show (w1.alloc (.cells #[.slice A n c, .int .i64 st, .int .i64 ti] 24)).heap.size = w1.heap.size + 1 by simp] at i9
      have I8 := Lib.hid i8
      have I9 := Lib.hid i9
      have BX : Hid (Below w1.heap.size w1 ((w1.alloc (.cells #[.slice A n c, .int .i64 st, .int .i64 ti] 24)).alloc (.cells #[.slice A n c, .int .i64 st, .int .i64 ti] 24)).drew) := Lib.hid (below_drewL (((Below.refl _ _).alloc (Nat.le_refl _) _).alloc (by simp) _))
      clear i8 i9
      go_region
      all_goals
        go_wp2_with fail
        go_meet
        first
          | exact ⟨w1.heap.size, w1.heap.size + 1, rfl, rfl, Lib.hid (by omega), Lib.hid (by omega), Lib.hid (by omega), I8, I9, BX⟩
          | exact ⟨w1.heap.size + 1, w1.heap.size, rfl, rfl, Lib.hid (by omega), Lib.hid (by omega), Lib.hid (by omega), I9, I8, BX⟩
    case rest =>
      obtain ⟨g8, g9, rfl, rfl, HNE, HL8, HL9, I8, I9, BX⟩ := hcut
      clear x0 x1 x2
      have BW := Lib.hid (B1.out.trans (BX.out.mono B1.out.size))
      have hnk := HK.out
      obtain ⟨LS, hLS⟩ : ∃ x, L.take k ++ L.drop (k + 1) = x := ⟨_, rfl⟩
      obtain ⟨MS, hMS⟩ : ∃ x, (L.take k ++ [t]) ++ L.drop k = x := ⟨_, rfl⟩
      obtain ⟨q, hq⟩ : ∃ x, LS.length = x := ⟨_, rfl⟩
      obtain ⟨r, hr⟩ : ∃ x, MS.length = x := ⟨_, rfl⟩
      have HLS := Lib.hid hLS
      have HMS := Lib.hid hMS
      have HQ := Lib.hid hq
      have HR := Lib.hid hr
      clear hLS hMS hq hr
      go_upto_region 5 with fail
      go_cut [] from 24 to 35 (fun wx => ∃ A5 c5 o5, Hid (Is wx g8 24 [.slice A5 q c5, .int .i64 st, .int .i64 ti]) ∧ Hid (OwnT wx (.slice A5 q c5) o5 LS) ∧ Hid (∀ b, o5 = some b → b ≠ g9 ∧ w1.heap.size ≤ b) ∧ Hid (Is wx g9 24 [.slice A n c, .int .i64 st, .int .i64 ti]) ∧ Hid (Below w1.heap.size w1 wx))
      case first =>
        obtain ⟨A1, hs1, src1⟩ := run_front_te A n c k (by omega)
        obtain ⟨A2, hs2, src2⟩ := run_back_te A n c (k + 1) (by omega) hnc
        obtain ⟨n2, hn2⟩ : ∃ x, n - (k + 1) = x := ⟨_, rfl⟩
        obtain ⟨c2, hc2⟩ : ∃ x, c - (k + 1) = x := ⟨_, rfl⟩
        rw [hn2, hc2, show (((k + 1 : Nat)) : Int) = (k : Int) + 1 from rfl] at hs2
        have hT := (H.out.below BW.out).below (below_drewL (Below.refl wc.heap.size wc))
        have l1 : (L.take k).length = k := by rw [List.length_take, HN.out]; omega
        have l2 : (L.drop (k + 1)).length = n2 := by rw [List.length_drop, HN.out]; omega
        obtain ⟨u1, v1, o1, r1, own1, t1, ho1⟩ := run_append_tes wc.drew (.slice none 0 0) none [] (L.take k) (OwnT.nil _) A1 k c l1 (src1 _ _ _ hT) (by simp only [List.length_nil, l1]; omega)
        rw [List.nil_append] at own1
        have hB1 : Below wc.heap.size wc v1 := (below_drewL (Below.refl _ _)).trans (t1.below (fun k hk h => by cases h))
        have hT1 := (H.out.below BW.out).below hB1
        obtain ⟨u2, v2, o2, r2, own2, t2, ho2⟩ := run_append_tes v1 u1 o1 (L.take k) (L.drop (k + 1)) own1 A2 n2 c2 l2 (src2 _ _ _ HN.out hT1) (by rw [l1, l2]; omega)
        rw [HLS.out] at own2
        have g1 : ∀ b, o1 = some b → wc.heap.size ≤ b := fun b hb => by rcases ho1 b hb with h | h; (cases h); exact h
        have g2 : ∀ b, o2 = some b → wc.heap.size ≤ b := fun b hb => by
          rcases ho2 b hb with h | h
          · exact g1 b h
          · exact Nat.le_trans hB1.size h
        have hB2 : Below wc.heap.size wc v2 := (own_turn hB1 g1 t2 (o' := none) (fun _ h => by cases h)).1
        obtain ⟨A5, c5, hv5, _⟩ := own2.src (fun _ => True) (fun _ _ => trivial)
        rw [HQ.out] at hv5
        subst hv5
        have i8 := is_below I8.out hB2
        have i9 := is_below I9.out hB2
        have jc := is_below Jc.out (BX.out.trans (hB2.mono BX.out.size))
        have hgl : g < w1.heap.size := Jc.out.lt
        have hg8 := HL8.out
        have hg9 := HL9.out
        have h8c := I8.out.lt
        have h9c := I9.out.lt
        have hne : g8 ≠ g := by omega
        have h98 : g9 ≠ g8 := fun e => HNE.out e.symm
        have z0 : wc.cell? ⟨g, 0, none⟩ = some (.slice A n c) := by simpa using (is_below Jc.out BX.out).cell 0
        have z1 : v1.cell? ⟨g, 0, none⟩ = some (.slice A n c) := by simpa using (is_below Jc.out (BX.out.trans (hB1.mono BX.out.size))).cell 0
        have z2 : v2.cell? ⟨g, 0, none⟩ = some (.slice A n c) := by simpa using jc.cell 0
        have z3 : (v2.setCell ⟨g8, 0, none⟩ (.slice A5 q c5)).cell? ⟨g, 0, none⟩ = some (.slice A n c) := by simpa using (jc.far (p := ⟨g8, 0, none⟩) (fun e => hne e.symm) (.slice A5 q c5)).cell 0
        have y8 : v2.cell? ⟨g8, 0, none⟩ = some (.slice A n c) := by simpa using i8.cell 0
        have f8 : v2.frozen? ⟨g8, 0, none⟩ = false := i8.free 0
        have E8 := Lib.hid (i8.set 0 (.slice A5 q c5))
        have E9 := Lib.hid (i9.far (p := ⟨g8, 0, none⟩) h98 (.slice A5 q c5))
        have h2s := hB2.size
        have T3 := ((Turn.refl (fun k => k = g8) v2).setCell (p := ⟨g8, 0, none⟩) (fun _ => rfl) (.slice A5 q c5))
        have EO := Lib.hid (own2.kept T3 (fun b hb e => by have := g2 b hb; omega))
        have EG := Lib.hid (show ∀ b, o2 = some b → b ≠ g9 ∧ w1.heap.size ≤ b from fun b hb => by have := g2 b hb; have := BX.out.size; exact ⟨by omega, by omega⟩)
        have EB : Hid (Below w1.heap.size w1 (v2.setCell ⟨g8, 0, none⟩ (.slice A5 q c5))) := Lib.hid ((BX.out.trans (hB2.mono BX.out.size)).trans ⟨T3.os, T3.tape, T3.output, T3.size, fun b hb => T3.block b (by have := BX.out.size; omega) (by omega)⟩)
        have R1 := Lib.hid r1
        have R2 := Lib.hid r2
        have hwr : IntKind.i64.wrap ((k : Int) + 1) = (k : Int) + 1 := by rw [IntKind.wrap_i64]; omega
        clear own1 own2 t1 t2 ho1 ho2 src1 src2 hT hT1 i8 i9 jc r1 r2 hB1 hB2 g1 g2 T3
        go_region_held3 (fun w' => w'.cell? ⟨g, 0, none⟩ = some (.slice A n c)) (first | exact z0 | exact z1 | exact z2 | exact z3 | go_keep)
          (first | (refine step_append_by rfl (.const (.slice none 0 0)) (.tmp 27) 22 rfl (.slice none 0 0) (.slice A1 k c) u1 v1 rfl rfl R1.out ?_) | (refine step_append_by rfl (.tmp 28) (.tmp 33) 22 rfl u1 (.slice A2 n2 c2) (.slice A5 q c5) v2 rfl rfl R2.out ?_))
        all_goals
          go_wp2_with fail
          go_meet
          exact ⟨A5, c5, o2, E8, EO, EG, E9, EB⟩
      case rest =>
        obtain ⟨A5, c5, o5, J8, O5, G5, J9, BY⟩ := hcut
        clear I8 I9 BX
        go_upto_region 6 with fail
        go_cut [] from 36 to 49 (fun wx => ∃ A6 c6 o6, Hid (Is wx g9 24 [.slice A6 r c6, .int .i64 st, .int .i64 ti]) ∧ Hid (OwnT wx (.slice A6 r c6) o6 MS) ∧ Hid (Is wx g8 24 [.slice A5 q c5, .int .i64 st, .int .i64 ti]) ∧ Hid (OwnT wx (.slice A5 q c5) o5 LS) ∧ Hid (Below w1.heap.size w1 wx))
        case first =>
          obtain ⟨A1, hs1, src1⟩ := run_front_te A n c k (by omega)
          obtain ⟨A2, hs2, src2⟩ := run_back_te A n c k (by omega) hnc
          obtain ⟨n2, hn2⟩ : ∃ x, n - k = x := ⟨_, rfl⟩
          obtain ⟨c2, hc2⟩ : ∃ x, c - k = x := ⟨_, rfl⟩
          rw [hn2, hc2] at hs2
          have BW2 := Lib.hid (B1.out.trans (BY.out.mono B1.out.size))
          have l1 : (L.take k).length = k := by rw [List.length_take, HN.out]; omega
          have l2 : (L.drop k).length = n2 := by rw [List.length_drop, HN.out]; omega
          have l3 : (L.take k ++ [t]).length = k + 1 := by rw [List.length_append, l1, List.length_singleton]
          have hg9 := J9.out.lt
          have hg8 := J8.out.lt
          have h9l := HL9.out
          have h8l := HL8.out
          have hgl : g + 1 < w1.heap.size := Jt.out.lt
          have hne : g9 ≠ g8 := fun e => HNE.out e.symm
          have h5 : ∀ b, o5 = some b → b < wc.heap.size := fun b hb => O5.out.lt b hb
          have b0p : Below wc.heap.size wc wc.drew := below_drewL (Below.refl _ _)
          have jc0p := is_below Jc.out (BY.out.trans (b0p.mono BY.out.size))
          have jt0p := is_below Jt.out (BY.out.trans (b0p.mono BY.out.size))
          have z0p : wc.drew.cell? ⟨g, 0, none⟩ = some (.slice A n c) ∧ wc.drew.cell? ⟨g + 1, 0, none⟩ = some (.string t.tok) ∧ wc.drew.cell? ⟨g + 1, 1, none⟩ = some (.slice t.A t.n t.c) ∧ wc.drew.cell? ⟨g + 1, 2, none⟩ = some (.int .i64 t.nb) ∧ wc.drew.cell? ⟨g + 1, 3, none⟩ = some (.int .i64 t.ne) ∧ wc.drew.cell? ⟨g + 1, 4, none⟩ = some (.int .i64 t.ns) ∧ wc.drew.cell? ⟨g + 1, 5, none⟩ = some (.int .i64 t.nc) ∧ wc.drew.cell? ⟨g + 1, 6, none⟩ = some (.int .i64 t.nw) ∧ wc.drew.cell? ⟨g + 1, 7, none⟩ = some (.int .i64 t.nr) ∧ wc.drew.cell? ⟨g + 1, 8, none⟩ = some (.int .i64 t.nu) := held10 jc0p jt0p
          obtain ⟨u1p, v1p, o1p, r1p, own1p, t1p, ho1p⟩ := run_append_tes wc.drew (.slice none 0 0) none [] (L.take k) (OwnT.nil _) A1 k c l1 (src1 _ _ _ (H.out.below (BW2.out.trans (b0p.mono BW2.out.size)))) (by simp only [List.length_nil, l1]; omega)
          rw [List.nil_append] at own1p
          have s0p : wc.heap.size ≤ (wc.drew).heap.size := b0p.size
          have g1p : ∀ b, o1p = some b → wc.heap.size ≤ b := fun b hb => by rcases ho1p b hb with h | h; (cases h); exact Nat.le_trans s0p h
          have b1p : Below wc.heap.size wc v1p := b0p.trans ((t1p.below (fun k hk h => by cases h)).mono s0p)
          have jc1p := is_below Jc.out (BY.out.trans (b1p.mono BY.out.size))
          have jt1p := is_below Jt.out (BY.out.trans (b1p.mono BY.out.size))
          have z1p : v1p.cell? ⟨g, 0, none⟩ = some (.slice A n c) ∧ v1p.cell? ⟨g + 1, 0, none⟩ = some (.string t.tok) ∧ v1p.cell? ⟨g + 1, 1, none⟩ = some (.slice t.A t.n t.c) ∧ v1p.cell? ⟨g + 1, 2, none⟩ = some (.int .i64 t.nb) ∧ v1p.cell? ⟨g + 1, 3, none⟩ = some (.int .i64 t.ne) ∧ v1p.cell? ⟨g + 1, 4, none⟩ = some (.int .i64 t.ns) ∧ v1p.cell? ⟨g + 1, 5, none⟩ = some (.int .i64 t.nc) ∧ v1p.cell? ⟨g + 1, 6, none⟩ = some (.int .i64 t.nw) ∧ v1p.cell? ⟨g + 1, 7, none⟩ = some (.int .i64 t.nr) ∧ v1p.cell? ⟨g + 1, 8, none⟩ = some (.int .i64 t.nu) := held10 jc1p jt1p
          have b2p : Below wc.heap.size wc (v1p.alloc (.cells #[.string t.tok, .slice t.A t.n t.c, .int .i64 t.nb, .int .i64 t.ne, .int .i64 t.ns, .int .i64 t.nc, .int .i64 t.nw, .int .i64 t.nr, .int .i64 t.nu] 27)) := b1p.alloc b1p.size _
          have ow2p : OwnT (v1p.alloc (.cells #[.string t.tok, .slice t.A t.n t.c, .int .i64 t.nb, .int .i64 t.ne, .int .i64 t.ns, .int .i64 t.nc, .int .i64 t.nw, .int .i64 t.nr, .int .i64 t.nu] 27)) u1p o1p (L.take k) := own1p.kept ((Turn.refl (fun _ => False) v1p).alloc _) (fun _ _ h => h)
          have sr2p : SrcT (v1p.alloc (.cells #[.string t.tok, .slice t.A t.n t.c, .int .i64 t.nb, .int .i64 t.ne, .int .i64 t.ns, .int .i64 t.nc, .int .i64 t.nw, .int .i64 t.nr, .int .i64 t.nu] 27)) (fun _ => True) (some ⟨v1p.heap.size, 0, none⟩) [t] := srct_is (t := 27) (TeE.box (w := v1p) (t := t))
          have jc2p := is_below Jc.out (BY.out.trans (b2p.mono BY.out.size))
          have jt2p := is_below Jt.out (BY.out.trans (b2p.mono BY.out.size))
          have z2p : (v1p.alloc (.cells #[.string t.tok, .slice t.A t.n t.c, .int .i64 t.nb, .int .i64 t.ne, .int .i64 t.ns, .int .i64 t.nc, .int .i64 t.nw, .int .i64 t.nr, .int .i64 t.nu] 27)).cell? ⟨g, 0, none⟩ = some (.slice A n c) ∧ (v1p.alloc (.cells #[.string t.tok, .slice t.A t.n t.c, .int .i64 t.nb, .int .i64 t.ne, .int .i64 t.ns, .int .i64 t.nc, .int .i64 t.nw, .int .i64 t.nr, .int .i64 t.nu] 27)).cell? ⟨g + 1, 0, none⟩ = some (.string t.tok) ∧ (v1p.alloc (.cells #[.string t.tok, .slice t.A t.n t.c, .int .i64 t.nb, .int .i64 t.ne, .int .i64 t.ns, .int .i64 t.nc, .int .i64 t.nw, .int .i64 t.nr, .int .i64 t.nu] 27)).cell? ⟨g + 1, 1, none⟩ = some (.slice t.A t.n t.c) ∧ (v1p.alloc (.cells #[.string t.tok, .slice t.A t.n t.c, .int .i64 t.nb, .int .i64 t.ne, .int .i64 t.ns, .int .i64 t.nc, .int .i64 t.nw, .int .i64 t.nr, .int .i64 t.nu] 27)).cell? ⟨g + 1, 2, none⟩ = some (.int .i64 t.nb) ∧ (v1p.alloc (.cells #[.string t.tok, .slice t.A t.n t.c, .int .i64 t.nb, .int .i64 t.ne, .int .i64 t.ns, .int .i64 t.nc, .int .i64 t.nw, .int .i64 t.nr, .int .i64 t.nu] 27)).cell? ⟨g + 1, 3, none⟩ = some (.int .i64 t.ne) ∧ (v1p.alloc (.cells #[.string t.tok, .slice t.A t.n t.c, .int .i64 t.nb, .int .i64 t.ne, .int .i64 t.ns, .int .i64 t.nc, .int .i64 t.nw, .int .i64 t.nr, .int .i64 t.nu] 27)).cell? ⟨g + 1, 4, none⟩ = some (.int .i64 t.ns) ∧ (v1p.alloc (.cells #[.string t.tok, .slice t.A t.n t.c, .int .i64 t.nb, .int .i64 t.ne, .int .i64 t.ns, .int .i64 t.nc, .int .i64 t.nw, .int .i64 t.nr, .int .i64 t.nu] 27)).cell? ⟨g + 1, 5, none⟩ = some (.int .i64 t.nc) ∧ (v1p.alloc (.cells #[.string t.tok, .slice t.A t.n t.c, .int .i64 t.nb, .int .i64 t.ne, .int .i64 t.ns, .int .i64 t.nc, .int .i64 t.nw, .int .i64 t.nr, .int .i64 t.nu] 27)).cell? ⟨g + 1, 6, none⟩ = some (.int .i64 t.nw) ∧ (v1p.alloc (.cells #[.string t.tok, .slice t.A t.n t.c, .int .i64 t.nb, .int .i64 t.ne, .int .i64 t.ns, .int .i64 t.nc, .int .i64 t.nw, .int .i64 t.nr, .int .i64 t.nu] 27)).cell? ⟨g + 1, 7, none⟩ = some (.int .i64 t.nr) ∧ (v1p.alloc (.cells #[.string t.tok, .slice t.A t.n t.c, .int .i64 t.nb, .int .i64 t.ne, .int .i64 t.ns, .int .i64 t.nc, .int .i64 t.nw, .int .i64 t.nr, .int .i64 t.nu] 27)).cell? ⟨g + 1, 8, none⟩ = some (.int .i64 t.nu) := held10 jc2p jt2p
          obtain ⟨u2p, v2p, o2p, r2p, own2p, t2p, ho2p⟩ := run_append_tes (v1p.alloc (.cells #[.string t.tok, .slice t.A t.n t.c, .int .i64 t.nb, .int .i64 t.ne, .int .i64 t.ns, .int .i64 t.nc, .int .i64 t.nw, .int .i64 t.nr, .int .i64 t.nu] 27)) u1p o1p (L.take k) [t] ow2p (some ⟨v1p.heap.size, 0, none⟩) 1 1 rfl sr2p (by rw [l1, List.length_singleton]; omega)
          have s2p : wc.heap.size ≤ ((v1p.alloc (.cells #[.string t.tok, .slice t.A t.n t.c, .int .i64 t.nb, .int .i64 t.ne, .int .i64 t.ns, .int .i64 t.nc, .int .i64 t.nw, .int .i64 t.nr, .int .i64 t.nu] 27))).heap.size := b2p.size
          have g2p : ∀ b, o2p = some b → wc.heap.size ≤ b := fun b hb => by rcases ho2p b hb with h | h; exact g1p b h; exact Nat.le_trans s2p h
          have b3p : Below wc.heap.size wc v2p := (own_turn b2p g1p t2p (o' := none) (fun _ h => by cases h)).1
          have jc3p := is_below Jc.out (BY.out.trans (b3p.mono BY.out.size))
          have jt3p := is_below Jt.out (BY.out.trans (b3p.mono BY.out.size))
          have z3p : v2p.cell? ⟨g, 0, none⟩ = some (.slice A n c) ∧ v2p.cell? ⟨g + 1, 0, none⟩ = some (.string t.tok) ∧ v2p.cell? ⟨g + 1, 1, none⟩ = some (.slice t.A t.n t.c) ∧ v2p.cell? ⟨g + 1, 2, none⟩ = some (.int .i64 t.nb) ∧ v2p.cell? ⟨g + 1, 3, none⟩ = some (.int .i64 t.ne) ∧ v2p.cell? ⟨g + 1, 4, none⟩ = some (.int .i64 t.ns) ∧ v2p.cell? ⟨g + 1, 5, none⟩ = some (.int .i64 t.nc) ∧ v2p.cell? ⟨g + 1, 6, none⟩ = some (.int .i64 t.nw) ∧ v2p.cell? ⟨g + 1, 7, none⟩ = some (.int .i64 t.nr) ∧ v2p.cell? ⟨g + 1, 8, none⟩ = some (.int .i64 t.nu) := held10 jc3p jt3p
          obtain ⟨u3p, v3p, o3p, r3p, own3p, t3p, ho3p⟩ := run_append_tes v2p u2p o2p (L.take k ++ [t]) (L.drop k) own2p A2 n2 c2 l2 (src2 _ _ _ HN.out (H.out.below (BW2.out.trans (b3p.mono BW2.out.size)))) (by rw [l3, l2]; omega)
          rw [HMS.out] at own3p
          have s3p : wc.heap.size ≤ v2p.heap.size := b3p.size
          have g3p : ∀ b, o3p = some b → wc.heap.size ≤ b := fun b hb => by rcases ho3p b hb with h | h; exact g2p b h; exact Nat.le_trans s3p h
          have b4p : Below wc.heap.size wc v3p := (own_turn b3p g2p t3p (o' := none) (fun _ h => by cases h)).1
          have jc4p := is_below Jc.out (BY.out.trans (b4p.mono BY.out.size))
          have jt4p := is_below Jt.out (BY.out.trans (b4p.mono BY.out.size))
          have z4p : v3p.cell? ⟨g, 0, none⟩ = some (.slice A n c) ∧ v3p.cell? ⟨g + 1, 0, none⟩ = some (.string t.tok) ∧ v3p.cell? ⟨g + 1, 1, none⟩ = some (.slice t.A t.n t.c) ∧ v3p.cell? ⟨g + 1, 2, none⟩ = some (.int .i64 t.nb) ∧ v3p.cell? ⟨g + 1, 3, none⟩ = some (.int .i64 t.ne) ∧ v3p.cell? ⟨g + 1, 4, none⟩ = some (.int .i64 t.ns) ∧ v3p.cell? ⟨g + 1, 5, none⟩ = some (.int .i64 t.nc) ∧ v3p.cell? ⟨g + 1, 6, none⟩ = some (.int .i64 t.nw) ∧ v3p.cell? ⟨g + 1, 7, none⟩ = some (.int .i64 t.nr) ∧ v3p.cell? ⟨g + 1, 8, none⟩ = some (.int .i64 t.nu) := held10 jc4p jt4p
          obtain ⟨A6p, c6p, hv6p, _⟩ := own3p.src (fun _ => True) (fun _ _ => trivial)
          rw [HR.out] at hv6p
          subst hv6p
          have i9p := is_below J9.out b4p
          have i8p := is_below J8.out b4p
          have y9p : v3p.cell? ⟨g9, 0, none⟩ = some (.slice A n c) := by simpa using i9p.cell 0
          have f9p : v3p.frozen? ⟨g9, 0, none⟩ = false := i9p.free 0
          have z5p : (v3p.setCell ⟨g9, 0, none⟩ (.slice A6p r c6p)).cell? ⟨g, 0, none⟩ = some (.slice A n c) ∧ (v3p.setCell ⟨g9, 0, none⟩ (.slice A6p r c6p)).cell? ⟨g + 1, 0, none⟩ = some (.string t.tok) ∧ (v3p.setCell ⟨g9, 0, none⟩ (.slice A6p r c6p)).cell? ⟨g + 1, 1, none⟩ = some (.slice t.A t.n t.c) ∧ (v3p.setCell ⟨g9, 0, none⟩ (.slice A6p r c6p)).cell? ⟨g + 1, 2, none⟩ = some (.int .i64 t.nb) ∧ (v3p.setCell ⟨g9, 0, none⟩ (.slice A6p r c6p)).cell? ⟨g + 1, 3, none⟩ = some (.int .i64 t.ne) ∧ (v3p.setCell ⟨g9, 0, none⟩ (.slice A6p r c6p)).cell? ⟨g + 1, 4, none⟩ = some (.int .i64 t.ns) ∧ (v3p.setCell ⟨g9, 0, none⟩ (.slice A6p r c6p)).cell? ⟨g + 1, 5, none⟩ = some (.int .i64 t.nc) ∧ (v3p.setCell ⟨g9, 0, none⟩ (.slice A6p r c6p)).cell? ⟨g + 1, 6, none⟩ = some (.int .i64 t.nw) ∧ (v3p.setCell ⟨g9, 0, none⟩ (.slice A6p r c6p)).cell? ⟨g + 1, 7, none⟩ = some (.int .i64 t.nr) ∧ (v3p.setCell ⟨g9, 0, none⟩ (.slice A6p r c6p)).cell? ⟨g + 1, 8, none⟩ = some (.int .i64 t.nu) := held10 (jc4p.far (p := ⟨g9, 0, none⟩) (by show g ≠ g9; omega) _) (jt4p.far (p := ⟨g9, 0, none⟩) (by show g + 1 ≠ g9; omega) _)
          have Tp := ((Turn.refl (fun k => k = g9) v3p).setCell (p := ⟨g9, 0, none⟩) (fun _ => rfl) (.slice A6p r c6p))
          have F9p := Lib.hid (i9p.set 0 (.slice A6p r c6p))
          have F8p := Lib.hid (i8p.far (p := ⟨g9, 0, none⟩) (fun e => hne e.symm) (.slice A6p r c6p))
          have FOp := Lib.hid (own3p.kept Tp (fun b hb e => by have := g3p b hb; omega))
          have F5p := Lib.hid ((O5.out.below b4p).kept Tp (fun b hb e => (G5.out b hb).1 e))
          have FBp : Hid (Below w1.heap.size w1 (v3p.setCell ⟨g9, 0, none⟩ (.slice A6p r c6p))) := Lib.hid ((BY.out.trans (b4p.mono BY.out.size)).trans ⟨Tp.os, Tp.tape, Tp.output, Tp.size, fun b hb => Tp.block b (by have := BY.out.size; have := b4p.size; omega) (by omega)⟩)
          have R1p := Lib.hid r1p
          have R2p := Lib.hid r2p
          have R3p := Lib.hid r3p
          have b0q : Below wc.heap.size wc (wc.alloc (.cells #[.string t.tok, .slice t.A t.n t.c, .int .i64 t.nb, .int .i64 t.ne, .int .i64 t.ns, .int .i64 t.nc, .int .i64 t.nw, .int .i64 t.nr, .int .i64 t.nu] 27)).drew := below_drewL ((Below.refl _ _).alloc (Nat.le_refl _) _)
          have jc0q := is_below Jc.out (BY.out.trans (b0q.mono BY.out.size))
          have jt0q := is_below Jt.out (BY.out.trans (b0q.mono BY.out.size))
          have z0q : (wc.alloc (.cells #[.string t.tok, .slice t.A t.n t.c, .int .i64 t.nb, .int .i64 t.ne, .int .i64 t.ns, .int .i64 t.nc, .int .i64 t.nw, .int .i64 t.nr, .int .i64 t.nu] 27)).drew.cell? ⟨g, 0, none⟩ = some (.slice A n c) ∧ (wc.alloc (.cells #[.string t.tok, .slice t.A t.n t.c, .int .i64 t.nb, .int .i64 t.ne, .int .i64 t.ns, .int .i64 t.nc, .int .i64 t.nw, .int .i64 t.nr, .int .i64 t.nu] 27)).drew.cell? ⟨g + 1, 0, none⟩ = some (.string t.tok) ∧ (wc.alloc (.cells #[.string t.tok, .slice t.A t.n t.c, .int .i64 t.nb, .int .i64 t.ne, .int .i64 t.ns, .int .i64 t.nc, .int .i64 t.nw, .int .i64 t.nr, .int .i64 t.nu] 27)).drew.cell? ⟨g + 1, 1, none⟩ = some (.slice t.A t.n t.c) ∧ (wc.alloc (.cells #[.string t.tok, .slice t.A t.n t.c, .int .i64 t.nb, .int .i64 t.ne, .int .i64 t.ns, .int .i64 t.nc, .int .i64 t.nw, .int .i64 t.nr, .int .i64 t.nu] 27)).drew.cell? ⟨g + 1, 2, none⟩ = some (.int .i64 t.nb) ∧ (wc.alloc (.cells #[.string t.tok, .slice t.A t.n t.c, .int .i64 t.nb, .int .i64 t.ne, .int .i64 t.ns, .int .i64 t.nc, .int .i64 t.nw, .int .i64 t.nr, .int .i64 t.nu] 27)).drew.cell? ⟨g + 1, 3, none⟩ = some (.int .i64 t.ne) ∧ (wc.alloc (.cells #[.string t.tok, .slice t.A t.n t.c, .int .i64 t.nb, .int .i64 t.ne, .int .i64 t.ns, .int .i64 t.nc, .int .i64 t.nw, .int .i64 t.nr, .int .i64 t.nu] 27)).drew.cell? ⟨g + 1, 4, none⟩ = some (.int .i64 t.ns) ∧ (wc.alloc (.cells #[.string t.tok, .slice t.A t.n t.c, .int .i64 t.nb, .int .i64 t.ne, .int .i64 t.ns, .int .i64 t.nc, .int .i64 t.nw, .int .i64 t.nr, .int .i64 t.nu] 27)).drew.cell? ⟨g + 1, 5, none⟩ = some (.int .i64 t.nc) ∧ (wc.alloc (.cells #[.string t.tok, .slice t.A t.n t.c, .int .i64 t.nb, .int .i64 t.ne, .int .i64 t.ns, .int .i64 t.nc, .int .i64 t.nw, .int .i64 t.nr, .int .i64 t.nu] 27)).drew.cell? ⟨g + 1, 6, none⟩ = some (.int .i64 t.nw) ∧ (wc.alloc (.cells #[.string t.tok, .slice t.A t.n t.c, .int .i64 t.nb, .int .i64 t.ne, .int .i64 t.ns, .int .i64 t.nc, .int .i64 t.nw, .int .i64 t.nr, .int .i64 t.nu] 27)).drew.cell? ⟨g + 1, 7, none⟩ = some (.int .i64 t.nr) ∧ (wc.alloc (.cells #[.string t.tok, .slice t.A t.n t.c, .int .i64 t.nb, .int .i64 t.ne, .int .i64 t.ns, .int .i64 t.nc, .int .i64 t.nw, .int .i64 t.nr, .int .i64 t.nu] 27)).drew.cell? ⟨g + 1, 8, none⟩ = some (.int .i64 t.nu) := held10 jc0q jt0q
          obtain ⟨u1q, v1q, o1q, r1q, own1q, t1q, ho1q⟩ := run_append_tes (wc.alloc (.cells #[.string t.tok, .slice t.A t.n t.c, .int .i64 t.nb, .int .i64 t.ne, .int .i64 t.ns, .int .i64 t.nc, .int .i64 t.nw, .int .i64 t.nr, .int .i64 t.nu] 27)).drew (.slice none 0 0) none [] (L.take k) (OwnT.nil _) A1 k c l1 (src1 _ _ _ (H.out.below (BW2.out.trans (b0q.mono BW2.out.size)))) (by simp only [List.length_nil, l1]; omega)
          rw [List.nil_append] at own1q
          have s0q : wc.heap.size ≤ ((wc.alloc (.cells #[.string t.tok, .slice t.A t.n t.c, .int .i64 t.nb, .int .i64 t.ne, .int .i64 t.ns, .int .i64 t.nc, .int .i64 t.nw, .int .i64 t.nr, .int .i64 t.nu] 27)).drew).heap.size := b0q.size
          have g1q : ∀ b, o1q = some b → wc.heap.size ≤ b := fun b hb => by rcases ho1q b hb with h | h; (cases h); exact Nat.le_trans s0q h
          have b1q : Below wc.heap.size wc v1q := b0q.trans ((t1q.below (fun k hk h => by cases h)).mono s0q)
          have jc1q := is_below Jc.out (BY.out.trans (b1q.mono BY.out.size))
          have jt1q := is_below Jt.out (BY.out.trans (b1q.mono BY.out.size))
          have z1q : v1q.cell? ⟨g, 0, none⟩ = some (.slice A n c) ∧ v1q.cell? ⟨g + 1, 0, none⟩ = some (.string t.tok) ∧ v1q.cell? ⟨g + 1, 1, none⟩ = some (.slice t.A t.n t.c) ∧ v1q.cell? ⟨g + 1, 2, none⟩ = some (.int .i64 t.nb) ∧ v1q.cell? ⟨g + 1, 3, none⟩ = some (.int .i64 t.ne) ∧ v1q.cell? ⟨g + 1, 4, none⟩ = some (.int .i64 t.ns) ∧ v1q.cell? ⟨g + 1, 5, none⟩ = some (.int .i64 t.nc) ∧ v1q.cell? ⟨g + 1, 6, none⟩ = some (.int .i64 t.nw) ∧ v1q.cell? ⟨g + 1, 7, none⟩ = some (.int .i64 t.nr) ∧ v1q.cell? ⟨g + 1, 8, none⟩ = some (.int .i64 t.nu) := held10 jc1q jt1q
          have ow2q := own1q
          have sr2q : SrcT v1q (fun _ => True) (some ⟨wc.heap.size, 0, none⟩) [t] := srct_is (t := 27) ((TeE.box (w := wc) (t := t)).drew.kept t1q (fun h => by cases h))
          have b2q := b1q
          obtain ⟨u2q, v2q, o2q, r2q, own2q, t2q, ho2q⟩ := run_append_tes v1q u1q o1q (L.take k) [t] ow2q (some ⟨wc.heap.size, 0, none⟩) 1 1 rfl sr2q (by rw [l1, List.length_singleton]; omega)
          have s2q : wc.heap.size ≤ (v1q).heap.size := b2q.size
          have g2q : ∀ b, o2q = some b → wc.heap.size ≤ b := fun b hb => by rcases ho2q b hb with h | h; exact g1q b h; exact Nat.le_trans s2q h
          have b3q : Below wc.heap.size wc v2q := (own_turn b2q g1q t2q (o' := none) (fun _ h => by cases h)).1
          have jc3q := is_below Jc.out (BY.out.trans (b3q.mono BY.out.size))
          have jt3q := is_below Jt.out (BY.out.trans (b3q.mono BY.out.size))
          have z3q : v2q.cell? ⟨g, 0, none⟩ = some (.slice A n c) ∧ v2q.cell? ⟨g + 1, 0, none⟩ = some (.string t.tok) ∧ v2q.cell? ⟨g + 1, 1, none⟩ = some (.slice t.A t.n t.c) ∧ v2q.cell? ⟨g + 1, 2, none⟩ = some (.int .i64 t.nb) ∧ v2q.cell? ⟨g + 1, 3, none⟩ = some (.int .i64 t.ne) ∧ v2q.cell? ⟨g + 1, 4, none⟩ = some (.int .i64 t.ns) ∧ v2q.cell? ⟨g + 1, 5, none⟩ = some (.int .i64 t.nc) ∧ v2q.cell? ⟨g + 1, 6, none⟩ = some (.int .i64 t.nw) ∧ v2q.cell? ⟨g + 1, 7, none⟩ = some (.int .i64 t.nr) ∧ v2q.cell? ⟨g + 1, 8, none⟩ = some (.int .i64 t.nu) := held10 jc3q jt3q
          obtain ⟨u3q, v3q, o3q, r3q, own3q, t3q, ho3q⟩ := run_append_tes v2q u2q o2q (L.take k ++ [t]) (L.drop k) own2q A2 n2 c2 l2 (src2 _ _ _ HN.out (H.out.below (BW2.out.trans (b3q.mono BW2.out.size)))) (by rw [l3, l2]; omega)
          rw [HMS.out] at own3q
          have s3q : wc.heap.size ≤ v2q.heap.size := b3q.size
          have g3q : ∀ b, o3q = some b → wc.heap.size ≤ b := fun b hb => by rcases ho3q b hb with h | h; exact g2q b h; exact Nat.le_trans s3q h
          have b4q : Below wc.heap.size wc v3q := (own_turn b3q g2q t3q (o' := none) (fun _ h => by cases h)).1
          have jc4q := is_below Jc.out (BY.out.trans (b4q.mono BY.out.size))
          have jt4q := is_below Jt.out (BY.out.trans (b4q.mono BY.out.size))
          have z4q : v3q.cell? ⟨g, 0, none⟩ = some (.slice A n c) ∧ v3q.cell? ⟨g + 1, 0, none⟩ = some (.string t.tok) ∧ v3q.cell? ⟨g + 1, 1, none⟩ = some (.slice t.A t.n t.c) ∧ v3q.cell? ⟨g + 1, 2, none⟩ = some (.int .i64 t.nb) ∧ v3q.cell? ⟨g + 1, 3, none⟩ = some (.int .i64 t.ne) ∧ v3q.cell? ⟨g + 1, 4, none⟩ = some (.int .i64 t.ns) ∧ v3q.cell? ⟨g + 1, 5, none⟩ = some (.int .i64 t.nc) ∧ v3q.cell? ⟨g + 1, 6, none⟩ = some (.int .i64 t.nw) ∧ v3q.cell? ⟨g + 1, 7, none⟩ = some (.int .i64 t.nr) ∧ v3q.cell? ⟨g + 1, 8, none⟩ = some (.int .i64 t.nu) := held10 jc4q jt4q
          obtain ⟨A6q, c6q, hv6q, _⟩ := own3q.src (fun _ => True) (fun _ _ => trivial)
          rw [HR.out] at hv6q
          subst hv6q
          have i9q := is_below J9.out b4q
          have i8q := is_below J8.out b4q
          have y9q : v3q.cell? ⟨g9, 0, none⟩ = some (.slice A n c) := by simpa using i9q.cell 0
          have f9q : v3q.frozen? ⟨g9, 0, none⟩ = false := i9q.free 0
          have z5q : (v3q.setCell ⟨g9, 0, none⟩ (.slice A6q r c6q)).cell? ⟨g, 0, none⟩ = some (.slice A n c) ∧ (v3q.setCell ⟨g9, 0, none⟩ (.slice A6q r c6q)).cell? ⟨g + 1, 0, none⟩ = some (.string t.tok) ∧ (v3q.setCell ⟨g9, 0, none⟩ (.slice A6q r c6q)).cell? ⟨g + 1, 1, none⟩ = some (.slice t.A t.n t.c) ∧ (v3q.setCell ⟨g9, 0, none⟩ (.slice A6q r c6q)).cell? ⟨g + 1, 2, none⟩ = some (.int .i64 t.nb) ∧ (v3q.setCell ⟨g9, 0, none⟩ (.slice A6q r c6q)).cell? ⟨g + 1, 3, none⟩ = some (.int .i64 t.ne) ∧ (v3q.setCell ⟨g9, 0, none⟩ (.slice A6q r c6q)).cell? ⟨g + 1, 4, none⟩ = some (.int .i64 t.ns) ∧ (v3q.setCell ⟨g9, 0, none⟩ (.slice A6q r c6q)).cell? ⟨g + 1, 5, none⟩ = some (.int .i64 t.nc) ∧ (v3q.setCell ⟨g9, 0, none⟩ (.slice A6q r c6q)).cell? ⟨g + 1, 6, none⟩ = some (.int .i64 t.nw) ∧ (v3q.setCell ⟨g9, 0, none⟩ (.slice A6q r c6q)).cell? ⟨g + 1, 7, none⟩ = some (.int .i64 t.nr) ∧ (v3q.setCell ⟨g9, 0, none⟩ (.slice A6q r c6q)).cell? ⟨g + 1, 8, none⟩ = some (.int .i64 t.nu) := held10 (jc4q.far (p := ⟨g9, 0, none⟩) (by show g ≠ g9; omega) _) (jt4q.far (p := ⟨g9, 0, none⟩) (by show g + 1 ≠ g9; omega) _)
          have Tq := ((Turn.refl (fun k => k = g9) v3q).setCell (p := ⟨g9, 0, none⟩) (fun _ => rfl) (.slice A6q r c6q))
          have F9q := Lib.hid (i9q.set 0 (.slice A6q r c6q))
          have F8q := Lib.hid (i8q.far (p := ⟨g9, 0, none⟩) (fun e => hne e.symm) (.slice A6q r c6q))
          have FOq := Lib.hid (own3q.kept Tq (fun b hb e => by have := g3q b hb; omega))
          have F5q := Lib.hid ((O5.out.below b4q).kept Tq (fun b hb e => (G5.out b hb).1 e))
          have FBq : Hid (Below w1.heap.size w1 (v3q.setCell ⟨g9, 0, none⟩ (.slice A6q r c6q))) := Lib.hid ((BY.out.trans (b4q.mono BY.out.size)).trans ⟨Tq.os, Tq.tape, Tq.output, Tq.size, fun b hb => Tq.block b (by have := BY.out.size; have := b4q.size; omega) (by omega)⟩)
          have R1q := Lib.hid r1q
          have R2q := Lib.hid r2q
          have R3q := Lib.hid r3q
          have z : wc.cell? ⟨g, 0, none⟩ = some (.slice A n c) ∧ wc.cell? ⟨g + 1, 0, none⟩ = some (.string t.tok) ∧ wc.cell? ⟨g + 1, 1, none⟩ = some (.slice t.A t.n t.c) ∧ wc.cell? ⟨g + 1, 2, none⟩ = some (.int .i64 t.nb) ∧ wc.cell? ⟨g + 1, 3, none⟩ = some (.int .i64 t.ne) ∧ wc.cell? ⟨g + 1, 4, none⟩ = some (.int .i64 t.ns) ∧ wc.cell? ⟨g + 1, 5, none⟩ = some (.int .i64 t.nc) ∧ wc.cell? ⟨g + 1, 6, none⟩ = some (.int .i64 t.nw) ∧ wc.cell? ⟨g + 1, 7, none⟩ = some (.int .i64 t.nr) ∧ wc.cell? ⟨g + 1, 8, none⟩ = some (.int .i64 t.nu) := held10 (is_below Jc.out BY.out) (is_below Jt.out BY.out)
          have za : (wc.alloc (.cells #[.string t.tok, .slice t.A t.n t.c, .int .i64 t.nb, .int .i64 t.ne, .int .i64 t.ns, .int .i64 t.nc, .int .i64 t.nw, .int .i64 t.nr, .int .i64 t.nu] 27)).cell? ⟨g, 0, none⟩ = some (.slice A n c) ∧ (wc.alloc (.cells #[.string t.tok, .slice t.A t.n t.c, .int .i64 t.nb, .int .i64 t.ne, .int .i64 t.ns, .int .i64 t.nc, .int .i64 t.nw, .int .i64 t.nr, .int .i64 t.nu] 27)).cell? ⟨g + 1, 0, none⟩ = some (.string t.tok) ∧ (wc.alloc (.cells #[.string t.tok, .slice t.A t.n t.c, .int .i64 t.nb, .int .i64 t.ne, .int .i64 t.ns, .int .i64 t.nc, .int .i64 t.nw, .int .i64 t.nr, .int .i64 t.nu] 27)).cell? ⟨g + 1, 1, none⟩ = some (.slice t.A t.n t.c) ∧ (wc.alloc (.cells #[.string t.tok, .slice t.A t.n t.c, .int .i64 t.nb, .int .i64 t.ne, .int .i64 t.ns, .int .i64 t.nc, .int .i64 t.nw, .int .i64 t.nr, .int .i64 t.nu] 27)).cell? ⟨g + 1, 2, none⟩ = some (.int .i64 t.nb) ∧ (wc.alloc (.cells #[.string t.tok, .slice t.A t.n t.c, .int .i64 t.nb, .int .i64 t.ne, .int .i64 t.ns, .int .i64 t.nc, .int .i64 t.nw, .int .i64 t.nr, .int .i64 t.nu] 27)).cell? ⟨g + 1, 3, none⟩ = some (.int .i64 t.ne) ∧ (wc.alloc (.cells #[.string t.tok, .slice t.A t.n t.c, .int .i64 t.nb, .int .i64 t.ne, .int .i64 t.ns, .int .i64 t.nc, .int .i64 t.nw, .int .i64 t.nr, .int .i64 t.nu] 27)).cell? ⟨g + 1, 4, none⟩ = some (.int .i64 t.ns) ∧ (wc.alloc (.cells #[.string t.tok, .slice t.A t.n t.c, .int .i64 t.nb, .int .i64 t.ne, .int .i64 t.ns, .int .i64 t.nc, .int .i64 t.nw, .int .i64 t.nr, .int .i64 t.nu] 27)).cell? ⟨g + 1, 5, none⟩ = some (.int .i64 t.nc) ∧ (wc.alloc (.cells #[.string t.tok, .slice t.A t.n t.c, .int .i64 t.nb, .int .i64 t.ne, .int .i64 t.ns, .int .i64 t.nc, .int .i64 t.nw, .int .i64 t.nr, .int .i64 t.nu] 27)).cell? ⟨g + 1, 6, none⟩ = some (.int .i64 t.nw) ∧ (wc.alloc (.cells #[.string t.tok, .slice t.A t.n t.c, .int .i64 t.nb, .int .i64 t.ne, .int .i64 t.ns, .int .i64 t.nc, .int .i64 t.nw, .int .i64 t.nr, .int .i64 t.nu] 27)).cell? ⟨g + 1, 7, none⟩ = some (.int .i64 t.nr) ∧ (wc.alloc (.cells #[.string t.tok, .slice t.A t.n t.c, .int .i64 t.nb, .int .i64 t.ne, .int .i64 t.ns, .int .i64 t.nc, .int .i64 t.nw, .int .i64 t.nr, .int .i64 t.nu] 27)).cell? ⟨g + 1, 8, none⟩ = some (.int .i64 t.nu) := held10 ((is_below Jc.out BY.out).alloc _) ((is_below Jt.out BY.out).alloc _)
          clear own1p own2p own3p t1p t2p t3p ho1p ho2p ho3p r1p r2p r3p g1p g2p g3p b1p b2p b3p b4p i8p i9p jc0p jt0p jc1p jt1p jc3p jt3p jc4p jt4p ow2p sr2p Tp b0p own1q own2q own3q t1q t2q t3q ho1q ho2q ho3q r1q r2q r3q g1q g2q g3q b1q b2q b3q b4q i8q i9q jc0q jt0q jc1q jt1q jc3q jt3q jc4q jt4q ow2q sr2q Tq b0q src1 src2 jc2p jt2p
          go_region_held3 (fun w' => w'.cell? ⟨g, 0, none⟩ = some (.slice A n c) ∧ w'.cell? ⟨g + 1, 0, none⟩ = some (.string t.tok) ∧ w'.cell? ⟨g + 1, 1, none⟩ = some (.slice t.A t.n t.c) ∧ w'.cell? ⟨g + 1, 2, none⟩ = some (.int .i64 t.nb) ∧ w'.cell? ⟨g + 1, 3, none⟩ = some (.int .i64 t.ne) ∧ w'.cell? ⟨g + 1, 4, none⟩ = some (.int .i64 t.ns) ∧ w'.cell? ⟨g + 1, 5, none⟩ = some (.int .i64 t.nc) ∧ w'.cell? ⟨g + 1, 6, none⟩ = some (.int .i64 t.nw) ∧ w'.cell? ⟨g + 1, 7, none⟩ = some (.int .i64 t.nr) ∧ w'.cell? ⟨g + 1, 8, none⟩ = some (.int .i64 t.nu)) (first | exact z | exact za | exact z0p | exact z1p | exact z2p | exact z3p | exact z4p | exact z5p | exact z0q | exact z1q | exact z3q | exact z4q | exact z5q | go_keep)
            (first | ((with_reducible (show if _ = true then Oper.wp _ _ _ wc.drew _ _ else _)); refine step_append_by rfl (.const (.slice none 0 0)) (.tmp 39) 22 rfl (.slice none 0 0) (.slice A1 k c) u1p v1p rfl rfl R1p.out ?_) | ((with_reducible (show if _ = true then Oper.wp _ _ _ (v1p.alloc (.cells #[.string t.tok, .slice t.A t.n t.c, .int .i64 t.nb, .int .i64 t.ne, .int .i64 t.ns, .int .i64 t.nc, .int .i64 t.nw, .int .i64 t.nr, .int .i64 t.nu] 27)) _ _ else _)); refine step_append_by rfl (.tmp 40) (.tmp 42) 22 rfl u1p (.slice (some ⟨v1p.heap.size, 0, none⟩) 1 1) u2p v2p rfl rfl R2p.out ?_) | ((with_reducible (show if _ = true then Oper.wp _ _ _ v2p _ _ else _)); refine step_append_by rfl (.tmp 43) (.tmp 47) 22 rfl u2p (.slice A2 n2 c2) (.slice A6p r c6p) v3p rfl rfl R3p.out ?_) | ((with_reducible (show if _ = true then Oper.wp _ _ _ (wc.alloc (.cells #[.string t.tok, .slice t.A t.n t.c, .int .i64 t.nb, .int .i64 t.ne, .int .i64 t.ns, .int .i64 t.nc, .int .i64 t.nw, .int .i64 t.nr, .int .i64 t.nu] 27)).drew _ _ else _)); refine step_append_by rfl (.const (.slice none 0 0)) (.tmp 39) 22 rfl (.slice none 0 0) (.slice A1 k c) u1q v1q rfl rfl R1q.out ?_) | ((with_reducible (show if _ = true then Oper.wp _ _ _ v1q _ _ else _)); refine step_append_by rfl (.tmp 40) (.tmp 42) 22 rfl u1q (.slice (some ⟨wc.heap.size, 0, none⟩) 1 1) u2q v2q rfl rfl R2q.out ?_) | ((with_reducible (show if _ = true then Oper.wp _ _ _ v2q _ _ else _)); refine step_append_by rfl (.tmp 43) (.tmp 47) 22 rfl u2q (.slice A2 n2 c2) (.slice A6q r c6q) v3q rfl rfl R3q.out ?_))
          all_goals
            go_wp2_with fail
            go_meet
            first
              | exact ⟨A6p, c6p, o3p, F9p, FOp, F8p, F5p, FBp⟩
              | exact ⟨A6q, c6q, o3q, F9q, FOq, F8q, F5q, FBq⟩
        case rest =>
          obtain ⟨A6, c6, o6, K9, O6, K8, P5, BZ⟩ := hcut
          clear J8 O5 J9 BY BW
          have BW3 := Lib.hid (B1.out.trans (BZ.out.mono B1.out.size))
          clear G5 HL8 HL9 HNE hnk
          go_wp2_with fail
          go_loopw [10, 11] (fun vt vi wr => ∃ i : Nat, vi = .int .i64 (i : Int) ∧ i ≤ n ∧ vt = .bool (hasTok (L.take i) t) ∧ Hid (Below wc.heap.size wc wr)) (fun _ vi _ => n - (intOf vi).toNat)
          case atStart => exact ⟨0, rfl, Nat.zero_le _, rfl, Lib.hid (Below.refl _ _)⟩
          case round =>
            obtain ⟨i, rfl, hi, rfl, HB⟩ := hrel
            have BR := Lib.hid (BW3.out.trans (HB.out.mono BW3.out.size))
            have jc := is_below Jc.out (BZ.out.trans (HB.out.mono BZ.out.size))
            have jt := is_below Jt.out (BZ.out.trans (HB.out.mono BZ.out.size))
            have x0 := jc.cell 0
            have t0 := jt.cell 0
            simp only [TeE.cells, List.getElem?_cons_zero] at x0 t0
            have JC := Lib.hid jc
            have JT := Lib.hid jt
            clear jc jt
            by_cases hlt : i < n
            · obtain ⟨p, u, hu, hat, _, u0, _⟩ := H.out.at (c := c) HN.out hlt BR.out
              have HTK := Lib.hid (show hasTok (L.take (i + 1)) t = (hasTok (L.take i) t || (bl u.tok == bl t.tok)) by unfold hasTok; rw [take_snoc L i u hu, List.any_append]; simp)
              have HEQ := Lib.hid (eq_text u.tok t.tok)
              have BD := Lib.hid (fun m : Nat => below_drewX HB.out m)
              clear hu JC JT BR HB
              cases hb : hasTok (L.take i) t with
              | true =>
                rw [hb] at HTK
                clear hb
                go_wp2_with fail
                go_quiet (fail)
                have BN := Lib.hid (BD.out nq)
                go_wp2_with fail
                go_roundw
                case rel => exact ⟨i + 1, by go_num, hlt, by rw [HTK.out]; rfl, BN⟩
                case measure => simp [intOf]; omega
              | false =>
                rw [hb] at HTK
                clear hb
                cases hq : bl u.tok == bl t.tok with
                | true =>
                  rw [hq] at HTK HEQ
                  have e1 := HEQ.out
                  clear hq HEQ
                  have e2 := beq_iff_eq.1 e1
                  go_wp2_with fail
                  go_quiet (fail)
                  have BN := Lib.hid (BD.out nq)
                  go_wp2_with fail
                  go_roundw
                  case rel => exact ⟨i + 1, by go_num, hlt, by rw [HTK.out]; rfl, BN⟩
                  case measure => simp [intOf]; omega
                | false =>
                  rw [hq] at HTK HEQ
                  have e1 := HEQ.out
                  clear hq HEQ
                  have e2 := beq_eq_false_iff_ne.1 e1
                  go_wp2_with fail
                  go_quiet (fail)
                  have BN := Lib.hid (BD.out nq)
                  go_wp2_with fail
                  go_roundw
                  case rel => exact ⟨i + 1, by go_num, hlt, by rw [HTK.out]; rfl, BN⟩
                  case measure => simp [intOf]; omega
            · have HH := Lib.hid (show hasTok (L.take i) t = hasTok L t by rw [List.take_of_length_le (by rw [HN.out]; omega)])
              have Q8 := Lib.hid (is_below K8.out HB.out)
              have Q9 := Lib.hid (is_below K9.out HB.out)
              have OA := Lib.hid (P5.out.below HB.out)
              have OB := Lib.hid (O6.out.below HB.out)
              have hlk : k < L.length := by rw [HN.out]; exact HK.out
              have a1 := conf_less HCF.out hlk
              have a2 := conf_more (k := k) (t := t) HCF.out
              rw [HLS.out, HN.out] at a1
              rw [HMS.out, HN.out] at a2
              have okL : ∀ x ∈ LS, ∀ W, Below w.heap.size w W → x.Ok W := fun x hx W hB => by
                rw [← HLS.out] at hx
                rcases List.mem_append.1 hx with h | h
                · exact (HOK.out x (List.mem_of_mem_take h)).below hB
                · exact (HOK.out x (List.mem_of_mem_drop h)).below hB
              have okM : ∀ x ∈ MS, ∀ W, Below w.heap.size w W → x.Ok W := fun x hx W hB => by
                rw [← HMS.out] at hx
                rcases List.mem_append.1 hx with h | h
                · rcases List.mem_append.1 h with h | h
                  · exact (HOK.out x (List.mem_of_mem_take h)).below hB
                  · rw [List.mem_singleton.1 h]; exact HTO.out.below hB
                · exact (HOK.out x (List.mem_of_mem_drop h)).below hB
              have q8 : q ≤ 8 := by rw [← HQ.out, ← HLS.out, List.length_append, List.length_take, List.length_drop, HN.out]; omega
              have r9 : r ≤ 9 := by rw [← HR.out, ← HMS.out, List.length_append, List.length_append, List.length_take, List.length_drop, List.length_singleton, HN.out]; omega
              have C1 := Lib.hid (fun (W : World) (hr : Below wr.heap.size wr W) => config_any W A5 LS q c5 st ti HQ.out (by omega) (ownt_at (OA.out.below hr)) (fun x hx => okL x hx W (BR.out.trans (hr.mono BR.out.size))) (HP.out.below (BR.out.trans (hr.mono BR.out.size))))
              have C2 := Lib.hid (fun (W : World) (hr : Below wr.heap.size wr W) => config_any W A6 MS r c6 st ti HR.out (by omega) (ownt_at (OB.out.below hr)) (fun x hx => okM x hx W (BR.out.trans (hr.mono BR.out.size))) (HP.out.below (BR.out.trans (hr.mono BR.out.size))))
              have C3 := Lib.hid (fun (W : World) (hr : Below wr.heap.size wr W) => CT.out W (BR.out.trans (hr.mono BR.out.size)))
              have C4 := Lib.hid (fun (W : World) (hr : Below wr.heap.size wr W) => CW.out W (BR.out.trans (hr.mono BR.out.size)))
              rw [a1] at C1
              rw [a2] at C2
              rw [HH.out]
              have HW0 := Lib.hid BR.out
              clear okL okM a1 a2 HH CT CW CC HB BR x0 t0
              generalize hasTok L t = hh at *
              generalize tenF t = tf at *
              have x0 : wr.cell? ⟨g8, 0, none⟩ = some (.slice A5 q c5) ∧ wr.cell? ⟨g8, 1, none⟩ = some (.int .i64 st) ∧ wr.cell? ⟨g8, 2, none⟩ = some (.int .i64 ti) ∧ wr.cell? ⟨g9, 0, none⟩ = some (.slice A6 r c6) ∧ wr.cell? ⟨g9, 1, none⟩ = some (.int .i64 st) ∧ wr.cell? ⟨g9, 2, none⟩ = some (.int .i64 ti) ∧ wr.cell? ⟨g, 0, none⟩ = some (.slice A n c) ∧ wr.cell? ⟨g + 1, 0, none⟩ = some (.string t.tok) ∧ wr.cell? ⟨g + 1, 1, none⟩ = some (.slice t.A t.n t.c) ∧ wr.cell? ⟨g + 1, 2, none⟩ = some (.int .i64 t.nb) ∧ wr.cell? ⟨g + 1, 3, none⟩ = some (.int .i64 t.ne) ∧ wr.cell? ⟨g + 1, 4, none⟩ = some (.int .i64 t.ns) ∧ wr.cell? ⟨g + 1, 5, none⟩ = some (.int .i64 t.nc) ∧ wr.cell? ⟨g + 1, 6, none⟩ = some (.int .i64 t.nw) ∧ wr.cell? ⟨g + 1, 7, none⟩ = some (.int .i64 t.nr) ∧ wr.cell? ⟨g + 1, 8, none⟩ = some (.int .i64 t.nu) := held16 Q8.out Q9.out JC.out JT.out
              have D0 : Hid (Below wr.heap.size wr wr.drew) := Lib.hid (below_drewL (Below.refl _ _))
              have hd1 : decide ((1 : Int) < (n : Int)) = decide (1 < n) := by rw [Bool.eq_iff_iff, decide_eq_true_eq, decide_eq_true_eq]; omega
              have hd8 : decide ((n : Int) < 8) = decide (n < 8) := by rw [Bool.eq_iff_iff, decide_eq_true_eq, decide_eq_true_eq]; omega
              generalize decide (1 < n) = d1 at *
              generalize decide (n < 8) = d8 at *
              cases tf with
              | false =>
                simp only [Bool.false_and] at C2
                have CC1 := Lib.hid (C1.out wr.drew D0.out)
                go_wp2_with fail
                refine wp_region_held_drew (S := fun w' => w'.cell? ⟨g8, 0, none⟩ = some (.slice A5 q c5) ∧ w'.cell? ⟨g8, 1, none⟩ = some (.int .i64 st) ∧ w'.cell? ⟨g8, 2, none⟩ = some (.int .i64 ti) ∧ w'.cell? ⟨g9, 0, none⟩ = some (.slice A6 r c6) ∧ w'.cell? ⟨g9, 1, none⟩ = some (.int .i64 st) ∧ w'.cell? ⟨g9, 2, none⟩ = some (.int .i64 ti) ∧ w'.cell? ⟨g, 0, none⟩ = some (.slice A n c) ∧ w'.cell? ⟨g + 1, 0, none⟩ = some (.string t.tok) ∧ w'.cell? ⟨g + 1, 1, none⟩ = some (.slice t.A t.n t.c) ∧ w'.cell? ⟨g + 1, 2, none⟩ = some (.int .i64 t.nb) ∧ w'.cell? ⟨g + 1, 3, none⟩ = some (.int .i64 t.ne) ∧ w'.cell? ⟨g + 1, 4, none⟩ = some (.int .i64 t.ns) ∧ w'.cell? ⟨g + 1, 5, none⟩ = some (.int .i64 t.nc) ∧ w'.cell? ⟨g + 1, 6, none⟩ = some (.int .i64 t.nw) ∧ w'.cell? ⟨g + 1, 7, none⟩ = some (.int .i64 t.nr) ∧ w'.cell? ⟨g + 1, 8, none⟩ = some (.int .i64 t.nu)) (by kernel_rfl) x0 (fun hHeld => ?_)
                refine wpAnyH_take (i := 0) (oi := ⟨_, _, _, _, _, _⟩) (v := ?_) rfl (by kernel_rfl) (by kernel_rfl) (by kernel_rfl) (fun _ _ _ h => h) (Or.inl ⟨by rfl, ?_⟩) hHeld ?_
                rotate_left
                · intro w hSw
                  (try dsimp only at hSw)
                  go_simp
                  (try with_reducible rfl)
                (try simp only [Act.put, List.setIfInBounds_toArray, List.set_cons_zero, List.set_cons_succ])
                refine wpAnyH_take (i := 2) (oi := ⟨_, _, _, _, _, _⟩) (v := ?_) rfl (by kernel_rfl) (by kernel_rfl) (by kernel_rfl) (fun _ _ _ h => h) (Or.inl ⟨by rfl, ?_⟩) hHeld ?_
                rotate_left
                · intro w hSw
                  (try dsimp only at hSw)
                  go_simp
                  (try with_reducible rfl)
                (try simp only [Act.put, List.setIfInBounds_toArray, List.set_cons_zero, List.set_cons_succ])
                refine wpAnyH_take (i := 3) (oi := ⟨_, _, _, _, _, _⟩) (v := ?_) rfl (by kernel_rfl) (by kernel_rfl) (by kernel_rfl) (fun _ _ _ h => h) (Or.inl ⟨by rfl, ?_⟩) hHeld ?_
                rotate_left
                · intro w hSw
                  (try dsimp only at hSw)
                  go_simp
                  (try with_reducible rfl)
                (try simp only [Act.put, List.setIfInBounds_toArray, List.set_cons_zero, List.set_cons_succ])
                refine wpAnyH_take (i := 4) (oi := ⟨_, _, _, _, _, _⟩) (v := ?_) rfl (by kernel_rfl) (by kernel_rfl) (by kernel_rfl) (fun _ _ _ h => h) (Or.inl ⟨by rfl, ?_⟩) hHeld ?_
                rotate_left
                · intro w hSw
                  (try dsimp only at hSw)
                  go_simp
                  (try with_reducible rfl)
                (try simp only [Act.put, List.setIfInBounds_toArray, List.set_cons_zero, List.set_cons_succ])
                refine wpAnyH_take (i := 5) (oi := ⟨_, _, _, _, _, _⟩) (v := ?_) rfl (by kernel_rfl) (by kernel_rfl) (by kernel_rfl) (fun _ _ _ h => h) (Or.inl ⟨by rfl, ?_⟩) hHeld ?_
                rotate_left
                · intro w hSw
                  (try dsimp only at hSw)
                  go_simp
                  (try with_reducible rfl)
                (try simp only [Act.put, List.setIfInBounds_toArray, List.set_cons_zero, List.set_cons_succ])
                refine wpAnyH_ready (rs := [1]) (by kernel_rfl) (by simp) ?_
                refine AllReadyH.cons (o := ⟨_, _, _, _, _, _⟩) rfl (fun K hK => ?_) AllReadyH.nil
                go_simp
                refine CC1.out.mono ?_
                rintro e v1 ⟨rfl, b1⟩
                have D1 := Lib.hid (D0.out.trans (b1.mono D0.out.size))
                have x1 : v1.cell? ⟨g8, 0, none⟩ = some (.slice A5 q c5) ∧ v1.cell? ⟨g8, 1, none⟩ = some (.int .i64 st) ∧ v1.cell? ⟨g8, 2, none⟩ = some (.int .i64 ti) ∧ v1.cell? ⟨g9, 0, none⟩ = some (.slice A6 r c6) ∧ v1.cell? ⟨g9, 1, none⟩ = some (.int .i64 st) ∧ v1.cell? ⟨g9, 2, none⟩ = some (.int .i64 ti) ∧ v1.cell? ⟨g, 0, none⟩ = some (.slice A n c) ∧ v1.cell? ⟨g + 1, 0, none⟩ = some (.string t.tok) ∧ v1.cell? ⟨g + 1, 1, none⟩ = some (.slice t.A t.n t.c) ∧ v1.cell? ⟨g + 1, 2, none⟩ = some (.int .i64 t.nb) ∧ v1.cell? ⟨g + 1, 3, none⟩ = some (.int .i64 t.ne) ∧ v1.cell? ⟨g + 1, 4, none⟩ = some (.int .i64 t.ns) ∧ v1.cell? ⟨g + 1, 5, none⟩ = some (.int .i64 t.nc) ∧ v1.cell? ⟨g + 1, 6, none⟩ = some (.int .i64 t.nw) ∧ v1.cell? ⟨g + 1, 7, none⟩ = some (.int .i64 t.nr) ∧ v1.cell? ⟨g + 1, 8, none⟩ = some (.int .i64 t.nu) := held16 (is_below Q8.out D1.out) (is_below Q9.out D1.out) (is_below JC.out D1.out) (is_below JT.out D1.out)
                clear b1 hHeld
                have CC2 := Lib.hid (C2.out v1 D1.out)
                go_wp2_with fail
                refine hK.out _ _ x1 (fun hHeld => ?_)
                clear hK K
                (try simp only [Act.put, List.setIfInBounds_toArray, List.set_cons_zero, List.set_cons_succ])
                refine wpAnyH_take (i := 6) (oi := ⟨_, _, _, _, _, _⟩) (v := ?_) rfl (by kernel_rfl) (by kernel_rfl) (by kernel_rfl) (fun _ _ _ h => h) (Or.inl ⟨by rfl, ?_⟩) hHeld ?_
                rotate_left
                · intro w hSw
                  (try dsimp only at hSw)
                  go_simp
                  (try with_reducible rfl)
                (try simp only [Act.put, List.setIfInBounds_toArray, List.set_cons_zero, List.set_cons_succ])
                refine wpAnyH_take (i := 7) (oi := ⟨_, _, _, _, _, _⟩) (v := ?_) rfl (by kernel_rfl) (by kernel_rfl) (by kernel_rfl) (fun _ _ _ h => h) (Or.inl ⟨by rfl, ?_⟩) hHeld ?_
                rotate_left
                · intro w hSw
                  (try dsimp only at hSw)
                  go_simp
                  (try with_reducible rfl)
                (try simp only [Act.put, List.setIfInBounds_toArray, List.set_cons_zero, List.set_cons_succ])
                refine wpAnyH_take (i := 8) (oi := ⟨_, _, _, _, _, _⟩) (v := ?_) rfl (by kernel_rfl) (by kernel_rfl) (by kernel_rfl) (fun _ _ _ h => h) (Or.inl ⟨by rfl, ?_⟩) hHeld ?_
                rotate_left
                · intro w hSw
                  (try dsimp only at hSw)
                  go_simp
                  (try with_reducible rfl)
                (try simp only [Act.put, List.setIfInBounds_toArray, List.set_cons_zero, List.set_cons_succ])
                refine wpAnyH_take (i := 10) (oi := ⟨_, _, _, _, _, _⟩) (v := ?_) rfl (by kernel_rfl) (by kernel_rfl) (by kernel_rfl) (fun _ _ _ h => h) (Or.inl ⟨by rfl, ?_⟩) hHeld ?_
                rotate_left
                · intro w hSw
                  (try dsimp only at hSw)
                  go_simp
                  (try with_reducible rfl)
                (try simp only [Act.put, List.setIfInBounds_toArray, List.set_cons_zero, List.set_cons_succ])
                refine wpAnyH_ready (rs := [9]) (by kernel_rfl) (by simp) ?_
                refine AllReadyH.cons (o := ⟨_, _, _, _, _, _⟩) rfl (fun K hK => ?_) AllReadyH.nil
                go_simp
                refine CC2.out.mono ?_
                rintro e v2 ⟨rfl, b2⟩
                have D2 := Lib.hid (D1.out.trans (b2.mono D1.out.size))
                have x2 : v2.cell? ⟨g8, 0, none⟩ = some (.slice A5 q c5) ∧ v2.cell? ⟨g8, 1, none⟩ = some (.int .i64 st) ∧ v2.cell? ⟨g8, 2, none⟩ = some (.int .i64 ti) ∧ v2.cell? ⟨g9, 0, none⟩ = some (.slice A6 r c6) ∧ v2.cell? ⟨g9, 1, none⟩ = some (.int .i64 st) ∧ v2.cell? ⟨g9, 2, none⟩ = some (.int .i64 ti) ∧ v2.cell? ⟨g, 0, none⟩ = some (.slice A n c) ∧ v2.cell? ⟨g + 1, 0, none⟩ = some (.string t.tok) ∧ v2.cell? ⟨g + 1, 1, none⟩ = some (.slice t.A t.n t.c) ∧ v2.cell? ⟨g + 1, 2, none⟩ = some (.int .i64 t.nb) ∧ v2.cell? ⟨g + 1, 3, none⟩ = some (.int .i64 t.ne) ∧ v2.cell? ⟨g + 1, 4, none⟩ = some (.int .i64 t.ns) ∧ v2.cell? ⟨g + 1, 5, none⟩ = some (.int .i64 t.nc) ∧ v2.cell? ⟨g + 1, 6, none⟩ = some (.int .i64 t.nw) ∧ v2.cell? ⟨g + 1, 7, none⟩ = some (.int .i64 t.nr) ∧ v2.cell? ⟨g + 1, 8, none⟩ = some (.int .i64 t.nu) := held16 (is_below Q8.out D2.out) (is_below Q9.out D2.out) (is_below JC.out D2.out) (is_below JT.out D2.out)
                clear b2 hHeld
                have CC3 := Lib.hid (C3.out v2 D2.out)
                go_wp2_with fail
                refine hK.out _ _ x2 (fun hHeld => ?_)
                clear hK K
                (try simp only [Act.put, List.setIfInBounds_toArray, List.set_cons_zero, List.set_cons_succ])
                refine wpAnyH_ready (rs := [11]) (by kernel_rfl) (by simp) ?_
                refine AllReadyH.cons (o := ⟨_, _, _, _, _, _⟩) rfl (fun K hK => ?_) AllReadyH.nil
                go_simp
                refine CC3.out.mono ?_
                rintro e v3 ⟨rfl, b3⟩
                have D3 := Lib.hid (D2.out.trans (b3.mono D2.out.size))
                have x3 : v3.cell? ⟨g8, 0, none⟩ = some (.slice A5 q c5) ∧ v3.cell? ⟨g8, 1, none⟩ = some (.int .i64 st) ∧ v3.cell? ⟨g8, 2, none⟩ = some (.int .i64 ti) ∧ v3.cell? ⟨g9, 0, none⟩ = some (.slice A6 r c6) ∧ v3.cell? ⟨g9, 1, none⟩ = some (.int .i64 st) ∧ v3.cell? ⟨g9, 2, none⟩ = some (.int .i64 ti) ∧ v3.cell? ⟨g, 0, none⟩ = some (.slice A n c) ∧ v3.cell? ⟨g + 1, 0, none⟩ = some (.string t.tok) ∧ v3.cell? ⟨g + 1, 1, none⟩ = some (.slice t.A t.n t.c) ∧ v3.cell? ⟨g + 1, 2, none⟩ = some (.int .i64 t.nb) ∧ v3.cell? ⟨g + 1, 3, none⟩ = some (.int .i64 t.ne) ∧ v3.cell? ⟨g + 1, 4, none⟩ = some (.int .i64 t.ns) ∧ v3.cell? ⟨g + 1, 5, none⟩ = some (.int .i64 t.nc) ∧ v3.cell? ⟨g + 1, 6, none⟩ = some (.int .i64 t.nw) ∧ v3.cell? ⟨g + 1, 7, none⟩ = some (.int .i64 t.nr) ∧ v3.cell? ⟨g + 1, 8, none⟩ = some (.int .i64 t.nu) := held16 (is_below Q8.out D3.out) (is_below Q9.out D3.out) (is_below JC.out D3.out) (is_below JT.out D3.out)
                clear b3 hHeld
                have CC4 := Lib.hid (C4.out v3 D3.out)
                go_wp2_with fail
                refine hK.out _ _ x3 (fun hHeld => ?_)
                clear hK K
                (try simp only [Act.put, List.setIfInBounds_toArray, List.set_cons_zero, List.set_cons_succ])
                refine wpAnyH_take (i := 12) (oi := ⟨_, _, _, _, _, _⟩) (v := ?_) rfl (by kernel_rfl) (by kernel_rfl) (by kernel_rfl) (fun _ _ _ h => h) (Or.inl ⟨by rfl, ?_⟩) hHeld ?_
                rotate_left
                · intro w hSw
                  (try dsimp only at hSw)
                  go_simp
                  (try with_reducible rfl)
                (try simp only [Act.put, List.setIfInBounds_toArray, List.set_cons_zero, List.set_cons_succ])
                refine wpAnyH_take (i := 13) (oi := ⟨_, _, _, _, _, _⟩) (v := undef) rfl (by kernel_rfl) (by kernel_rfl) (by kernel_rfl) (fun _ _ _ h => h) (Or.inr ⟨by rfl, rfl⟩) hHeld ?_
                (try simp only [Act.put, List.setIfInBounds_toArray, List.set_cons_zero, List.set_cons_succ])
                refine wpAnyH_take (i := 14) (oi := ⟨_, _, _, _, _, _⟩) (v := undef) rfl (by kernel_rfl) (by kernel_rfl) (by kernel_rfl) (fun _ _ _ h => h) (Or.inr ⟨by rfl, rfl⟩) hHeld ?_
                (try simp only [Act.put, List.setIfInBounds_toArray, List.set_cons_zero, List.set_cons_succ])
                refine wpAnyH_take (i := 15) (oi := ⟨_, _, _, _, _, _⟩) (v := ?_) rfl (by kernel_rfl) (by kernel_rfl) (by kernel_rfl) (fun _ _ _ h => h) (Or.inl ⟨by rfl, ?_⟩) hHeld ?_
                rotate_left
                · intro w hSw
                  (try dsimp only at hSw)
                  go_simp
                  (try with_reducible rfl)
                (try simp only [Act.put, List.setIfInBounds_toArray, List.set_cons_zero, List.set_cons_succ])
                refine wpAnyH_take (i := 16) (oi := ⟨_, _, _, _, _, _⟩) (v := ?_) rfl (by kernel_rfl) (by kernel_rfl) (by kernel_rfl) (fun _ _ _ h => h) (Or.inl ⟨by rfl, ?_⟩) hHeld ?_
                rotate_left
                · intro w hSw
                  (try dsimp only at hSw)
                  go_simp
                  (try with_reducible rfl)
                (try simp only [Act.put, List.setIfInBounds_toArray, List.set_cons_zero, List.set_cons_succ])
                refine wpAnyH_take (i := 17) (oi := ⟨_, _, _, _, _, _⟩) (v := undef) rfl (by kernel_rfl) (by kernel_rfl) (by kernel_rfl) (fun _ _ _ h => h) (Or.inr ⟨by rfl, rfl⟩) hHeld ?_
                (try simp only [Act.put, List.setIfInBounds_toArray, List.set_cons_zero, List.set_cons_succ])
                refine wpAnyH_take (i := 18) (oi := ⟨_, _, _, _, _, _⟩) (v := undef) rfl (by kernel_rfl) (by kernel_rfl) (by kernel_rfl) (fun _ _ _ h => h) (Or.inr ⟨by rfl, rfl⟩) hHeld ?_
                (try simp only [Act.put, List.setIfInBounds_toArray, List.set_cons_zero, List.set_cons_succ])
                refine wpAnyH_take (i := 19) (oi := ⟨_, _, _, _, _, _⟩) (v := undef) rfl (by kernel_rfl) (by kernel_rfl) (by kernel_rfl) (fun _ _ _ h => h) (Or.inr ⟨by rfl, rfl⟩) hHeld ?_
                (try simp only [Act.put, List.setIfInBounds_toArray, List.set_cons_zero, List.set_cons_succ])
                refine wpAnyH_take (i := 20) (oi := ⟨_, _, _, _, _, _⟩) (v := undef) rfl (by kernel_rfl) (by kernel_rfl) (by kernel_rfl) (fun _ _ _ h => h) (Or.inr ⟨by rfl, rfl⟩) hHeld ?_
                (try simp only [Act.put, List.setIfInBounds_toArray, List.set_cons_zero, List.set_cons_succ])
                refine wpAnyH_take (i := 21) (oi := ⟨_, _, _, _, _, _⟩) (v := ?_) rfl (by kernel_rfl) (by kernel_rfl) (by kernel_rfl) (fun _ _ _ h => h) (Or.inl ⟨by rfl, ?_⟩) hHeld ?_
                rotate_left
                · intro w hSw
                  (try dsimp only at hSw)
                  go_simp
                  (try with_reducible rfl)
                (try simp only [Act.put, List.setIfInBounds_toArray, List.set_cons_zero, List.set_cons_succ])
                refine wpAnyH_take (i := 22) (oi := ⟨_, _, _, _, _, _⟩) (v := ?_) rfl (by kernel_rfl) (by kernel_rfl) (by kernel_rfl) (fun _ _ _ h => h) (Or.inl ⟨by rfl, ?_⟩) hHeld ?_
                rotate_left
                · intro w hSw
                  (try dsimp only at hSw)
                  go_simp
                  (try with_reducible rfl)
                (try simp only [Act.put, List.setIfInBounds_toArray, List.set_cons_zero, List.set_cons_succ])
                refine wpAnyH_take (i := 23) (oi := ⟨_, _, _, _, _, _⟩) (v := ?_) rfl (by kernel_rfl) (by kernel_rfl) (by kernel_rfl) (fun _ _ _ h => h) (Or.inl ⟨by rfl, ?_⟩) hHeld ?_
                rotate_left
                · intro w hSw
                  (try dsimp only at hSw)
                  go_simp
                  (try with_reducible rfl)
                (try simp only [Act.put, List.setIfInBounds_toArray, List.set_cons_zero, List.set_cons_succ])
                refine wpAnyH_take (i := 24) (oi := ⟨_, _, _, _, _, _⟩) (v := ?_) rfl (by kernel_rfl) (by kernel_rfl) (by kernel_rfl) (fun _ _ _ h => h) (Or.inl ⟨by rfl, ?_⟩) hHeld ?_
                rotate_left
                · intro w hSw
                  (try dsimp only at hSw)
                  go_simp
                  (try with_reducible rfl)
                (try simp only [Act.put, List.setIfInBounds_toArray, List.set_cons_zero, List.set_cons_succ])
                refine wpAnyH_ready (rs := [25]) (by kernel_rfl) (by simp) ?_
                refine AllReadyH.cons (o := ⟨_, _, _, _, _, _⟩) rfl (fun K hK => ?_) AllReadyH.nil
                go_simp
                refine CC4.out.mono ?_
                rintro e v4 ⟨rfl, b4⟩
                have D4 := Lib.hid (D3.out.trans (b4.mono D3.out.size))
                have x4 : v4.cell? ⟨g8, 0, none⟩ = some (.slice A5 q c5) ∧ v4.cell? ⟨g8, 1, none⟩ = some (.int .i64 st) ∧ v4.cell? ⟨g8, 2, none⟩ = some (.int .i64 ti) ∧ v4.cell? ⟨g9, 0, none⟩ = some (.slice A6 r c6) ∧ v4.cell? ⟨g9, 1, none⟩ = some (.int .i64 st) ∧ v4.cell? ⟨g9, 2, none⟩ = some (.int .i64 ti) ∧ v4.cell? ⟨g, 0, none⟩ = some (.slice A n c) ∧ v4.cell? ⟨g + 1, 0, none⟩ = some (.string t.tok) ∧ v4.cell? ⟨g + 1, 1, none⟩ = some (.slice t.A t.n t.c) ∧ v4.cell? ⟨g + 1, 2, none⟩ = some (.int .i64 t.nb) ∧ v4.cell? ⟨g + 1, 3, none⟩ = some (.int .i64 t.ne) ∧ v4.cell? ⟨g + 1, 4, none⟩ = some (.int .i64 t.ns) ∧ v4.cell? ⟨g + 1, 5, none⟩ = some (.int .i64 t.nc) ∧ v4.cell? ⟨g + 1, 6, none⟩ = some (.int .i64 t.nw) ∧ v4.cell? ⟨g + 1, 7, none⟩ = some (.int .i64 t.nr) ∧ v4.cell? ⟨g + 1, 8, none⟩ = some (.int .i64 t.nu) := held16 (is_below Q8.out D4.out) (is_below Q9.out D4.out) (is_below JC.out D4.out) (is_below JT.out D4.out)
                clear b4 hHeld
                go_wp2_with fail
                refine hK.out _ _ x4 (fun hHeld => ?_)
                clear hK K
                (try simp only [Act.put, List.setIfInBounds_toArray, List.set_cons_zero, List.set_cons_succ])
                refine wpAnyH_take (i := 26) (oi := ⟨_, _, _, _, _, _⟩) (v := ?_) rfl (by kernel_rfl) (by kernel_rfl) (by kernel_rfl) (fun _ _ _ h => h) (Or.inl ⟨by rfl, ?_⟩) hHeld ?_
                rotate_left
                · intro w hSw
                  (try dsimp only at hSw)
                  go_simp
                  (try with_reducible rfl)
                (try simp only [Act.put, List.setIfInBounds_toArray, List.set_cons_zero, List.set_cons_succ])
                refine wpAnyH_take (i := 27) (oi := ⟨_, _, _, _, _, _⟩) (v := ?_) rfl (by kernel_rfl) (by kernel_rfl) (by kernel_rfl) (fun _ _ _ h => h) (Or.inl ⟨by rfl, ?_⟩) hHeld ?_
                rotate_left
                · intro w hSw
                  (try dsimp only at hSw)
                  go_simp
                  (try with_reducible rfl)
                (try simp only [Act.put, List.setIfInBounds_toArray, List.set_cons_zero, List.set_cons_succ])
                refine wpAnyH_done (by kernel_rfl) ?_ _
                go_wp2_with fail
                go_ret
                exact ⟨rfl, HW0.out.trans (D4.out.mono HW0.out.size)⟩
              | true =>
                cases hh with
                | true =>
                  simp only [Bool.not_true, Bool.and_false, Bool.false_and] at C2
                  have CC1 := Lib.hid (C1.out wr.drew D0.out)
                  go_wp2_with fail
                  refine wp_region_held_drew (S := fun w' => w'.cell? ⟨g8, 0, none⟩ = some (.slice A5 q c5) ∧ w'.cell? ⟨g8, 1, none⟩ = some (.int .i64 st) ∧ w'.cell? ⟨g8, 2, none⟩ = some (.int .i64 ti) ∧ w'.cell? ⟨g9, 0, none⟩ = some (.slice A6 r c6) ∧ w'.cell? ⟨g9, 1, none⟩ = some (.int .i64 st) ∧ w'.cell? ⟨g9, 2, none⟩ = some (.int .i64 ti) ∧ w'.cell? ⟨g, 0, none⟩ = some (.slice A n c) ∧ w'.cell? ⟨g + 1, 0, none⟩ = some (.string t.tok) ∧ w'.cell? ⟨g + 1, 1, none⟩ = some (.slice t.A t.n t.c) ∧ w'.cell? ⟨g + 1, 2, none⟩ = some (.int .i64 t.nb) ∧ w'.cell? ⟨g + 1, 3, none⟩ = some (.int .i64 t.ne) ∧ w'.cell? ⟨g + 1, 4, none⟩ = some (.int .i64 t.ns) ∧ w'.cell? ⟨g + 1, 5, none⟩ = some (.int .i64 t.nc) ∧ w'.cell? ⟨g + 1, 6, none⟩ = some (.int .i64 t.nw) ∧ w'.cell? ⟨g + 1, 7, none⟩ = some (.int .i64 t.nr) ∧ w'.cell? ⟨g + 1, 8, none⟩ = some (.int .i64 t.nu)) (by kernel_rfl) x0 (fun hHeld => ?_)
                  refine wpAnyH_take (i := 0) (oi := ⟨_, _, _, _, _, _⟩) (v := ?_) rfl (by kernel_rfl) (by kernel_rfl) (by kernel_rfl) (fun _ _ _ h => h) (Or.inl ⟨by rfl, ?_⟩) hHeld ?_
                  rotate_left
                  · intro w hSw
                    (try dsimp only at hSw)
                    go_simp
                    (try with_reducible rfl)
                  (try simp only [Act.put, List.setIfInBounds_toArray, List.set_cons_zero, List.set_cons_succ])
                  refine wpAnyH_take (i := 2) (oi := ⟨_, _, _, _, _, _⟩) (v := ?_) rfl (by kernel_rfl) (by kernel_rfl) (by kernel_rfl) (fun _ _ _ h => h) (Or.inl ⟨by rfl, ?_⟩) hHeld ?_
                  rotate_left
                  · intro w hSw
                    (try dsimp only at hSw)
                    go_simp
                    (try with_reducible rfl)
                  (try simp only [Act.put, List.setIfInBounds_toArray, List.set_cons_zero, List.set_cons_succ])
                  refine wpAnyH_take (i := 3) (oi := ⟨_, _, _, _, _, _⟩) (v := ?_) rfl (by kernel_rfl) (by kernel_rfl) (by kernel_rfl) (fun _ _ _ h => h) (Or.inl ⟨by rfl, ?_⟩) hHeld ?_
                  rotate_left
                  · intro w hSw
                    (try dsimp only at hSw)
                    go_simp
                    (try with_reducible rfl)
                  (try simp only [Act.put, List.setIfInBounds_toArray, List.set_cons_zero, List.set_cons_succ])
                  refine wpAnyH_take (i := 4) (oi := ⟨_, _, _, _, _, _⟩) (v := ?_) rfl (by kernel_rfl) (by kernel_rfl) (by kernel_rfl) (fun _ _ _ h => h) (Or.inl ⟨by rfl, ?_⟩) hHeld ?_
                  rotate_left
                  · intro w hSw
                    (try dsimp only at hSw)
                    go_simp
                    (try with_reducible rfl)
                  (try simp only [Act.put, List.setIfInBounds_toArray, List.set_cons_zero, List.set_cons_succ])
                  refine wpAnyH_take (i := 5) (oi := ⟨_, _, _, _, _, _⟩) (v := ?_) rfl (by kernel_rfl) (by kernel_rfl) (by kernel_rfl) (fun _ _ _ h => h) (Or.inl ⟨by rfl, ?_⟩) hHeld ?_
                  rotate_left
                  · intro w hSw
                    (try dsimp only at hSw)
                    go_simp
                    (try with_reducible rfl)
                  (try simp only [Act.put, List.setIfInBounds_toArray, List.set_cons_zero, List.set_cons_succ])
                  refine wpAnyH_ready (rs := [1]) (by kernel_rfl) (by simp) ?_
                  refine AllReadyH.cons (o := ⟨_, _, _, _, _, _⟩) rfl (fun K hK => ?_) AllReadyH.nil
                  go_simp
                  refine CC1.out.mono ?_
                  rintro e v1 ⟨rfl, b1⟩
                  have D1 := Lib.hid (D0.out.trans (b1.mono D0.out.size))
                  have x1 : v1.cell? ⟨g8, 0, none⟩ = some (.slice A5 q c5) ∧ v1.cell? ⟨g8, 1, none⟩ = some (.int .i64 st) ∧ v1.cell? ⟨g8, 2, none⟩ = some (.int .i64 ti) ∧ v1.cell? ⟨g9, 0, none⟩ = some (.slice A6 r c6) ∧ v1.cell? ⟨g9, 1, none⟩ = some (.int .i64 st) ∧ v1.cell? ⟨g9, 2, none⟩ = some (.int .i64 ti) ∧ v1.cell? ⟨g, 0, none⟩ = some (.slice A n c) ∧ v1.cell? ⟨g + 1, 0, none⟩ = some (.string t.tok) ∧ v1.cell? ⟨g + 1, 1, none⟩ = some (.slice t.A t.n t.c) ∧ v1.cell? ⟨g + 1, 2, none⟩ = some (.int .i64 t.nb) ∧ v1.cell? ⟨g + 1, 3, none⟩ = some (.int .i64 t.ne) ∧ v1.cell? ⟨g + 1, 4, none⟩ = some (.int .i64 t.ns) ∧ v1.cell? ⟨g + 1, 5, none⟩ = some (.int .i64 t.nc) ∧ v1.cell? ⟨g + 1, 6, none⟩ = some (.int .i64 t.nw) ∧ v1.cell? ⟨g + 1, 7, none⟩ = some (.int .i64 t.nr) ∧ v1.cell? ⟨g + 1, 8, none⟩ = some (.int .i64 t.nu) := held16 (is_below Q8.out D1.out) (is_below Q9.out D1.out) (is_below JC.out D1.out) (is_below JT.out D1.out)
                  clear b1 hHeld
                  have CC2 := Lib.hid (C2.out v1 D1.out)
                  go_wp2_with fail
                  refine hK.out _ _ x1 (fun hHeld => ?_)
                  clear hK K
                  (try simp only [Act.put, List.setIfInBounds_toArray, List.set_cons_zero, List.set_cons_succ])
                  refine wpAnyH_take (i := 6) (oi := ⟨_, _, _, _, _, _⟩) (v := ?_) rfl (by kernel_rfl) (by kernel_rfl) (by kernel_rfl) (fun _ _ _ h => h) (Or.inl ⟨by rfl, ?_⟩) hHeld ?_
                  rotate_left
                  · intro w hSw
                    (try dsimp only at hSw)
                    go_simp
                    (try with_reducible rfl)
                  (try simp only [Act.put, List.setIfInBounds_toArray, List.set_cons_zero, List.set_cons_succ])
                  refine wpAnyH_take (i := 7) (oi := ⟨_, _, _, _, _, _⟩) (v := ?_) rfl (by kernel_rfl) (by kernel_rfl) (by kernel_rfl) (fun _ _ _ h => h) (Or.inl ⟨by rfl, ?_⟩) hHeld ?_
                  rotate_left
                  · intro w hSw
                    (try dsimp only at hSw)
                    go_simp
                    (try with_reducible rfl)
                  (try simp only [Act.put, List.setIfInBounds_toArray, List.set_cons_zero, List.set_cons_succ])
                  refine wpAnyH_take (i := 8) (oi := ⟨_, _, _, _, _, _⟩) (v := ?_) rfl (by kernel_rfl) (by kernel_rfl) (by kernel_rfl) (fun _ _ _ h => h) (Or.inl ⟨by rfl, ?_⟩) hHeld ?_
                  rotate_left
                  · intro w hSw
                    (try dsimp only at hSw)
                    go_simp
                    (try with_reducible rfl)
                  (try simp only [Act.put, List.setIfInBounds_toArray, List.set_cons_zero, List.set_cons_succ])
                  refine wpAnyH_take (i := 10) (oi := ⟨_, _, _, _, _, _⟩) (v := ?_) rfl (by kernel_rfl) (by kernel_rfl) (by kernel_rfl) (fun _ _ _ h => h) (Or.inl ⟨by rfl, ?_⟩) hHeld ?_
                  rotate_left
                  · intro w hSw
                    (try dsimp only at hSw)
                    go_simp
                    (try with_reducible rfl)
                  (try simp only [Act.put, List.setIfInBounds_toArray, List.set_cons_zero, List.set_cons_succ])
                  refine wpAnyH_ready (rs := [9]) (by kernel_rfl) (by simp) ?_
                  refine AllReadyH.cons (o := ⟨_, _, _, _, _, _⟩) rfl (fun K hK => ?_) AllReadyH.nil
                  go_simp
                  refine CC2.out.mono ?_
                  rintro e v2 ⟨rfl, b2⟩
                  have D2 := Lib.hid (D1.out.trans (b2.mono D1.out.size))
                  have x2 : v2.cell? ⟨g8, 0, none⟩ = some (.slice A5 q c5) ∧ v2.cell? ⟨g8, 1, none⟩ = some (.int .i64 st) ∧ v2.cell? ⟨g8, 2, none⟩ = some (.int .i64 ti) ∧ v2.cell? ⟨g9, 0, none⟩ = some (.slice A6 r c6) ∧ v2.cell? ⟨g9, 1, none⟩ = some (.int .i64 st) ∧ v2.cell? ⟨g9, 2, none⟩ = some (.int .i64 ti) ∧ v2.cell? ⟨g, 0, none⟩ = some (.slice A n c) ∧ v2.cell? ⟨g + 1, 0, none⟩ = some (.string t.tok) ∧ v2.cell? ⟨g + 1, 1, none⟩ = some (.slice t.A t.n t.c) ∧ v2.cell? ⟨g + 1, 2, none⟩ = some (.int .i64 t.nb) ∧ v2.cell? ⟨g + 1, 3, none⟩ = some (.int .i64 t.ne) ∧ v2.cell? ⟨g + 1, 4, none⟩ = some (.int .i64 t.ns) ∧ v2.cell? ⟨g + 1, 5, none⟩ = some (.int .i64 t.nc) ∧ v2.cell? ⟨g + 1, 6, none⟩ = some (.int .i64 t.nw) ∧ v2.cell? ⟨g + 1, 7, none⟩ = some (.int .i64 t.nr) ∧ v2.cell? ⟨g + 1, 8, none⟩ = some (.int .i64 t.nu) := held16 (is_below Q8.out D2.out) (is_below Q9.out D2.out) (is_below JC.out D2.out) (is_below JT.out D2.out)
                  clear b2 hHeld
                  have CC3 := Lib.hid (C3.out v2 D2.out)
                  go_wp2_with fail
                  refine hK.out _ _ x2 (fun hHeld => ?_)
                  clear hK K
                  (try simp only [Act.put, List.setIfInBounds_toArray, List.set_cons_zero, List.set_cons_succ])
                  refine wpAnyH_ready (rs := [11]) (by kernel_rfl) (by simp) ?_
                  refine AllReadyH.cons (o := ⟨_, _, _, _, _, _⟩) rfl (fun K hK => ?_) AllReadyH.nil
                  go_simp
                  refine CC3.out.mono ?_
                  rintro e v3 ⟨rfl, b3⟩
                  have D3 := Lib.hid (D2.out.trans (b3.mono D2.out.size))
                  have x3 : v3.cell? ⟨g8, 0, none⟩ = some (.slice A5 q c5) ∧ v3.cell? ⟨g8, 1, none⟩ = some (.int .i64 st) ∧ v3.cell? ⟨g8, 2, none⟩ = some (.int .i64 ti) ∧ v3.cell? ⟨g9, 0, none⟩ = some (.slice A6 r c6) ∧ v3.cell? ⟨g9, 1, none⟩ = some (.int .i64 st) ∧ v3.cell? ⟨g9, 2, none⟩ = some (.int .i64 ti) ∧ v3.cell? ⟨g, 0, none⟩ = some (.slice A n c) ∧ v3.cell? ⟨g + 1, 0, none⟩ = some (.string t.tok) ∧ v3.cell? ⟨g + 1, 1, none⟩ = some (.slice t.A t.n t.c) ∧ v3.cell? ⟨g + 1, 2, none⟩ = some (.int .i64 t.nb) ∧ v3.cell? ⟨g + 1, 3, none⟩ = some (.int .i64 t.ne) ∧ v3.cell? ⟨g + 1, 4, none⟩ = some (.int .i64 t.ns) ∧ v3.cell? ⟨g + 1, 5, none⟩ = some (.int .i64 t.nc) ∧ v3.cell? ⟨g + 1, 6, none⟩ = some (.int .i64 t.nw) ∧ v3.cell? ⟨g + 1, 7, none⟩ = some (.int .i64 t.nr) ∧ v3.cell? ⟨g + 1, 8, none⟩ = some (.int .i64 t.nu) := held16 (is_below Q8.out D3.out) (is_below Q9.out D3.out) (is_below JC.out D3.out) (is_below JT.out D3.out)
                  clear b3 hHeld
                  have CC4 := Lib.hid (C4.out v3 D3.out)
                  go_wp2_with fail
                  refine hK.out _ _ x3 (fun hHeld => ?_)
                  clear hK K
                  (try simp only [Act.put, List.setIfInBounds_toArray, List.set_cons_zero, List.set_cons_succ])
                  refine wpAnyH_take (i := 12) (oi := ⟨_, _, _, _, _, _⟩) (v := ?_) rfl (by kernel_rfl) (by kernel_rfl) (by kernel_rfl) (fun _ _ _ h => h) (Or.inl ⟨by rfl, ?_⟩) hHeld ?_
                  rotate_left
                  · intro w hSw
                    (try dsimp only at hSw)
                    go_simp
                    (try with_reducible rfl)
                  (try simp only [Act.put, List.setIfInBounds_toArray, List.set_cons_zero, List.set_cons_succ])
                  refine wpAnyH_take (i := 13) (oi := ⟨_, _, _, _, _, _⟩) (v := ?_) rfl (by kernel_rfl) (by kernel_rfl) (by kernel_rfl) (fun _ _ _ h => h) (Or.inl ⟨by rfl, ?_⟩) hHeld ?_
                  rotate_left
                  · intro w hSw
                    (try dsimp only at hSw)
                    go_simp
                    (try with_reducible rfl)
                  (try simp only [Act.put, List.setIfInBounds_toArray, List.set_cons_zero, List.set_cons_succ])
                  refine wpAnyH_take (i := 14) (oi := ⟨_, _, _, _, _, _⟩) (v := ?_) rfl (by kernel_rfl) (by kernel_rfl) (by kernel_rfl) (fun _ _ _ h => h) (Or.inl ⟨by rfl, ?_⟩) hHeld ?_
                  rotate_left
                  · intro w hSw
                    (try dsimp only at hSw)
                    go_simp
                    (try with_reducible rfl)
                  (try simp only [Act.put, List.setIfInBounds_toArray, List.set_cons_zero, List.set_cons_succ])
                  refine wpAnyH_take (i := 15) (oi := ⟨_, _, _, _, _, _⟩) (v := ?_) rfl (by kernel_rfl) (by kernel_rfl) (by kernel_rfl) (fun _ _ _ h => h) (Or.inl ⟨by rfl, ?_⟩) hHeld ?_
                  rotate_left
                  · intro w hSw
                    (try dsimp only at hSw)
                    go_simp
                    (try with_reducible rfl)
                  (try simp only [Act.put, List.setIfInBounds_toArray, List.set_cons_zero, List.set_cons_succ])
                  refine wpAnyH_take (i := 16) (oi := ⟨_, _, _, _, _, _⟩) (v := ?_) rfl (by kernel_rfl) (by kernel_rfl) (by kernel_rfl) (fun _ _ _ h => h) (Or.inl ⟨by rfl, ?_⟩) hHeld ?_
                  rotate_left
                  · intro w hSw
                    (try dsimp only at hSw)
                    go_simp
                    (try with_reducible rfl)
                  (try simp only [Act.put, List.setIfInBounds_toArray, List.set_cons_zero, List.set_cons_succ])
                  refine wpAnyH_take (i := 17) (oi := ⟨_, _, _, _, _, _⟩) (v := undef) rfl (by kernel_rfl) (by kernel_rfl) (by kernel_rfl) (fun _ _ _ h => h) (Or.inr ⟨by rfl, rfl⟩) hHeld ?_
                  (try simp only [Act.put, List.setIfInBounds_toArray, List.set_cons_zero, List.set_cons_succ])
                  refine wpAnyH_take (i := 18) (oi := ⟨_, _, _, _, _, _⟩) (v := undef) rfl (by kernel_rfl) (by kernel_rfl) (by kernel_rfl) (fun _ _ _ h => h) (Or.inr ⟨by rfl, rfl⟩) hHeld ?_
                  (try simp only [Act.put, List.setIfInBounds_toArray, List.set_cons_zero, List.set_cons_succ])
                  refine wpAnyH_take (i := 19) (oi := ⟨_, _, _, _, _, _⟩) (v := undef) rfl (by kernel_rfl) (by kernel_rfl) (by kernel_rfl) (fun _ _ _ h => h) (Or.inr ⟨by rfl, rfl⟩) hHeld ?_
                  (try simp only [Act.put, List.setIfInBounds_toArray, List.set_cons_zero, List.set_cons_succ])
                  refine wpAnyH_take (i := 20) (oi := ⟨_, _, _, _, _, _⟩) (v := undef) rfl (by kernel_rfl) (by kernel_rfl) (by kernel_rfl) (fun _ _ _ h => h) (Or.inr ⟨by rfl, rfl⟩) hHeld ?_
                  (try simp only [Act.put, List.setIfInBounds_toArray, List.set_cons_zero, List.set_cons_succ])
                  refine wpAnyH_take (i := 21) (oi := ⟨_, _, _, _, _, _⟩) (v := ?_) rfl (by kernel_rfl) (by kernel_rfl) (by kernel_rfl) (fun _ _ _ h => h) (Or.inl ⟨by rfl, ?_⟩) hHeld ?_
                  rotate_left
                  · intro w hSw
                    (try dsimp only at hSw)
                    go_simp
                    (try with_reducible rfl)
                  (try simp only [Act.put, List.setIfInBounds_toArray, List.set_cons_zero, List.set_cons_succ])
                  refine wpAnyH_take (i := 22) (oi := ⟨_, _, _, _, _, _⟩) (v := ?_) rfl (by kernel_rfl) (by kernel_rfl) (by kernel_rfl) (fun _ _ _ h => h) (Or.inl ⟨by rfl, ?_⟩) hHeld ?_
                  rotate_left
                  · intro w hSw
                    (try dsimp only at hSw)
                    go_simp
                    (try with_reducible rfl)
                  (try simp only [Act.put, List.setIfInBounds_toArray, List.set_cons_zero, List.set_cons_succ])
                  refine wpAnyH_take (i := 23) (oi := ⟨_, _, _, _, _, _⟩) (v := ?_) rfl (by kernel_rfl) (by kernel_rfl) (by kernel_rfl) (fun _ _ _ h => h) (Or.inl ⟨by rfl, ?_⟩) hHeld ?_
                  rotate_left
                  · intro w hSw
                    (try dsimp only at hSw)
                    go_simp
                    (try with_reducible rfl)
                  (try simp only [Act.put, List.setIfInBounds_toArray, List.set_cons_zero, List.set_cons_succ])
                  refine wpAnyH_take (i := 24) (oi := ⟨_, _, _, _, _, _⟩) (v := ?_) rfl (by kernel_rfl) (by kernel_rfl) (by kernel_rfl) (fun _ _ _ h => h) (Or.inl ⟨by rfl, ?_⟩) hHeld ?_
                  rotate_left
                  · intro w hSw
                    (try dsimp only at hSw)
                    go_simp
                    (try with_reducible rfl)
                  (try simp only [Act.put, List.setIfInBounds_toArray, List.set_cons_zero, List.set_cons_succ])
                  refine wpAnyH_ready (rs := [25]) (by kernel_rfl) (by simp) ?_
                  refine AllReadyH.cons (o := ⟨_, _, _, _, _, _⟩) rfl (fun K hK => ?_) AllReadyH.nil
                  go_simp
                  refine CC4.out.mono ?_
                  rintro e v4 ⟨rfl, b4⟩
                  have D4 := Lib.hid (D3.out.trans (b4.mono D3.out.size))
                  have x4 : v4.cell? ⟨g8, 0, none⟩ = some (.slice A5 q c5) ∧ v4.cell? ⟨g8, 1, none⟩ = some (.int .i64 st) ∧ v4.cell? ⟨g8, 2, none⟩ = some (.int .i64 ti) ∧ v4.cell? ⟨g9, 0, none⟩ = some (.slice A6 r c6) ∧ v4.cell? ⟨g9, 1, none⟩ = some (.int .i64 st) ∧ v4.cell? ⟨g9, 2, none⟩ = some (.int .i64 ti) ∧ v4.cell? ⟨g, 0, none⟩ = some (.slice A n c) ∧ v4.cell? ⟨g + 1, 0, none⟩ = some (.string t.tok) ∧ v4.cell? ⟨g + 1, 1, none⟩ = some (.slice t.A t.n t.c) ∧ v4.cell? ⟨g + 1, 2, none⟩ = some (.int .i64 t.nb) ∧ v4.cell? ⟨g + 1, 3, none⟩ = some (.int .i64 t.ne) ∧ v4.cell? ⟨g + 1, 4, none⟩ = some (.int .i64 t.ns) ∧ v4.cell? ⟨g + 1, 5, none⟩ = some (.int .i64 t.nc) ∧ v4.cell? ⟨g + 1, 6, none⟩ = some (.int .i64 t.nw) ∧ v4.cell? ⟨g + 1, 7, none⟩ = some (.int .i64 t.nr) ∧ v4.cell? ⟨g + 1, 8, none⟩ = some (.int .i64 t.nu) := held16 (is_below Q8.out D4.out) (is_below Q9.out D4.out) (is_below JC.out D4.out) (is_below JT.out D4.out)
                  clear b4 hHeld
                  go_wp2_with fail
                  refine hK.out _ _ x4 (fun hHeld => ?_)
                  clear hK K
                  (try simp only [Act.put, List.setIfInBounds_toArray, List.set_cons_zero, List.set_cons_succ])
                  refine wpAnyH_take (i := 26) (oi := ⟨_, _, _, _, _, _⟩) (v := ?_) rfl (by kernel_rfl) (by kernel_rfl) (by kernel_rfl) (fun _ _ _ h => h) (Or.inl ⟨by rfl, ?_⟩) hHeld ?_
                  rotate_left
                  · intro w hSw
                    (try dsimp only at hSw)
                    go_simp
                    (try with_reducible rfl)
                  (try simp only [Act.put, List.setIfInBounds_toArray, List.set_cons_zero, List.set_cons_succ])
                  refine wpAnyH_take (i := 27) (oi := ⟨_, _, _, _, _, _⟩) (v := ?_) rfl (by kernel_rfl) (by kernel_rfl) (by kernel_rfl) (fun _ _ _ h => h) (Or.inl ⟨by rfl, ?_⟩) hHeld ?_
                  rotate_left
                  · intro w hSw
                    (try dsimp only at hSw)
                    go_simp
                    (try with_reducible rfl)
                  (try simp only [Act.put, List.setIfInBounds_toArray, List.set_cons_zero, List.set_cons_succ])
                  refine wpAnyH_done (by kernel_rfl) ?_ _
                  go_wp2_with fail
                  go_ret
                  exact ⟨rfl, HW0.out.trans (D4.out.mono HW0.out.size)⟩
                | false =>
                  simp only [Bool.not_false, Bool.and_true, Bool.true_and] at C2
                  have CC1 := Lib.hid (C1.out wr.drew D0.out)
                  go_wp2_with fail
                  go_region_held3 (fun w' => w'.cell? ⟨g8, 0, none⟩ = some (.slice A5 q c5) ∧ w'.cell? ⟨g8, 1, none⟩ = some (.int .i64 st) ∧ w'.cell? ⟨g8, 2, none⟩ = some (.int .i64 ti) ∧ w'.cell? ⟨g9, 0, none⟩ = some (.slice A6 r c6) ∧ w'.cell? ⟨g9, 1, none⟩ = some (.int .i64 st) ∧ w'.cell? ⟨g9, 2, none⟩ = some (.int .i64 ti) ∧ w'.cell? ⟨g, 0, none⟩ = some (.slice A n c) ∧ w'.cell? ⟨g + 1, 0, none⟩ = some (.string t.tok) ∧ w'.cell? ⟨g + 1, 1, none⟩ = some (.slice t.A t.n t.c) ∧ w'.cell? ⟨g + 1, 2, none⟩ = some (.int .i64 t.nb) ∧ w'.cell? ⟨g + 1, 3, none⟩ = some (.int .i64 t.ne) ∧ w'.cell? ⟨g + 1, 4, none⟩ = some (.int .i64 t.ns) ∧ w'.cell? ⟨g + 1, 5, none⟩ = some (.int .i64 t.nc) ∧ w'.cell? ⟨g + 1, 6, none⟩ = some (.int .i64 t.nw) ∧ w'.cell? ⟨g + 1, 7, none⟩ = some (.int .i64 t.nr) ∧ w'.cell? ⟨g + 1, 8, none⟩ = some (.int .i64 t.nu)) (first | exact x0 | exact x1 | exact x2 | exact x3 | exact x4 | go_keep)
                    (first | (go_at_call 9; (with_reducible refine CC1.out.mono ?_); rintro e v1 ⟨rfl, b1⟩; have D1 := Lib.hid (D0.out.trans (b1.mono D0.out.size)); have x1 : v1.cell? ⟨g8, 0, none⟩ = some (.slice A5 q c5) ∧ v1.cell? ⟨g8, 1, none⟩ = some (.int .i64 st) ∧ v1.cell? ⟨g8, 2, none⟩ = some (.int .i64 ti) ∧ v1.cell? ⟨g9, 0, none⟩ = some (.slice A6 r c6) ∧ v1.cell? ⟨g9, 1, none⟩ = some (.int .i64 st) ∧ v1.cell? ⟨g9, 2, none⟩ = some (.int .i64 ti) ∧ v1.cell? ⟨g, 0, none⟩ = some (.slice A n c) ∧ v1.cell? ⟨g + 1, 0, none⟩ = some (.string t.tok) ∧ v1.cell? ⟨g + 1, 1, none⟩ = some (.slice t.A t.n t.c) ∧ v1.cell? ⟨g + 1, 2, none⟩ = some (.int .i64 t.nb) ∧ v1.cell? ⟨g + 1, 3, none⟩ = some (.int .i64 t.ne) ∧ v1.cell? ⟨g + 1, 4, none⟩ = some (.int .i64 t.ns) ∧ v1.cell? ⟨g + 1, 5, none⟩ = some (.int .i64 t.nc) ∧ v1.cell? ⟨g + 1, 6, none⟩ = some (.int .i64 t.nw) ∧ v1.cell? ⟨g + 1, 7, none⟩ = some (.int .i64 t.nr) ∧ v1.cell? ⟨g + 1, 8, none⟩ = some (.int .i64 t.nu) := held16 (is_below Q8.out D1.out) (is_below Q9.out D1.out) (is_below JC.out D1.out) (is_below JT.out D1.out); clear b1; have CC2 := Lib.hid (C2.out v1 D1.out)) | (go_at_call 9; (with_reducible refine CC2.out.mono ?_); rintro e v2 ⟨rfl, b2⟩; have D2 := Lib.hid (D1.out.trans (b2.mono D1.out.size)); have x2 : v2.cell? ⟨g8, 0, none⟩ = some (.slice A5 q c5) ∧ v2.cell? ⟨g8, 1, none⟩ = some (.int .i64 st) ∧ v2.cell? ⟨g8, 2, none⟩ = some (.int .i64 ti) ∧ v2.cell? ⟨g9, 0, none⟩ = some (.slice A6 r c6) ∧ v2.cell? ⟨g9, 1, none⟩ = some (.int .i64 st) ∧ v2.cell? ⟨g9, 2, none⟩ = some (.int .i64 ti) ∧ v2.cell? ⟨g, 0, none⟩ = some (.slice A n c) ∧ v2.cell? ⟨g + 1, 0, none⟩ = some (.string t.tok) ∧ v2.cell? ⟨g + 1, 1, none⟩ = some (.slice t.A t.n t.c) ∧ v2.cell? ⟨g + 1, 2, none⟩ = some (.int .i64 t.nb) ∧ v2.cell? ⟨g + 1, 3, none⟩ = some (.int .i64 t.ne) ∧ v2.cell? ⟨g + 1, 4, none⟩ = some (.int .i64 t.ns) ∧ v2.cell? ⟨g + 1, 5, none⟩ = some (.int .i64 t.nc) ∧ v2.cell? ⟨g + 1, 6, none⟩ = some (.int .i64 t.nw) ∧ v2.cell? ⟨g + 1, 7, none⟩ = some (.int .i64 t.nr) ∧ v2.cell? ⟨g + 1, 8, none⟩ = some (.int .i64 t.nu) := held16 (is_below Q8.out D2.out) (is_below Q9.out D2.out) (is_below JC.out D2.out) (is_below JT.out D2.out); clear b2; have CC3 := Lib.hid (C3.out v2 D2.out)) | (go_at_call 11; (with_reducible refine CC3.out.mono ?_); rintro e v3 ⟨rfl, b3⟩; have D3 := Lib.hid (D2.out.trans (b3.mono D2.out.size)); have x3 : v3.cell? ⟨g8, 0, none⟩ = some (.slice A5 q c5) ∧ v3.cell? ⟨g8, 1, none⟩ = some (.int .i64 st) ∧ v3.cell? ⟨g8, 2, none⟩ = some (.int .i64 ti) ∧ v3.cell? ⟨g9, 0, none⟩ = some (.slice A6 r c6) ∧ v3.cell? ⟨g9, 1, none⟩ = some (.int .i64 st) ∧ v3.cell? ⟨g9, 2, none⟩ = some (.int .i64 ti) ∧ v3.cell? ⟨g, 0, none⟩ = some (.slice A n c) ∧ v3.cell? ⟨g + 1, 0, none⟩ = some (.string t.tok) ∧ v3.cell? ⟨g + 1, 1, none⟩ = some (.slice t.A t.n t.c) ∧ v3.cell? ⟨g + 1, 2, none⟩ = some (.int .i64 t.nb) ∧ v3.cell? ⟨g + 1, 3, none⟩ = some (.int .i64 t.ne) ∧ v3.cell? ⟨g + 1, 4, none⟩ = some (.int .i64 t.ns) ∧ v3.cell? ⟨g + 1, 5, none⟩ = some (.int .i64 t.nc) ∧ v3.cell? ⟨g + 1, 6, none⟩ = some (.int .i64 t.nw) ∧ v3.cell? ⟨g + 1, 7, none⟩ = some (.int .i64 t.nr) ∧ v3.cell? ⟨g + 1, 8, none⟩ = some (.int .i64 t.nu) := held16 (is_below Q8.out D3.out) (is_below Q9.out D3.out) (is_below JC.out D3.out) (is_below JT.out D3.out); clear b3; have CC4 := Lib.hid (C4.out v3 D3.out)) | (go_at_call 15; (with_reducible refine CC4.out.mono ?_); rintro e v4 ⟨rfl, b4⟩; have D4 := Lib.hid (D3.out.trans (b4.mono D3.out.size)); have x4 : v4.cell? ⟨g8, 0, none⟩ = some (.slice A5 q c5) ∧ v4.cell? ⟨g8, 1, none⟩ = some (.int .i64 st) ∧ v4.cell? ⟨g8, 2, none⟩ = some (.int .i64 ti) ∧ v4.cell? ⟨g9, 0, none⟩ = some (.slice A6 r c6) ∧ v4.cell? ⟨g9, 1, none⟩ = some (.int .i64 st) ∧ v4.cell? ⟨g9, 2, none⟩ = some (.int .i64 ti) ∧ v4.cell? ⟨g, 0, none⟩ = some (.slice A n c) ∧ v4.cell? ⟨g + 1, 0, none⟩ = some (.string t.tok) ∧ v4.cell? ⟨g + 1, 1, none⟩ = some (.slice t.A t.n t.c) ∧ v4.cell? ⟨g + 1, 2, none⟩ = some (.int .i64 t.nb) ∧ v4.cell? ⟨g + 1, 3, none⟩ = some (.int .i64 t.ne) ∧ v4.cell? ⟨g + 1, 4, none⟩ = some (.int .i64 t.ns) ∧ v4.cell? ⟨g + 1, 5, none⟩ = some (.int .i64 t.nc) ∧ v4.cell? ⟨g + 1, 6, none⟩ = some (.int .i64 t.nw) ∧ v4.cell? ⟨g + 1, 7, none⟩ = some (.int .i64 t.nr) ∧ v4.cell? ⟨g + 1, 8, none⟩ = some (.int .i64 t.nu) := held16 (is_below Q8.out D4.out) (is_below Q9.out D4.out) (is_below JC.out D4.out) (is_below JT.out D4.out); clear b4))
                  all_goals
                    go_wp2_with fail
                    go_ret
                    exact ⟨rfl, HW0.out.trans (D4.out.mono HW0.out.size)⟩
end Go.Proofs.YtopanahgeeolbaaGreatDoor.Aut
