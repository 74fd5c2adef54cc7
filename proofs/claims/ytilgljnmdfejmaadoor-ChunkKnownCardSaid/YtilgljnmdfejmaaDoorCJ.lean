/-
  bytes.Join, with nothing between.
  Conditions: those that each theorem names.
-/
import Derived.Test.YtilgljnmdfejmaaDoorCF
import Derived.Lib.MakeNoZero
import Derived.Laws.Externs
namespace Go.Proofs.YtilgljnmdfejmaaDoor
open Go.RowKit

/-- Bytes are told, as a slice. -/
def BytesTold (bs : List UInt8) (w : World) (e : Ending) (w' : World) : Prop := ∃ A c, e = .returned (.slice A bs.length c) ∧ Src w' (fun _ => True) A bs ∧ Below w.heap.size w w'
theorem flatten_length (ps : List (List UInt8)) : ps.flatten.length = totalF ps := by simp [totalF, List.length_flatten]

theorem SrcL.tail {w : World} {A : Option Addr} {ps : List (List UInt8)} (h : SrcL w A ps) : SrcL w (Option.map (fun x => x.add 1) A) (ps.drop 1) := by
  intro h0
  rw [List.length_drop] at h0
  obtain ⟨ad, rfl, hb, hc⟩ := h (by omega)
  refine ⟨ad.add 1, rfl, by unfold Addr.add; split <;> exact hb, fun i x hx => ?_⟩
  rw [add_add_at]
  exact hc (1 + i) x (by rwa [List.getElem?_drop] at hx)
theorem splice_take (cl cs : List Value) (off : Nat) (h : off ≤ cl.length) : (splice cl off cs).take (off + cs.length) = cl.take off ++ cs := by
  unfold splice
  rw [← List.append_assoc, List.take_left' (by rw [List.length_append, List.length_take]; omega)]
/-- A block's first cells are these bytes. -/
def Filled (X : World) (g N : Nat) (bs : List UInt8) : Prop := ∃ cl : List Value, Is X g 5 cl ∧ cl.length = N ∧ cl.take bs.length = vals bs
theorem Filled.src {X : World} {g N : Nat} {bs : List UInt8} (h : Filled X g N bs) : Src X (fun _ => True) (some ⟨g, 0, none⟩) bs := fun _ => by
  obtain ⟨cl, h1, _, h3⟩ := h
  refine ⟨_, rfl, trivial, h1.lt, fun i v hv => ?_⟩
  rw [add_at, Nat.zero_add, h1.cell]
  rw [← h3, List.getElem?_take] at hv
  split at hv
  · exact hv
  · cases hv
theorem Filled.copy {X : World} {g N : Nat} {bs x : List UInt8} (h : Filled X g N bs) (dp : Option Addr) (dLen dCap : Nat) (Ax : Option Addr) (cx : Nat) (hx : Src X (fun _ => True) Ax x) (hd : 0 < x.length → dp = some ⟨g, bs.length, none⟩) (hl : x.length ≤ dLen) (hN : bs.length + x.length ≤ N) :
    ∃ w', (Builtin.copy_ #[22, 22] 3 #[.slice dp dLen dCap, .slice Ax x.length cx]).run Tryd.prog X = .ok (.int .i64 (x.length : Int)) w' ∧ Filled w' g N (bs ++ x) ∧ Turn (· = g) X w' ∧ w'.heap.size = X.heap.size := by
  obtain ⟨cl, h1, h2, h3⟩ := h
  obtain ⟨w', hrun, hi, ht, hs⟩ := run_copy_in (P := Tryd.prog) X 22 22 3 5 Tryd.underlying22 (by kernel_rfl) dp Ax dLen dCap x.length cx x.length g bs.length cl 5 h1 (vals x) (vals_length x) (Nat.min_eq_left hl).symm
    (fun h0 => by
      obtain ⟨ad, e1, _, _, e4⟩ := hx h0
      exact ⟨hd h0, ad, e1, e4⟩) (by omega) (vals_one _)
  refine ⟨w', hrun, ⟨splice cl bs.length (vals x), hi, ?_, ?_⟩, ht, hs⟩
  · rw [← h2]
    unfold splice
    simp only [List.length_append, List.length_take, List.length_drop, vals_length]
    omega
  · rw [List.length_append, vals_append, ← h3, show x.length = (vals x).length from (vals_length x).symm, splice_take cl (vals x) bs.length (by omega)]
theorem made_bytes (w : World) (T : Nat) (hT : T ≤ 4096) : ∃ cs : Array Value, (callFunc 23 #[.int .i64 (T : Int)]).run Tryd.prog w = .ok (.value (.slice (some ⟨w.heap.size, 0, none⟩) T cs.size)) (w.drew.drew.alloc (.cells cs 5)) ∧ T ≤ cs.size := by
  obtain ⟨cs, hrun, hle, _⟩ := Lib.run_makeNoZero (P := Tryd.prog) w #[3] 22 5 Tryd.underlying22 T (by omega)
  refine ⟨cs, ?_, hle⟩
  rw [run_callFunc_extern Tryd.func23 (by kernel_rfl) (by kernel_rfl) (by kernel_rfl) (e := Extern.BytealgMakeNoZero.makeNoZero #[3] #[22]) (by kernel_rfl), hrun]
  rfl

set_option maxHeartbeats 16000000 in
set_option maxRecDepth 100000 in
theorem bjoin_any (w : World) (A : Option Addr) (ps : List (List UInt8)) (n c : Nat) (hn : ps.length = n) (hnc : n ≤ c) (hmax : n ≤ 5864062014805) (h : SrcL w A ps) (ht : totalF ps ≤ 4096) :
    Calls Tryd.prog 14 #[.slice A n c, .slice none 0 0] w (BytesTold ps.flatten w) := by
  by_cases h0 : n = 0
  · obtain rfl : ps = [] := List.eq_nil_of_length_eq_zero (by omega)
    subst h0
    go_enter Tryd.func14, Tryd.ntmps14
    go_wp2_with fail
    go_ret
    exact ⟨_, _, rfl, fun h => absurd h (by simp), (Below.refl _ _).alloc (Nat.le_refl _) _⟩
  · by_cases h1 : n = 1
    · obtain ⟨x, rfl⟩ := List.length_eq_one_iff.1 (hn.trans h1)
      subst h1
      obtain ⟨p, x', Ax, cx, hx, hat, y0, hpb, hcx, hsx⟩ := h.at (c := c) (k := 0) hn (by omega) (Below.refl _ _)
      obtain rfl : x = x' := by simpa using hx
      have hxl : x.length ≤ 4096 := by simpa [totalF] using ht
      obtain ⟨v1, w1, o1, r1, own1, t1, f1⟩ := run_append_src w (.slice none 0 0) none [] x (Own.nil w) Ax x.length cx rfl hsx (by simp; omega)
      rw [List.nil_append] at own1
      have b1 := below_own (Below.refl w.heap.size w) (fun b hb => by cases hb) t1
      obtain ⟨A1, c1, hv1, _, s1, _⟩ := own1.block
      subst hv1
      have R1 := Lib.hid r1
      have B1 := Lib.hid b1
      have S1 := Lib.hid s1
      rw [show (((0 : Nat)) : Int) = 0 from rfl] at hat
      clear hx hcx hsx r1 own1 t1 f1 b1 s1 h ht hn
      go_enter Tryd.func14, Tryd.ntmps14
      go_wp2_with (at_builtin; refine append_by rfl _ (.tmp 21) 22 rfl _ _ _ w1 rfl rfl R1.out ?_)
      go_ret
      exact ⟨A1, c1, by simp, by simpa using S1.out, B1.out⟩
    · have e0 : ((n : Int) == 0) = false := by simp; omega
      have e1 : ((n : Int) == 1) = false := by simp; omega
      have hn2 : 2 ≤ n := by omega
      have HN := Lib.hid hn
      have H := Lib.hid h
      have HT := Lib.hid ht
      clear hn h ht h0
      go_enter Tryd.func14, Tryd.ntmps14
      go_wp2_with fail
      go_loop [5, 44, 7] (fun vt vi v7 => ∃ k T : Nat, vi = .int .i64 (k : Int) ∧ vt = .int .i64 (T : Int) ∧ k ≤ n ∧ T ≤ 4096 ∧ Hid (totalF (ps.take k) = T)) (fun _ vi _ => n - (intOf vi).toNat)
      case atStart => exact ⟨0, 0, rfl, rfl, Nat.zero_le _, by omega, Lib.hid rfl⟩
      case round =>
        obtain ⟨k, T, rfl, rfl, hk, hT, HK⟩ := hrel
        by_cases hlt : k < n
        · obtain ⟨p, x, Ax, cx, hx, hat, y0, hpb, hcx, hsx⟩ := H.out.at (c := c) HN.out hlt (Below.refl _ _)
          have h2 : totalF (ps.take (k + 1)) = T + x.length := by rw [take_snoc ps k x hx, totalF_snoc, HK.out]
          have h3 := totalF_take ps (k + 1)
          have h4 := HT.out
          have HK2 := Lib.hid h2
          have d1 : decide ((9223372036854775807 : Int) - (T : Int) < (x.length : Int)) = false := decide_eq_false (by omega)
          have hT2 : T + x.length ≤ 4096 := by omega
          clear hx hcx hsx h2 h3 h4
          go_wp2_with fail
          go_round
          case rel => exact ⟨k + 1, T + x.length, by go_num, by simp, hlt, hT2, HK2⟩
          case measure => simp [intOf]; omega
        · have HT2 := Lib.hid (show totalF ps = T by rw [← HK.out, List.take_of_length_le (by rw [HN.out]; omega)])
          obtain ⟨cs, hmk, hcs⟩ := made_bytes w T hT
          obtain ⟨w2, hw2⟩ : ∃ w2, w2 = (w.alloc (.cells cs 5)).drew.drew := ⟨_, rfl⟩
          have z2 : w2.heap.size = w.heap.size + 1 := by rw [hw2]; simp
          have b2 : Below w.heap.size w w2 := by rw [hw2]; exact below_drewN ((Below.refl w.heap.size w).alloc (Nat.le_refl _) _) 2
          have fil2 : Filled w2 w.heap.size cs.size [] := by
            rw [hw2]
            exact ⟨cs.toList, (by have := (Is.made w 5 cs.toList).drew.drew; simpa using this), by simp, rfl⟩
          obtain ⟨p0, x0, Ax0, cx0, hx0, hat0, y0, hpb0, hcx0, hsx0⟩ := H.out.at (c := c) (k := 0) HN.out (by omega) b2
          have hx0T : x0.length ≤ T := by
            have e := totalF_take ps 1
            rw [take_snoc ps 0 x0 hx0, totalF_snoc, HT2.out] at e
            omega
          obtain ⟨w3, r3, fil3, t3, z3⟩ := fil2.copy (some ⟨w.heap.size, 0, none⟩) T T Ax0 cx0 hsx0 (fun _ => rfl) hx0T (by simp; omega)
          rw [List.nil_append] at fil3
          have b3 : Below w.heap.size w w3 := ((Turn.of_below (S := fun b => w.heap.size ≤ b) b2).trans t3 (fun k _ h => Nat.le_of_eq (Eq.symm h))).below (fun k hk h => by omega)
          have HX0 := Lib.hid (show ps.take 1 = [x0] by rw [take_snoc ps 0 x0 hx0]; rfl)
          have F3 := Lib.hid fil3
          have B3 := Lib.hid b3
          have Z3 := Lib.hid (show w3.heap.size = w.heap.size + 1 by omega)
          have HTL := Lib.hid (show SrcL w (Option.map (fun x : Addr => (⟨x.block, x.off + 1, none⟩ : Addr)) A) (ps.drop 1) from H.out.tail)
          have HNL := Lib.hid (show (ps.drop 1).length = n - 1 by rw [List.length_drop, HN.out])
          rw [show (((0 : Nat)) : Int) = 0 from rfl] at hat0
          rw [hw2] at r3 y0
          clear hw2 z2 b2 fil2 hx0 hpb0 hcx0 hsx0 fil3 t3 z3 b3
          go_wp2_with fail
          go_loopw [9, 72, 11] (fun vb vi v11 wr => ∃ j B : Nat, vi = .int .i64 (j : Int) ∧ vb = .int .i64 (B : Int) ∧ j ≤ n - 1 ∧ B ≤ T ∧ Hid (totalF (ps.take (j + 1)) = B) ∧ Hid (Filled wr w.heap.size cs.size (ps.take (j + 1)).flatten) ∧ Hid (Below w.heap.size w wr) ∧ Hid (wr.heap.size = w.heap.size + 1)) (fun _ vi _ _ => n - 1 - (intOf vi).toNat)
          case atStart => exact ⟨0, x0.length, rfl, rfl, Nat.zero_le _, hx0T, Lib.hid (by rw [HX0.out]; simp [totalF]), Lib.hid (by rw [HX0.out]; simpa using F3.out), B3, Z3⟩
          case round =>
            obtain ⟨j, B, rfl, rfl, hj, hB, HQ, HF, HW, HZ⟩ := hrel
            have hfl : (ps.take (j + 1)).flatten.length = B := by rw [flatten_length, HQ.out]
            by_cases hlt : j < n - 1
            · obtain ⟨p, x, Ax, cx, hx, hat, y1, hpb, hcx, hsx⟩ := HTL.out.at (c := c - 1) HNL.out hlt HW.out
              rw [List.getElem?_drop, Nat.add_comm 1 j] at hx
              have hq2 : totalF (ps.take (j + 1 + 1)) = B + x.length := by rw [take_snoc ps (j + 1) x hx, totalF_snoc, HQ.out]
              have hBT : B + x.length ≤ T := by
                have := totalF_take ps (j + 1 + 1)
                rw [hq2, HT2.out] at this
                exact this
              obtain ⟨A7, hcut, hA7⟩ := run_cut (some ⟨w.heap.size, 0, none⟩) T T B hB (Nat.le_refl _)
              have hnone := run_copy_none (P := Tryd.prog) wr 22 22 3 5 A7 none (T - B) (T - B) 0 0 Tryd.underlying22 (by kernel_rfl) (Nat.zero_min _)
              obtain ⟨w4, r4, fil4, t4, z4⟩ := HF.out.copy A7 (T - B) (T - B) Ax cx hsx (fun h0 => by rw [hA7 (by omega), hfl]; show some ((⟨w.heap.size, 0, none⟩ : Addr).add B) = _; rw [add_at, Nat.zero_add]) (by omega) (by rw [hfl]; omega)
              have HQ2 := Lib.hid hq2
              have F4 := Lib.hid (show Filled w4 w.heap.size cs.size (ps.take (j + 1 + 1)).flatten by rw [take_snoc ps (j + 1) x hx, List.flatten_append]; simpa using fil4)
              have B4 := Lib.hid (((Turn.of_below (S := fun b => w.heap.size ≤ b) HW.out).trans t4 (fun k _ h => Nat.le_of_eq (Eq.symm h))).below (fun k hk h => by omega) : Below w.heap.size w w4)
              have Z4 := Lib.hid (z4.trans HZ.out)
              clear hx hpb hcx hsx hq2 fil4 t4 z4 hA7 hfl
              go_wp2_with fail
              exact ⟨⟨j + 1, B + x.length, by go_num, by simp, by omega, hBT, HQ2, F4, B4, Z4⟩, by simp [intOf]; omega⟩
            · have hjn : j + 1 = n := by omega
              have hps : ps.take (j + 1) = ps := List.take_of_length_le (by rw [HN.out]; omega)
              have HFF := Lib.hid (show Filled wr w.heap.size cs.size ps.flatten by have := HF.out; rwa [hps] at this)
              have hBT : ps.flatten.length = T := by rw [flatten_length, HT2.out]
              clear hfl hps
              go_wp2_with fail
              go_ret
              exact ⟨some ⟨w.heap.size, 0, none⟩, T, by rw [hBT]; rfl, HFF.out.src, HW.out⟩
end Go.Proofs.YtilgljnmdfejmaaDoor
