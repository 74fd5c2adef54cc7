/-
  The document's own Response of layer 12.
  Conditions: the list holds at most 1000000000 bytes.
-/
import Derived.Test.YtdcbcjljmjnopaaGreatDoorEC
import Derived.Laws.Rows
namespace Go.Proofs.YtdcbcjljmjnopaaGreatDoor.Con
open Go.RowKit Hop

theorem ubody_len : ∀ (l x : List UInt8), ubody l = some x → x.length ≤ l.length
  | [], x, h => by simp [ubody] at h
  | [c], x, h => by
    simp only [ubody] at h
    split at h
    · injection h with h; subst h; simp
    · cases h
  | c :: d :: l, x, h => by
    simp only [ubody] at h
    split at h
    · cases h
    · split at h
      · split at h
        · obtain ⟨y, hy, rfl⟩ := Option.map_eq_some_iff.1 h
          have := ubody_len l y hy
          simp only [List.length_cons]
          omega
        · cases h
      · split at h
        · obtain ⟨y, hy, rfl⟩ := Option.map_eq_some_iff.1 h
          have := ubody_len (d :: l) y hy
          simp only [List.length_cons] at this ⊢
          omega
        · cases h
theorem unq_len (l x : List UInt8) (h : unqF l = some x) : x.length ≤ l.length := by
  cases l with
  | nil => simp [unqF] at h
  | cons c l =>
    simp only [unqF] at h
    split at h
    · have := ubody_len l x h
      simp only [List.length_cons]
      omega
    · cases h
theorem pair_len (l : List UInt8) (p : Dir) (h : pairF l = some p) : p.1.length ≤ l.length ∧ p.2.length ≤ l.length := by
  unfold pairF at h
  have hl : ∀ x : List UInt8, (lowF x).length = x.length := fun x => lowF_length x
  split at h
  · cases h
  · split at h
    · injection h with h
      subst h
      exact ⟨by rw [hl]; exact Nat.le_refl _, Nat.zero_le _⟩
    · split at h
      · injection h with h
        subst h
        exact ⟨by rw [hl, List.length_take]; omega, by rw [List.length_drop]; omega⟩
      · obtain ⟨y, hy, rfl⟩ := Option.map_eq_some_iff.1 h
        have := unq_len _ y hy
        rw [List.length_drop] at this
        exact ⟨by rw [hl, List.length_take]; omega, by show y.length ≤ _; omega⟩

set_option maxHeartbeats 16000000 in
set_option maxRecDepth 100000 in
theorem rresponse_any {P : Nat → Prop} (w : World) (A : Option Addr) (ls : List Fld) (n c : Nat) (hn : ls.length = n) (hb : bulkF ls ≤ 1000000000) (h : SrcF w P A ls) :
    Calls Tryz.prog 25 #[.slice A n c] w fun e w' => e = .returned (responseF ls).v ∧ Below w.heap.size w w' := by
  have bz := (Below.refl w.heap.size w).alloc (Nat.le_refl _) (.cells #[.bool false, .bool false, .bool false, .bool false, .bool false, .bool false, .int .i64 0, .int .i64 0, .int .i64 0, .int .i64 0] 53)
  have bo := bz.alloc (by simp) (.cells #[.bool false, .bool false, .bool false, .bool false, .bool false, .bool false, .int .i64 (-1), .int .i64 (-1), .int .i64 (-1), .int .i64 (-1)] 53)
  have ize := (Is.made w 53 [.bool false, .bool false, .bool false, .bool false, .bool false, .bool false, .int .i64 0, .int .i64 0, .int .i64 0, .int .i64 0]).alloc (.cells #[.bool false, .bool false, .bool false, .bool false, .bool false, .bool false, .int .i64 (-1), .int .i64 (-1), .int .i64 (-1), .int .i64 (-1)] 53)
  have ione := Is.made (w.alloc (.cells #[.bool false, .bool false, .bool false, .bool false, .bool false, .bool false, .int .i64 0, .int .i64 0, .int .i64 0, .int .i64 0] 53)) 53 [.bool false, .bool false, .bool false, .bool false, .bool false, .bool false, .int .i64 (-1), .int .i64 (-1), .int .i64 (-1), .int .i64 (-1)]
  have hw1 : (w.alloc (.cells #[.bool false, .bool false, .bool false, .bool false, .bool false, .bool false, .int .i64 0, .int .i64 0, .int .i64 0, .int .i64 0] 53)).heap.size = w.heap.size + 1 := by simp
  rw [hw1] at ione
  have CE := relem_any ((w.alloc (.cells #[.bool false, .bool false, .bool false, .bool false, .bool false, .bool false, .int .i64 0, .int .i64 0, .int .i64 0, .int .i64 0] 53)).alloc (.cells #[.bool false, .bool false, .bool false, .bool false, .bool false, .bool false, .int .i64 (-1), .int .i64 (-1), .int .i64 (-1), .int .i64 (-1)] 53)) A ls n c hn hb (h.below bo) ⟨#[99, 97, 99, 104, 101, 45, 99, 111, 110, 116, 114, 111, 108]⟩ (by decide)
  rw [show bl ⟨#[99, 97, 99, 104, 101, 45, 99, 111, 110, 116, 114, 111, 108]⟩ = ccN from rfl] at CE
  have HEL := Lib.hid (elem_bulk ccN ls)
  have HSL := Lib.hid (show ∀ x ∈ elemF ls ccN, x.length ≤ 1000000000 from fun x hx => Nat.le_trans (elem_part hx) hb)
  have BO := Lib.hid bo
  have IZ := Lib.hid ize
  have IO := Lib.hid ione
  have HF := Lib.hid (show responseF ls = resD (dirsF (elemF ls ccN)) from rfl)
  have HN := Lib.hid hn
  have HB := Lib.hid hb
  have HSRC := Lib.hid h
  clear bz bo ize ione hw1 hn hb h
  generalize elemF ls ccN = es at *
  go_enter Tryz.func25, Tryz.ntmps25
  go_wp2_with fail
  refine CE.mono ?_
  rintro e w2 ⟨v2, o2, rfl, own2, ob2, b2⟩
  obtain ⟨g3, hg3⟩ : ∃ g3, w.heap.size + 1 = g3 := ⟨_, rfl⟩
  rw [hg3] at IO ⊢
  have hz : ((w.alloc (.cells #[.bool false, .bool false, .bool false, .bool false, .bool false, .bool false, .int .i64 0, .int .i64 0, .int .i64 0, .int .i64 0] 53)).alloc (.cells #[.bool false, .bool false, .bool false, .bool false, .bool false, .bool false, .int .i64 (-1), .int .i64 (-1), .int .i64 (-1), .int .i64 (-1)] 53)).heap.size = g3 + 1 := by simp; omega
  rw [hz] at ob2
  obtain ⟨A2, c2, hv2, src2⟩ := own2.src (fun b => ¬ b = g3) (fun b hb e => by have := ob2 b hb; omega)
  subst hv2
  have H2 := Lib.hid src2
  have I2 : Hid (Is w2 g3 53 (resD (dirsF (es.take 0))).cells) := Lib.hid (IO.out.kept (Turn.of_below (S := fun _ => False) b2) (fun h => h))
  have IZ2 := Lib.hid (IZ.out.kept (Turn.of_below (S := fun _ => False) b2) (fun h => h))
  have B2 := Lib.hid (BO.out.trans (b2.mono BO.out.size))
  have HG3 := Lib.hid hg3
  obtain ⟨m, hm⟩ : ∃ m, es.length = m := ⟨_, rfl⟩
  have hmx : m ≤ 1000000000 := by have := HEL.out; have := HB.out; omega
  rw [hm] at ⊢
  have HM := Lib.hid hm
  clear hm own2 ob2 src2 b2 CE hz hg3 IO BO IZ
  go_wp2_with fail
  go_loopw [5] (fun vi wr => ∃ k : Nat, vi = .int .i64 (k : Int) ∧ k ≤ m ∧ Hid (Is wr g3 53 (resD (dirsF (es.take k))).cells) ∧ Hid (Turn (fun b => b = g3) w2 wr)) (fun vi _ => m - (intOf vi).toNat)
  case atStart => exact ⟨0, rfl, Nat.zero_le _, I2, Lib.hid (Turn.refl _ _)⟩
  case round =>
    obtain ⟨k, rfl, hk, HI, HT⟩ := hrel
    by_cases hlt : k < m
    · obtain ⟨p, x, hx, hat, y, _, _⟩ := (srcs_turn H2.out HT.out (fun _ h => h)).at (c := c2) HM.out hlt (Below.refl wr.heap.size wr)
      have HX := Lib.hid hx
      have sx := HSL.out x (List.mem_of_getElem? hx)
      obtain ⟨Xs, hXs⟩ : ∃ Xs : ByteArray, Xs = ⟨x.toArray⟩ := ⟨_, rfl⟩
      have hbx : bl Xs = x := by rw [hXs, bl_mk]
      have CP := Lib.hid (fun W : World => pair_any Xs W (by rw [← bl_length, hbx]; omega))
      rw [hbx] at CP
      unfold Pairs at CP
      rw [← hXs] at y
      clear hXs hbx sx hx
      cases hp : pairF x with
      | none =>
        rw [hp] at CP
        simp only [Option.map_none, Option.getD_none, Option.isSome_none] at CP
        have HN := Lib.hid (dirs_none es k x HX.out hp)
        clear hp
        go_wp2_with fail
        refine (CP.out _).mono ?_
        rintro e w5 ⟨rfl, b5⟩
        have HI5 := Lib.hid (HI.out.kept (Turn.of_below (S := fun _ => False) b5) (fun h => h))
        have HT5 := Lib.hid (HT.out.trans (Turn.of_below (S := fun _ => False) b5) (fun _ _ h => h.elim))
        clear b5
        go_wp2_with fail
        go_roundw
        case rel => exact ⟨k + 1, by go_num, hlt, by rw [HN.out]; exact HI5, HT5⟩
        case measure => simp [intOf]; omega
      | some q =>
        have HN := Lib.hid (dirs_some es k x q HX.out hp)
        obtain ⟨Ns, hNs⟩ : ∃ Ns : ByteArray, Ns = ⟨q.1.toArray⟩ := ⟨_, rfl⟩
        obtain ⟨Vs, hVs⟩ : ∃ Vs : ByteArray, Vs = ⟨q.2.toArray⟩ := ⟨_, rfl⟩
        rw [hp] at CP
        simp only [Option.map_some, Option.getD_some, Option.isSome_some] at CP
        rw [← hNs, ← hVs] at CP
        have hnl : Ns.toList = q.1 := by rw [Lib.toList_data, hNs]
        have hvl : Vs.toList = q.2 := by rw [Lib.toList_data, hVs]
        have hvs : Vs.size ≤ 140737488351232 := by
          have := pair_len x q hp
          have := HSL.out x (List.mem_of_getElem? HX.out)
          rw [← bl_length, hVs, bl_mk]
          omega
        have CN := Lib.hid (fun W : World => number_any Vs W hvs)
        rw [show bl Vs = q.2 from by rw [hVs, bl_mk]] at CN
        have hcr : capN q.2 ≤ 2147483647 := capN_le q.2
        clear hp hNs hVs hvs
        obtain ⟨cc, hcc⟩ : ∃ cc, resD (dirsF (es.take k)) = cc := ⟨_, rfl⟩
        rw [hcc] at HI
        have STEP := res_step (dirsF (es.take k)) q
        rw [← HN.out, hcc] at STEP
        have HR := nF_range false (dirsF (es.take k))
        have r6 : -1 ≤ cc.ma ∧ cc.ma ≤ 2147483647 := by rw [← hcc]; exact HR ageN
        have r7 : -1 ≤ cc.sh ∧ cc.sh ≤ 2147483647 := by rw [← hcc]; exact HR sharedN
        have zon : cc.on = false := by rw [← hcc]; rfl
        have zmf : cc.mf = -1 := by rw [← hcc]; rfl
        have zms : cc.ms = -1 := by rw [← hcc]; rfl
        clear hcc HR HN
        by_cases hnoStoreN : q.1 = noStoreN
        · have hgg := Lib.hid hnoStoreN
          have enoStoreN : (Ns.toList == [110, 111, 45, 115, 116, 111, 114, 101]) = true := by rw [hnl, hnoStoreN]; decide
          have HS := Lib.hid (show resD (dirsF (es.take (k + 1))) = { cc with ns := true } by
            rw [hnoStoreN] at STEP
            simp only [show (noStoreN == noStoreN) = true from by decide, show (noStoreN == noCacheN) = false from by decide, show (noStoreN == privN) = false from by decide, show (noStoreN == pubN) = false from by decide, show (noStoreN == mustN) = false from by decide, show (noStoreN == proxN) = false from by decide, show (noStoreN == ageN) = false from by decide, show (noStoreN == sharedN) = false from by decide, Bool.or_false, Bool.or_true, Bool.false_eq_true, if_false] at STEP
            rw [STEP]
            cases cc
            simp only at zon zmf zms
            subst zon zmf zms
            rfl)
          clear STEP  hnoStoreN
          have y0 : wr.cell? ⟨g3, 0, none⟩ = some (.bool cc.ns) := HI.out.cell 0
          have yf : wr.frozen? ⟨g3, 0, none⟩ = false := HI.out.free 0
          clear hnl hvl
          go_wp2_with fail
          refine (CP.out _).mono ?_
          rintro e w5 ⟨rfl, b5⟩
          have HI5 := Lib.hid (HI.out.kept (Turn.of_below (S := fun _ => False) b5) (fun h => h))
          have HT5 := Lib.hid (HT.out.trans (Turn.of_below (S := fun _ => False) b5) (fun _ _ h => h.elim))
          have yv5 : w5.cell? ⟨g3, 0, none⟩ = some (.bool cc.ns) := HI5.out.cell 0
          have yvf5 : w5.frozen? ⟨g3, 0, none⟩ = false := HI5.out.free 0
          clear y0 yf
          clear b5 HI HT
          go_wp2_with fail
          refine (CN.out _).mono ?_
          rintro e w6 ⟨rfl, h6⟩
          subst h6
          go_wp2_with fail
          go_roundw
          case rel => exact ⟨k + 1, by go_num, hlt, Lib.hid (by rw [HS.out]; exact HI5.out.set 0 (.bool true)), Lib.hid (HT5.out.setCell (fun _ => rfl) _)⟩
          case measure => simp [intOf]; omega
        by_cases hnoCacheN : q.1 = noCacheN
        · have hgg := Lib.hid hnoCacheN
          have enoStoreN : (Ns.toList == [110, 111, 45, 115, 116, 111, 114, 101]) = false := by rw [hnl]; exact beq_eq_false_iff_ne.2 hnoStoreN
          have enoCacheN : (Ns.toList == [110, 111, 45, 99, 97, 99, 104, 101]) = true := by rw [hnl, hnoCacheN]; decide
          have HS := Lib.hid (show resD (dirsF (es.take (k + 1))) = { cc with nc := true } by
            rw [hnoCacheN] at STEP
            simp only [show (noCacheN == noStoreN) = false from by decide, show (noCacheN == noCacheN) = true from by decide, show (noCacheN == privN) = false from by decide, show (noCacheN == pubN) = false from by decide, show (noCacheN == mustN) = false from by decide, show (noCacheN == proxN) = false from by decide, show (noCacheN == ageN) = false from by decide, show (noCacheN == sharedN) = false from by decide, Bool.or_false, Bool.or_true, Bool.false_eq_true, if_false] at STEP
            rw [STEP]
            cases cc
            simp only at zon zmf zms
            subst zon zmf zms
            rfl)
          clear STEP hnoStoreN hnoCacheN
          have y1 : wr.cell? ⟨g3, 1, none⟩ = some (.bool cc.nc) := HI.out.cell 1
          have yf : wr.frozen? ⟨g3, 1, none⟩ = false := HI.out.free 1
          clear hnl hvl
          go_wp2_with fail
          refine (CP.out _).mono ?_
          rintro e w5 ⟨rfl, b5⟩
          have HI5 := Lib.hid (HI.out.kept (Turn.of_below (S := fun _ => False) b5) (fun h => h))
          have HT5 := Lib.hid (HT.out.trans (Turn.of_below (S := fun _ => False) b5) (fun _ _ h => h.elim))
          have yv5 : w5.cell? ⟨g3, 1, none⟩ = some (.bool cc.nc) := HI5.out.cell 1
          have yvf5 : w5.frozen? ⟨g3, 1, none⟩ = false := HI5.out.free 1
          clear y1 yf
          clear b5 HI HT
          go_wp2_with fail
          refine (CN.out _).mono ?_
          rintro e w6 ⟨rfl, h6⟩
          subst h6
          go_wp2_with fail
          go_roundw
          case rel => exact ⟨k + 1, by go_num, hlt, Lib.hid (by rw [HS.out]; exact HI5.out.set 1 (.bool true)), Lib.hid (HT5.out.setCell (fun _ => rfl) _)⟩
          case measure => simp [intOf]; omega
        by_cases hprivN : q.1 = privN
        · have hgg := Lib.hid hprivN
          have enoStoreN : (Ns.toList == [110, 111, 45, 115, 116, 111, 114, 101]) = false := by rw [hnl]; exact beq_eq_false_iff_ne.2 hnoStoreN
          have enoCacheN : (Ns.toList == [110, 111, 45, 99, 97, 99, 104, 101]) = false := by rw [hnl]; exact beq_eq_false_iff_ne.2 hnoCacheN
          have eprivN : (Ns.toList == [112, 114, 105, 118, 97, 116, 101]) = true := by rw [hnl, hprivN]; decide
          have HS := Lib.hid (show resD (dirsF (es.take (k + 1))) = { cc with pv := true } by
            rw [hprivN] at STEP
            simp only [show (privN == noStoreN) = false from by decide, show (privN == noCacheN) = false from by decide, show (privN == privN) = true from by decide, show (privN == pubN) = false from by decide, show (privN == mustN) = false from by decide, show (privN == proxN) = false from by decide, show (privN == ageN) = false from by decide, show (privN == sharedN) = false from by decide, Bool.or_false, Bool.or_true, Bool.false_eq_true, if_false] at STEP
            rw [STEP]
            cases cc
            simp only at zon zmf zms
            subst zon zmf zms
            rfl)
          clear STEP hnoStoreN hnoCacheN hprivN
          have y2 : wr.cell? ⟨g3, 2, none⟩ = some (.bool cc.pv) := HI.out.cell 2
          have yf : wr.frozen? ⟨g3, 2, none⟩ = false := HI.out.free 2
          clear hnl hvl
          go_wp2_with fail
          refine (CP.out _).mono ?_
          rintro e w5 ⟨rfl, b5⟩
          have HI5 := Lib.hid (HI.out.kept (Turn.of_below (S := fun _ => False) b5) (fun h => h))
          have HT5 := Lib.hid (HT.out.trans (Turn.of_below (S := fun _ => False) b5) (fun _ _ h => h.elim))
          have yv5 : w5.cell? ⟨g3, 2, none⟩ = some (.bool cc.pv) := HI5.out.cell 2
          have yvf5 : w5.frozen? ⟨g3, 2, none⟩ = false := HI5.out.free 2
          clear y2 yf
          clear b5 HI HT
          go_wp2_with fail
          refine (CN.out _).mono ?_
          rintro e w6 ⟨rfl, h6⟩
          subst h6
          go_wp2_with fail
          go_roundw
          case rel => exact ⟨k + 1, by go_num, hlt, Lib.hid (by rw [HS.out]; exact HI5.out.set 2 (.bool true)), Lib.hid (HT5.out.setCell (fun _ => rfl) _)⟩
          case measure => simp [intOf]; omega
        by_cases hpubN : q.1 = pubN
        · have hgg := Lib.hid hpubN
          have enoStoreN : (Ns.toList == [110, 111, 45, 115, 116, 111, 114, 101]) = false := by rw [hnl]; exact beq_eq_false_iff_ne.2 hnoStoreN
          have enoCacheN : (Ns.toList == [110, 111, 45, 99, 97, 99, 104, 101]) = false := by rw [hnl]; exact beq_eq_false_iff_ne.2 hnoCacheN
          have eprivN : (Ns.toList == [112, 114, 105, 118, 97, 116, 101]) = false := by rw [hnl]; exact beq_eq_false_iff_ne.2 hprivN
          have epubN : (Ns.toList == [112, 117, 98, 108, 105, 99]) = true := by rw [hnl, hpubN]; decide
          have HS := Lib.hid (show resD (dirsF (es.take (k + 1))) = { cc with pb := true } by
            rw [hpubN] at STEP
            simp only [show (pubN == noStoreN) = false from by decide, show (pubN == noCacheN) = false from by decide, show (pubN == privN) = false from by decide, show (pubN == pubN) = true from by decide, show (pubN == mustN) = false from by decide, show (pubN == proxN) = false from by decide, show (pubN == ageN) = false from by decide, show (pubN == sharedN) = false from by decide, Bool.or_false, Bool.or_true, Bool.false_eq_true, if_false] at STEP
            rw [STEP]
            cases cc
            simp only at zon zmf zms
            subst zon zmf zms
            rfl)
          clear STEP hnoStoreN hnoCacheN hprivN hpubN
          have y3 : wr.cell? ⟨g3, 3, none⟩ = some (.bool cc.pb) := HI.out.cell 3
          have yf : wr.frozen? ⟨g3, 3, none⟩ = false := HI.out.free 3
          clear hnl hvl
          go_wp2_with fail
          refine (CP.out _).mono ?_
          rintro e w5 ⟨rfl, b5⟩
          have HI5 := Lib.hid (HI.out.kept (Turn.of_below (S := fun _ => False) b5) (fun h => h))
          have HT5 := Lib.hid (HT.out.trans (Turn.of_below (S := fun _ => False) b5) (fun _ _ h => h.elim))
          have yv5 : w5.cell? ⟨g3, 3, none⟩ = some (.bool cc.pb) := HI5.out.cell 3
          have yvf5 : w5.frozen? ⟨g3, 3, none⟩ = false := HI5.out.free 3
          clear y3 yf
          clear b5 HI HT
          go_wp2_with fail
          refine (CN.out _).mono ?_
          rintro e w6 ⟨rfl, h6⟩
          subst h6
          go_wp2_with fail
          go_roundw
          case rel => exact ⟨k + 1, by go_num, hlt, Lib.hid (by rw [HS.out]; exact HI5.out.set 3 (.bool true)), Lib.hid (HT5.out.setCell (fun _ => rfl) _)⟩
          case measure => simp [intOf]; omega
        by_cases hmustN : q.1 = mustN
        · have hgg := Lib.hid hmustN
          have enoStoreN : (Ns.toList == [110, 111, 45, 115, 116, 111, 114, 101]) = false := by rw [hnl]; exact beq_eq_false_iff_ne.2 hnoStoreN
          have enoCacheN : (Ns.toList == [110, 111, 45, 99, 97, 99, 104, 101]) = false := by rw [hnl]; exact beq_eq_false_iff_ne.2 hnoCacheN
          have eprivN : (Ns.toList == [112, 114, 105, 118, 97, 116, 101]) = false := by rw [hnl]; exact beq_eq_false_iff_ne.2 hprivN
          have epubN : (Ns.toList == [112, 117, 98, 108, 105, 99]) = false := by rw [hnl]; exact beq_eq_false_iff_ne.2 hpubN
          have emustN : (Ns.toList == [109, 117, 115, 116, 45, 114, 101, 118, 97, 108, 105, 100, 97, 116, 101]) = true := by rw [hnl, hmustN]; decide
          have HS := Lib.hid (show resD (dirsF (es.take (k + 1))) = { cc with mu := true } by
            rw [hmustN] at STEP
            simp only [show (mustN == noStoreN) = false from by decide, show (mustN == noCacheN) = false from by decide, show (mustN == privN) = false from by decide, show (mustN == pubN) = false from by decide, show (mustN == mustN) = true from by decide, show (mustN == proxN) = false from by decide, show (mustN == ageN) = false from by decide, show (mustN == sharedN) = false from by decide, Bool.or_false, Bool.or_true, Bool.false_eq_true, if_false] at STEP
            rw [STEP]
            cases cc
            simp only at zon zmf zms
            subst zon zmf zms
            rfl)
          clear STEP hnoStoreN hnoCacheN hprivN hpubN hmustN
          have y4 : wr.cell? ⟨g3, 4, none⟩ = some (.bool cc.mu) := HI.out.cell 4
          have yf : wr.frozen? ⟨g3, 4, none⟩ = false := HI.out.free 4
          clear hnl hvl
          go_wp2_with fail
          refine (CP.out _).mono ?_
          rintro e w5 ⟨rfl, b5⟩
          have HI5 := Lib.hid (HI.out.kept (Turn.of_below (S := fun _ => False) b5) (fun h => h))
          have HT5 := Lib.hid (HT.out.trans (Turn.of_below (S := fun _ => False) b5) (fun _ _ h => h.elim))
          have yv5 : w5.cell? ⟨g3, 4, none⟩ = some (.bool cc.mu) := HI5.out.cell 4
          have yvf5 : w5.frozen? ⟨g3, 4, none⟩ = false := HI5.out.free 4
          clear y4 yf
          clear b5 HI HT
          go_wp2_with fail
          refine (CN.out _).mono ?_
          rintro e w6 ⟨rfl, h6⟩
          subst h6
          go_wp2_with fail
          go_roundw
          case rel => exact ⟨k + 1, by go_num, hlt, Lib.hid (by rw [HS.out]; exact HI5.out.set 4 (.bool true)), Lib.hid (HT5.out.setCell (fun _ => rfl) _)⟩
          case measure => simp [intOf]; omega
        by_cases hproxN : q.1 = proxN
        · have hgg := Lib.hid hproxN
          have enoStoreN : (Ns.toList == [110, 111, 45, 115, 116, 111, 114, 101]) = false := by rw [hnl]; exact beq_eq_false_iff_ne.2 hnoStoreN
          have enoCacheN : (Ns.toList == [110, 111, 45, 99, 97, 99, 104, 101]) = false := by rw [hnl]; exact beq_eq_false_iff_ne.2 hnoCacheN
          have eprivN : (Ns.toList == [112, 114, 105, 118, 97, 116, 101]) = false := by rw [hnl]; exact beq_eq_false_iff_ne.2 hprivN
          have epubN : (Ns.toList == [112, 117, 98, 108, 105, 99]) = false := by rw [hnl]; exact beq_eq_false_iff_ne.2 hpubN
          have emustN : (Ns.toList == [109, 117, 115, 116, 45, 114, 101, 118, 97, 108, 105, 100, 97, 116, 101]) = false := by rw [hnl]; exact beq_eq_false_iff_ne.2 hmustN
          have eproxN : (Ns.toList == [112, 114, 111, 120, 121, 45, 114, 101, 118, 97, 108, 105, 100, 97, 116, 101]) = true := by rw [hnl, hproxN]; decide
          have HS := Lib.hid (show resD (dirsF (es.take (k + 1))) = { cc with mu := true } by
            rw [hproxN] at STEP
            simp only [show (proxN == noStoreN) = false from by decide, show (proxN == noCacheN) = false from by decide, show (proxN == privN) = false from by decide, show (proxN == pubN) = false from by decide, show (proxN == mustN) = false from by decide, show (proxN == proxN) = true from by decide, show (proxN == ageN) = false from by decide, show (proxN == sharedN) = false from by decide, Bool.or_false, Bool.or_true, Bool.false_eq_true, if_false] at STEP
            rw [STEP]
            cases cc
            simp only at zon zmf zms
            subst zon zmf zms
            rfl)
          clear STEP hnoStoreN hnoCacheN hprivN hpubN hmustN hproxN
          have y4 : wr.cell? ⟨g3, 4, none⟩ = some (.bool cc.mu) := HI.out.cell 4
          have yf : wr.frozen? ⟨g3, 4, none⟩ = false := HI.out.free 4
          clear hnl hvl
          go_wp2_with fail
          refine (CP.out _).mono ?_
          rintro e w5 ⟨rfl, b5⟩
          have HI5 := Lib.hid (HI.out.kept (Turn.of_below (S := fun _ => False) b5) (fun h => h))
          have HT5 := Lib.hid (HT.out.trans (Turn.of_below (S := fun _ => False) b5) (fun _ _ h => h.elim))
          have yv5 : w5.cell? ⟨g3, 4, none⟩ = some (.bool cc.mu) := HI5.out.cell 4
          have yvf5 : w5.frozen? ⟨g3, 4, none⟩ = false := HI5.out.free 4
          clear y4 yf
          clear b5 HI HT
          go_wp2_with fail
          refine (CN.out _).mono ?_
          rintro e w6 ⟨rfl, h6⟩
          subst h6
          go_wp2_with fail
          go_roundw
          case rel => exact ⟨k + 1, by go_num, hlt, Lib.hid (by rw [HS.out]; exact HI5.out.set 4 (.bool true)), Lib.hid (HT5.out.setCell (fun _ => rfl) _)⟩
          case measure => simp [intOf]; omega
        by_cases hageN : q.1 = ageN
        · have hgg := Lib.hid hageN
          have enoStoreN : (Ns.toList == [110, 111, 45, 115, 116, 111, 114, 101]) = false := by rw [hnl]; exact beq_eq_false_iff_ne.2 hnoStoreN
          have enoCacheN : (Ns.toList == [110, 111, 45, 99, 97, 99, 104, 101]) = false := by rw [hnl]; exact beq_eq_false_iff_ne.2 hnoCacheN
          have eprivN : (Ns.toList == [112, 114, 105, 118, 97, 116, 101]) = false := by rw [hnl]; exact beq_eq_false_iff_ne.2 hprivN
          have epubN : (Ns.toList == [112, 117, 98, 108, 105, 99]) = false := by rw [hnl]; exact beq_eq_false_iff_ne.2 hpubN
          have emustN : (Ns.toList == [109, 117, 115, 116, 45, 114, 101, 118, 97, 108, 105, 100, 97, 116, 101]) = false := by rw [hnl]; exact beq_eq_false_iff_ne.2 hmustN
          have eproxN : (Ns.toList == [112, 114, 111, 120, 121, 45, 114, 101, 118, 97, 108, 105, 100, 97, 116, 101]) = false := by rw [hnl]; exact beq_eq_false_iff_ne.2 hproxN
          have eageN : (Ns.toList == [109, 97, 120, 45, 97, 103, 101]) = true := by rw [hnl, hageN]; decide
          have HS := Lib.hid (show resD (dirsF (es.take (k + 1))) = { cc with ma := leastF cc.ma (capN q.2) } by
            rw [hageN] at STEP
            simp only [show (ageN == noStoreN) = false from by decide, show (ageN == noCacheN) = false from by decide, show (ageN == privN) = false from by decide, show (ageN == pubN) = false from by decide, show (ageN == mustN) = false from by decide, show (ageN == proxN) = false from by decide, show (ageN == ageN) = true from by decide, show (ageN == sharedN) = false from by decide, Bool.or_false, Bool.false_eq_true, if_true, if_false] at STEP
            rw [STEP]
            cases cc
            simp only at zon zmf zms
            subst zon zmf zms
            rfl)
          clear STEP hnoStoreN hnoCacheN hprivN hpubN hmustN hproxN hageN
          have y6 : wr.cell? ⟨g3, 6, none⟩ = some (.int .i64 cc.ma) := HI.out.cell 6
          have yf : wr.frozen? ⟨g3, 6, none⟩ = false := HI.out.free 6
          clear hnl hvl
          have CL := Lib.hid (fun W : World => least_any cc.ma (capN q.2 : Int) W)
          go_wp2_with fail
          refine (CP.out _).mono ?_
          rintro e w5 ⟨rfl, b5⟩
          have HI5 := Lib.hid (HI.out.kept (Turn.of_below (S := fun _ => False) b5) (fun h => h))
          have HT5 := Lib.hid (HT.out.trans (Turn.of_below (S := fun _ => False) b5) (fun _ _ h => h.elim))
          have yv5 : w5.cell? ⟨g3, 6, none⟩ = some (.int .i64 cc.ma) := HI5.out.cell 6
          have yvf5 : w5.frozen? ⟨g3, 6, none⟩ = false := HI5.out.free 6
          clear y6 yf
          clear b5 HI HT
          go_wp2_with fail
          refine (CN.out _).mono ?_
          rintro e w6 ⟨rfl, h6⟩
          subst h6
          go_wp2_with fail
          refine (CL.out _).mono ?_
          rintro e w7 ⟨rfl, h7⟩
          subst h7
          go_wp2_with fail
          go_roundw
          case rel => exact ⟨k + 1, by go_num, hlt, Lib.hid (by rw [HS.out]; exact HI5.out.set 6 (.int .i64 (leastF cc.ma (capN q.2)))), Lib.hid (HT5.out.setCell (fun _ => rfl) _)⟩
          case measure => simp [intOf]; omega
        by_cases hsharedN : q.1 = sharedN
        · have hgg := Lib.hid hsharedN
          have enoStoreN : (Ns.toList == [110, 111, 45, 115, 116, 111, 114, 101]) = false := by rw [hnl]; exact beq_eq_false_iff_ne.2 hnoStoreN
          have enoCacheN : (Ns.toList == [110, 111, 45, 99, 97, 99, 104, 101]) = false := by rw [hnl]; exact beq_eq_false_iff_ne.2 hnoCacheN
          have eprivN : (Ns.toList == [112, 114, 105, 118, 97, 116, 101]) = false := by rw [hnl]; exact beq_eq_false_iff_ne.2 hprivN
          have epubN : (Ns.toList == [112, 117, 98, 108, 105, 99]) = false := by rw [hnl]; exact beq_eq_false_iff_ne.2 hpubN
          have emustN : (Ns.toList == [109, 117, 115, 116, 45, 114, 101, 118, 97, 108, 105, 100, 97, 116, 101]) = false := by rw [hnl]; exact beq_eq_false_iff_ne.2 hmustN
          have eproxN : (Ns.toList == [112, 114, 111, 120, 121, 45, 114, 101, 118, 97, 108, 105, 100, 97, 116, 101]) = false := by rw [hnl]; exact beq_eq_false_iff_ne.2 hproxN
          have eageN : (Ns.toList == [109, 97, 120, 45, 97, 103, 101]) = false := by rw [hnl]; exact beq_eq_false_iff_ne.2 hageN
          have esharedN : (Ns.toList == [115, 45, 109, 97, 120, 97, 103, 101]) = true := by rw [hnl, hsharedN]; decide
          have HS := Lib.hid (show resD (dirsF (es.take (k + 1))) = { cc with sh := leastF cc.sh (capN q.2) } by
            rw [hsharedN] at STEP
            simp only [show (sharedN == noStoreN) = false from by decide, show (sharedN == noCacheN) = false from by decide, show (sharedN == privN) = false from by decide, show (sharedN == pubN) = false from by decide, show (sharedN == mustN) = false from by decide, show (sharedN == proxN) = false from by decide, show (sharedN == ageN) = false from by decide, show (sharedN == sharedN) = true from by decide, Bool.or_false, Bool.false_eq_true, if_true, if_false] at STEP
            rw [STEP]
            cases cc
            simp only at zon zmf zms
            subst zon zmf zms
            rfl)
          clear STEP hnoStoreN hnoCacheN hprivN hpubN hmustN hproxN hageN hsharedN
          have y7 : wr.cell? ⟨g3, 7, none⟩ = some (.int .i64 cc.sh) := HI.out.cell 7
          have yf : wr.frozen? ⟨g3, 7, none⟩ = false := HI.out.free 7
          clear hnl hvl
          have CL := Lib.hid (fun W : World => least_any cc.sh (capN q.2 : Int) W)
          go_wp2_with fail
          refine (CP.out _).mono ?_
          rintro e w5 ⟨rfl, b5⟩
          have HI5 := Lib.hid (HI.out.kept (Turn.of_below (S := fun _ => False) b5) (fun h => h))
          have HT5 := Lib.hid (HT.out.trans (Turn.of_below (S := fun _ => False) b5) (fun _ _ h => h.elim))
          have yv5 : w5.cell? ⟨g3, 7, none⟩ = some (.int .i64 cc.sh) := HI5.out.cell 7
          have yvf5 : w5.frozen? ⟨g3, 7, none⟩ = false := HI5.out.free 7
          clear y7 yf
          clear b5 HI HT
          go_wp2_with fail
          refine (CN.out _).mono ?_
          rintro e w6 ⟨rfl, h6⟩
          subst h6
          go_wp2_with fail
          refine (CL.out _).mono ?_
          rintro e w7 ⟨rfl, h7⟩
          subst h7
          go_wp2_with fail
          go_roundw
          case rel => exact ⟨k + 1, by go_num, hlt, Lib.hid (by rw [HS.out]; exact HI5.out.set 7 (.int .i64 (leastF cc.sh (capN q.2)))), Lib.hid (HT5.out.setCell (fun _ => rfl) _)⟩
          case measure => simp [intOf]; omega
        have enoStoreN : (Ns.toList == [110, 111, 45, 115, 116, 111, 114, 101]) = false := by rw [hnl]; exact beq_eq_false_iff_ne.2 hnoStoreN
        have enoCacheN : (Ns.toList == [110, 111, 45, 99, 97, 99, 104, 101]) = false := by rw [hnl]; exact beq_eq_false_iff_ne.2 hnoCacheN
        have eprivN : (Ns.toList == [112, 114, 105, 118, 97, 116, 101]) = false := by rw [hnl]; exact beq_eq_false_iff_ne.2 hprivN
        have epubN : (Ns.toList == [112, 117, 98, 108, 105, 99]) = false := by rw [hnl]; exact beq_eq_false_iff_ne.2 hpubN
        have emustN : (Ns.toList == [109, 117, 115, 116, 45, 114, 101, 118, 97, 108, 105, 100, 97, 116, 101]) = false := by rw [hnl]; exact beq_eq_false_iff_ne.2 hmustN
        have eproxN : (Ns.toList == [112, 114, 111, 120, 121, 45, 114, 101, 118, 97, 108, 105, 100, 97, 116, 101]) = false := by rw [hnl]; exact beq_eq_false_iff_ne.2 hproxN
        have eageN : (Ns.toList == [109, 97, 120, 45, 97, 103, 101]) = false := by rw [hnl]; exact beq_eq_false_iff_ne.2 hageN
        have esharedN : (Ns.toList == [115, 45, 109, 97, 120, 97, 103, 101]) = false := by rw [hnl]; exact beq_eq_false_iff_ne.2 hsharedN
        have HS := Lib.hid (show resD (dirsF (es.take (k + 1))) = cc by
          simp only [show (q.1 == noStoreN) = false from beq_eq_false_iff_ne.2 hnoStoreN, show (q.1 == noCacheN) = false from beq_eq_false_iff_ne.2 hnoCacheN, show (q.1 == privN) = false from beq_eq_false_iff_ne.2 hprivN, show (q.1 == pubN) = false from beq_eq_false_iff_ne.2 hpubN, show (q.1 == mustN) = false from beq_eq_false_iff_ne.2 hmustN, show (q.1 == proxN) = false from beq_eq_false_iff_ne.2 hproxN, show (q.1 == ageN) = false from beq_eq_false_iff_ne.2 hageN, show (q.1 == sharedN) = false from beq_eq_false_iff_ne.2 hsharedN, Bool.or_false, Bool.false_eq_true, if_false] at STEP
          rw [STEP]
          cases cc
          simp only at zon zmf zms
          subst zon zmf zms
          rfl)
        clear STEP hnoStoreN hnoCacheN hprivN hpubN hmustN hproxN hageN hsharedN
        clear hnl hvl
        go_wp2_with fail
        refine (CP.out _).mono ?_
        rintro e w5 ⟨rfl, b5⟩
        have HI5 := Lib.hid (HI.out.kept (Turn.of_below (S := fun _ => False) b5) (fun h => h))
        have HT5 := Lib.hid (HT.out.trans (Turn.of_below (S := fun _ => False) b5) (fun _ _ h => h.elim))
        clear b5 HI HT
        go_wp2_with fail
        refine (CN.out _).mono ?_
        rintro e w6 ⟨rfl, h6⟩
        subst h6
        go_wp2_with fail
        go_roundw
        case rel => exact ⟨k + 1, by go_num, hlt, by rw [HS.out]; exact HI5, HT5⟩
        case measure => simp [intOf]; omega
    · have HI2 := HI.out
      rw [List.take_of_length_le (by rw [HM.out]; omega)] at HI2
      have HIE := Lib.hid HI2
      clear HI HI2
      have IZ3 := Lib.hid (IZ2.out.kept HT.out (fun e => by have := HG3.out; omega))
      have B3 := Lib.hid (show Below w.heap.size w wr from ⟨HT.out.os.trans B2.out.os, HT.out.tape.trans B2.out.tape, HT.out.output.trans B2.out.output, Nat.le_trans B2.out.size HT.out.size, fun k hk => (HT.out.block k (by have := B2.out.size; omega) (by have := HG3.out; omega)).trans (B2.out.block k hk)⟩)
      obtain ⟨cc, hcc⟩ : ∃ cc, resD (dirsF es) = cc := ⟨_, rfl⟩
      have HC := Lib.hid (show responseF ls = cc by rw [HF.out]; exact hcc)
      rw [hcc] at HIE
      clear hcc HT
      have y0 : wr.cell? ⟨g3, 0, none⟩ = some (.bool cc.ns) := HIE.out.cell 0
      have z0 : wr.cell? ⟨w.heap.size, 0, none⟩ = some (.bool false) := IZ3.out.cell 0
      have f0 : wr.frozen? ⟨w.heap.size, 0, none⟩ = false := IZ3.out.free 0
      have y1 : wr.cell? ⟨g3, 1, none⟩ = some (.bool cc.nc) := HIE.out.cell 1
      have z1 : wr.cell? ⟨w.heap.size, 1, none⟩ = some (.bool false) := IZ3.out.cell 1
      have f1 : wr.frozen? ⟨w.heap.size, 1, none⟩ = false := IZ3.out.free 1
      have y2 : wr.cell? ⟨g3, 2, none⟩ = some (.bool cc.pv) := HIE.out.cell 2
      have z2 : wr.cell? ⟨w.heap.size, 2, none⟩ = some (.bool false) := IZ3.out.cell 2
      have f2 : wr.frozen? ⟨w.heap.size, 2, none⟩ = false := IZ3.out.free 2
      have y3 : wr.cell? ⟨g3, 3, none⟩ = some (.bool cc.pb) := HIE.out.cell 3
      have z3 : wr.cell? ⟨w.heap.size, 3, none⟩ = some (.bool false) := IZ3.out.cell 3
      have f3 : wr.frozen? ⟨w.heap.size, 3, none⟩ = false := IZ3.out.free 3
      have y4 : wr.cell? ⟨g3, 4, none⟩ = some (.bool cc.mu) := HIE.out.cell 4
      have z4 : wr.cell? ⟨w.heap.size, 4, none⟩ = some (.bool false) := IZ3.out.cell 4
      have f4 : wr.frozen? ⟨w.heap.size, 4, none⟩ = false := IZ3.out.free 4
      have y5 : wr.cell? ⟨g3, 5, none⟩ = some (.bool cc.on) := HIE.out.cell 5
      have z5 : wr.cell? ⟨w.heap.size, 5, none⟩ = some (.bool false) := IZ3.out.cell 5
      have f5 : wr.frozen? ⟨w.heap.size, 5, none⟩ = false := IZ3.out.free 5
      have y6 : wr.cell? ⟨g3, 6, none⟩ = some (.int .i64 cc.ma) := HIE.out.cell 6
      have z6 : wr.cell? ⟨w.heap.size, 6, none⟩ = some (.int .i64 0) := IZ3.out.cell 6
      have f6 : wr.frozen? ⟨w.heap.size, 6, none⟩ = false := IZ3.out.free 6
      have y7 : wr.cell? ⟨g3, 7, none⟩ = some (.int .i64 cc.sh) := HIE.out.cell 7
      have z7 : wr.cell? ⟨w.heap.size, 7, none⟩ = some (.int .i64 0) := IZ3.out.cell 7
      have f7 : wr.frozen? ⟨w.heap.size, 7, none⟩ = false := IZ3.out.free 7
      have y8 : wr.cell? ⟨g3, 8, none⟩ = some (.int .i64 cc.mf) := HIE.out.cell 8
      have z8 : wr.cell? ⟨w.heap.size, 8, none⟩ = some (.int .i64 0) := IZ3.out.cell 8
      have f8 : wr.frozen? ⟨w.heap.size, 8, none⟩ = false := IZ3.out.free 8
      have y9 : wr.cell? ⟨g3, 9, none⟩ = some (.int .i64 cc.ms) := HIE.out.cell 9
      have z9 : wr.cell? ⟨w.heap.size, 9, none⟩ = some (.int .i64 0) := IZ3.out.cell 9
      have f9 : wr.frozen? ⟨w.heap.size, 9, none⟩ = false := IZ3.out.free 9
      go_wp2_with fail
      refine bodyPost_ret (results_cell_row rfl _ _ w.heap.size _ _ _ _ rfl (putC_is IZ3.out cc) ctlStruct rfl ctlSize) rfl ?_
      exact ⟨by rw [HC.out]; rfl, putC_below B3.out (Nat.le_refl _) cc⟩
end Go.Proofs.YtdcbcjljmjnopaaGreatDoor.Con
