/-
  The document's own Request of layer 12.
  Conditions: the list holds at most 1000000000 bytes.
-/
import Derived.Test.YtkccmjeabkfmdaaDoorEC
import Derived.Laws.Rows
namespace Go.Proofs.YtkccmjeabkfmdaaDoor.Con
open Go.RowKit Hop

theorem ubody_len : ∀ (l x : List UInt8), ubody l = some x → x.length ≤ l.length
  | [], x, h => by simp [ubody] at h
  | [c], x, h => by
    simp only [ubody] at h
    split at h
    · injection h with h; subst h; simp
    · cases h
  | c :: d :: l, x, h => by
    simp only [ubody] at h
    split at h
    · cases h
    · split at h
      · split at h
        · obtain ⟨y, hy, rfl⟩ := Option.map_eq_some_iff.1 h
          have := ubody_len l y hy
          simp only [List.length_cons]
          omega
        · cases h
      · split at h
        · obtain ⟨y, hy, rfl⟩ := Option.map_eq_some_iff.1 h
          have := ubody_len (d :: l) y hy
          simp only [List.length_cons] at this ⊢
          omega
        · cases h
theorem unq_len (l x : List UInt8) (h : unqF l = some x) : x.length ≤ l.length := by
  cases l with
  | nil => simp [unqF] at h
  | cons c l =>
    simp only [unqF] at h
    split at h
    · have := ubody_len l x h
      simp only [List.length_cons]
      omega
    · cases h
theorem pair_len (l : List UInt8) (p : Dir) (h : pairF l = some p) : p.1.length ≤ l.length ∧ p.2.length ≤ l.length := by
  unfold pairF at h
  have hl : ∀ x : List UInt8, (lowF x).length = x.length := fun x => lowF_length x
  split at h
  · cases h
  · split at h
    · injection h with h
      subst h
      exact ⟨by rw [hl]; exact Nat.le_refl _, Nat.zero_le _⟩
    · split at h
      · injection h with h
        subst h
        exact ⟨by rw [hl, List.length_take]; omega, by rw [List.length_drop]; omega⟩
      · obtain ⟨y, hy, rfl⟩ := Option.map_eq_some_iff.1 h
        have := unq_len _ y hy
        rw [List.length_drop] at this
        exact ⟨by rw [hl, List.length_take]; omega, by show y.length ≤ _; omega⟩

set_option maxHeartbeats 16000000 in
set_option maxRecDepth 100000 in
theorem rresponse_any {P : Nat → Prop} (w : World) (A : Option Addr) (ls : List Fld) (n c : Nat) (hn : ls.length = n) (hb : bulkF ls ≤ 1000000000) (h : SrcF w P A ls) :
    Calls Tryd.prog 10 #[.slice A n c] w fun e w' => e = .returned (responseF ls).v ∧ Below w.heap.size w w' := by
  have bz := (Below.refl w.heap.size w).alloc (Nat.le_refl _) (.cells #[.bool false, .bool false, .bool false, .bool false, .bool false, .bool false, .int .i64 0, .int .i64 0, .int .i64 0, .int .i64 0] 24)
  have bo := bz.alloc (by simp) (.cells #[.bool false, .bool false, .bool false, .bool false, .bool false, .bool false, .int .i64 (-1), .int .i64 (-1), .int .i64 (-1), .int .i64 (-1)] 24)
  have ize := (Is.made w 24 [.bool false, .bool false, .bool false, .bool false, .bool false, .bool false, .int .i64 0, .int .i64 0, .int .i64 0, .int .i64 0]).alloc (.cells #[.bool false, .bool false, .bool false, .bool false, .bool false, .bool false, .int .i64 (-1), .int .i64 (-1), .int .i64 (-1), .int .i64 (-1)] 24)
  have ione := Is.made (w.alloc (.cells #[.bool false, .bool false, .bool false, .bool false, .bool false, .bool false, .int .i64 0, .int .i64 0, .int .i64 0, .int .i64 0] 24)) 24 [.bool false, .bool false, .bool false, .bool false, .bool false, .bool false, .int .i64 (-1), .int .i64 (-1), .int .i64 (-1), .int .i64 (-1)]
  have hw1 : (w.alloc (.cells #[.bool false, .bool false, .bool false, .bool false, .bool false, .bool false, .int .i64 0, .int .i64 0, .int .i64 0, .int .i64 0] 24)).heap.size = w.heap.size + 1 := by simp
  rw [hw1] at ione
  have CE := relem_any ((w.alloc (.cells #[.bool false, .bool false, .bool false, .bool false, .bool false, .bool false, .int .i64 0, .int .i64 0, .int .i64 0, .int .i64 0] 24)).alloc (.cells #[.bool false, .bool false, .bool false, .bool false, .bool false, .bool false, .int .i64 (-1), .int .i64 (-1), .int .i64 (-1), .int .i64 (-1)] 24)) A ls n c hn hb (h.below bo) ⟨#[99, 97, 99, 104, 101, 45, 99, 111, 110, 116, 114, 111, 108]⟩ (by decide)
  rw [show bl ⟨#[99, 97, 99, 104, 101, 45, 99, 111, 110, 116, 114, 111, 108]⟩ = ccN from rfl] at CE
  have HEL := Lib.hid (elem_bulk ccN ls)
  have HSL := Lib.hid (show ∀ x ∈ elemF ls ccN, x.length ≤ 1000000000 from fun x hx => Nat.le_trans (elem_part hx) hb)
  have BO := Lib.hid bo
  have IZ := Lib.hid ize
  have IO := Lib.hid ione
  have HF := Lib.hid (show responseF ls = resD (dirsF (elemF ls ccN)) from rfl)
  have HN := Lib.hid hn
  have HB := Lib.hid hb
  have HSRC := Lib.hid h
  clear bz bo ize ione hw1 hn hb h
  generalize elemF ls ccN = es at *
  go_enter Tryd.func10, Tryd.ntmps10
  go_wp2_with fail
  refine CE.mono ?_
  rintro e w2 ⟨v2, o2, rfl, own2, ob2, b2⟩
  obtain ⟨g3, hg3⟩ : ∃ g3, w.heap.size + 1 = g3 := ⟨_, rfl⟩
  rw [hg3] at IO ⊢
  have hz : ((w.alloc (.cells #[.bool false, .bool false, .bool false, .bool false, .bool false, .bool false, .int .i64 0, .int .i64 0, .int .i64 0, .int .i64 0] 24)).alloc (.cells #[.bool false, .bool false, .bool false, .bool false, .bool false, .bool false, .int .i64 (-1), .int .i64 (-1), .int .i64 (-1), .int .i64 (-1)] 24)).heap.size = g3 + 1 := by simp; omega
  rw [hz] at ob2
  obtain ⟨A2, c2, hv2, src2⟩ := own2.src (fun b => ¬ b = g3) (fun b hb e => by have := ob2 b hb; omega)
  subst hv2
  have H2 := Lib.hid src2
  have I2 : Hid (Is w2 g3 24 (resD (dirsF (es.take 0))).cells) := Lib.hid (IO.out.kept (Turn.of_below (S := fun _ => False) b2) (fun h => h))
  have IZ2 := Lib.hid (IZ.out.kept (Turn.of_below (S := fun _ => False) b2) (fun h => h))
  have B2 := Lib.hid (BO.out.trans (b2.mono BO.out.size))
  have HG3 := Lib.hid hg3
  obtain ⟨m, hm⟩ : ∃ m, es.length = m := ⟨_, rfl⟩
  have hmx : m ≤ 1000000000 := by have := HEL.out; have := HB.out; omega
  rw [hm] at ⊢
  have HM := Lib.hid hm
  clear hm own2 ob2 src2 b2 CE hz hg3 IO BO IZ
  go_wp2_with fail
  go_loopw [5] (fun vi wr => ∃ k : Nat, vi = .int .i64 (k : Int) ∧ k ≤ m ∧ Hid (Is wr g3 24 (resD (dirsF (es.take k))).cells) ∧ Hid (Turn (fun b => b = g3) w2 wr)) (fun vi _ => m - (intOf vi).toNat)
  case atStart => exact ⟨0, rfl, Nat.zero_le _, I2, Lib.hid (Turn.refl _ _)⟩
  case round =>
    obtain ⟨k, rfl, hk, HI, HT⟩ := hrel
    by_cases hlt : k < m
    · obtain ⟨p, x, hx, hat, y, _, _⟩ := (srcs_turn H2.out HT.out (fun _ h => h)).at (c := c2) HM.out hlt (Below.refl wr.heap.size wr)
      have HX := Lib.hid hx
      have sx := HSL.out x (List.mem_of_getElem? hx)
      obtain ⟨Xs, hXs⟩ : ∃ Xs : ByteArray, Xs = ⟨x.toArray⟩ := ⟨_, rfl⟩
      have hbx : bl Xs = x := by rw [hXs, bl_mk]
      have CP := Lib.hid (fun W : World => pair_any Xs W (by rw [← bl_length, hbx]; omega))
      rw [hbx] at CP
      unfold Pairs at CP
      rw [← hXs] at y
      clear hXs hbx sx hx
      cases hp : pairF x with
      | none =>
        rw [hp] at CP
        simp only [Option.map_none, Option.getD_none, Option.isSome_none] at CP
        have HN := Lib.hid (dirs_none es k x HX.out hp)
        clear hp
        go_wp2_with fail
        refine (CP.out _).mono ?_
        rintro e w5 ⟨rfl, b5⟩
        have HI5 := Lib.hid (HI.out.kept (Turn.of_below (S := fun _ => False) b5) (fun h => h))
        have HT5 := Lib.hid (HT.out.trans (Turn.of_below (S := fun _ => False) b5) (fun _ _ h => h.elim))
        clear b5
        go_wp2_with fail
        go_roundw
        case rel => exact ⟨k + 1, by go_num, hlt, by rw [HN.out]; exact HI5, HT5⟩
        case measure => simp [intOf]; omega
      | some q =>
        have HN := Lib.hid (dirs_some es k x q HX.out hp)
        obtain ⟨Ns, hNs⟩ : ∃ Ns : ByteArray, Ns = ⟨q.1.toArray⟩ := ⟨_, rfl⟩
        obtain ⟨Vs, hVs⟩ : ∃ Vs : ByteArray, Vs = ⟨q.2.toArray⟩ := ⟨_, rfl⟩
        rw [hp] at CP
        simp only [Option.map_some, Option.getD_some, Option.isSome_some] at CP
        rw [← hNs, ← hVs] at CP
        have hnl : Ns.toList = q.1 := by rw [Lib.toList_data, hNs]
        have hvl : Vs.toList = q.2 := by rw [Lib.toList_data, hVs]
        have hvs : Vs.size ≤ 140737488351232 := by
          have := pair_len x q hp
          have := HSL.out x (List.mem_of_getElem? HX.out)
          rw [← bl_length, hVs, bl_mk]
          omega
        have CN := Lib.hid (fun W : World => number_any Vs W hvs)
        rw [show bl Vs = q.2 from by rw [hVs, bl_mk]] at CN
        have hcr : capN q.2 ≤ 2147483647 := capN_le q.2
        clear hp hNs hVs hvs
        obtain ⟨cc, hcc⟩ : ∃ cc, resD (dirsF (es.take k)) = cc := ⟨_, rfl⟩
        rw [hcc] at HI
        have STEP := res_step (dirsF (es.take k)) q
        rw [← HN.out, hcc] at STEP
        have HR := nF_range false (dirsF (es.take k))
        have r6 : -1 ≤ cc.ma ∧ cc.ma ≤ 2147483647 := by rw [← hcc]; exact HR ageN
        have r7 : -1 ≤ cc.sh ∧ cc.sh ≤ 2147483647 := by rw [← hcc]; exact HR sharedN
        have zon : cc.on = false := by rw [← hcc]; rfl
        have zmf : cc.mf = -1 := by rw [← hcc]; rfl
        have zms : cc.ms = -1 := by rw [← hcc]; rfl
        clear hcc HR HN
        by_cases hnoStoreN : q.1 = noStoreN
        · have hgg := Lib.hid hnoStoreN
          have enoStoreN : (Ns.toList == [110, 111, 45, 115, 116, 111, 114, 101]) = true := by rw [hnl, hnoStoreN]; decide
          have HS := Lib.hid (show resD (dirsF (es.take (k + 1))) = { cc with ns := true } by
            rw [hnoStoreN] at STEP
            simp only [show (noStoreN == noStoreN) = true from by decide, show (noStoreN == noCacheN) = false from by decide, show (noStoreN == privN) = false from by decide, show (noStoreN == pubN) = false from by decide, show (noStoreN == mustN) = false from by decide, show (noStoreN == proxN) = false from by decide, show (noStoreN == ageN) = false from by decide, show (noStoreN == sharedN) = false from by decide, Bool.or_false, Bool.or_true, Bool.false_eq_true, if_false] at STEP
            rw [STEP]
            cases cc
            simp only at zon zmf zms
            subst zon zmf zms
            rfl)
          clear STEP  hnoStoreN
          have y0 : wr.cell? ⟨g3, 0, none⟩ = some (.bool cc.ns) := HI.out.cell 0
          have yf : wr.frozen? ⟨g3, 0, none⟩ = false := HI.out.free 0
          clear hnl hvl
          go_wp2_with fail
          refine (CP.out _).mono ?_
          rintro e w5 ⟨rfl, b5⟩
          have HI5 := Lib.hid (HI.out.kept (Turn.of_below (S := fun _ => False) b5) (fun h => h))
          have HT5 := Lib.hid (HT.out.trans (Turn.of_below (S := fun _ => False) b5) (fun _ _ h => h.elim))
          have y5 : w5.cell? ⟨g3, 0, none⟩ = some (.bool cc.ns) := HI5.out.cell 0
          have yf5 : w5.frozen? ⟨g3, 0, none⟩ = false := HI5.out.free 0
          clear y0 yf
          clear b5 HI HT
          go_wp2_with fail
          refine (CN.out _).mono ?_
          rintro e w6 ⟨rfl, h6⟩
          subst h6
          go_wp2_with fail
          go_roundw
          case rel => exact ⟨k + 1, by go_num, hlt, Lib.hid (by rw [HS.out]; exact HI5.out.set 0 (.bool true)), Lib.hid (HT5.out.setCell (fun _ => rfl) _)⟩
          case measure => simp [intOf]; omega
        by_cases hnoCacheN : q.1 = noCacheN
        · have hgg := Lib.hid hnoCacheN
          have enoStoreN : (Ns.toList == [110, 111, 45, 115, 116, 111, 114, 101]) = false := by rw [hnl]; exact beq_eq_false_iff_ne.2 hnoStoreN
          have enoCacheN : (Ns.toList == [110, 111, 45, 99, 97, 99, 104, 101]) = true := by rw [hnl, hnoCacheN]; decide
          have HS := Lib.hid (show resD (dirsF (es.take (k + 1))) = { cc with nc := true } by
            rw [hnoCacheN] at STEP
            simp only [show (noCacheN == noStoreN) = false from by decide, show (noCacheN == noCacheN) = true from by decide, show (noCacheN == privN) = false from by decide, show (noCacheN == pubN) = false from by decide, show (noCacheN == mustN) = false from by decide, show (noCacheN == proxN) = false from by decide, show (noCacheN == ageN) = false from by decide, show (noCacheN == sharedN) = false from by decide, Bool.or_false, Bool.or_true, Bool.false_eq_true, if_false] at STEP
            rw [STEP]
            cases cc
            simp only at zon zmf zms
            subst zon zmf zms
            rfl)
          clear STEP hnoStoreN hnoCacheN
          have y1 : wr.cell? ⟨g3, 1, none⟩ = some (.bool cc.nc) := HI.out.cell 1
          have yf : wr.frozen? ⟨g3, 1, none⟩ = false := HI.out.free 1
          clear hnl hvl
          go_wp2_with fail
          refine (CP.out _).mono ?_
          rintro e w5 ⟨rfl, b5⟩
          have HI5 := Lib.hid (HI.out.kept (Turn.of_below (S := fun _ => False) b5) (fun h => h))
          have HT5 := Lib.hid (HT.out.trans (Turn.of_below (S := fun _ => False) b5) (fun _ _ h => h.elim))
          have y5 : w5.cell? ⟨g3, 1, none⟩ = some (.bool cc.nc) := HI5.out.cell 1
          have yf5 : w5.frozen? ⟨g3, 1, none⟩ = false := HI5.out.free 1
          clear y1 yf
          clear b5 HI HT
          go_wp2_with fail
          refine (CN.out _).mono ?_
          rintro e w6 ⟨rfl, h6⟩
          subst h6
          go_wp2_with fail
          go_roundw
          case rel => exact ⟨k + 1, by go_num, hlt, Lib.hid (by rw [HS.out]; exact HI5.out.set 1 (.bool true)), Lib.hid (HT5.out.setCell (fun _ => rfl) _)⟩
          case measure => simp [intOf]; omega
        by_cases hprivN : q.1 = privN
        · have hgg := Lib.hid hprivN
          have enoStoreN : (Ns.toList == [110, 111, 45, 115, 116, 111, 114, 101]) = false := by rw [hnl]; exact beq_eq_false_iff_ne.2 hnoStoreN
          have enoCacheN : (Ns.toList == [110, 111, 45, 99, 97, 99, 104, 101]) = false := by rw [hnl]; exact beq_eq_false_iff_ne.2 hnoCacheN
          have eprivN : (Ns.toList == [112, 114, 105, 118, 97, 116, 101]) = true := by rw [hnl, hprivN]; decide
          have HS := Lib.hid (show resD (dirsF (es.take (k + 1))) = { cc with pv := true } by
            rw [hprivN] at STEP
            simp only [show (privN == noStoreN) = false from by decide, show (privN == noCacheN) = false from by decide, show (privN == privN) = true from by decide, show (privN == pubN) = false from by decide, show (privN == mustN) = false from by decide, show (privN == proxN) = false from by decide, show (privN == ageN) = false from by decide, show (privN == sharedN) = false from by decide, Bool.or_false, Bool.or_true, Bool.false_eq_true, if_false] at STEP
            rw [STEP]
            cases cc
            simp only at zon zmf zms
            subst zon zmf zms
            rfl)
          clear STEP hnoStoreN hnoCacheN hprivN
          have y2 : wr.cell? ⟨g3, 2, none⟩ = some (.bool cc.pv) := HI.out.cell 2
          have yf : wr.frozen? ⟨g3, 2, none⟩ = false := HI.out.free 2
          clear hnl hvl
          go_wp2_with fail
          refine (CP.out _).mono ?_
          rintro e w5 ⟨rfl, b5⟩
          have HI5 := Lib.hid (HI.out.kept (Turn.of_below (S := fun _ => False) b5) (fun h => h))
          have HT5 := Lib.hid (HT.out.trans (Turn.of_below (S := fun _ => False) b5) (fun _ _ h => h.elim))
          have y5 : w5.cell? ⟨g3, 2, none⟩ = some (.bool cc.pv) := HI5.out.cell 2
          have yf5 : w5.frozen? ⟨g3, 2, none⟩ = false := HI5.out.free 2
          clear y2 yf
          clear b5 HI HT
          go_wp2_with fail
          refine (CN.out _).mono ?_
          rintro e w6 ⟨rfl, h6⟩
          subst h6
          go_wp2_with fail
          go_roundw
          case rel => exact ⟨k + 1, by go_num, hlt, Lib.hid (by rw [HS.out]; exact HI5.out.set 2 (.bool true)), Lib.hid (HT5.out.setCell (fun _ => rfl) _)⟩
          case measure => simp [intOf]; omega
        by_cases hpubN : q.1 = pubN
        · have hgg := Lib.hid hpubN
          have enoStoreN : (Ns.toList == [110, 111, 45, 115, 116, 111, 114, 101]) = false := by rw [hnl]; exact beq_eq_false_iff_ne.2 hnoStoreN
          have enoCacheN : (Ns.toList == [110, 111, 45, 99, 97, 99, 104, 101]) = false := by rw [hnl]; exact beq_eq_false_iff_ne.2 hnoCacheN
          have eprivN : (Ns.toList == [112, 114, 105, 118, 97, 116, 101]) = false := by rw [hnl]; exact beq_eq_false_iff_ne.2 hprivN
          have epubN : (Ns.toList == [112, 117, 98, 108, 105, 99]) = true := by rw [hnl, hpubN]; decide
          have HS := Lib.hid (show resD (dirsF (es.take (k + 1))) = { cc with pb := true } by
            rw [hpubN] at STEP
            simp only [show (pubN == noStoreN) = false from by decide, show (pubN == noCacheN) = false from by decide, show (pubN == privN) = false from by decide, show (pubN == pubN) = true from by decide, show (pubN == mustN) = false from by decide, show (pubN == proxN) = false from by decide, show (pubN == ageN) = false from by decide, show (pubN == sharedN) = false from by decide, Bool.or_false, Bool.or_true, Bool.false_eq_true, if_false] at STEP
            rw [STEP]
            cases cc
            simp only at zon zmf zms
            subst zon zmf zms
            rfl)
          clear STEP hnoStoreN hnoCacheN hprivN hpubN
          have y3 : wr.cell? ⟨g3, 3, none⟩ = some (.bool cc.pb) := HI.out.cell 3
          have yf : wr.frozen? ⟨g3, 3, none⟩ = false := HI.out.free 3
          clear hnl hvl
          go_wp2_with fail
          refine (CP.out _).mono ?_
          rintro e w5 ⟨rfl, b5⟩
          have HI5 := Lib.hid (HI.out.kept (Turn.of_below (S := fun _ => False) b5) (fun h => h))
          have HT5 := Lib.hid (HT.out.trans (Turn.of_below (S := fun _ => False) b5) (fun _ _ h => h.elim))
          have y5 : w5.cell? ⟨g3, 3, none⟩ = some (.bool cc.pb) := HI5.out.cell 3
          have yf5 : w5.frozen? ⟨g3, 3, none⟩ = false := HI5.out.free 3
          clear y3 yf
          clear b5 HI HT
          go_wp2_with fail
          refine (CN.out _).mono ?_
          rintro e w6 ⟨rfl, h6⟩
          subst h6
          go_wp2_with fail
          go_roundw
          case rel => exact ⟨k + 1, by go_num, hlt, Lib.hid (by rw [HS.out]; exact HI5.out.set 3 (.bool true)), Lib.hid (HT5.out.setCell (fun _ => rfl) _)⟩
          case measure => simp [intOf]; omega
        by_cases hmustN : q.1 = mustN
        · have hgg := Lib.hid hmustN
          have enoStoreN : (Ns.toList == [110, 111, 45, 115, 116, 111, 114, 101]) = false := by rw [hnl]; exact beq_eq_false_iff_ne.2 hnoStoreN
          have enoCacheN : (Ns.toList == [110, 111, 45, 99, 97, 99, 104, 101]) = false := by rw [hnl]; exact beq_eq_false_iff_ne.2 hnoCacheN
          have eprivN : (Ns.toList == [112, 114, 105, 118, 97, 116, 101]) = false := by rw [hnl]; exact beq_eq_false_iff_ne.2 hprivN
          have epubN : (Ns.toList == [112, 117, 98, 108, 105, 99]) = false := by rw [hnl]; exact beq_eq_false_iff_ne.2 hpubN
          have emustN : (Ns.toList == [109, 117, 115, 116, 45, 114, 101, 118, 97, 108, 105, 100, 97, 116, 101]) = true := by rw [hnl, hmustN]; decide
          have HS := Lib.hid (show resD (dirsF (es.take (k + 1))) = { cc with mu := true } by
            rw [hmustN] at STEP
            simp only [show (mustN == noStoreN) = false from by decide, show (mustN == noCacheN) = false from by decide, show (mustN == privN) = false from by decide, show (mustN == pubN) = false from by decide, show (mustN == mustN) = true from by decide, show (mustN == proxN) = false from by decide, show (mustN == ageN) = false from by decide, show (mustN == sharedN) = false from by decide, Bool.or_false, Bool.or_true, Bool.false_eq_true, if_false] at STEP
            rw [STEP]
            cases cc
            simp only at zon zmf zms
            subst zon zmf zms
            rfl)
          clear STEP hnoStoreN hnoCacheN hprivN hpubN hmustN
          have y4 : wr.cell? ⟨g3, 4, none⟩ = some (.bool cc.mu) := HI.out.cell 4
          have yf : wr.frozen? ⟨g3, 4, none⟩ = false := HI.out.free 4
          clear hnl hvl
          go_wp2_with fail
          refine (CP.out _).mono ?_
          rintro e w5 ⟨rfl, b5⟩
          have HI5 := Lib.hid (HI.out.kept (Turn.of_below (S := fun _ => False) b5) (fun h => h))
          have HT5 := Lib.hid (HT.out.trans (Turn.of_below (S := fun _ => False) b5) (fun _ _ h => h.elim))
          have y5 : w5.cell? ⟨g3, 4, none⟩ = some (.bool cc.mu) := HI5.out.cell 4
          have yf5 : w5.frozen? ⟨g3, 4, none⟩ = false := HI5.out.free 4
          clear y4 yf
          clear b5 HI HT
          go_wp2_with fail
          refine (CN.out _).mono ?_
          rintro e w6 ⟨rfl, h6⟩
          subst h6
          go_wp2_with fail
          go_roundw
          case rel => exact ⟨k + 1, by go_num, hlt, Lib.hid (by rw [HS.out]; exact HI5.out.set 4 (.bool true)), Lib.hid (HT5.out.setCell (fun _ => rfl) _)⟩
          case measure => simp [intOf]; omega
        by_cases hproxN : q.1 = proxN
        · have hgg := Lib.hid hproxN
          have enoStoreN : (Ns.toList == [110, 111, 45, 115, 116, 111, 114, 101]) = false := by rw [hnl]; exact beq_eq_false_iff_ne.2 hnoStoreN
          have enoCacheN : (Ns.toList == [110, 111, 45, 99, 97, 99, 104, 101]) = false := by rw [hnl]; exact beq_eq_false_iff_ne.2 hnoCacheN
          have eprivN : (Ns.toList == [112, 114, 105, 118, 97, 116, 101]) = false := by rw [hnl]; exact beq_eq_false_iff_ne.2 hprivN
          have epubN : (Ns.toList == [112, 117, 98, 108, 105, 99]) = false := by rw [hnl]; exact beq_eq_false_iff_ne.2 hpubN
          have emustN : (Ns.toList == [109, 117, 115, 116, 45, 114, 101, 118, 97, 108, 105, 100, 97, 116, 101]) = false := by rw [hnl]; exact beq_eq_false_iff_ne.2 hmustN
          have eproxN : (Ns.toList == [112, 114, 111, 120, 121, 45, 114, 101, 118, 97, 108, 105, 100, 97, 116, 101]) = true := by rw [hnl, hproxN]; decide
          have HS := Lib.hid (show resD (dirsF (es.take (k + 1))) = { cc with mu := true } by
            rw [hproxN] at STEP
            simp only [show (proxN == noStoreN) = false from by decide, show (proxN == noCacheN) = false from by decide, show (proxN == privN) = false from by decide, show (proxN == pubN) = false from by decide, show (proxN == mustN) = false from by decide, show (proxN == proxN) = true from by decide, show (proxN == ageN) = false from by decide, show (proxN == sharedN) = false from by decide, Bool.or_false, Bool.or_true, Bool.false_eq_true, if_false] at STEP
            rw [STEP]
            cases cc
            simp only at zon zmf zms
            subst zon zmf zms
            rfl)
          clear STEP hnoStoreN hnoCacheN hprivN hpubN hmustN hproxN
          have y4 : wr.cell? ⟨g3, 4, none⟩ = some (.bool cc.mu) := HI.out.cell 4
          have yf : wr.frozen? ⟨g3, 4, none⟩ = false := HI.out.free 4
          clear hnl hvl
          go_wp2_with fail
          refine (CP.out _).mono ?_
          rintro e w5 ⟨rfl, b5⟩
          have HI5 := Lib.hid (HI.out.kept (Turn.of_below (S := fun _ => False) b5) (fun h => h))
          have HT5 := Lib.hid (HT.out.trans (Turn.of_below (S := fun _ => False) b5) (fun _ _ h => h.elim))
          have y5 : w5.cell? ⟨g3, 4, none⟩ = some (.bool cc.mu) := HI5.out.cell 4
          have yf5 : w5.frozen? ⟨g3, 4, none⟩ = false := HI5.out.free 4
          clear y4 yf
          clear b5 HI HT
          go_wp2_with fail
          refine (CN.out _).mono ?_
          rintro e w6 ⟨rfl, h6⟩
          subst h6
          go_wp2_with fail
          go_roundw
          case rel => exact ⟨k + 1, by go_num, hlt, Lib.hid (by rw [HS.out]; exact HI5.out.set 4 (.bool true)), Lib.hid (HT5.out.setCell (fun _ => rfl) _)⟩
          case measure => simp [intOf]; omega
        by_cases hageN : q.1 = ageN
        · have hgg := Lib.hid hageN
          have enoStoreN : (Ns.toList == [110, 111, 45, 115, 116, 111, 114, 101]) = false := by rw [hnl]; exact beq_eq_false_iff_ne.2 hnoStoreN
          have enoCacheN : (Ns.toList == [110, 111, 45, 99, 97, 99, 104, 101]) = false := by rw [hnl]; exact beq_eq_false_iff_ne.2 hnoCacheN
          have eprivN : (Ns.toList == [112, 114, 105, 118, 97, 116, 101]) = false := by rw [hnl]; exact beq_eq_false_iff_ne.2 hprivN
          have epubN : (Ns.toList == [112, 117, 98, 108, 105, 99]) = false := by rw [hnl]; exact beq_eq_false_iff_ne.2 hpubN
          have emustN : (Ns.toList == [109, 117, 115, 116, 45, 114, 101, 118, 97, 108, 105, 100, 97, 116, 101]) = false := by rw [hnl]; exact beq_eq_false_iff_ne.2 hmustN
          have eproxN : (Ns.toList == [112, 114, 111, 120, 121, 45, 114, 101, 118, 97, 108, 105, 100, 97, 116, 101]) = false := by rw [hnl]; exact beq_eq_false_iff_ne.2 hproxN
          have eageN : (Ns.toList == [109, 97, 120, 45, 97, 103, 101]) = true := by rw [hnl, hageN]; decide
          have HS := Lib.hid (show resD (dirsF (es.take (k + 1))) = { cc with ma := leastF cc.ma (capN q.2) } by
            rw [hageN] at STEP
            simp only [show (ageN == noStoreN) = false from by decide, show (ageN == noCacheN) = false from by decide, show (ageN == privN) = false from by decide, show (ageN == pubN) = false from by decide, show (ageN == mustN) = false from by decide, show (ageN == proxN) = false from by decide, show (ageN == ageN) = true from by decide, show (ageN == sharedN) = false from by decide, Bool.or_false, Bool.false_eq_true, if_true, if_false] at STEP
            rw [STEP]
            cases cc
            simp only at zon zmf zms
            subst zon zmf zms
            rfl)
          clear STEP hnoStoreN hnoCacheN hprivN hpubN hmustN hproxN hageN
          have y6 : wr.cell? ⟨g3, 6, none⟩ = some (.int .i64 cc.ma) := HI.out.cell 6
          have yf : wr.frozen? ⟨g3, 6, none⟩ = false := HI.out.free 6
          clear hnl hvl
          have CL := Lib.hid (fun W : World => least_any cc.ma (capN q.2 : Int) W)
          go_wp2_with fail
          refine (CP.out _).mono ?_
          rintro e w5 ⟨rfl, b5⟩
          have HI5 := Lib.hid (HI.out.kept (Turn.of_below (S := fun _ => False) b5) (fun h => h))
          have HT5 := Lib.hid (HT.out.trans (Turn.of_below (S := fun _ => False) b5) (fun _ _ h => h.elim))
          have y5 : w5.cell? ⟨g3, 6, none⟩ = some (.int .i64 cc.ma) := HI5.out.cell 6
          have yf5 : w5.frozen? ⟨g3, 6, none⟩ = false := HI5.out.free 6
          clear y6 yf
          clear b5 HI HT
          go_wp2_with fail
          refine (CN.out _).mono ?_
          rintro e w6 ⟨rfl, h6⟩
          subst h6
          go_wp2_with fail
          refine (CL.out _).mono ?_
          rintro e w7 ⟨rfl, h7⟩
          subst h7
          go_wp2_with fail
          go_roundw
          case rel => exact ⟨k + 1, by go_num, hlt, Lib.hid (by rw [HS.out]; exact HI5.out.set 6 (.int .i64 (leastF cc.ma (capN q.2)))), Lib.hid (HT5.out.setCell (fun _ => rfl) _)⟩
          case measure => simp [intOf]; omega
        by_cases hsharedN : q.1 = sharedN
        · have hgg := Lib.hid hsharedN
          have enoStoreN : (Ns.toList == [110, 111, 45, 115, 116, 111, 114, 101]) = false := by rw [hnl]; exact beq_eq_false_iff_ne.2 hnoStoreN
          have enoCacheN : (Ns.toList == [110, 111, 45, 99, 97, 99, 104, 101]) = false := by rw [hnl]; exact beq_eq_false_iff_ne.2 hnoCacheN
          have eprivN : (Ns.toList == [112, 114, 105, 118, 97, 116, 101]) = false := by rw [hnl]; exact beq_eq_false_iff_ne.2 hprivN
          have epubN : (Ns.toList == [112, 117, 98, 108, 105, 99]) = false := by rw [hnl]; exact beq_eq_false_iff_ne.2 hpubN
          have emustN : (Ns.toList == [109, 117, 115, 116, 45, 114, 101, 118, 97, 108, 105, 100, 97, 116, 101]) = false := by rw [hnl]; exact beq_eq_false_iff_ne.2 hmustN
          have eproxN : (Ns.toList == [112, 114, 111, 120, 121, 45, 114, 101, 118, 97, 108, 105, 100, 97, 116, 101]) = false := by rw [hnl]; exact beq_eq_false_iff_ne.2 hproxN
          have eageN : (Ns.toList == [109, 97, 120, 45, 97, 103, 101]) = false := by rw [hnl]; exact beq_eq_false_iff_ne.2 hageN
          have esharedN : (Ns.toList == [115, 45, 109, 97, 120, 97, 103, 101]) = true := by rw [hnl, hsharedN]; decide
          have HS := Lib.hid (show resD (dirsF (es.take (k + 1))) = { cc with sh := leastF cc.sh (capN q.2) } by
            rw [hsharedN] at STEP
            simp only [show (sharedN == noStoreN) = false from by decide, show (sharedN == noCacheN) = false from by decide, show (sharedN == privN) = false from by decide, show (sharedN == pubN) = false from by decide, show (sharedN == mustN) = false from by decide, show (sharedN == proxN) = false from by decide, show (sharedN == ageN) = false from by decide, show (sharedN == sharedN) = true from by decide, Bool.or_false, Bool.false_eq_true, if_true, if_false] at STEP
            rw [STEP]
            cases cc
            simp only at zon zmf zms
            subst zon zmf zms
            rfl)
          clear STEP hnoStoreN hnoCacheN hprivN hpubN hmustN hproxN hageN hsharedN
          have y7 : wr.cell? ⟨g3, 7, none⟩ = some (.int .i64 cc.sh) := HI.out.cell 7
          have yf : wr.frozen? ⟨g3, 7, none⟩ = false := HI.out.free 7
          clear hnl hvl
          have CL := Lib.hid (fun W : World => least_any cc.sh (capN q.2 : Int) W)
          go_wp2_with fail
          refine (CP.out _).mono ?_
          rintro e w5 ⟨rfl, b5⟩
          have HI5 := Lib.hid (HI.out.kept (Turn.of_below (S := fun _ => False) b5) (fun h => h))
          have HT5 := Lib.hid (HT.out.trans (Turn.of_below (S := fun _ => False) b5) (fun _ _ h => h.elim))
          have y5 : w5.cell? ⟨g3, 7, none⟩ = some (.int .i64 cc.sh) := HI5.out.cell 7
          have yf5 : w5.frozen? ⟨g3, 7, none⟩ = false := HI5.out.free 7
          clear y7 yf
          clear b5 HI HT
          go_wp2_with fail
          refine (CN.out _).mono ?_
          rintro e w6 ⟨rfl, h6⟩
          subst h6
          go_wp2_with fail
          refine (CL.out _).mono ?_
          rintro e w7 ⟨rfl, h7⟩
          subst h7
          go_wp2_with fail
          go_roundw
          case rel => exact ⟨k + 1, by go_num, hlt, Lib.hid (by rw [HS.out]; exact HI5.out.set 7 (.int .i64 (leastF cc.sh (capN q.2)))), Lib.hid (HT5.out.setCell (fun _ => rfl) _)⟩
          case measure => simp [intOf]; omega
        have enoStoreN : (Ns.toList == [110, 111, 45, 115, 116, 111, 114, 101]) = false := by rw [hnl]; exact beq_eq_false_iff_ne.2 hnoStoreN
        have enoCacheN : (Ns.toList == [110, 111, 45, 99, 97, 99, 104, 101]) = false := by rw [hnl]; exact beq_eq_false_iff_ne.2 hnoCacheN
        have eprivN : (Ns.toList == [112, 114, 105, 118, 97, 116, 101]) = false := by rw [hnl]; exact beq_eq_false_iff_ne.2 hprivN
        have epubN : (Ns.toList == [112, 117, 98, 108, 105, 99]) = false := by rw [hnl]; exact beq_eq_false_iff_ne.2 hpubN
        have emustN : (Ns.toList == [109, 117, 115, 116, 45, 114, 101, 118, 97, 108, 105, 100, 97, 116, 101]) = false := by rw [hnl]; exact beq_eq_false_iff_ne.2 hmustN
        have eproxN : (Ns.toList == [112, 114, 111, 120, 121, 45, 114, 101, 118, 97, 108, 105, 100, 97, 116, 101]) = false := by rw [hnl]; exact beq_eq_false_iff_ne.2 hproxN
        have eageN : (Ns.toList == [109, 97, 120, 45, 97, 103, 101]) = false := by rw [hnl]; exact beq_eq_false_iff_ne.2 hageN
        have esharedN : (Ns.toList == [115, 45, 109, 97, 120, 97, 103, 101]) = false := by rw [hnl]; exact beq_eq_false_iff_ne.2 hsharedN
        have HS := Lib.hid (show resD (dirsF (es.take (k + 1))) = cc by
          simp only [show (q.1 == noStoreN) = false from beq_eq_false_iff_ne.2 hnoStoreN, show (q.1 == noCacheN) = false from beq_eq_false_iff_ne.2 hnoCacheN, show (q.1 == privN) = false from beq_eq_false_iff_ne.2 hprivN, show (q.1 == pubN) = false from beq_eq_false_iff_ne.2 hpubN, show (q.1 == mustN) = false from beq_eq_false_iff_ne.2 hmustN, show (q.1 == proxN) = false from beq_eq_false_iff_ne.2 hproxN, show (q.1 == ageN) = false from beq_eq_false_iff_ne.2 hageN, show (q.1 == sharedN) = false from beq_eq_false_iff_ne.2 hsharedN, Bool.or_false, Bool.false_eq_true, if_false] at STEP
          rw [STEP]
          cases cc
          simp only at zon zmf zms
          subst zon zmf zms
          rfl)
        clear STEP hnoStoreN hnoCacheN hprivN hpubN hmustN hproxN hageN hsharedN
        clear hnl hvl
        go_wp2_with fail
        refine (CP.out _).mono ?_
        rintro e w5 ⟨rfl, b5⟩
        have HI5 := Lib.hid (HI.out.kept (Turn.of_below (S := fun _ => False) b5) (fun h => h))
        have HT5 := Lib.hid (HT.out.trans (Turn.of_below (S := fun _ => False) b5) (fun _ _ h => h.elim))
        clear b5 HI HT
        go_wp2_with fail
        refine (CN.out _).mono ?_
        rintro e w6 ⟨rfl, h6⟩
        subst h6
        go_wp2_with fail
        go_roundw
        case rel => exact ⟨k + 1, by go_num, hlt, by rw [HS.out]; exact HI5, HT5⟩
        case measure => simp [intOf]; omega
    · have HI2 := HI.out
      rw [List.take_of_length_le (by rw [HM.out]; omega)] at HI2
      have HIE := Lib.hid HI2
      clear HI HI2
      have IZ3 := Lib.hid (IZ2.out.kept HT.out (fun e => by have := HG3.out; omega))
      have B3 := Lib.hid (show Below w.heap.size w wr from ⟨HT.out.os.trans B2.out.os, HT.out.tape.trans B2.out.tape, HT.out.output.trans B2.out.output, Nat.le_trans B2.out.size HT.out.size, fun k hk => (HT.out.block k (by have := B2.out.size; omega) (by have := HG3.out; omega)).trans (B2.out.block k hk)⟩)
      obtain ⟨cc, hcc⟩ : ∃ cc, resD (dirsF es) = cc := ⟨_, rfl⟩
      have HC := Lib.hid (show responseF ls = cc by rw [HF.out]; exact hcc)
      rw [hcc] at HIE
      clear hcc HT
      have y0 : wr.cell? ⟨g3, 0, none⟩ = some (.bool cc.ns) := HIE.out.cell 0
      have z0 : wr.cell? ⟨w.heap.size, 0, none⟩ = some (.bool false) := IZ3.out.cell 0
      have f0 : wr.frozen? ⟨w.heap.size, 0, none⟩ = false := IZ3.out.free 0
      have y1 : wr.cell? ⟨g3, 1, none⟩ = some (.bool cc.nc) := HIE.out.cell 1
      have z1 : wr.cell? ⟨w.heap.size, 1, none⟩ = some (.bool false) := IZ3.out.cell 1
      have f1 : wr.frozen? ⟨w.heap.size, 1, none⟩ = false := IZ3.out.free 1
      have y2 : wr.cell? ⟨g3, 2, none⟩ = some (.bool cc.pv) := HIE.out.cell 2
      have z2 : wr.cell? ⟨w.heap.size, 2, none⟩ = some (.bool false) := IZ3.out.cell 2
      have f2 : wr.frozen? ⟨w.heap.size, 2, none⟩ = false := IZ3.out.free 2
      have y3 : wr.cell? ⟨g3, 3, none⟩ = some (.bool cc.pb) := HIE.out.cell 3
      have z3 : wr.cell? ⟨w.heap.size, 3, none⟩ = some (.bool false) := IZ3.out.cell 3
      have f3 : wr.frozen? ⟨w.heap.size, 3, none⟩ = false := IZ3.out.free 3
      have y4 : wr.cell? ⟨g3, 4, none⟩ = some (.bool cc.mu) := HIE.out.cell 4
      have z4 : wr.cell? ⟨w.heap.size, 4, none⟩ = some (.bool false) := IZ3.out.cell 4
      have f4 : wr.frozen? ⟨w.heap.size, 4, none⟩ = false := IZ3.out.free 4
      have y5 : wr.cell? ⟨g3, 5, none⟩ = some (.bool cc.on) := HIE.out.cell 5
      have z5 : wr.cell? ⟨w.heap.size, 5, none⟩ = some (.bool false) := IZ3.out.cell 5
      have f5 : wr.frozen? ⟨w.heap.size, 5, none⟩ = false := IZ3.out.free 5
      have y6 : wr.cell? ⟨g3, 6, none⟩ = some (.int .i64 cc.ma) := HIE.out.cell 6
      have z6 : wr.cell? ⟨w.heap.size, 6, none⟩ = some (.int .i64 0) := IZ3.out.cell 6
      have f6 : wr.frozen? ⟨w.heap.size, 6, none⟩ = false := IZ3.out.free 6
      have y7 : wr.cell? ⟨g3, 7, none⟩ = some (.int .i64 cc.sh) := HIE.out.cell 7
      have z7 : wr.cell? ⟨w.heap.size, 7, none⟩ = some (.int .i64 0) := IZ3.out.cell 7
      have f7 : wr.frozen? ⟨w.heap.size, 7, none⟩ = false := IZ3.out.free 7
      have y8 : wr.cell? ⟨g3, 8, none⟩ = some (.int .i64 cc.mf) := HIE.out.cell 8
      have z8 : wr.cell? ⟨w.heap.size, 8, none⟩ = some (.int .i64 0) := IZ3.out.cell 8
      have f8 : wr.frozen? ⟨w.heap.size, 8, none⟩ = false := IZ3.out.free 8
      have y9 : wr.cell? ⟨g3, 9, none⟩ = some (.int .i64 cc.ms) := HIE.out.cell 9
      have z9 : wr.cell? ⟨w.heap.size, 9, none⟩ = some (.int .i64 0) := IZ3.out.cell 9
      have f9 : wr.frozen? ⟨w.heap.size, 9, none⟩ = false := IZ3.out.free 9
      go_wp2_with fail
      refine bodyPost_ret (results_cell_row rfl _ _ w.heap.size _ _ _ _ rfl (putC_is IZ3.out cc) ctlStruct rfl ctlSize) rfl ?_
      exact ⟨by rw [HC.out]; rfl, putC_below B3.out (Nat.le_refl _) cc⟩
end Go.Proofs.YtkccmjeabkfmdaaDoor.Con

namespace Go.Proofs.YtkccmjeabkfmdaaDoor.Con
open Go.RowKit Hop

theorem cont_snoc (ls : List Fld) (k : Nat) (f : Fld) (h : ls[k]? = some f) : contB (ls.take (k + 1)) = (contB (ls.take k) || lowF f.1 == ccN) := by
  unfold contB
  rw [take_snoc ls k f h, List.any_append]
  simp
theorem prag_snoc (es : List (List UInt8)) (k : Nat) (x : List UInt8) (h : es[k]? = some x) : pragB (es.take (k + 1)) = (pragB (es.take k) || lowF x == noCacheN) := by
  unfold pragB
  rw [take_snoc es k x h, List.any_append]
  simp
theorem cont_low (ls : List Fld) : ls.any (fun f => lowF f.1 == lowF ccN) = contB ls := by
  unfold contB
  rw [show lowF ccN = ccN by decide]

set_option maxHeartbeats 16000000 in
set_option maxRecDepth 100000 in
theorem rrequest_any {P : Nat → Prop} (w : World) (A : Option Addr) (ls : List Fld) (n c : Nat) (hn : ls.length = n) (hb : bulkF ls ≤ 1000000000) (h : SrcF w P A ls) :
    Calls Tryd.prog 8 #[.slice A n c] w fun e w' => e = .returned (requestF ls).v ∧ Below w.heap.size w w' := by
  have bz := (Below.refl w.heap.size w).alloc (Nat.le_refl _) (.cells #[.bool false, .bool false, .bool false, .bool false, .bool false, .bool false, .int .i64 0, .int .i64 0, .int .i64 0, .int .i64 0] 24)
  have bo := bz.alloc (by simp) (.cells #[.bool false, .bool false, .bool false, .bool false, .bool false, .bool false, .int .i64 (-1), .int .i64 (-1), .int .i64 (-1), .int .i64 (-1)] 24)
  have ize := (Is.made w 24 [.bool false, .bool false, .bool false, .bool false, .bool false, .bool false, .int .i64 0, .int .i64 0, .int .i64 0, .int .i64 0]).alloc (.cells #[.bool false, .bool false, .bool false, .bool false, .bool false, .bool false, .int .i64 (-1), .int .i64 (-1), .int .i64 (-1), .int .i64 (-1)] 24)
  have ione := Is.made (w.alloc (.cells #[.bool false, .bool false, .bool false, .bool false, .bool false, .bool false, .int .i64 0, .int .i64 0, .int .i64 0, .int .i64 0] 24)) 24 [.bool false, .bool false, .bool false, .bool false, .bool false, .bool false, .int .i64 (-1), .int .i64 (-1), .int .i64 (-1), .int .i64 (-1)]
  have hw1 : (w.alloc (.cells #[.bool false, .bool false, .bool false, .bool false, .bool false, .bool false, .int .i64 0, .int .i64 0, .int .i64 0, .int .i64 0] 24)).heap.size = w.heap.size + 1 := by simp
  rw [hw1] at ione
  have CE := relem_any ((w.alloc (.cells #[.bool false, .bool false, .bool false, .bool false, .bool false, .bool false, .int .i64 0, .int .i64 0, .int .i64 0, .int .i64 0] 24)).alloc (.cells #[.bool false, .bool false, .bool false, .bool false, .bool false, .bool false, .int .i64 (-1), .int .i64 (-1), .int .i64 (-1), .int .i64 (-1)] 24)) A ls n c hn hb (h.below bo) ⟨#[99, 97, 99, 104, 101, 45, 99, 111, 110, 116, 114, 111, 108]⟩ (by decide)
  rw [show bl ⟨#[99, 97, 99, 104, 101, 45, 99, 111, 110, 116, 114, 111, 108]⟩ = ccN from rfl] at CE
  have HEL := Lib.hid (elem_bulk ccN ls)
  have HSL := Lib.hid (show ∀ x ∈ elemF ls ccN, x.length ≤ 1000000000 from fun x hx => Nat.le_trans (elem_part hx) hb)
  have BO := Lib.hid bo
  have IZ := Lib.hid ize
  have IO := Lib.hid ione
  have HF := Lib.hid (show requestF ls = reqD (dirsF (elemF ls ccN)) (oldB ls) from rfl)
  have HN := Lib.hid hn
  have HB := Lib.hid hb
  have HSRC := Lib.hid h
  clear bz bo ize ione hw1 hn hb h
  generalize elemF ls ccN = es at *
  go_enter Tryd.func8, Tryd.ntmps8
  go_wp2_with fail
  refine CE.mono ?_
  rintro e w2 ⟨v2, o2, rfl, own2, ob2, b2⟩
  obtain ⟨g3, hg3⟩ : ∃ g3, w.heap.size + 1 = g3 := ⟨_, rfl⟩
  rw [hg3] at IO ⊢
  have hz : ((w.alloc (.cells #[.bool false, .bool false, .bool false, .bool false, .bool false, .bool false, .int .i64 0, .int .i64 0, .int .i64 0, .int .i64 0] 24)).alloc (.cells #[.bool false, .bool false, .bool false, .bool false, .bool false, .bool false, .int .i64 (-1), .int .i64 (-1), .int .i64 (-1), .int .i64 (-1)] 24)).heap.size = g3 + 1 := by simp; omega
  rw [hz] at ob2
  obtain ⟨A2, c2, hv2, src2⟩ := own2.src (fun b => ¬ b = g3) (fun b hb e => by have := ob2 b hb; omega)
  subst hv2
  have H2 := Lib.hid src2
  have I2 : Hid (Is w2 g3 24 (reqD (dirsF (es.take 0)) false).cells) := Lib.hid (IO.out.kept (Turn.of_below (S := fun _ => False) b2) (fun h => h))
  have IZ2 := Lib.hid (IZ.out.kept (Turn.of_below (S := fun _ => False) b2) (fun h => h))
  have B2 := Lib.hid (BO.out.trans (b2.mono BO.out.size))
  have HG3 := Lib.hid hg3
  obtain ⟨m, hm⟩ : ∃ m, es.length = m := ⟨_, rfl⟩
  have hmx : m ≤ 1000000000 := by have := HEL.out; have := HB.out; omega
  rw [hm] at ⊢
  have HM := Lib.hid hm
  clear hm own2 ob2 src2 b2 CE hz hg3 IO BO IZ
  go_wp2_with fail
  go_loopw [5] (fun vi wr => ∃ k : Nat, vi = .int .i64 (k : Int) ∧ k ≤ m ∧ Hid (Is wr g3 24 (reqD (dirsF (es.take k)) false).cells) ∧ Hid (Turn (fun b => b = g3) w2 wr)) (fun vi _ => m - (intOf vi).toNat)
  case atStart => exact ⟨0, rfl, Nat.zero_le _, I2, Lib.hid (Turn.refl _ _)⟩
  case round =>
    obtain ⟨k, rfl, hk, HI, HT⟩ := hrel
    by_cases hlt : k < m
    · obtain ⟨p, x, hx, hat, y, _, _⟩ := (srcs_turn H2.out HT.out (fun _ h => h)).at (c := c2) HM.out hlt (Below.refl wr.heap.size wr)
      have HX := Lib.hid hx
      have sx := HSL.out x (List.mem_of_getElem? hx)
      obtain ⟨Xs, hXs⟩ : ∃ Xs : ByteArray, Xs = ⟨x.toArray⟩ := ⟨_, rfl⟩
      have hbx : bl Xs = x := by rw [hXs, bl_mk]
      have CP := Lib.hid (fun W : World => pair_any Xs W (by rw [← bl_length, hbx]; omega))
      rw [hbx] at CP
      unfold Pairs at CP
      rw [← hXs] at y
      clear hXs hbx sx hx
      cases hp : pairF x with
      | none =>
        rw [hp] at CP
        simp only [Option.map_none, Option.getD_none, Option.isSome_none] at CP
        have HN := Lib.hid (dirs_none es k x HX.out hp)
        clear hp
        go_wp2_with fail
        refine (CP.out _).mono ?_
        rintro e w5 ⟨rfl, b5⟩
        have HI5 := Lib.hid (HI.out.kept (Turn.of_below (S := fun _ => False) b5) (fun h => h))
        have HT5 := Lib.hid (HT.out.trans (Turn.of_below (S := fun _ => False) b5) (fun _ _ h => h.elim))
        clear b5
        go_wp2_with fail
        go_roundw
        case rel => exact ⟨k + 1, by go_num, hlt, by rw [HN.out]; exact HI5, HT5⟩
        case measure => simp [intOf]; omega
      | some q =>
        have HN := Lib.hid (dirs_some es k x q HX.out hp)
        obtain ⟨Ns, hNs⟩ : ∃ Ns : ByteArray, Ns = ⟨q.1.toArray⟩ := ⟨_, rfl⟩
        obtain ⟨Vs, hVs⟩ : ∃ Vs : ByteArray, Vs = ⟨q.2.toArray⟩ := ⟨_, rfl⟩
        rw [hp] at CP
        simp only [Option.map_some, Option.getD_some, Option.isSome_some] at CP
        rw [← hNs, ← hVs] at CP
        have hnl : Ns.toList = q.1 := by rw [Lib.toList_data, hNs]
        have hvl : Vs.toList = q.2 := by rw [Lib.toList_data, hVs]
        have hvs : Vs.size ≤ 140737488351232 := by
          have := pair_len x q hp
          have := HSL.out x (List.mem_of_getElem? HX.out)
          rw [← bl_length, hVs, bl_mk]
          omega
        have CN := Lib.hid (fun W : World => number_any Vs W hvs)
        rw [show bl Vs = q.2 from by rw [hVs, bl_mk]] at CN
        have hcr : capN q.2 ≤ 2147483647 := capN_le q.2
        clear hp hNs hVs hvs
        obtain ⟨cc, hcc⟩ : ∃ cc, reqD (dirsF (es.take k)) false = cc := ⟨_, rfl⟩
        rw [hcc] at HI
        have STEP := req_step (dirsF (es.take k)) q
        rw [← HN.out, hcc] at STEP
        have HR := nF_range true (dirsF (es.take k))
        have r6 : -1 ≤ cc.ma ∧ cc.ma ≤ 2147483647 := by rw [← hcc]; exact HR ageN
        have r8 : -1 ≤ cc.mf ∧ cc.mf ≤ 2147483647 := by rw [← hcc]; exact HR freshN
        have r9 : -1 ≤ cc.ms ∧ cc.ms ≤ 2147483647 := by rw [← hcc]; exact HR staleN
        have zpv : cc.pv = false := by rw [← hcc]; rfl
        have zpb : cc.pb = false := by rw [← hcc]; rfl
        have zmu : cc.mu = false := by rw [← hcc]; rfl
        have zsh : cc.sh = -1 := by rw [← hcc]; rfl
        clear hcc HR HN
        by_cases hnoStoreN : q.1 = noStoreN
        · have hgg := Lib.hid hnoStoreN
          have enoStoreN : (Ns.toList == [110, 111, 45, 115, 116, 111, 114, 101]) = true := by rw [hnl, hnoStoreN]; decide
          have HS := Lib.hid (show reqD (dirsF (es.take (k + 1))) false = { cc with ns := true } by
            rw [hnoStoreN] at STEP
            simp only [show (noStoreN == noStoreN) = true from by decide, show (noStoreN == noCacheN) = false from by decide, show (noStoreN == onlyN) = false from by decide, show (noStoreN == ageN) = false from by decide, show (noStoreN == freshN) = false from by decide, show (noStoreN == staleN) = false from by decide, Bool.or_false, Bool.or_true, Bool.false_eq_true, if_false] at STEP
            rw [STEP]
            cases cc
            simp only at zpv zpb zmu zsh
            subst zpv zpb zmu zsh
            rfl)
          clear STEP  hnoStoreN
          have y0 : wr.cell? ⟨g3, 0, none⟩ = some (.bool cc.ns) := HI.out.cell 0
          have yf : wr.frozen? ⟨g3, 0, none⟩ = false := HI.out.free 0
          clear hnl hvl
          go_wp2_with fail
          refine (CP.out _).mono ?_
          rintro e w5 ⟨rfl, b5⟩
          have HI5 := Lib.hid (HI.out.kept (Turn.of_below (S := fun _ => False) b5) (fun h => h))
          have HT5 := Lib.hid (HT.out.trans (Turn.of_below (S := fun _ => False) b5) (fun _ _ h => h.elim))
          have yv5 : w5.cell? ⟨g3, 0, none⟩ = some (.bool cc.ns) := HI5.out.cell 0
          have yvf5 : w5.frozen? ⟨g3, 0, none⟩ = false := HI5.out.free 0
          clear y0 yf
          clear b5 HI HT
          go_wp2_with fail
          refine (CN.out _).mono ?_
          rintro e w6 ⟨rfl, h6⟩
          subst h6
          go_wp2_with fail
          go_roundw
          case rel => exact ⟨k + 1, by go_num, hlt, Lib.hid (by rw [HS.out]; exact HI5.out.set 0 (.bool true)), Lib.hid (HT5.out.setCell (fun _ => rfl) _)⟩
          case measure => simp [intOf]; omega
        by_cases hnoCacheN : q.1 = noCacheN
        · have hgg := Lib.hid hnoCacheN
          have enoStoreN : (Ns.toList == [110, 111, 45, 115, 116, 111, 114, 101]) = false := by rw [hnl]; exact beq_eq_false_iff_ne.2 hnoStoreN
          have enoCacheN : (Ns.toList == [110, 111, 45, 99, 97, 99, 104, 101]) = true := by rw [hnl, hnoCacheN]; decide
          have HS := Lib.hid (show reqD (dirsF (es.take (k + 1))) false = { cc with nc := true } by
            rw [hnoCacheN] at STEP
            simp only [show (noCacheN == noStoreN) = false from by decide, show (noCacheN == noCacheN) = true from by decide, show (noCacheN == onlyN) = false from by decide, show (noCacheN == ageN) = false from by decide, show (noCacheN == freshN) = false from by decide, show (noCacheN == staleN) = false from by decide, Bool.or_false, Bool.or_true, Bool.false_eq_true, if_false] at STEP
            rw [STEP]
            cases cc
            simp only at zpv zpb zmu zsh
            subst zpv zpb zmu zsh
            rfl)
          clear STEP hnoStoreN hnoCacheN
          have y1 : wr.cell? ⟨g3, 1, none⟩ = some (.bool cc.nc) := HI.out.cell 1
          have yf : wr.frozen? ⟨g3, 1, none⟩ = false := HI.out.free 1
          clear hnl hvl
          go_wp2_with fail
          refine (CP.out _).mono ?_
          rintro e w5 ⟨rfl, b5⟩
          have HI5 := Lib.hid (HI.out.kept (Turn.of_below (S := fun _ => False) b5) (fun h => h))
          have HT5 := Lib.hid (HT.out.trans (Turn.of_below (S := fun _ => False) b5) (fun _ _ h => h.elim))
          have yv5 : w5.cell? ⟨g3, 1, none⟩ = some (.bool cc.nc) := HI5.out.cell 1
          have yvf5 : w5.frozen? ⟨g3, 1, none⟩ = false := HI5.out.free 1
          clear y1 yf
          clear b5 HI HT
          go_wp2_with fail
          refine (CN.out _).mono ?_
          rintro e w6 ⟨rfl, h6⟩
          subst h6
          go_wp2_with fail
          go_roundw
          case rel => exact ⟨k + 1, by go_num, hlt, Lib.hid (by rw [HS.out]; exact HI5.out.set 1 (.bool true)), Lib.hid (HT5.out.setCell (fun _ => rfl) _)⟩
          case measure => simp [intOf]; omega
        by_cases honlyN : q.1 = onlyN
        · have hgg := Lib.hid honlyN
          have enoStoreN : (Ns.toList == [110, 111, 45, 115, 116, 111, 114, 101]) = false := by rw [hnl]; exact beq_eq_false_iff_ne.2 hnoStoreN
          have enoCacheN : (Ns.toList == [110, 111, 45, 99, 97, 99, 104, 101]) = false := by rw [hnl]; exact beq_eq_false_iff_ne.2 hnoCacheN
          have eonlyN : (Ns.toList == [111, 110, 108, 121, 45, 105, 102, 45, 99, 97, 99, 104, 101, 100]) = true := by rw [hnl, honlyN]; decide
          have HS := Lib.hid (show reqD (dirsF (es.take (k + 1))) false = { cc with on := true } by
            rw [honlyN] at STEP
            simp only [show (onlyN == noStoreN) = false from by decide, show (onlyN == noCacheN) = false from by decide, show (onlyN == onlyN) = true from by decide, show (onlyN == ageN) = false from by decide, show (onlyN == freshN) = false from by decide, show (onlyN == staleN) = false from by decide, Bool.or_false, Bool.or_true, Bool.false_eq_true, if_false] at STEP
            rw [STEP]
            cases cc
            simp only at zpv zpb zmu zsh
            subst zpv zpb zmu zsh
            rfl)
          clear STEP hnoStoreN hnoCacheN honlyN
          have y5 : wr.cell? ⟨g3, 5, none⟩ = some (.bool cc.on) := HI.out.cell 5
          have yf : wr.frozen? ⟨g3, 5, none⟩ = false := HI.out.free 5
          clear hnl hvl
          go_wp2_with fail
          refine (CP.out _).mono ?_
          rintro e w5 ⟨rfl, b5⟩
          have HI5 := Lib.hid (HI.out.kept (Turn.of_below (S := fun _ => False) b5) (fun h => h))
          have HT5 := Lib.hid (HT.out.trans (Turn.of_below (S := fun _ => False) b5) (fun _ _ h => h.elim))
          have yv5 : w5.cell? ⟨g3, 5, none⟩ = some (.bool cc.on) := HI5.out.cell 5
          have yvf5 : w5.frozen? ⟨g3, 5, none⟩ = false := HI5.out.free 5
          clear y5 yf
          clear b5 HI HT
          go_wp2_with fail
          refine (CN.out _).mono ?_
          rintro e w6 ⟨rfl, h6⟩
          subst h6
          go_wp2_with fail
          go_roundw
          case rel => exact ⟨k + 1, by go_num, hlt, Lib.hid (by rw [HS.out]; exact HI5.out.set 5 (.bool true)), Lib.hid (HT5.out.setCell (fun _ => rfl) _)⟩
          case measure => simp [intOf]; omega
        by_cases hageN : q.1 = ageN
        · have hgg := Lib.hid hageN
          have enoStoreN : (Ns.toList == [110, 111, 45, 115, 116, 111, 114, 101]) = false := by rw [hnl]; exact beq_eq_false_iff_ne.2 hnoStoreN
          have enoCacheN : (Ns.toList == [110, 111, 45, 99, 97, 99, 104, 101]) = false := by rw [hnl]; exact beq_eq_false_iff_ne.2 hnoCacheN
          have eonlyN : (Ns.toList == [111, 110, 108, 121, 45, 105, 102, 45, 99, 97, 99, 104, 101, 100]) = false := by rw [hnl]; exact beq_eq_false_iff_ne.2 honlyN
          have eageN : (Ns.toList == [109, 97, 120, 45, 97, 103, 101]) = true := by rw [hnl, hageN]; decide
          have HS := Lib.hid (show reqD (dirsF (es.take (k + 1))) false = { cc with ma := leastF cc.ma (capN q.2) } by
            rw [hageN] at STEP
            simp only [show (ageN == noStoreN) = false from by decide, show (ageN == noCacheN) = false from by decide, show (ageN == onlyN) = false from by decide, show (ageN == ageN) = true from by decide, show (ageN == freshN) = false from by decide, show (ageN == staleN) = false from by decide, Bool.or_false, Bool.false_eq_true, if_true, if_false] at STEP
            rw [STEP]
            cases cc
            simp only at zpv zpb zmu zsh
            subst zpv zpb zmu zsh
            rfl)
          clear STEP hnoStoreN hnoCacheN honlyN hageN
          have y6 : wr.cell? ⟨g3, 6, none⟩ = some (.int .i64 cc.ma) := HI.out.cell 6
          have yf : wr.frozen? ⟨g3, 6, none⟩ = false := HI.out.free 6
          clear hnl hvl
          have CL := Lib.hid (fun W : World => least_any cc.ma (capN q.2 : Int) W)
          go_wp2_with fail
          refine (CP.out _).mono ?_
          rintro e w5 ⟨rfl, b5⟩
          have HI5 := Lib.hid (HI.out.kept (Turn.of_below (S := fun _ => False) b5) (fun h => h))
          have HT5 := Lib.hid (HT.out.trans (Turn.of_below (S := fun _ => False) b5) (fun _ _ h => h.elim))
          have yv5 : w5.cell? ⟨g3, 6, none⟩ = some (.int .i64 cc.ma) := HI5.out.cell 6
          have yvf5 : w5.frozen? ⟨g3, 6, none⟩ = false := HI5.out.free 6
          clear y6 yf
          clear b5 HI HT
          go_wp2_with fail
          refine (CN.out _).mono ?_
          rintro e w6 ⟨rfl, h6⟩
          subst h6
          go_wp2_with fail
          refine (CL.out _).mono ?_
          rintro e w7 ⟨rfl, h7⟩
          subst h7
          go_wp2_with fail
          go_roundw
          case rel => exact ⟨k + 1, by go_num, hlt, Lib.hid (by rw [HS.out]; exact HI5.out.set 6 (.int .i64 (leastF cc.ma (capN q.2)))), Lib.hid (HT5.out.setCell (fun _ => rfl) _)⟩
          case measure => simp [intOf]; omega
        by_cases hfreshN : q.1 = freshN
        · by_cases hg : cc.mf < (capN q.2 : Int)
          · have hgg := Lib.hid hg
            have enoStoreN : (Ns.toList == [110, 111, 45, 115, 116, 111, 114, 101]) = false := by rw [hnl]; exact beq_eq_false_iff_ne.2 hnoStoreN
            have enoCacheN : (Ns.toList == [110, 111, 45, 99, 97, 99, 104, 101]) = false := by rw [hnl]; exact beq_eq_false_iff_ne.2 hnoCacheN
            have eonlyN : (Ns.toList == [111, 110, 108, 121, 45, 105, 102, 45, 99, 97, 99, 104, 101, 100]) = false := by rw [hnl]; exact beq_eq_false_iff_ne.2 honlyN
            have eageN : (Ns.toList == [109, 97, 120, 45, 97, 103, 101]) = false := by rw [hnl]; exact beq_eq_false_iff_ne.2 hageN
            have efreshN : (Ns.toList == [109, 105, 110, 45, 102, 114, 101, 115, 104]) = true := by rw [hnl, hfreshN]; decide
            have HS := Lib.hid (show reqD (dirsF (es.take (k + 1))) false = { cc with mf := (capN q.2 : Int) } by
              rw [hfreshN] at STEP
              have hmax : max (capN q.2 : Int) cc.mf = (capN q.2 : Int) := by omega
              simp only [show (freshN == noStoreN) = false from by decide, show (freshN == noCacheN) = false from by decide, show (freshN == onlyN) = false from by decide, show (freshN == ageN) = false from by decide, show (freshN == freshN) = true from by decide, show (freshN == staleN) = false from by decide, Bool.or_false, Bool.false_eq_true, if_true, if_false, hmax] at STEP
              rw [STEP]
              cases cc
              simp only at zpv zpb zmu zsh
              subst zpv zpb zmu zsh
              rfl)
            clear STEP hnoStoreN hnoCacheN honlyN hageN hfreshN
            have y8 : wr.cell? ⟨g3, 8, none⟩ = some (.int .i64 cc.mf) := HI.out.cell 8
            have yf : wr.frozen? ⟨g3, 8, none⟩ = false := HI.out.free 8
            clear hnl hvl
            go_wp2_with fail
            refine (CP.out _).mono ?_
            rintro e w5 ⟨rfl, b5⟩
            have HI5 := Lib.hid (HI.out.kept (Turn.of_below (S := fun _ => False) b5) (fun h => h))
            have HT5 := Lib.hid (HT.out.trans (Turn.of_below (S := fun _ => False) b5) (fun _ _ h => h.elim))
            have yv5 : w5.cell? ⟨g3, 8, none⟩ = some (.int .i64 cc.mf) := HI5.out.cell 8
            have yvf5 : w5.frozen? ⟨g3, 8, none⟩ = false := HI5.out.free 8
            clear y8 yf
            clear b5 HI HT
            go_wp2_with fail
            refine (CN.out _).mono ?_
            rintro e w6 ⟨rfl, h6⟩
            subst h6
            go_wp2_with fail
            go_roundw
            case rel => exact ⟨k + 1, by go_num, hlt, Lib.hid (by rw [HS.out]; exact HI5.out.set 8 (.int .i64 (capN q.2 : Int))), Lib.hid (HT5.out.setCell (fun _ => rfl) _)⟩
            case measure => simp [intOf]; omega
          · have hgg := Lib.hid hg
            have enoStoreN : (Ns.toList == [110, 111, 45, 115, 116, 111, 114, 101]) = false := by rw [hnl]; exact beq_eq_false_iff_ne.2 hnoStoreN
            have enoCacheN : (Ns.toList == [110, 111, 45, 99, 97, 99, 104, 101]) = false := by rw [hnl]; exact beq_eq_false_iff_ne.2 hnoCacheN
            have eonlyN : (Ns.toList == [111, 110, 108, 121, 45, 105, 102, 45, 99, 97, 99, 104, 101, 100]) = false := by rw [hnl]; exact beq_eq_false_iff_ne.2 honlyN
            have eageN : (Ns.toList == [109, 97, 120, 45, 97, 103, 101]) = false := by rw [hnl]; exact beq_eq_false_iff_ne.2 hageN
            have efreshN : (Ns.toList == [109, 105, 110, 45, 102, 114, 101, 115, 104]) = true := by rw [hnl, hfreshN]; decide
            have HS := Lib.hid (show reqD (dirsF (es.take (k + 1))) false = cc by
              rw [hfreshN] at STEP
              have hmax : max (capN q.2 : Int) cc.mf = cc.mf := by omega
              simp only [show (freshN == noStoreN) = false from by decide, show (freshN == noCacheN) = false from by decide, show (freshN == onlyN) = false from by decide, show (freshN == ageN) = false from by decide, show (freshN == freshN) = true from by decide, show (freshN == staleN) = false from by decide, Bool.or_false, Bool.false_eq_true, if_true, if_false, hmax] at STEP
              rw [STEP]
              cases cc
              simp only at zpv zpb zmu zsh
              subst zpv zpb zmu zsh
              rfl)
            clear STEP hnoStoreN hnoCacheN honlyN hageN hfreshN
            have y8 : wr.cell? ⟨g3, 8, none⟩ = some (.int .i64 cc.mf) := HI.out.cell 8
            have yf : wr.frozen? ⟨g3, 8, none⟩ = false := HI.out.free 8
            clear hnl hvl
            go_wp2_with fail
            refine (CP.out _).mono ?_
            rintro e w5 ⟨rfl, b5⟩
            have HI5 := Lib.hid (HI.out.kept (Turn.of_below (S := fun _ => False) b5) (fun h => h))
            have HT5 := Lib.hid (HT.out.trans (Turn.of_below (S := fun _ => False) b5) (fun _ _ h => h.elim))
            have yv5 : w5.cell? ⟨g3, 8, none⟩ = some (.int .i64 cc.mf) := HI5.out.cell 8
            have yvf5 : w5.frozen? ⟨g3, 8, none⟩ = false := HI5.out.free 8
            clear y8 yf
            clear b5 HI HT
            go_wp2_with fail
            refine (CN.out _).mono ?_
            rintro e w6 ⟨rfl, h6⟩
            subst h6
            go_wp2_with fail
            go_roundw
            case rel => exact ⟨k + 1, by go_num, hlt, by rw [HS.out]; exact HI5, HT5⟩
            case measure => simp [intOf]; omega
        by_cases hstaleN : q.1 = staleN
        · by_cases hv : q.2 = []
          · have hgg := Lib.hid hv
            have enoStoreN : (Ns.toList == [110, 111, 45, 115, 116, 111, 114, 101]) = false := by rw [hnl]; exact beq_eq_false_iff_ne.2 hnoStoreN
            have enoCacheN : (Ns.toList == [110, 111, 45, 99, 97, 99, 104, 101]) = false := by rw [hnl]; exact beq_eq_false_iff_ne.2 hnoCacheN
            have eonlyN : (Ns.toList == [111, 110, 108, 121, 45, 105, 102, 45, 99, 97, 99, 104, 101, 100]) = false := by rw [hnl]; exact beq_eq_false_iff_ne.2 honlyN
            have eageN : (Ns.toList == [109, 97, 120, 45, 97, 103, 101]) = false := by rw [hnl]; exact beq_eq_false_iff_ne.2 hageN
            have efreshN : (Ns.toList == [109, 105, 110, 45, 102, 114, 101, 115, 104]) = false := by rw [hnl]; exact beq_eq_false_iff_ne.2 hfreshN
            have estaleN : (Ns.toList == [109, 97, 120, 45, 115, 116, 97, 108, 101]) = true := by rw [hnl, hstaleN]; decide
            have HS := Lib.hid (show reqD (dirsF (es.take (k + 1))) false = { cc with ms := leastF cc.ms 2147483647 } by
              rw [hstaleN] at STEP
              simp only [show (staleN == noStoreN) = false from by decide, show (staleN == noCacheN) = false from by decide, show (staleN == onlyN) = false from by decide, show (staleN == ageN) = false from by decide, show (staleN == freshN) = false from by decide, show (staleN == staleN) = true from by decide, Bool.or_false, Bool.false_eq_true, if_true, if_false, if_pos hv] at STEP
              rw [STEP]
              cases cc
              simp only at zpv zpb zmu zsh
              subst zpv zpb zmu zsh
              rfl)
            clear STEP hnoStoreN hnoCacheN honlyN hageN hfreshN hstaleN
            have y9 : wr.cell? ⟨g3, 9, none⟩ = some (.int .i64 cc.ms) := HI.out.cell 9
            have yf : wr.frozen? ⟨g3, 9, none⟩ = false := HI.out.free 9
            clear hnl
            have CL := Lib.hid (fun W : World => least_any cc.ms 2147483647 W)
            have ev : (Vs.toList == []) = true := by rw [hvl, hv]; rfl
            have ev2 : Vs.toList.isEmpty = true := by rw [hvl, hv]; rfl
            clear hvl hv
            go_wp2_with fail
            refine (CP.out _).mono ?_
            rintro e w5 ⟨rfl, b5⟩
            have HI5 := Lib.hid (HI.out.kept (Turn.of_below (S := fun _ => False) b5) (fun h => h))
            have HT5 := Lib.hid (HT.out.trans (Turn.of_below (S := fun _ => False) b5) (fun _ _ h => h.elim))
            have yv5 : w5.cell? ⟨g3, 9, none⟩ = some (.int .i64 cc.ms) := HI5.out.cell 9
            have yvf5 : w5.frozen? ⟨g3, 9, none⟩ = false := HI5.out.free 9
            clear y9 yf
            clear b5 HI HT
            go_wp2_with fail
            refine (CN.out _).mono ?_
            rintro e w6 ⟨rfl, h6⟩
            subst h6
            go_wp2_with fail
            refine (CL.out _).mono ?_
            rintro e w7 ⟨rfl, h7⟩
            subst h7
            go_wp2_with fail
            go_roundw
            case rel => exact ⟨k + 1, by go_num, hlt, Lib.hid (by rw [HS.out]; exact HI5.out.set 9 (.int .i64 (leastF cc.ms 2147483647))), Lib.hid (HT5.out.setCell (fun _ => rfl) _)⟩
            case measure => simp [intOf]; omega
          · have hgg := Lib.hid hv
            have enoStoreN : (Ns.toList == [110, 111, 45, 115, 116, 111, 114, 101]) = false := by rw [hnl]; exact beq_eq_false_iff_ne.2 hnoStoreN
            have enoCacheN : (Ns.toList == [110, 111, 45, 99, 97, 99, 104, 101]) = false := by rw [hnl]; exact beq_eq_false_iff_ne.2 hnoCacheN
            have eonlyN : (Ns.toList == [111, 110, 108, 121, 45, 105, 102, 45, 99, 97, 99, 104, 101, 100]) = false := by rw [hnl]; exact beq_eq_false_iff_ne.2 honlyN
            have eageN : (Ns.toList == [109, 97, 120, 45, 97, 103, 101]) = false := by rw [hnl]; exact beq_eq_false_iff_ne.2 hageN
            have efreshN : (Ns.toList == [109, 105, 110, 45, 102, 114, 101, 115, 104]) = false := by rw [hnl]; exact beq_eq_false_iff_ne.2 hfreshN
            have estaleN : (Ns.toList == [109, 97, 120, 45, 115, 116, 97, 108, 101]) = true := by rw [hnl, hstaleN]; decide
            have HS := Lib.hid (show reqD (dirsF (es.take (k + 1))) false = { cc with ms := leastF cc.ms (capN q.2) } by
              rw [hstaleN] at STEP
              simp only [show (staleN == noStoreN) = false from by decide, show (staleN == noCacheN) = false from by decide, show (staleN == onlyN) = false from by decide, show (staleN == ageN) = false from by decide, show (staleN == freshN) = false from by decide, show (staleN == staleN) = true from by decide, Bool.or_false, Bool.false_eq_true, if_true, if_false, if_neg hv] at STEP
              rw [STEP]
              cases cc
              simp only at zpv zpb zmu zsh
              subst zpv zpb zmu zsh
              rfl)
            clear STEP hnoStoreN hnoCacheN honlyN hageN hfreshN hstaleN
            have y9 : wr.cell? ⟨g3, 9, none⟩ = some (.int .i64 cc.ms) := HI.out.cell 9
            have yf : wr.frozen? ⟨g3, 9, none⟩ = false := HI.out.free 9
            clear hnl
            have CL := Lib.hid (fun W : World => least_any cc.ms (capN q.2 : Int) W)
            have ev : (Vs.toList == []) = false := by rw [hvl]; exact beq_eq_false_iff_ne.2 hv
            have ev2 : Vs.toList.isEmpty = false := by rw [hvl]; cases hq : q.2 with
              | nil => exact absurd hq hv
              | cons _ _ => rfl
            clear hvl hv
            go_wp2_with fail
            refine (CP.out _).mono ?_
            rintro e w5 ⟨rfl, b5⟩
            have HI5 := Lib.hid (HI.out.kept (Turn.of_below (S := fun _ => False) b5) (fun h => h))
            have HT5 := Lib.hid (HT.out.trans (Turn.of_below (S := fun _ => False) b5) (fun _ _ h => h.elim))
            have yv5 : w5.cell? ⟨g3, 9, none⟩ = some (.int .i64 cc.ms) := HI5.out.cell 9
            have yvf5 : w5.frozen? ⟨g3, 9, none⟩ = false := HI5.out.free 9
            clear y9 yf
            clear b5 HI HT
            go_wp2_with fail
            refine (CN.out _).mono ?_
            rintro e w6 ⟨rfl, h6⟩
            subst h6
            go_wp2_with fail
            refine (CL.out _).mono ?_
            rintro e w7 ⟨rfl, h7⟩
            subst h7
            go_wp2_with fail
            go_roundw
            case rel => exact ⟨k + 1, by go_num, hlt, Lib.hid (by rw [HS.out]; exact HI5.out.set 9 (.int .i64 (leastF cc.ms (capN q.2)))), Lib.hid (HT5.out.setCell (fun _ => rfl) _)⟩
            case measure => simp [intOf]; omega
        have enoStoreN : (Ns.toList == [110, 111, 45, 115, 116, 111, 114, 101]) = false := by rw [hnl]; exact beq_eq_false_iff_ne.2 hnoStoreN
        have enoCacheN : (Ns.toList == [110, 111, 45, 99, 97, 99, 104, 101]) = false := by rw [hnl]; exact beq_eq_false_iff_ne.2 hnoCacheN
        have eonlyN : (Ns.toList == [111, 110, 108, 121, 45, 105, 102, 45, 99, 97, 99, 104, 101, 100]) = false := by rw [hnl]; exact beq_eq_false_iff_ne.2 honlyN
        have eageN : (Ns.toList == [109, 97, 120, 45, 97, 103, 101]) = false := by rw [hnl]; exact beq_eq_false_iff_ne.2 hageN
        have efreshN : (Ns.toList == [109, 105, 110, 45, 102, 114, 101, 115, 104]) = false := by rw [hnl]; exact beq_eq_false_iff_ne.2 hfreshN
        have estaleN : (Ns.toList == [109, 97, 120, 45, 115, 116, 97, 108, 101]) = false := by rw [hnl]; exact beq_eq_false_iff_ne.2 hstaleN
        have HS := Lib.hid (show reqD (dirsF (es.take (k + 1))) false = cc by
          simp only [show (q.1 == noStoreN) = false from beq_eq_false_iff_ne.2 hnoStoreN, show (q.1 == noCacheN) = false from beq_eq_false_iff_ne.2 hnoCacheN, show (q.1 == onlyN) = false from beq_eq_false_iff_ne.2 honlyN, show (q.1 == ageN) = false from beq_eq_false_iff_ne.2 hageN, show (q.1 == freshN) = false from beq_eq_false_iff_ne.2 hfreshN, show (q.1 == staleN) = false from beq_eq_false_iff_ne.2 hstaleN, Bool.or_false, Bool.false_eq_true, if_false] at STEP
          rw [STEP]
          cases cc
          simp only at zpv zpb zmu zsh
          subst zpv zpb zmu zsh
          rfl)
        clear STEP hnoStoreN hnoCacheN honlyN hageN hfreshN hstaleN
        clear hnl hvl
        go_wp2_with fail
        refine (CP.out _).mono ?_
        rintro e w5 ⟨rfl, b5⟩
        have HI5 := Lib.hid (HI.out.kept (Turn.of_below (S := fun _ => False) b5) (fun h => h))
        have HT5 := Lib.hid (HT.out.trans (Turn.of_below (S := fun _ => False) b5) (fun _ _ h => h.elim))
        clear b5 HI HT
        go_wp2_with fail
        refine (CN.out _).mono ?_
        rintro e w6 ⟨rfl, h6⟩
        subst h6
        go_wp2_with fail
        go_roundw
        case rel => exact ⟨k + 1, by go_num, hlt, by rw [HS.out]; exact HI5, HT5⟩
        case measure => simp [intOf]; omega
    · have HI2 := HI.out
      rw [List.take_of_length_le (by rw [HM.out]; omega)] at HI2
      have HIE := Lib.hid HI2
      clear HI HI2
      have IZ3 := Lib.hid (IZ2.out.kept HT.out (fun e => by have := HG3.out; omega))
      have B3 := Lib.hid (show Below w.heap.size w wr from ⟨HT.out.os.trans B2.out.os, HT.out.tape.trans B2.out.tape, HT.out.output.trans B2.out.output, Nat.le_trans B2.out.size HT.out.size, fun k hk => (HT.out.block k (by have := B2.out.size; omega) (by have := HG3.out; omega)).trans (B2.out.block k hk)⟩)
      obtain ⟨cc, hcc⟩ : ∃ cc, reqD (dirsF es) false = cc := ⟨_, rfl⟩
      have HC := Lib.hid (show requestF ls = { cc with nc := cc.nc || oldB ls } by rw [HF.out, req_old, hcc])
      rw [hcc] at HIE
      have HGL := Lib.hid (HIE.out.lt)
      clear hcc HT
      have HSZ := Lib.hid (show ∀ f ∈ ls, f.1.length ≤ 1000000000 ∧ f.2.length ≤ 1000000000 from fun f hf => by have := bulk_mem hf; have := HB.out; omega)
      obtain ⟨wo, rfl⟩ : ∃ wo, wo = wr := ⟨_, rfl⟩
      have HNL : n ≤ 1000000000 := by have := bulk_len ls; have := HB.out; have := HN.out; omega
      go_wp2_with fail
      go_loopw [10] (fun vi wx => ∃ k : Nat, vi = .int .i64 (k : Int) ∧ k ≤ n ∧ Hid (contB (ls.take k) = false) ∧ Hid (Below wo.heap.size wo wx) ∧ Hid (Below w.heap.size w wx)) (fun vi _ => n - (intOf vi).toNat)
      case atStart => exact ⟨0, rfl, Nat.zero_le _, Lib.hid rfl, Lib.hid (Below.refl _ _), B3⟩
      case round =>
        obtain ⟨k2, rfl, hk2, HC2, HY, HX2⟩ := hrel
        obtain ⟨wx, rfl⟩ : ∃ wx, wx = wr := ⟨_, rfl⟩
        by_cases hlt2 : k2 < n
        · obtain ⟨p, f, hf, hat, y0, _, _, _⟩ := HSRC.out.at (c := c) HN.out hlt2 HX2.out
          obtain ⟨s1, s2⟩ := HSZ.out f (List.mem_of_getElem? hf)
          have HTK := Lib.hid (cont_snoc ls k2 f hf)
          have HMEM := Lib.hid (List.mem_of_getElem? hf)
          obtain ⟨Ns, hNs⟩ : ∃ Ns : ByteArray, Ns = ⟨f.1.toArray⟩ := ⟨_, rfl⟩
          have hbn : bl Ns = f.1 := by rw [hNs, bl_mk]
          have CS := Lib.hid (fun W : World => same_any Ns ⟨#[99, 97, 99, 104, 101, 45, 99, 111, 110, 116, 114, 111, 108]⟩ W (by rw [← bl_length, hbn]; omega) (by decide))
          rw [hbn, show lowF (bl ⟨#[99, 97, 99, 104, 101, 45, 99, 111, 110, 116, 114, 111, 108]⟩) = ccN by decide] at CS
          rw [← hNs] at y0
          clear hNs hbn s1 s2 hf
          cases hsm : (lowF f.1 == ccN) with
          | false =>
            rw [hsm] at CS HTK
            clear hsm HMEM
            go_wp2_with fail
            refine (CS.out _).mono ?_
            rintro e w5 ⟨rfl, b5⟩
            have HY5 := Lib.hid (HY.out.trans (b5.mono HY.out.size))
            have HX5 := Lib.hid (HX2.out.trans (b5.mono HX2.out.size))
            clear b5
            go_wp2_with fail
            go_roundw
            case rel => exact ⟨k2 + 1, by go_num, hlt2, Lib.hid (by rw [HTK.out, HC2.out]; rfl), HY5, HX5⟩
            case measure => simp [intOf]; omega
          | true =>
            rw [hsm] at CS
            have HOLD := Lib.hid (show requestF ls = cc by
              have h1 : contB ls = true := List.any_eq_true.2 ⟨f, HMEM.out, hsm⟩
              rw [HC.out]
              unfold oldB
              rw [h1]
              cases cc
              simp)
            clear hsm HTK
            go_wp2_with fail
            refine (CS.out _).mono ?_
            rintro e w5 ⟨rfl, b5⟩
            have HY5 := Lib.hid (HY.out.trans (b5.mono HY.out.size))
            have HX5 := Lib.hid (HX2.out.trans (b5.mono HX2.out.size))
            have HI6 := Lib.hid (HIE.out.kept (Turn.of_below (S := fun _ => False) HY5.out) (fun h => h))
            have IZ6 := Lib.hid (IZ3.out.kept (Turn.of_below (S := fun _ => False) HY5.out) (fun h => h))
            clear b5 y0
            have y0 : w5.cell? ⟨g3, 0, none⟩ = some (.bool cc.ns) := HI6.out.cell 0
            have z0 : w5.cell? ⟨w.heap.size, 0, none⟩ = some (.bool false) := IZ6.out.cell 0
            have f0 : w5.frozen? ⟨w.heap.size, 0, none⟩ = false := IZ6.out.free 0
            have y1 : w5.cell? ⟨g3, 1, none⟩ = some (.bool cc.nc) := HI6.out.cell 1
            have z1 : w5.cell? ⟨w.heap.size, 1, none⟩ = some (.bool false) := IZ6.out.cell 1
            have f1 : w5.frozen? ⟨w.heap.size, 1, none⟩ = false := IZ6.out.free 1
            have y2 : w5.cell? ⟨g3, 2, none⟩ = some (.bool cc.pv) := HI6.out.cell 2
            have z2 : w5.cell? ⟨w.heap.size, 2, none⟩ = some (.bool false) := IZ6.out.cell 2
            have f2 : w5.frozen? ⟨w.heap.size, 2, none⟩ = false := IZ6.out.free 2
            have y3 : w5.cell? ⟨g3, 3, none⟩ = some (.bool cc.pb) := HI6.out.cell 3
            have z3 : w5.cell? ⟨w.heap.size, 3, none⟩ = some (.bool false) := IZ6.out.cell 3
            have f3 : w5.frozen? ⟨w.heap.size, 3, none⟩ = false := IZ6.out.free 3
            have y4 : w5.cell? ⟨g3, 4, none⟩ = some (.bool cc.mu) := HI6.out.cell 4
            have z4 : w5.cell? ⟨w.heap.size, 4, none⟩ = some (.bool false) := IZ6.out.cell 4
            have f4 : w5.frozen? ⟨w.heap.size, 4, none⟩ = false := IZ6.out.free 4
            have y5 : w5.cell? ⟨g3, 5, none⟩ = some (.bool cc.on) := HI6.out.cell 5
            have z5 : w5.cell? ⟨w.heap.size, 5, none⟩ = some (.bool false) := IZ6.out.cell 5
            have f5 : w5.frozen? ⟨w.heap.size, 5, none⟩ = false := IZ6.out.free 5
            have y6 : w5.cell? ⟨g3, 6, none⟩ = some (.int .i64 cc.ma) := HI6.out.cell 6
            have z6 : w5.cell? ⟨w.heap.size, 6, none⟩ = some (.int .i64 0) := IZ6.out.cell 6
            have f6 : w5.frozen? ⟨w.heap.size, 6, none⟩ = false := IZ6.out.free 6
            have y7 : w5.cell? ⟨g3, 7, none⟩ = some (.int .i64 cc.sh) := HI6.out.cell 7
            have z7 : w5.cell? ⟨w.heap.size, 7, none⟩ = some (.int .i64 0) := IZ6.out.cell 7
            have f7 : w5.frozen? ⟨w.heap.size, 7, none⟩ = false := IZ6.out.free 7
            have y8 : w5.cell? ⟨g3, 8, none⟩ = some (.int .i64 cc.mf) := HI6.out.cell 8
            have z8 : w5.cell? ⟨w.heap.size, 8, none⟩ = some (.int .i64 0) := IZ6.out.cell 8
            have f8 : w5.frozen? ⟨w.heap.size, 8, none⟩ = false := IZ6.out.free 8
            have y9 : w5.cell? ⟨g3, 9, none⟩ = some (.int .i64 cc.ms) := HI6.out.cell 9
            have z9 : w5.cell? ⟨w.heap.size, 9, none⟩ = some (.int .i64 0) := IZ6.out.cell 9
            have f9 : w5.frozen? ⟨w.heap.size, 9, none⟩ = false := IZ6.out.free 9
            go_wp2_with fail
            refine bodyPost_ret (results_cell_row rfl _ _ w.heap.size _ _ _ _ rfl (putC_is IZ6.out cc) ctlStruct rfl ctlSize) rfl ?_
            exact ⟨by rw [HOLD.out]; rfl, putC_below HX5.out (Nat.le_refl _) cc⟩
        · have HNC := Lib.hid (show contB ls = false by
            have := HC2.out
            rw [List.take_of_length_le (by rw [HN.out]; omega)] at this
            exact this)
          have CE := relem_any wx A ls n c HN.out HB.out (HSRC.out.below HX2.out) ⟨#[112, 114, 97, 103, 109, 97]⟩ (by decide)
          rw [show bl ⟨#[112, 114, 97, 103, 109, 97]⟩ = prN from rfl] at CE
          have HEL2 := Lib.hid (show (elemF ls prN).length ≤ 1000000000 by have := elem_bulk prN ls; have := HB.out; omega)
          have HSL2 := Lib.hid (show ∀ x ∈ elemF ls prN, x.length ≤ 1000000000 from fun x hx => Nat.le_trans (elem_part hx) HB.out)
          have HOLD := Lib.hid (show oldB ls = pragB (elemF ls prN) by unfold oldB; rw [HNC.out]; rfl)
          have HI6 := Lib.hid (HIE.out.kept (Turn.of_below (S := fun _ => False) HY.out) (fun h => h))
          have IZ6 := Lib.hid (IZ3.out.kept (Turn.of_below (S := fun _ => False) HY.out) (fun h => h))
          generalize elemF ls prN = os at *
          go_wp2_with fail
          refine CE.mono ?_
          rintro e w7 ⟨v7, o7, rfl, own7, ob7, b7⟩
          have hgx : g3 < wx.heap.size := HI6.out.lt
          obtain ⟨A7, c7, hv7, src7⟩ := own7.src (fun b => ¬ b = g3) (fun b hb e => by have := ob7 b hb; omega)
          subst hv7
          have H7 := Lib.hid src7
          have I7 : Hid (Is w7 g3 24 { cc with nc := cc.nc || pragB (os.take 0) }.cells) := Lib.hid (by
            have h1 := HI6.out.kept (Turn.of_below (S := fun _ => False) b7) (fun h => h)
            have h2 : ({ cc with nc := cc.nc || pragB (os.take 0) } : Ctl) = cc := by
              cases cc
              simp [pragB]
            rw [h2]
            exact h1)
          have IZ7 := Lib.hid (IZ6.out.kept (Turn.of_below (S := fun _ => False) b7) (fun h => h))
          have B7 := Lib.hid (HX2.out.trans (b7.mono HX2.out.size))
          obtain ⟨m7, hm7⟩ : ∃ m, os.length = m := ⟨_, rfl⟩
          have hmx7 : m7 ≤ 1000000000 := by have := HEL2.out; omega
          rw [hm7] at ⊢
          have HM7 := Lib.hid hm7
          clear hm7 own7 ob7 src7 b7 CE hgx HIE IZ3 HI6 IZ6
          go_wp2_with fail
          go_loopw [12] (fun vi wy => ∃ k : Nat, vi = .int .i64 (k : Int) ∧ k ≤ m7 ∧ Hid (Is wy g3 24 { cc with nc := cc.nc || pragB (os.take k) }.cells) ∧ Hid (Turn (fun b => b = g3) w7 wy)) (fun vi _ => m7 - (intOf vi).toNat)
          case atStart => exact ⟨0, rfl, Nat.zero_le _, I7, Lib.hid (Turn.refl _ _)⟩
          case round =>
            obtain ⟨k3, rfl, hk3, HI8, HT8⟩ := hrel
            obtain ⟨wy, rfl⟩ : ∃ wy, wy = wr := ⟨_, rfl⟩
            by_cases hlt3 : k3 < m7
            · obtain ⟨p, x, hx, hat, y, _, _⟩ := (srcs_turn H7.out HT8.out (fun _ h => h)).at (c := c7) HM7.out hlt3 (Below.refl wy.heap.size wy)
              have sx := HSL2.out x (List.mem_of_getElem? hx)
              have HP := Lib.hid (prag_snoc os k3 x hx)
              obtain ⟨Xs, hXs⟩ : ∃ Xs : ByteArray, Xs = ⟨x.toArray⟩ := ⟨_, rfl⟩
              have hbx : bl Xs = x := by rw [hXs, bl_mk]
              have CL := Lib.hid (fun W : World => lower_any Xs W (by rw [← bl_length, hbx]; omega))
              unfold Text at CL
              rw [hbx] at CL
              rw [← hXs] at y
              obtain ⟨L, hL⟩ : ∃ L : ByteArray, L = ⟨(lowF x).toArray⟩ := ⟨_, rfl⟩
              have hll : L.toList = lowF x := by rw [Lib.toList_data, hL]
              rw [← hL] at CL
              clear hXs hbx sx hx hL
              cases hb : (lowF x == noCacheN) with
              | false =>
                have e1 : (L.toList == [110, 111, 45, 99, 97, 99, 104, 101]) = false := by rw [hll]; exact hb
                rw [hb, Bool.or_false] at HP
                clear hll hb
                go_wp2_with fail
                refine (CL.out _).mono ?_
                rintro e w9 ⟨rfl, b9⟩
                have HI9 := Lib.hid (HI8.out.kept (Turn.of_below (S := fun _ => False) b9) (fun h => h))
                have HT9 := Lib.hid (HT8.out.trans (Turn.of_below (S := fun _ => False) b9) (fun _ _ h => h.elim))
                clear b9
                go_wp2_with fail
                go_roundw
                case rel => exact ⟨k3 + 1, by go_num, hlt3, by rw [HP.out]; exact HI9, HT9⟩
                case measure => simp [intOf]; omega
              | true =>
                have e1 : (L.toList == [110, 111, 45, 99, 97, 99, 104, 101]) = true := by rw [hll]; exact hb
                rw [hb, Bool.or_true] at HP
                clear hll hb
                go_wp2_with fail
                refine (CL.out _).mono ?_
                rintro e w9 ⟨rfl, b9⟩
                have HI9 := Lib.hid (HI8.out.kept (Turn.of_below (S := fun _ => False) b9) (fun h => h))
                have HT9 := Lib.hid (HT8.out.trans (Turn.of_below (S := fun _ => False) b9) (fun _ _ h => h.elim))
                obtain ⟨u, hu⟩ : ∃ u, w9.cell? ⟨g3, 1, none⟩ = some u := ⟨_, HI9.out.cell 1⟩
                have yf := HI9.out.free 1
                clear b9
                go_wp2_with fail
                go_roundw
                case rel => exact ⟨k3 + 1, by go_num, hlt3, Lib.hid (by rw [HP.out, Bool.or_true]; exact HI9.out.set 1 (.bool true)), Lib.hid (HT9.out.setCell (fun _ => rfl) _)⟩
                case measure => simp [intOf]; omega
            · have HI9 := HI8.out
              rw [List.take_of_length_le (by rw [HM7.out]; omega), ← HOLD.out, ← HC.out] at HI9
              have HIE9 := Lib.hid HI9
              have IZ9 := Lib.hid (IZ7.out.kept HT8.out (fun e => by have := HG3.out; omega))
              have B9 := Lib.hid (show Below w.heap.size w wy from ⟨HT8.out.os.trans B7.out.os, HT8.out.tape.trans B7.out.tape, HT8.out.output.trans B7.out.output, Nat.le_trans B7.out.size HT8.out.size, fun k hk => (HT8.out.block k (by have := B7.out.size; omega) (by have := HG3.out; omega)).trans (B7.out.block k hk)⟩)
              clear HI9 HI8
              obtain ⟨rr, hrr⟩ : ∃ rr, requestF ls = rr := ⟨_, rfl⟩
              rw [hrr] at HIE9
              have HRR := Lib.hid hrr
              clear hrr
              have y0 : wy.cell? ⟨g3, 0, none⟩ = some (.bool rr.ns) := HIE9.out.cell 0
              have z0 : wy.cell? ⟨w.heap.size, 0, none⟩ = some (.bool false) := IZ9.out.cell 0
              have f0 : wy.frozen? ⟨w.heap.size, 0, none⟩ = false := IZ9.out.free 0
              have y1 : wy.cell? ⟨g3, 1, none⟩ = some (.bool rr.nc) := HIE9.out.cell 1
              have z1 : wy.cell? ⟨w.heap.size, 1, none⟩ = some (.bool false) := IZ9.out.cell 1
              have f1 : wy.frozen? ⟨w.heap.size, 1, none⟩ = false := IZ9.out.free 1
              have y2 : wy.cell? ⟨g3, 2, none⟩ = some (.bool rr.pv) := HIE9.out.cell 2
              have z2 : wy.cell? ⟨w.heap.size, 2, none⟩ = some (.bool false) := IZ9.out.cell 2
              have f2 : wy.frozen? ⟨w.heap.size, 2, none⟩ = false := IZ9.out.free 2
              have y3 : wy.cell? ⟨g3, 3, none⟩ = some (.bool rr.pb) := HIE9.out.cell 3
              have z3 : wy.cell? ⟨w.heap.size, 3, none⟩ = some (.bool false) := IZ9.out.cell 3
              have f3 : wy.frozen? ⟨w.heap.size, 3, none⟩ = false := IZ9.out.free 3
              have y4 : wy.cell? ⟨g3, 4, none⟩ = some (.bool rr.mu) := HIE9.out.cell 4
              have z4 : wy.cell? ⟨w.heap.size, 4, none⟩ = some (.bool false) := IZ9.out.cell 4
              have f4 : wy.frozen? ⟨w.heap.size, 4, none⟩ = false := IZ9.out.free 4
              have y5 : wy.cell? ⟨g3, 5, none⟩ = some (.bool rr.on) := HIE9.out.cell 5
              have z5 : wy.cell? ⟨w.heap.size, 5, none⟩ = some (.bool false) := IZ9.out.cell 5
              have f5 : wy.frozen? ⟨w.heap.size, 5, none⟩ = false := IZ9.out.free 5
              have y6 : wy.cell? ⟨g3, 6, none⟩ = some (.int .i64 rr.ma) := HIE9.out.cell 6
              have z6 : wy.cell? ⟨w.heap.size, 6, none⟩ = some (.int .i64 0) := IZ9.out.cell 6
              have f6 : wy.frozen? ⟨w.heap.size, 6, none⟩ = false := IZ9.out.free 6
              have y7 : wy.cell? ⟨g3, 7, none⟩ = some (.int .i64 rr.sh) := HIE9.out.cell 7
              have z7 : wy.cell? ⟨w.heap.size, 7, none⟩ = some (.int .i64 0) := IZ9.out.cell 7
              have f7 : wy.frozen? ⟨w.heap.size, 7, none⟩ = false := IZ9.out.free 7
              have y8 : wy.cell? ⟨g3, 8, none⟩ = some (.int .i64 rr.mf) := HIE9.out.cell 8
              have z8 : wy.cell? ⟨w.heap.size, 8, none⟩ = some (.int .i64 0) := IZ9.out.cell 8
              have f8 : wy.frozen? ⟨w.heap.size, 8, none⟩ = false := IZ9.out.free 8
              have y9 : wy.cell? ⟨g3, 9, none⟩ = some (.int .i64 rr.ms) := HIE9.out.cell 9
              have z9 : wy.cell? ⟨w.heap.size, 9, none⟩ = some (.int .i64 0) := IZ9.out.cell 9
              have f9 : wy.frozen? ⟨w.heap.size, 9, none⟩ = false := IZ9.out.free 9
              go_wp2_with fail
              refine bodyPost_ret (results_cell_row rfl _ _ w.heap.size _ _ _ _ rfl (putC_is IZ9.out rr) ctlStruct rfl ctlSize) rfl ?_
              exact ⟨by rw [HRR.out]; rfl, putC_below B9.out (Nat.le_refl _) rr⟩
end Go.Proofs.YtkccmjeabkfmdaaDoor.Con
