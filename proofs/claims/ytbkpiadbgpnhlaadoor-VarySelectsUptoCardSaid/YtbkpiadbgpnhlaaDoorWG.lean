/-
  Package vary's Names.
  Conditions: the list holds at most 1000000000 bytes.
-/
import Derived.Test.YtbkpiadbgpnhlaaDoorWC
import Derived.Test.YtbkpiadbgpnhlaaDoorVE
namespace Go.Proofs.YtbkpiadbgpnhlaaDoor.Var
open Go.RowKit Go.Maps Hop

/-- Block b is a map whose keys are these texts. -/
def SetAt (w : World) (b n : Nat) (xs : List (List UInt8)) : Prop := ∃ D : DataW Unit, w.ownsMap Tryd.prog 9 unitElem b n D ∧ ∀ key, Maps.has D (.string key) = xs.any fun x => x == key
theorem SetAt.kept {S : Nat → Prop} {w w' : World} {b n : Nat} {xs : List (List UInt8)} (h : SetAt w b n xs) (ht : Turn S w w') (hS : ¬ S b) : SetAt w' b n xs := by
  obtain ⟨D, ⟨es, clock, h1, h2⟩, h3⟩ := h
  have hlt : b < w.heap.size := (Array.getElem?_eq_some_iff.1 h1).1
  exact ⟨D, ⟨es, clock, (ht.block b hlt hS).trans h1, h2⟩, h3⟩
theorem SetAt.below {w w' : World} {b n : Nat} {xs : List (List UInt8)} (h : SetAt w b n xs) (hb : Below w.heap.size w w') : SetAt w' b n xs := h.kept (Turn.of_below (S := fun _ => False) hb) (fun h => h)
theorem SetAt.lt {w : World} {b n : Nat} {xs : List (List UInt8)} (h : SetAt w b n xs) : b < w.heap.size := by
  obtain ⟨D, h, _⟩ := h
  exact h.lt
theorem SetAt.made (w : World) : SetAt (w.alloc (.map #[] 0)) w.heap.size 0 [] := ⟨.map [], World.ownsMap_made w Tryd.prog 9 _, fun _ => rfl⟩
theorem unit_zero (w : World) : (zeroValue 40).run Tryd.prog w = .ok (.agg #[]) w := by kernel_rfl
theorem SetAt.look {w : World} {b n : Nat} {xs : List (List UInt8)} (h : SetAt w b n xs) (L : ByteArray) (x : List UInt8) (hL : L.data.toList = x) (hs : L.size ≤ maxLen) :
    (Instr.lookup 39 (.map (some b)) (.string L) true).run Tryd.prog w = .ok (.tuple #[.agg #[], .bool (xs.any fun y => y == x)]) w := by
  obtain ⟨D, h1, h2⟩ := h
  obtain ⟨v, ps, hr, hv⟩ := h1.look_ok keyLaw Tryd.underlying39 (unit_zero _) (unitElem_mk (H := Unit)) (WideMaps.keyOf_string_mk Tryd.underlying9 (s := L) hs)
  obtain ⟨rfl, _⟩ := unitElem_inv hv
  rw [hL, h2 x] at hr
  exact hr
theorem SetAt.put {w : World} {b n : Nat} {xs : List (List UInt8)} (h : SetAt w b n xs) (hn : n < maxLen) (L : ByteArray) (x : List UInt8) (hL : L.data.toList = x) (hs : L.size ≤ maxLen) :
    ∃ w', (Instr.mapUpdate 39 (.map (some b)) (.string L) (.agg #[])).run Tryd.prog w = .ok () w' ∧ SetAt w' b (n + 1) (xs ++ [x]) ∧ Turn (fun k => k = b) w w' := by
  obtain ⟨D, h1, h2⟩ := h
  obtain ⟨w', hrun, o3, g3⟩ := h1.update keyLaw Tryd.underlying39 hn (WideMaps.keyOf_string_mk Tryd.underlying9 (s := L) hs) (unitElem_mk (H := Unit))
  rw [hL] at o3
  refine ⟨w', hrun, ⟨_, o3, fun key => ?_⟩, Turn.of_grown g3 (fun k hk => by injection hk with hk; exact hk.symm)⟩
  rw [List.any_append]
  by_cases hk : key = x
  · subst hk
    rw [Maps.has_put_same h1.isMap (by simp [WideAt.IsKeyLit])]
    simp
  · rw [Maps.has_put_other (by simpa using hk), h2 key]
    have : (x == key) = false := by simpa using fun e => hk e.symm
    simp [this]
theorem srcs_kept {S P : Nat → Prop} {w w' : World} {A : Option Addr} {ls : List (List UInt8)} (h : SrcS w P A ls) (ht : Turn S w w') (hS : ∀ k, P k → ¬ S k) : SrcS w' P A ls := fun h0 => by
  obtain ⟨ad, h1, h2, h3, h4⟩ := h h0
  refine ⟨ad, h1, h2, Nat.lt_of_lt_of_le h3 ht.size, fun i f hf => ?_⟩
  have hb : (ad.add i).block = ad.block := by unfold Addr.add; split <;> rfl
  exact (ht.cell (p := ad.add i) (by rw [hb]; exact h3) (by rw [hb]; exact hS _ h2)).trans (h4 i f hf)
def lowsTo (es : List (List UInt8)) (k : Nat) : List (List UInt8) := (es.take k).map lowF
theorem lowsTo_snoc (es : List (List UInt8)) (k : Nat) (x : List UInt8) (h : es[k]? = some x) : lowsTo es (k + 1) = lowsTo es k ++ [lowF x] := by
  unfold lowsTo
  rw [take_snoc es k x h, List.map_append]
  rfl

def Named (ls : List Fld) (w : World) (e : Ending) (w' : World) : Prop := ∃ v o, e = .returned (.tuple #[v, .bool (starF ls)]) ∧ OwnS w' v o (namesF ls) ∧ (∀ b, o = some b → w.heap.size ≤ b) ∧ Below w.heap.size w w'
set_option maxHeartbeats 8000000 in
set_option maxRecDepth 100000 in
theorem names_any {P : Nat → Prop} (w : World) (A : Option Addr) (ls : List Fld) (n c : Nat) (hn : ls.length = n) (hb : bulkF ls ≤ 1000000000) (h : SrcF w P A ls) :
    Calls Tryd.prog 9 #[.slice A n c] w (Named ls w) := by
  have m0 := SetAt.made w
  have b0 : Below w.heap.size w (w.alloc (.map #[] 0)) := (Below.refl _ _).alloc (Nat.le_refl _) _
  obtain ⟨w0, hw0⟩ : ∃ w0, w.alloc (.map #[] 0) = w0 := ⟨_, rfl⟩
  have hmm : (Instr.makeMap 39 none).run Tryd.prog w = .ok (.map (some w.heap.size)) w0 := by rw [← hw0]; rfl
  rw [hw0] at m0 b0
  clear hw0
  obtain ⟨bm, hbm⟩ : ∃ b, w.heap.size = b := ⟨_, rfl⟩
  rw [hbm] at m0 hmm
  have CE := elem_any w0 A ls n c hn hb (h.below b0) ⟨#[118, 97, 114, 121]⟩
  rw [show bl ⟨#[118, 97, 114, 121]⟩ = varyN from rfl] at CE
  have HEL := Lib.hid (show (elemF ls varyN).length ≤ 1000000000 by have := elem_bulk varyN ls; omega)
  have HSL := Lib.hid (show ∀ x ∈ elemF ls varyN, x.length ≤ 1000000000 from fun x hx => Nat.le_trans (elem_part hx) hb)
  have HQN := Lib.hid (show namesF ls = dedF ((elemF ls varyN).map lowF) from rfl)
  have HQS := Lib.hid (show starF ls = ((elemF ls varyN).map lowF).any (fun x => x == starN) from rfl)
  have HBM := Lib.hid hbm
  have M0 := Lib.hid m0
  have B0 := Lib.hid b0
  clear hn hb h m0 b0 hbm
  generalize elemF ls varyN = es at *
  go_enter Tryd.func9, Tryd.ntmps9
  go_wp2_with fail
  refine CE.mono ?_
  rintro e w2 ⟨v2, o2, rfl, own2, ob2, b2⟩
  have hlt := M0.out.lt
  obtain ⟨A2, c2, hv2, src2⟩ := own2.src (fun k => ¬ k = bm) (fun k hk e => by have := ob2 k hk; omega)
  subst hv2
  have H2 := Lib.hid src2
  have M2 : Hid (SetAt w2 bm 0 (lowsTo es 0)) := Lib.hid (M0.out.below b2)
  have B2 := Lib.hid (B0.out.trans (b2.mono B0.out.size))
  have HL2 := Lib.hid (show bm < w2.heap.size from M2.out.lt)
  obtain ⟨m, hm⟩ : ∃ m, es.length = m := ⟨_, rfl⟩
  have hmx : m ≤ 1000000000 := by have := HEL.out; omega
  rw [hm] at ⊢
  have HM := Lib.hid hm
  clear hm own2 ob2 src2 b2 CE hlt M0 B0 hmm
  go_wp2_with fail
  go_loopw [4, 17] (fun v vi wr => ∃ (k : Nat) (o : Option Nat) (r : List (List UInt8)), vi = .int .i64 (k : Int) ∧ k ≤ m ∧ Hid (SetAt wr bm k (lowsTo es k)) ∧ Hid (dedF (lowsTo es k) = r) ∧ Hid (OwnS wr v o r) ∧ Hid (∀ b, o = some b → w2.heap.size ≤ b) ∧ Hid (Turn (fun b => b = bm) w2 wr)) (fun _ vi _ => m - (intOf vi).toNat)
  case atStart => exact ⟨0, none, [], rfl, Nat.zero_le _, M2, Lib.hid rfl, Lib.hid (OwnS.nil _), Lib.hid (fun _ h => by cases h), Lib.hid (Turn.refl _ _)⟩
  case round =>
    obtain ⟨k, o, r, rfl, hk, HI, HR, HO, HOB, HT⟩ := hrel
    by_cases hlt : k < m
    · obtain ⟨p, x, hx, hat, y, _, _⟩ := (srcs_kept H2.out HT.out (fun _ h => h)).at (c := c2) HM.out hlt (Below.refl wr.heap.size wr)
      have sx := HSL.out x (List.mem_of_getElem? hx)
      obtain ⟨lx, hlx⟩ : ∃ l, lowF x = l := ⟨_, rfl⟩
      have HTK := Lib.hid (show lowsTo es (k + 1) = lowsTo es k ++ [lx] by rw [lowsTo_snoc es k x hx, hlx])
      have HDK := Lib.hid (show dedF (lowsTo es (k + 1)) = stepN r lx by rw [HTK.out, ded_snoc, HR.out])
      have HRL := Lib.hid (show r.length ≤ 1000000000 by
        have h1 := ded_len (lowsTo es k)
        rw [HR.out] at h1
        have h2 : (lowsTo es k).length ≤ k := by unfold lowsTo; rw [List.length_map, List.length_take]; omega
        omega)
      have HRM := Lib.hid (show ∀ z, z ∈ r ↔ z ∈ lowsTo es k ∧ z ≠ starN from fun z => by rw [← HR.out]; exact ded_mem _ _)
      obtain ⟨Xs, hXs⟩ : ∃ Xs : ByteArray, Xs = ⟨x.toArray⟩ := ⟨_, rfl⟩
      have hbx : bl Xs = x := by rw [hXs, bl_mk]
      have CL := Lib.hid (fun W : World => ty_lower Xs W)
      unfold Text at CL
      rw [hbx, hlx] at CL
      rw [← hXs] at y
      have hls : (⟨lx.toArray⟩ : ByteArray).size ≤ maxLen := by rw [← bl_length, bl_mk, ← hlx, lowF_length]; unfold maxLen; omega
      have HLS := Lib.hid hls
      clear hXs hbx sx hx hlx hls
      obtain ⟨hit, hhit⟩ : ∃ b, ((lowsTo es k).any fun z => z == lx) = b := ⟨_, rfl⟩
      have HHIT := Lib.hid hhit
      clear hhit
      have LK := Lib.hid (fun (W : World) (hW : Turn (fun b => b = bm ∧ False) wr W) => (HI.out.kept hW (fun h => h.2)).look ⟨lx.toArray⟩ lx (by simp) HLS.out)
      rw [HHIT.out] at LK
      go_upto_region 6 with fail
      clear y hat
      go_wp2_with fail
      refine (CL.out _).mono ?_
      rintro e w5 ⟨rfl, b5⟩
      have I5 := Lib.hid (HI.out.below b5)
      have O5 := Lib.hid (HO.out.kept (Turn.of_below (S := fun _ => False) b5) (fun _ _ h => h))
      have T5 := Lib.hid (HT.out.trans (Turn.of_below (S := fun _ => False) b5) (fun _ _ h => h.elim))
      have l5 := I5.out.look ⟨lx.toArray⟩ lx (by simp) HLS.out
      rw [HHIT.out] at l5
      have b6 : Below w5.heap.size w5 (w5.alloc (.cells #[] 40)) := (Below.refl _ _).alloc (Nat.le_refl _) _
      have I6 := Lib.hid (I5.out.below b6)
      have O6 := Lib.hid (O5.out.kept (Turn.of_below (S := fun _ => False) b6) (fun _ _ h => h))
      have T6 := Lib.hid (T5.out.trans (Turn.of_below (S := fun _ => False) b6) (fun _ _ h => h.elim))
      clear b5 b6 HI HO HT LK O5 T5
      obtain ⟨w7, hput, m7, t7⟩ := I6.out.put (by unfold maxLen; omega) ⟨lx.toArray⟩ lx (by simp) HLS.out
      have M7 : Hid (SetAt w7 bm (k + 1) (lowsTo es (k + 1))) := Lib.hid (by rw [HTK.out]; exact m7)
      have T7 := Lib.hid (T6.out.trans t7 (fun _ _ h => h))
      have O7 := Lib.hid (O6.out.kept t7 (fun b hb e => by have := HOB.out b hb; have := HL2.out; omega))
      have HPU := Lib.hid hput
      clear m7 t7 hput
      cases hit with
      | true =>
        have HD2 := Lib.hid (show dedF (lowsTo es (k + 1)) = r by
          rw [HDK.out]
          have h1 := (any_mem _ _).1 HHIT.out
          rcases step_or r lx with ⟨h, _⟩ | ⟨_, h2, h3⟩
          · exact h
          · exact absurd ((HRM.out lx).2 ⟨h1, h2⟩) h3)
        have hput := HPU.out
        go_wp2_with fail
        go_roundw
        case rel => exact ⟨k + 1, o, r, by go_num, hlt, M7, HD2, O7, HOB, T7⟩
        case measure => simp [intOf]; omega
      | false =>
        have hnm : lx ∉ lowsTo es k := fun h => by
          have := (any_mem _ _).2 h
          rw [HHIT.out] at this
          cases this
        by_cases hst : lx = starN
        · have hq : (lx == [42]) = true := by rw [hst]; rfl
          have HD2 := Lib.hid (show dedF (lowsTo es (k + 1)) = r by rw [HDK.out, hst]; exact step_star r)
          have hput := HPU.out
          clear hst hnm
          go_wp2_with fail
          go_roundw
          case rel => exact ⟨k + 1, o, r, by go_num, hlt, M7, HD2, O7, HOB, T7⟩
          case measure => simp [intOf]; omega
        · have hq : (lx == [42]) = false := by simpa [starN] using hst
          have HD2 := Lib.hid (show dedF (lowsTo es (k + 1)) = r ++ [lx] by rw [HDK.out]; exact step_yes hst (fun h => hnm ((HRM.out lx).1 h).1))
          clear hst hnm M7 T7 O7 HPU
          obtain ⟨v8, w8, o8, hrun, own8, t8, ho8⟩ := run_push_str (w5.alloc (.cells #[] 40)) _ o r lx O6.out (by have := HRL.out; omega)
          rw [show (w5.alloc (.cells #[] 40)).heap.size = w5.heap.size + 1 by simp] at hrun
          have I8 := I6.out.kept t8 (fun e => by have := HOB.out bm e; have := HL2.out; omega)
          obtain ⟨w9, hput, m9, t9⟩ := I8.put (by unfold maxLen; omega) ⟨lx.toArray⟩ lx (by simp) HLS.out
          have M9 : Hid (SetAt w9 bm (k + 1) (lowsTo es (k + 1))) := Lib.hid (by rw [HTK.out]; exact m9)
          have hs6 := T6.out.size
          have OB8 : Hid (∀ b, o8 = some b → w2.heap.size ≤ b) := Lib.hid (fun b hb => by
            rcases ho8 b hb with h | h
            · exact HOB.out b h
            · omega)
          have T8 : Turn (fun b => b = bm) w2 w8 := ⟨t8.os.trans T6.out.os, t8.tape.trans T6.out.tape, t8.output.trans T6.out.output, Nat.le_trans T6.out.size t8.size, fun b hb hn => (t8.block b (by omega) (fun e => by have := HOB.out b e; omega)).trans (T6.out.block b hb hn)⟩
          have T9 := Lib.hid (T8.trans t9 (fun _ _ h => h))
          have O9 := Lib.hid (own8.kept t9 (fun b hb e => by have := OB8.out b hb; have := HL2.out; omega))
          have HRU := Lib.hid hrun
          have HPU := Lib.hid hput
          clear hrun own8 t8 ho8 I8 m9 t9 hput T8 hs6 O6 T6 I6
          go_upto_region 10 with (at_builtin; refine append_by rfl (.tmp 35) (.tmp 37) 23 rfl _ _ v8 w8 rfl rfl HRU.out ?_)
          have hput := HPU.out
          go_wp2_with fail
          go_roundw
          case rel => exact ⟨k + 1, o8, r ++ [lx], by go_num, hlt, M9, HD2, O9, OB8, T9⟩
          case measure => simp [intOf]; omega
    · have HE := Lib.hid (show lowsTo es k = es.map lowF by unfold lowsTo; rw [List.take_of_length_le (by rw [HM.out]; omega)])
      have hlk := HI.out.look ⟨#[42]⟩ starN rfl (by decide)
      rw [HE.out, ← HQS.out] at hlk
      have HRE := Lib.hid (show namesF ls = r by rw [HQN.out, ← HE.out, HR.out])
      have hbw : Below w.heap.size w wr := ⟨HT.out.os.trans B2.out.os, HT.out.tape.trans B2.out.tape, HT.out.output.trans B2.out.output, Nat.le_trans B2.out.size HT.out.size, fun b hb => (HT.out.block b (Nat.lt_of_lt_of_le hb B2.out.size) (by have := HBM.out; omega)).trans (B2.out.block b hb)⟩
      have b9 : Below w.heap.size w (wr.alloc (.cells #[] 40)) := hbw.alloc hbw.size _
      have O9 := Lib.hid (HO.out.kept ((Turn.refl (fun _ => False) wr).alloc (.cells #[] 40)) (fun _ _ h => h))
      have B9 := Lib.hid b9
      obtain ⟨st, hst⟩ : ∃ st, starF ls = st := ⟨_, rfl⟩
      have HST := Lib.hid hst
      rw [hst] at hlk
      clear hst
      clear hbw b9
      go_wp2_with fail
      go_ret2
      refine ⟨_, o, by rw [HST.out]; rfl, by rw [HRE.out]; exact O9.out, fun b hb => Nat.le_trans B2.out.size (HOB.out b hb), B9.out⟩
end Go.Proofs.YtbkpiadbgpnhlaaDoor.Var
