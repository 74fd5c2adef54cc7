/-
  What the reference's Drop and With answer.
  Conditions: those that each theorem names.
-/
import Derived.Test.YtinibacmhmmcdaaDoorHD
namespace Go.Proofs.YtinibacmhmmcdaaDoor
open Go.RowKit

/-- Is a field of one of these names? The fields without them. -/
def goneF (names : List (List UInt8)) (f : Fld) : Bool := names.any fun nm => lowF f.1 == lowF nm
def dropF (ls : List Fld) (names : List (List UInt8)) : List Fld := ls.filter fun f => !goneF names f
def withF (ls : List Fld) (nm v : List UInt8) : List Fld := dropF ls [nm] ++ [(nm, v)]
/-- Fields are told, in a slice of the call's own; nothing that was there has turned. -/
def GotF (ls : List Fld) (w : World) (e : Ending) (w' : World) : Prop := ∃ v o, e = .returned v ∧ OwnF w' v o ls ∧ (∀ b, o = some b → w.heap.size ≤ b) ∧ Below w.heap.size w w'
def SlimS (ls : List (List UInt8)) : Prop := ∀ x ∈ ls, x.length ≤ 140737488351232
theorem dropF_snoc (ls : List Fld) (f : Fld) (names : List (List UInt8)) : dropF (ls ++ [f]) names = dropF ls names ++ (if goneF names f = true then [] else [f]) := by
  unfold dropF
  rw [List.filter_append]
  congr 1
  cases h : goneF names f <;> simp [h]
theorem dropF_length (ls : List Fld) (names : List (List UInt8)) : (dropF ls names).length ≤ ls.length := List.length_filter_le _ _
theorem gone_snoc (names : List (List UInt8)) (nm : List UInt8) (f : Fld) : goneF (names ++ [nm]) f = (goneF names f || (lowF f.1 == lowF nm)) := by simp [goneF]
/-- What the k-th element of a list of texts reads, in any later world. -/
theorem SrcS.at {P : Nat → Prop} {w wr : World} {A : Option Addr} {ls : List (List UInt8)} {n c k : Nat} (h : SrcS w P A ls) (hn : ls.length = n) (hlt : k < n) (hB : Below w.heap.size w wr) :
    ∃ (p : Addr) (x : List UInt8), ls[k]? = some x ∧ (∀ Wx, (Instr.indexAt 25 (.slice A n c) (.int .i64 (k : Int))).run Tryd.prog Wx = .ok (.pointer (some p)) Wx) ∧
      wr.cell? p = some (.string ⟨x.toArray⟩) ∧ P p.block ∧ p.block < w.heap.size := by
  obtain ⟨ad, hA, hP, hadb, hc⟩ := h (by omega)
  obtain ⟨x, hx⟩ : ∃ x, ls[k]? = some x := ⟨ls[k]'(by omega), List.getElem?_eq_getElem _⟩
  have c1 := hc k x hx
  have hblk : (ad.add k).block = ad.block := by unfold Addr.add; split <;> rfl
  refine ⟨ad.add k, x, hx, fun Wx => ?_, (hB.cell (Lib.lt_of_cell c1)).trans c1, by rw [hblk]; exact hP, by rw [hblk]; exact hadb⟩
  rw [hA]
  exact run_at 25 9 Tryd.underlying25 strSize ad n c k hlt Wx
theorem SrcS.below {w w' : World} {P : Nat → Prop} {A : Option Addr} {ls : List (List UInt8)} (h : SrcS w P A ls) (hb : Below w.heap.size w w') : SrcS w' P A ls := fun h0 => by
  obtain ⟨ad, h1, h2, h3, h4⟩ := h h0
  exact ⟨ad, h1, h2, Nat.lt_of_lt_of_le h3 hb.size, fun i f hf => (hb.cell (Lib.lt_of_cell (h4 i f hf))).trans (h4 i f hf)⟩

set_option maxHeartbeats 8000000 in
set_option maxRecDepth 100000 in
theorem rdrop_any {P P' : Nat → Prop} (w : World) (A A' : Option Addr) (ls : List Fld) (names : List (List UInt8)) (n c q c' : Nat) (hn : ls.length = n) (hq : names.length = q) (hmax : n * 32 ≤ 140737488355328) (hqm : q ≤ 140737488351232)
    (h : SrcF w P A ls) (h' : SrcS w P' A' names) (hs : Slim ls) (hs' : SlimS names) :
    Calls Tryd.prog 36 #[.slice A n c, .slice A' q c'] w (GotF (dropF ls names) w) := by
  have HN := Lib.hid hn
  have HQ := Lib.hid hq
  have H := Lib.hid h
  have H' := Lib.hid h'
  have HS := Lib.hid hs
  have HS' := Lib.hid hs'
  clear hn hq h h' hs hs'
  go_enter Tryd.func36, Tryd.ntmps36
  go_wp2_with fail
  go_loopw [5, 6] (fun v vi wr => ∃ (k : Nat) (o : Option Nat) (r : List Fld), vi = .int .i64 (k : Int) ∧ k ≤ n ∧ Hid (dropF (ls.take k) names = r) ∧ Hid (OwnF wr v o r) ∧ Hid (∀ b, o = some b → w.heap.size ≤ b) ∧ Hid (Below w.heap.size w wr)) (fun _ vi _ => n - (intOf vi).toNat)
  case atStart => exact ⟨0, none, [], rfl, Nat.zero_le _, Lib.hid rfl, Lib.hid (OwnF.nil _), Lib.hid (fun _ h => by cases h), Lib.hid (Below.refl _ _)⟩
  case round =>
    obtain ⟨k, o, r, rfl, hk, HR, HO, HOB, HB⟩ := hrel
    obtain ⟨wo, rfl⟩ : ∃ wo, wo = wr := ⟨_, rfl⟩
    by_cases hlt : k < n
    · obtain ⟨f, hf⟩ : ∃ f, ls[k]? = some f := ⟨ls[k]'(by rw [HN.out]; exact hlt), List.getElem?_eq_getElem _⟩
      obtain ⟨s1, s2⟩ := HS.out f (List.mem_of_getElem? hf)
      have HF := Lib.hid hf
      have HTK := Lib.hid (show dropF (ls.take (k + 1)) names = r ++ (if goneF names f = true then [] else [f]) by rw [take_snoc ls k f hf, dropF_snoc, HR.out])
      have HRL := Lib.hid (show r.length ≤ k by
        have h1 := dropF_length (ls.take k) names
        rw [HR.out, List.length_take] at h1
        omega)
      clear hf
      go_wp2_with fail
      go_loopw [7, 8] (fun vb vj wr => ∃ (j : Nat) (b : Bool), vb = .bool b ∧ vj = .int .i64 (j : Int) ∧ j ≤ q ∧ Hid (goneF (names.take j) f = b) ∧ Hid (Below wo.heap.size wo wr)) (fun _ vj _ => q - (intOf vj).toNat)
      case atStart => exact ⟨0, false, rfl, rfl, Nat.zero_le _, Lib.hid rfl, Lib.hid (Below.refl _ _)⟩
      case round =>
        obtain ⟨j, b, rfl, rfl, hj, HG, HI⟩ := hrel
        have HBI := Lib.hid (HB.out.trans (HI.out.mono HB.out.size))
        by_cases hjq : j < q
        · obtain ⟨p', x, hx, hat', y2, _, _⟩ := H'.out.at (c := c') HQ.out hjq HBI.out
          have HGS := Lib.hid (show goneF (names.take (j + 1)) f = (b || (lowF f.1 == lowF x)) by rw [take_snoc names j x hx, gone_snoc, HG.out])
          have sx := HS'.out x (List.mem_of_getElem? hx)
          clear hx
          cases b
          · obtain ⟨p, f', hf', hat, y0, _, _, _⟩ := H.out.at (c := c) HN.out hlt HBI.out
            obtain rfl : f' = f := Option.some.inj (hf'.symm.trans HF.out)
            obtain ⟨Nm, hNm⟩ : ∃ Nm : ByteArray, Nm = ⟨f'.1.toArray⟩ := ⟨_, rfl⟩
            obtain ⟨Xs, hXs⟩ : ∃ Xs : ByteArray, Xs = ⟨x.toArray⟩ := ⟨_, rfl⟩
            have b1 : f'.1 = bl Nm := by rw [hNm, bl_mk]
            have b2 : x = bl Xs := by rw [hXs, bl_mk]
            rw [← hNm] at y0
            rw [← hXs] at y2
            rw [b1, b2] at HGS
            have CS := Lib.hid (fun X : World => same_any Nm Xs X (by rw [← bl_length, ← b1]; exact s1) (by rw [← bl_length, ← b2]; exact sx))
            clear hNm hXs hf'
            generalize (lowF (bl Nm) == lowF (bl Xs)) = b at *
            have BD : Hid (Below wo.heap.size wo wr.drew) := Lib.hid (below_drewN HI.out 1)
            go_wp2_with fail
            go_region_held3 (fun w' => w'.cell? p = some (.string Nm) ∧ w'.cell? p' = some (.string Xs)) (first | exact ⟨z0, z2⟩ | go_keep)
              (first
                | (go_at_call 34; (with_reducible refine (CS.out wr.drew).mono ?_); rintro e w5 ⟨rfl, b5⟩; have z0 : w5.cell? p = some (.string Nm) := (b5.cell (Lib.lt_of_cell (w := wr.drew) y0)).trans y0; have z2 : w5.cell? p' = some (.string Xs) := (b5.cell (Lib.lt_of_cell (w := wr.drew) y2)).trans y2; have B5 := Lib.hid (BD.out.trans (b5.mono BD.out.size)); clear b5))
            go_wp2_with fail
            go_roundw
            case rel => exact ⟨j + 1, b, rfl, by go_num, hjq, Lib.hid (by rw [HGS.out]; simp), B5⟩
            case measure => simp [intOf]; omega
          · clear y2 hat'
            go_wp2_with fail
            go_quiet (fail)
            go_wp2_with fail
            go_roundw
            case rel => exact ⟨j + 1, true, rfl, by go_num, hjq, Lib.hid (by rw [HGS.out]; simp), Lib.hid (below_drewN HI.out _)⟩
            case measure => simp [intOf]; omega
        · have HGB := Lib.hid (show goneF names f = b by rw [← HG.out, List.take_of_length_le (by rw [HQ.out]; omega)])
          have O5 := Lib.hid (HO.out.kept (Turn.of_below (S := fun _ => False) HI.out) (fun _ _ h => h))
          cases b
          · obtain ⟨p, f', hf', hat, y0, y1, _, _⟩ := H.out.at (c := c) HN.out hlt HBI.out
            obtain rfl : f' = f := Option.some.inj (hf'.symm.trans HF.out)
            obtain ⟨v', w', o', hrun, own', t', ho'⟩ := run_push_fld wr _ o r f' O5.out (by have := HRL.out; omega)
            have HR5 := Lib.hid hrun
            have OO := Lib.hid own'
            have TT := Lib.hid (own_turn HBI.out HOB.out t' ho')
            have HNX := Lib.hid (show dropF (ls.take (k + 1)) names = r ++ [f'] by rw [HTK.out, HGB.out]; simp)
            clear hrun own' t' ho' hf' HTK HGB HG
            obtain ⟨f1, f2⟩ := f'
            simp only at y0 y1 HR5
            go_wp2_with (at_builtin; refine append_by rfl (.tmp 36) (.tmp 41) 22 rfl _ _ v' w' rfl rfl HR5.out ?_)
            go_roundw
            case rel => exact ⟨k + 1, o', r ++ [(f1, f2)], by go_num, hlt, HNX, OO, Lib.hid TT.out.2, Lib.hid TT.out.1⟩
            case measure => simp [intOf]; omega
          · have HNX := Lib.hid (show dropF (ls.take (k + 1)) names = r by rw [HTK.out, HGB.out]; simp)
            clear HTK HGB HG
            go_wp2_with fail
            go_roundw
            case rel => exact ⟨k + 1, o, r, by go_num, hlt, HNX, O5, HOB, HBI⟩
            case measure => simp [intOf]; omega
    · have HQ2 := Lib.hid (show dropF ls names = r by rw [← HR.out, List.take_of_length_le (by rw [HN.out]; omega)])
      go_wp2_with fail
      go_ret
      exact ⟨_, o, rfl, by rw [HQ2.out]; exact HO.out, HOB.out, HB.out⟩
end Go.Proofs.YtinibacmhmmcdaaDoor
