/-
  What the reference's Get answers.
  Conditions: those that each theorem names.
-/
import Derived.Test.YtopanahgeeolbaaGreatDoorHC
namespace Go.Proofs.YtopanahgeeolbaaGreatDoor
open Go.RowKit

/-- The values of a name's fields. -/
def sameN (nm : List UInt8) (f : Fld) : Bool := lowF f.1 == lowF nm
def getF (ls : List Fld) (nm : List UInt8) : List (List UInt8) := (ls.filter (sameN nm)).map (·.2)
/-- Texts are told, in a slice of the call's own; nothing that was there has turned. -/
def GotS (ls : List (List UInt8)) (w : World) (e : Ending) (w' : World) : Prop := ∃ v o, e = .returned v ∧ OwnS w' v o ls ∧ (∀ b, o = some b → w.heap.size ≤ b) ∧ Below w.heap.size w w'
theorem getF_snoc (ls : List Fld) (f : Fld) (nm : List UInt8) : getF (ls ++ [f]) nm = getF ls nm ++ (if sameN nm f = true then [f.2] else []) := by
  unfold getF
  rw [List.filter_append, List.map_append]
  congr 1
  cases h : sameN nm f <;> simp [h]
theorem getF_length (ls : List Fld) (nm : List UInt8) : (getF ls nm).length ≤ ls.length := by
  unfold getF
  rw [List.length_map]
  exact List.length_filter_le _ _
theorem own_turn {W wr w' : World} {o o' : Option Nat} (hB : Below W.heap.size W wr) (ho : ∀ b, o = some b → W.heap.size ≤ b) (ht : Turn (fun b => o = some b) wr w') (ho' : ∀ b, o' = some b → o = some b ∨ wr.heap.size ≤ b) :
    Below W.heap.size W w' ∧ ∀ b, o' = some b → W.heap.size ≤ b := by
  have := hB.size
  refine ⟨hB.trans ⟨ht.os, ht.tape, ht.output, ht.size, fun b hb => ht.block b (by omega) (fun h => by have := ho b h; omega)⟩, fun b hb => ?_⟩
  rcases ho' b hb with h | h
  · exact ho b h
  · omega

set_option maxHeartbeats 4000000 in
set_option maxRecDepth 100000 in
theorem rget_any {P : Nat → Prop} (w : World) (A : Option Addr) (ls : List Fld) (n c : Nat) (hn : ls.length = n) (hmax : n * 32 ≤ 140737488351232) (h : SrcF w P A ls) (hs : Slim ls) (nm : ByteArray) (hnm : nm.size ≤ 140737488351232) :
    Calls Tryz.prog 39 #[.slice A n c, .string nm] w (GotS (getF ls (bl nm)) w) := by
  have HN := Lib.hid hn
  have H := Lib.hid h
  have HS := Lib.hid hs
  have HM := Lib.hid hnm
  clear hn h hs hnm
  go_enter Tryz.func39, Tryz.ntmps39
  go_wp2_with fail
  go_loopw [5, 6] (fun v vi wr => ∃ (k : Nat) (o : Option Nat) (r : List (List UInt8)), vi = .int .i64 (k : Int) ∧ k ≤ n ∧ Hid (getF (ls.take k) (bl nm) = r) ∧ Hid (OwnS wr v o r) ∧ Hid (∀ b, o = some b → w.heap.size ≤ b) ∧ Hid (Below w.heap.size w wr)) (fun _ vi _ => n - (intOf vi).toNat)
  case atStart => exact ⟨0, none, [], rfl, Nat.zero_le _, Lib.hid rfl, Lib.hid (OwnS.nil _), Lib.hid (fun _ h => by cases h), Lib.hid (Below.refl _ _)⟩
  case round =>
    obtain ⟨k, o, r, rfl, hk, HR, HO, HOB, HB⟩ := hrel
    by_cases hlt : k < n
    · obtain ⟨p, f, hf, hat, y0, y1, _, hpb⟩ := H.out.at (c := c) HN.out hlt HB.out
      obtain ⟨s1, s2⟩ := HS.out f (List.mem_of_getElem? hf)
      have HTK := Lib.hid (show getF (ls.take (k + 1)) (bl nm) = r ++ (if sameN (bl nm) f = true then [f.2] else []) by rw [take_snoc ls k f hf, getF_snoc, HR.out])
      have hrl : r.length ≤ n := by
        have h1 := getF_length (ls.take k) (bl nm)
        rw [HR.out, List.length_take, HN.out] at h1
        omega
      have HRL := Lib.hid hrl
      obtain ⟨Nm, hNm⟩ : ∃ Nm : ByteArray, Nm = ⟨f.1.toArray⟩ := ⟨_, rfl⟩
      have b1 : f.1 = bl Nm := by rw [hNm, bl_mk]
      rw [← hNm] at y0
      have HSN := Lib.hid (show sameN (bl nm) f = (lowF (bl Nm) == lowF (bl nm)) by unfold sameN; rw [b1])
      rw [b1, bl_length] at s1
      have CS := Lib.hid (fun X : World => same_any Nm nm X s1 HM.out)
      rw [← HSN.out] at CS
      clear hNm b1 hf HSN hrl
      generalize sameN (bl nm) f = b at *
      go_wp2_with fail
      refine (CS.out _).mono ?_
      rintro e w5 ⟨rfl, b5⟩
      have B5 := Lib.hid (HB.out.trans (b5.mono HB.out.size))
      have y5 : w5.cell? ⟨p.block, p.off + 1, none⟩ = some (.string ⟨f.2.toArray⟩) := (b5.cell (Lib.lt_of_cell y1)).trans y1
      have O5 := Lib.hid (HO.out.kept (Turn.of_below (S := fun _ => False) b5) (fun _ _ h => h))
      clear b5 y0 y1
      cases b
      · go_wp2_with fail
        go_roundw
        case rel => exact ⟨k + 1, o, r, by go_num, hlt, Lib.hid (by rw [HTK.out]; simp), O5, HOB, B5⟩
        case measure => simp [intOf]; omega
      · obtain ⟨v', w', o', hrun, own', t', ho'⟩ := run_push_str w5 _ o r f.2 O5.out (by have := HRL.out; omega)
        have HR5 := Lib.hid hrun
        have OO := Lib.hid own'
        have TT := Lib.hid (own_turn B5.out HOB.out t' ho')
        clear hrun own' t' ho'
        generalize f.2 = x at *
        go_wp2_with (at_builtin; refine append_by rfl (.tmp 20) (.tmp 26) 49 rfl _ _ v' w' rfl rfl HR5.out ?_)
        go_roundw
        case rel => exact ⟨k + 1, o', r ++ [x], by go_num, hlt, Lib.hid (by rw [HTK.out]; simp), OO, Lib.hid TT.out.2, Lib.hid TT.out.1⟩
        case measure => simp [intOf]; omega
    · have HQ := Lib.hid (show getF ls (bl nm) = r by rw [← HR.out, List.take_of_length_le (by rw [HN.out]; omega)])
      go_wp2_with fail
      go_ret
      exact ⟨_, o, rfl, by rw [HQ.out]; exact HO.out, HOB.out, HB.out⟩
end Go.Proofs.YtopanahgeeolbaaGreatDoor
