/-
  What the reference's elements answers; append(v, s...), s a slice of texts.
  Conditions: those that each theorem names.
-/
import Derived.Test.YtcpohdejdiljnaaDoorFD
import Derived.Test.YtcpohdejdiljnaaDoorND
namespace Go.Proofs.YtcpohdejdiljnaaDoor
open Go.RowKit

set_option maxRecDepth 100000 in
/-- append(v, s...). -/
theorem run_append_strs {P : Nat → Prop} (w : World) (v : Value) (o : Option Nat) (ls news : List (List UInt8)) (h : OwnS w v o ls) (A : Option Addr) (n c : Nat) (hn : news.length = n) (hs : SrcS w P A news) (hlen : (ls.length + news.length) * 16 ≤ 140737488355328) :
    ∃ (v' : Value) (w' : World) (o' : Option Nat), (Builtin.append_ #[37, 37] 37 #[v, .slice A n c]).run Tryd.prog w = .ok v' w' ∧ OwnS w' v' o' (ls ++ news) ∧ Turn (fun k => o = some k) w w' ∧ (∀ k, o' = some k → o = some k ∨ w.heap.size ≤ k) := by
  subst hn
  obtain ⟨i, hin, hz, hsz, hby⟩ := strParts
  obtain ⟨hown, ho⟩ := h
  cases A with
  | none =>
    have hb : news = [] := by
      cases news with
      | nil => rfl
      | cons b l => obtain ⟨ad, hA, _⟩ := hs (by simp); cases hA
    subst hb
    refine ⟨v, w, o, ?_, by rw [List.append_nil]; exact ⟨hown, ho⟩, Turn.refl _ _, fun k hk => .inl hk⟩
    rcases hown.2 with ⟨rfl, _⟩ | ⟨g, cap, cur, rfl, _, _, hnc, _⟩
    · simp [Builtin.append_, run_underlying Tryd.underlying37, sizeOf, typeInfo, hin, Builtin.lenOf, Builtin.firstCells]
    · simp [Builtin.append_, run_underlying Tryd.underlying37, sizeOf, typeInfo, hin, Builtin.lenOf, Builtin.firstCells, hnc, storeCells]
  | some a =>
    have hcells : ∀ j u, (strs news)[j]? = some u → w.cell? (a.add j) = some u := by
      intro j u hu
      have hj : j < news.length := by
        have := (List.getElem?_eq_some_iff.1 hu).1
        rwa [strs_length] at this
      obtain ⟨ad, hA, _, _, hc⟩ := hs (by omega)
      injection hA with hA
      subst hA
      have h1 := hc j _ (List.getElem?_eq_getElem hj)
      rw [h1, ← hu]
      simp [strs, List.getElem?_eq_getElem hj]
    obtain ⟨v', w', hrun, h2, h3, _, h5⟩ := run_append_own_at (P := Tryd.prog) w 0 37 37 9 i (.string ⟨#[]⟩) 1 16 Tryd.underlying37 hin hz hsz hby rfl (by omega) v ls.length (strs ls) hown a news.length c (strs news)
      (by rw [strs_length, Nat.mul_one]) hcells (strs_one _) (by simp only [maxLen]; omega) (by omega) (Nat.zero_le _)
    refine ⟨v', w', v'.ownBlock, hrun, ⟨?_, rfl⟩, Turn.of_grown h3 (fun k hk => by rw [← ho]; exact hk), fun k hk => ?_⟩
    · rw [List.length_append, strs, List.map_append]
      exact h2
    · rcases h5 with h | h
      · left; rw [← ho, ← h, hk]
      · right
        rw [h] at hk
        injection hk with hk
        omega

/-- Texts and a number are told. -/
def GotE (xs : List (List UInt8)) (k : Nat) (w : World) (e : Ending) (w' : World) : Prop := ∃ v o, e = .returned (.tuple #[v, .int .i64 (k : Int)]) ∧ OwnS w' v o xs ∧ (∀ b, o = some b → w.heap.size ≤ b) ∧ Below w.heap.size w w'
def Thin (ls : List Fld) : Prop := ∀ f ∈ ls, f.1.length ≤ 1000000000 ∧ f.2.length ≤ 1000000000
theorem elsF_get_le (ls : List Fld) (nm : List UInt8) (k : Nat) : (elsF (getF (ls.take k) nm)).length ≤ (elsF (getF ls nm)).length := by
  have : getF ls nm = getF (ls.take k) nm ++ getF (ls.drop k) nm := by unfold getF; rw [← List.map_append, ← List.filter_append, List.take_append_drop]
  rw [this]
  unfold elsF
  rw [List.flatMap_append, List.length_append]
  omega

set_option maxHeartbeats 8000000 in
set_option maxRecDepth 100000 in
theorem elements_any {P : Nat → Prop} (w : World) (A : Option Addr) (ls : List Fld) (n c : Nat) (hn : ls.length = n) (hmax : n ≤ 1000000000000) (h : SrcF w P A ls) (hs : Thin ls) (nm : ByteArray) (hnm : nm.size ≤ 1000000000) (hlen : (elsF (getF ls (bl nm))).length ≤ 1000000000000) :
    Calls Tryd.prog 47 #[.slice A n c, .string nm] w (GotE (elsF (getF ls (bl nm))) (getF ls (bl nm)).length w) := by
  have HN := Lib.hid hn
  have H := Lib.hid h
  have HS := Lib.hid hs
  have HL := Lib.hid hlen
  clear hn h hs hlen
  go_enter Tryd.func47, Tryd.ntmps47
  go_wp2_with fail
  go_loopw [6, 7, 8] (fun v vn vi wr => ∃ (k : Nat) (o : Option Nat) (r : List (List UInt8)) (m : Nat), vi = .int .i64 (k : Int) ∧ vn = .int .i64 (m : Int) ∧ k ≤ n ∧ m ≤ k ∧ Hid (elsF (getF (ls.take k) (bl nm)) = r) ∧ Hid ((getF (ls.take k) (bl nm)).length = m) ∧ Hid (OwnS wr v o r) ∧ Hid (∀ b, o = some b → w.heap.size ≤ b) ∧ Hid (Below w.heap.size w wr)) (fun _ _ vi _ => n - (intOf vi).toNat)
  case atStart => exact ⟨0, none, [], 0, rfl, rfl, Nat.zero_le _, Nat.zero_le _, Lib.hid rfl, Lib.hid rfl, Lib.hid (OwnS.nil _), Lib.hid (fun _ h => by cases h), Lib.hid (Below.refl _ _)⟩
  case round =>
    obtain ⟨k, o, r, m, rfl, rfl, hk, hm, HR, HM, HO, HOB, HB⟩ := hrel
    by_cases hlt : k < n
    · obtain ⟨p, f, hf, hat, y0, y1, _, _⟩ := H.out.at (c := c) HN.out hlt HB.out
      obtain ⟨s1, s2⟩ := HS.out f (List.mem_of_getElem? hf)
      have CS := Lib.hid (fun X : World => same_any ⟨f.1.toArray⟩ nm X (by rw [← bl_length, bl_mk]; omega) (by omega))
      rw [bl_mk] at CS
      have HT := Lib.hid (show getF (ls.take (k + 1)) (bl nm) = getF (ls.take k) (bl nm) ++ (if sameN (bl nm) f = true then [f.2] else []) by rw [take_snoc ls k f hf, getF_snoc])
      have HQ := Lib.hid (show sameN (bl nm) f = (lowF f.1 == lowF (bl nm)) from rfl)
      have HE := Lib.hid (Nat.le_trans (elsF_get_le ls (bl nm) (k + 1)) HL.out)
      have CLi := Lib.hid (fun X : World => list_any ⟨f.2.toArray⟩ X (by rw [← bl_length, bl_mk]; omega))
      rw [bl_mk] at CLi
      clear hf s1 s2
      generalize (lowF f.1 == lowF (bl nm)) = q at *
      generalize f.1 = f1 at *
      generalize f.2 = f2 at *
      cases q with
      | false =>
        rw [HQ.out, if_neg (by simp), List.append_nil] at HT
        go_wp2_with fail
        refine (CS.out _).mono ?_
        rintro e w5 ⟨rfl, b5⟩
        have B5 := Lib.hid (HB.out.trans (b5.mono HB.out.size))
        have O5 := Lib.hid (HO.out.kept (Turn.of_below (S := fun _ => False) b5) (fun _ _ h => h))
        clear b5
        go_wp2_with fail
        go_roundw
        case rel => exact ⟨k + 1, o, r, m, by go_num, rfl, hlt, by omega, Lib.hid (by rw [HT.out]; exact HR.out), Lib.hid (by rw [HT.out]; exact HM.out), O5, HOB, B5⟩
        case measure => simp [intOf]; omega
      | true =>
        rw [HQ.out, if_pos rfl] at HT
        have HE2 := Lib.hid (show elsF (getF (ls.take (k + 1)) (bl nm)) = r ++ listF f2 by rw [HT.out, elsF_snoc, HR.out])
        have HE3 := Lib.hid (show r.length + (listF f2).length ≤ 1000000000000 by
          have := HE.out
          rw [HE2.out, List.length_append] at this
          exact this)
        go_wp2_with fail
        refine (CS.out _).mono ?_
        rintro e w5 ⟨rfl, b5⟩
        have B5 := Lib.hid (HB.out.trans (b5.mono HB.out.size))
        have O5 := Lib.hid (HO.out.kept (Turn.of_below (S := fun _ => False) b5) (fun _ _ h => h))
        have d1 := (b5.cell (Lib.lt_of_cell y1)).trans y1
        clear b5
        go_wp2_with fail
        refine (CLi.out _).mono ?_
        rintro e w6 ⟨v6, o6, rfl, own6, ho6, b6⟩
        obtain ⟨A6, c6, hv6, src6⟩ := own6.src (fun _ => True) (fun _ _ => trivial)
        subst hv6
        have B6 := Lib.hid (B5.out.trans (b6.mono B5.out.size))
        have O6 := Lib.hid (O5.out.kept (Turn.of_below (S := fun _ => False) b6) (fun _ _ h => h))
        obtain ⟨v', w', o', hrun, own', t', ho'⟩ := run_append_strs w6 _ o r (listF f2) O6.out A6 _ c6 rfl src6 (by have := HE3.out; omega)
        have HR5 := Lib.hid hrun
        have OO := Lib.hid own'
        have TT := Lib.hid (own_turn B6.out HOB.out t' ho')
        clear hrun own' t' ho' own6 src6 ho6 b6 y0 y1 d1 hat
        go_wp2_with (at_builtin; refine append_by rfl (.tmp 24) (.tmp 30) 37 rfl _ _ v' w' rfl rfl HR5.out ?_)
        go_roundw
        case rel => exact ⟨k + 1, o', r ++ listF f2, m + 1, by go_num, by go_num, hlt, by omega, HE2, Lib.hid (by rw [HT.out, List.length_append, HM.out]; rfl), OO, Lib.hid TT.out.2, Lib.hid TT.out.1⟩
        case measure => simp [intOf]; omega
    · have HQ := Lib.hid (show elsF (getF ls (bl nm)) = r by rw [← HR.out, List.take_of_length_le (by rw [HN.out]; omega)])
      have HQ2 := Lib.hid (show (getF ls (bl nm)).length = m by rw [← HM.out, List.take_of_length_le (by rw [HN.out]; omega)])
      go_wp2_with fail
      go_ret2
      exact ⟨_, o, by rw [HQ2.out]; rfl, by rw [HQ.out]; exact HO.out, HOB.out, HB.out⟩
end Go.Proofs.YtcpohdejdiljnaaDoor
