/-
  What kinds of requests say of their fields; the law's values.
  Conditions: those that each theorem names.
-/
import Derived.Test.YtcpohdejdiljnaaDoorFPA
namespace Go.Proofs.YtcpohdejdiljnaaDoor
open Go.RowKit

theorem kind_cases (mi : Int) (ls : List Fld) : (reqK mi ls).2.2 ≠ 0 ∧ (reqK mi ls).1 = 0 ∧ (reqK mi ls).2.1 = 0 ∧ (getF ls lenN ≠ [] → getF ls codN ≠ [] → (reqK mi ls).2.2 = 22 ∨ (reqK mi ls).2.2 = 1) ∨
    reqK mi ls = (0, 0, 0) ∧ getF ls lenN = [] ∧ getF ls codN = [] ∨
    reqK mi ls = (2, 0, 0) ∧ getF ls lenN = [] ∧ mi = 1 ∧ getF ls codN ≠ [] ∧ (∃ x, elsF (getF ls codN) = [x] ∧ isChk x = true) ∨
    ∃ n, reqK mi ls = (1, n, 0) ∧ getF ls codN = [] ∧ getF ls lenN ≠ [] ∧ n ≤ 4096 ∧ ∀ s ∈ elsF (getF ls lenN), s.all (digB 10) = true ∧ valF 10 s = n := by
  unfold reqK
  by_cases hm : mi ≠ 0 ∧ mi ≠ 1
  · rw [if_pos hm]
    exact .inl ⟨by simp, rfl, rfl, fun _ _ => .inr rfl⟩
  · rw [if_neg hm]
    by_cases h2 : getF ls lenN ≠ [] ∧ getF ls codN ≠ []
    · rw [if_pos h2]
      exact .inl ⟨by simp, rfl, rfl, fun _ _ => .inl rfl⟩
    · rw [if_neg h2]
      by_cases hc : getF ls codN ≠ []
      · have hl : getF ls lenN = [] := by
          cases h : getF ls lenN with
          | nil => rfl
          | cons x r => exact absurd ⟨by rw [h]; simp, hc⟩ h2
        rw [if_pos hc]
        unfold codF
        split
        · next h =>
          obtain ⟨h3, h4, h5⟩ := h
          refine .inr (.inr (.inl ⟨rfl, hl, h4, hc, ?_⟩))
          obtain ⟨x, hx⟩ := List.length_eq_one_iff.1 h3
          rw [hx] at h5
          exact ⟨x, hx, by simpa using h5⟩
        · exact .inl ⟨by simp, rfl, rfl, fun h => absurd hl h⟩
      · have hc' : getF ls codN = [] := by simpa using hc
        rw [if_neg hc]
        by_cases hl : getF ls lenN ≠ []
        · rw [if_pos hl]
          unfold lenF
          split
          · exact .inl ⟨by simp, rfl, rfl, fun _ h => absurd hc' h⟩
          · next h =>
            simp only [not_or] at h
            split
            · exact .inl ⟨by simp, rfl, rfl, fun _ h => absurd hc' h⟩
            · next h3 =>
              simp only [not_or] at h3
              refine .inr (.inr (.inr ⟨_, rfl, hc', hl, by omega, fun s hs => ?_⟩))
              have hs2 : sureL (elsF (getF ls lenN)) = true := by simpa using h.2
              unfold sureL at hs2
              rw [List.all_eq_true] at hs2
              have hk := hs2 s hs
              unfold okL at hk
              rw [Bool.and_eq_true] at hk
              have h1 := eq_of_beq hk.1
              have h5 : (rdF s).2.2 ≠ 5 := bne_iff_ne.1 hk.2
              rw [← h1] at h3
              rw [← h1]
              unfold rdF at h3 h5 ⊢
              unfold readF at h3 h5 ⊢
              by_cases e0 : s = []
              · simp [e0] at h5
              · by_cases e1 : s.all (digB 10) = true
                · by_cases e2 : valF 10 s ≤ Most
                  · simp [e0, e1, e2]
                  · simp [e0, e1, e2] at h3
                · simp [e0, e1] at h5
        · rw [if_neg hl]
          exact .inr (.inl ⟨rfl, by simpa using hl, hc'⟩)
theorem dig_byte (c : UInt8) (h : digB 10 c = true) : 48 ≤ c.toNat ∧ c.toNat ≤ 57 ∧ worth c = c.toNat - 48 := by
  unfold digB at h
  have h1 := of_decide_eq_true h
  unfold worth at h1 ⊢
  split at h1
  · next hc => exact ⟨hc.1, hc.2, by rw [if_pos hc]⟩
  · split at h1
    · omega
    · split at h1 <;> omega
/-- A number's digits, up to a place. -/
theorem val_upto (s : List UInt8) (n k : Nat) (hv : valF 10 s = n) : valF 10 (s.take k) ≤ n := by
  have := valF_mono 10 (by omega) (s.take k) (s.drop k)
  rw [List.take_append_drop, hv] at this
  exact this

set_option maxHeartbeats 8000000 in
set_option maxRecDepth 100000 in
theorem values_any {P : Nat → Prop} (w : World) (A : Option Addr) (ls : List Fld) (n c : Nat) (hn : ls.length = n) (hmax : n ≤ 1000000000) (h : SrcF w P A ls) (hs : Thin ls) (nm : ByteArray) (hnm : nm.size ≤ 1000000000) :
    Calls Tryd.prog 13 #[.slice A n c, .string nm] w (GotS (getF ls (bl nm)) w) := by
  have HN := Lib.hid hn
  have H := Lib.hid h
  have HS := Lib.hid hs
  clear hn h hs
  go_enter Tryd.func13, Tryd.ntmps13
  go_wp2_with fail
  go_loopw [5, 10, 7] (fun v vi v3 wr => ∃ (k : Nat) (o : Option Nat) (r : List (List UInt8)), vi = .int .i64 (k : Int) ∧ k ≤ n ∧ Hid (getF (ls.take k) (bl nm) = r) ∧ Hid (OwnS wr v o r) ∧ Hid (∀ b, o = some b → w.heap.size ≤ b) ∧ Hid (Below w.heap.size w wr)) (fun _ vi _ _ => n - (intOf vi).toNat)
  case atStart => exact ⟨0, none, [], rfl, Nat.zero_le _, Lib.hid rfl, Lib.hid (OwnS.nil _), Lib.hid (fun _ h => by cases h), Lib.hid (Below.refl _ _)⟩
  case round =>
    obtain ⟨k, o, r, rfl, hk, HR, HO, HOB, HB⟩ := hrel
    by_cases hlt : k < n
    · obtain ⟨p, f, hf, hat, y0, y1, _, _⟩ := H.out.at (c := c) HN.out hlt HB.out
      obtain ⟨s1, s2⟩ := HS.out f (List.mem_of_getElem? hf)
      have CS := Lib.hid (fun X : World => same_any ⟨f.1.toArray⟩ nm X (by rw [← bl_length, bl_mk]; omega) (by omega))
      rw [bl_mk] at CS
      have HT := Lib.hid (show getF (ls.take (k + 1)) (bl nm) = r ++ (if (lowF f.1 == lowF (bl nm)) = true then [f.2] else []) by rw [take_snoc ls k f hf, getF_snoc, HR.out]; rfl)
      have HRL := Lib.hid (show r.length ≤ k by
        rw [← HR.out]
        have := getF_length (ls.take k) (bl nm)
        rw [List.length_take] at this
        omega)
      have b1 : Below w.heap.size w (wr.alloc (.cells #[.string ⟨f.1.toArray⟩, .string ⟨f.2.toArray⟩] 34)) := HB.out.alloc HB.out.size _
      have B1 := Lib.hid b1
      have I1 := Lib.hid (Is.made wr 34 [.string ⟨f.1.toArray⟩, .string ⟨f.2.toArray⟩])
      have O1 := Lib.hid (HO.out.kept ((Turn.refl (fun _ => False) wr).alloc (.cells #[.string ⟨f.1.toArray⟩, .string ⟨f.2.toArray⟩] 34)) (fun _ _ h => h))
      clear hf s1 s2 b1
      generalize (lowF f.1 == lowF (bl nm)) = q at *
      generalize f.1 = f1 at *
      generalize f.2 = f2 at *
      cases q with
      | false =>
        rw [if_neg (by simp), List.append_nil] at HT
        go_wp2_with fail
        refine (CS.out _).mono ?_
        rintro e w5 ⟨rfl, b5⟩
        have B5 := Lib.hid (B1.out.trans (b5.mono B1.out.size))
        have O5 := Lib.hid (O1.out.kept (Turn.of_below (S := fun _ => False) b5) (fun _ _ h => h))
        clear b5
        go_wp2_with fail
        go_roundw
        case rel => exact ⟨k + 1, o, r, by go_num, hlt, HT, O5, HOB, B5⟩
        case measure => simp [intOf]; omega
      | true =>
        rw [if_pos rfl] at HT
        go_wp2_with fail
        refine (CS.out _).mono ?_
        rintro e w5 ⟨rfl, b5⟩
        have B5 := Lib.hid (B1.out.trans (b5.mono B1.out.size))
        have O5 := Lib.hid (O1.out.kept (Turn.of_below (S := fun _ => False) b5) (fun _ _ h => h))
        have I5 := Lib.hid (I1.out.kept (Turn.of_below (S := fun _ => False) b5) (fun h => h))
        have x1 : w5.cell? ⟨wr.heap.size, 1, none⟩ = some (.string ⟨f2.toArray⟩) := I5.out.cell 1
        obtain ⟨v', w', o', hrun, own', t', ho'⟩ := run_push_str w5 _ o r f2 O5.out (by have := HRL.out; omega)
        have HP := Lib.hid hrun
        have OO := Lib.hid own'
        have TT := Lib.hid (own_turn B5.out HOB.out t' ho')
        clear b5 hrun own' t' ho'
        go_wp2_with (at_builtin; refine append_by rfl (.tmp 18) (.tmp 21) 37 rfl _ _ v' w' rfl rfl HP.out ?_)
        go_roundw
        case rel => exact ⟨k + 1, o', r ++ [f2], by go_num, hlt, HT, OO, Lib.hid TT.out.2, Lib.hid TT.out.1⟩
        case measure => simp [intOf]; omega
    · have HQ := Lib.hid (show getF ls (bl nm) = r by rw [← HR.out, List.take_of_length_le (by rw [HN.out]; omega)])
      go_wp2_with fail
      go_ret
      exact ⟨_, o, rfl, by rw [HQ.out]; exact HO.out, HOB.out, HB.out⟩
/-- The values, as a slice. -/
def ListAt (ls : List (List UInt8)) (X : World) (e : Ending) (w' : World) : Prop := ∃ A c, e = .returned (.slice A ls.length c) ∧ SrcS w' (fun _ => True) A ls ∧ ls.length ≤ c ∧ (ls ≠ [] → ∃ g, A = some ⟨g, 0, none⟩) ∧ Below X.heap.size X w'
theorem GotS.list {ls : List (List UInt8)} {X : World} {e : Ending} {w' : World} (h : GotS ls X e w') : ListAt ls X e w' := by
  obtain ⟨v, o, rfl, own, _, hb⟩ := h
  obtain ⟨A, c, hv, hs⟩ := own.src (fun _ => True) (fun _ _ => trivial)
  refine ⟨A, c, by rw [hv], hs, ?_, ?_, hb⟩
  · rcases own.1.2 with ⟨h1, h2⟩ | ⟨g, cap, cur, h1, _, _, h2, _⟩
    · rw [h2]; exact Nat.zero_le _
    · rw [hv] at h1
      injection h1 with _ _ h3
      omega
  · intro hne
    rcases own.1.2 with ⟨h1, h2⟩ | ⟨g, cap, cur, h1, _⟩
    · exact absurd (List.eq_nil_of_length_eq_zero h2) hne
    · rw [hv] at h1
      injection h1 with h2
      exact ⟨g, h2⟩
theorem glue_length : ∀ vs : List (List UInt8), (glue vs).length ≤ (vs.map fun v => v.length + 1).sum
  | [] => Nat.le_refl _
  | [x] => by simp [glue]
  | x :: y :: r => by
    have := glue_length (y :: r)
    rw [glue, List.length_append, List.length_cons, List.map_cons, List.sum_cons]
    omega
theorem glue_bulk (ls : List Fld) (nm : List UInt8) : (glue (getF ls nm)).length ≤ bulkF ls := by
  refine Nat.le_trans (glue_length _) ?_
  induction ls with
  | nil => exact Nat.le_refl _
  | cons f r ih =>
    rw [getF_cons, bulkF_cons, List.map_append, List.sum_append]
    split
    · simp only [List.map_cons, List.map_nil, List.sum_cons, List.sum_nil]; omega
    · simp only [List.map_nil, List.sum_nil]; omega
def mkB (l : List UInt8) : ByteArray := ⟨l.toArray⟩
theorem mkB_data (l : List UInt8) : (mkB l).data.toList = l := rfl
theorem join_any {P : Nat → Prop} (w : World) (g c : Nat) (vs : List (List UInt8)) (hs : SrcS w P (some ⟨g, 0, none⟩) vs) (hn : vs ≠ []) (hc : vs.length ≤ c) (hv : vs.length ≤ 1000000000) (hl : (glue vs).length ≤ 1000000000) :
    Calls Tryd.prog 16 #[.slice (some ⟨g, 0, none⟩) vs.length c, .string ⟨#[44]⟩] w (Text (glue vs) w) := by
  have hlen : 0 < vs.length := by cases vs with
    | nil => exact absurd rfl hn
    | cons x r => simp
  obtain ⟨ad, ha, _, hlt, hcells⟩ := hs hlen
  obtain rfl : (⟨g, 0, none⟩ : Addr) = ad := Option.some.inj ha
  have e : (vs.map mkB).map (fun x : ByteArray => x.data.toList) = vs := by rw [List.map_map]; exact List.map_id _
  have hj : Lib.join ((vs.map mkB).map (fun x : ByteArray => x.data.toList)) (⟨#[44]⟩ : ByteArray).data.toList = glue vs := by rw [e]; exact join_glue vs
  have := Tryd.strings_Join g 0 c (vs.map mkB) ⟨#[44]⟩ w (fun j x hx => by
    rw [List.getElem?_map, Option.map_eq_some_iff] at hx
    obtain ⟨l, hl', rfl⟩ := hx
    have h1 := hcells j l hl'
    rw [add_at] at h1
    exact h1) hlt (by rw [List.length_map]; omega) (by rw [List.length_map]; exact hc) (by rw [hj]; omega)
  rw [hj, List.length_map] at this
  exact this
theorem tolower_any (t : List UInt8) (w : World) (hl : t.length ≤ 1000000000) (ha : ∀ c ∈ t, c.toNat < 128) : Calls Tryd.prog 15 #[.string ⟨t.toArray⟩] w (Text (Lib.toLowerA t) w) := by
  have := Tryd.strings_ToLower_ascii ⟨t.toArray⟩ w (by rw [← bl_length, bl_mk]; omega) (fun j b hb => ha b (List.mem_of_getElem? hb))
  exact this
theorem count_any (t : List UInt8) (m : Int) (w : World) (hl : t.length ≤ 1000000000) (hm : w.cell? ⟨0, 0, none⟩ = some (.int .i64 m)) : Calls Tryd.prog 14 #[.string ⟨t.toArray⟩, .string ⟨#[99, 104, 117, 110, 107, 101, 100]⟩] w fun e w' => e = .returned (.int .i64 (Lib.count t chkN : Int)) ∧ w' = w := by
  have := Tryd.strings_Count ⟨t.toArray⟩ ⟨#[99, 104, 117, 110, 107, 101, 100]⟩ m w (by rw [← bl_length, bl_mk]; omega) hm (by decide)
  exact this
end Go.Proofs.YtcpohdejdiljnaaDoor
