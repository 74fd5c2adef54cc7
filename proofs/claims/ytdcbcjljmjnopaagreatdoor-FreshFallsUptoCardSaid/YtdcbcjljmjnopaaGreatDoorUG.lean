/-
  What package text's unescape and Unquote do, call by call.
  Conditions: those that each theorem names.
-/
import Derived.Test.YtdcbcjljmjnopaaGreatDoorUF
namespace Go.Proofs.YtdcbcjljmjnopaaGreatDoor
open Go.RowKit

/-- What stands for the inside of a quoted string, sign by sign; t: the sign ahead takes the next one along. -/
def une (t : Bool) : List UInt8 → Option (List UInt8)
  | [] => if t then none else some []
  | c :: l => if t then (une false l).map (c :: ·) else if c = 92 then une true l else if c = 34 then none else (une false l).map (c :: ·)
theorem une_taken (c : UInt8) (l : List UInt8) : une true (c :: l) = (une false l).map (c :: ·) := by simp [une]
theorem une_back (c : UInt8) (l : List UInt8) (h : c = 92) : une false (c :: l) = une true l := by simp [une, h]
theorem une_quote (c : UInt8) (l : List UInt8) (h : c = 34) : une false (c :: l) = none := by simp [une, h]
theorem une_other (c : UInt8) (l : List UInt8) (h : c ≠ 92) (h' : c ≠ 34) : une false (c :: l) = (une false l).map (c :: ·) := by simp [une, h, h']
theorem map_cons_append (r : Option (List UInt8)) (c : UInt8) (x : List UInt8) : (r.map (x ++ ·)).map (c :: ·) = r.map ((c :: x) ++ ·) := by
  cases r <;> simp
theorem une_high : ∀ (x l : List UInt8), (∀ c ∈ x, 128 ≤ c.toNat) → une false (x ++ l) = (une false l).map (x ++ ·)
  | [], l, _ => by simp
  | c :: x, l, h => by
    have hc := h c (by simp)
    have h92 : c ≠ 92 := by rintro rfl; revert hc; decide
    have h34 : c ≠ 34 := by rintro rfl; revert hc; decide
    rw [List.cons_append, une_other c _ h92 h34, une_high x l (fun d hd => h d (by simp [hd])), map_cons_append]
theorem une_wide (x l : List UInt8) (t : Bool) (hne : x ≠ []) (h : ∀ c ∈ x, 128 ≤ c.toNat) : une t (x ++ l) = (une false l).map (x ++ ·) := by
  cases t with
  | false => exact une_high x l h
  | true =>
    cases x with
    | nil => exact absurd rfl hne
    | cons c x => rw [List.cons_append, une_taken, une_high x l (fun d hd => h d (by simp [hd])), map_cons_append]

theorem vis_cons (c : UInt8) (l : List UInt8) : visF (c :: l) = (shownB c && visF l) := by simp [visF]
theorem ubody_une : ∀ (n : Nat) (x : List UInt8), x.length ≤ n → ubody (x ++ [34]) = if visF x then une false x else none
  | _, [], _ => by simp [ubody, une, visF]
  | 0, _ :: _, h => absurd h (by simp)
  | n + 1, c :: l, h => by
    have hl : l.length ≤ n := by simpa using h
    rw [List.cons_append]
    by_cases h34 : c = 34
    · rw [ubody_end c _ h34, if_neg (by simp), une_quote c l h34]
      simp
    · by_cases h92 : c = 92
      · cases l with
        | nil =>
          subst h92
          simp [ubody, une]
        | cons d l =>
          have hl2 : l.length ≤ n := by simp at hl; omega
          rw [List.cons_append, ubody_back c d _ h92, ubody_une n l hl2, une_back c _ h92, une_taken, vis_cons, vis_cons]
          have : shownB c = true := by subst h92; decide
          rw [this]
          cases shownB d <;> cases visF l <;> simp
      · rw [ubody_other c _ h34 h92, ubody_une n l hl, une_other c l h92 h34, vis_cons]
        cases shownB c <;> cases visF l <;> simp
theorem ubody_last : ∀ (n : Nat) (y z : List UInt8), y.length ≤ n → ubody y = some z → ∃ x, y = x ++ [34]
  | _, [], z, _, h => by simp [ubody] at h
  | 0, _ :: _, _, h, _ => absurd h (by simp)
  | n + 1, c :: l, z, hn, h => by
    have hl : l.length ≤ n := by simpa using hn
    by_cases h34 : c = 34
    · rw [ubody_end c _ h34] at h
      split at h
      · rename_i e
        exact ⟨[], by rw [h34, e]; rfl⟩
      · cases h
    · by_cases h92 : c = 92
      · cases l with
        | nil => rw [ubody_back0 c h92] at h; cases h
        | cons d l =>
          have hl2 : l.length ≤ n := by simp at hl; omega
          rw [ubody_back c d l h92] at h
          split at h
          · obtain ⟨z', hz, _⟩ := Option.map_eq_some_iff.1 h
            obtain ⟨x, rfl⟩ := ubody_last n l z' hl2 hz
            exact ⟨c :: d :: x, by simp⟩
          · cases h
      · rw [ubody_other c l h34 h92] at h
        split at h
        · obtain ⟨z', hz, _⟩ := Option.map_eq_some_iff.1 h
          obtain ⟨x, rfl⟩ := ubody_last n l z' hl hz
          exact ⟨c :: x, by simp⟩
        · cases h

theorem unqF_inside (x : List UInt8) : unqF (34 :: (x ++ [34])) = if visF (34 :: (x ++ [34])) then une false x else none := by
  have e : visF (34 :: (x ++ [34])) = visF x := by
    rw [vis_cons]
    unfold visF
    rw [List.all_append]
    have : shownB 34 = true := by decide
    simp [this]
  rw [e, ← ubody_une x.length x (Nat.le_refl _)]
  simp [unqF]

def URel (W : World) (s : ByteArray) (r : Option (List UInt8)) (v vf vt : Value) (wx : World) : Prop :=
  ∃ (k f : Nat) (t : Bool) (o : Option Nat) (bs : List UInt8), f ≤ k ∧ k ≤ s.size ∧ vf = .int .i64 (f : Int) ∧ vt = .bool t ∧ AtIter wx W.heap.size s k ∧ Own wx v o bs ∧ (∀ b, o = some b → W.heap.size ≤ b) ∧ Below W.heap.size W wx ∧ bs.length ≤ f ∧
    (une t ((bl s).drop k)).map (bs ++ piece s f k ++ ·) = r
theorem map_app (r : Option (List UInt8)) (a b : List UInt8) : (r.map (b ++ ·)).map (a ++ ·) = r.map (a ++ b ++ ·) := by
  cases r <;> simp

theorem extract_len (s : ByteArray) (f k : Nat) (h : k ≤ s.size) : (s.extract f k).size = k - f := by
  rw [← bl_length, extract_bl, piece, List.length_take, List.length_drop, bl_length]
  omega

set_option maxHeartbeats 4000000 in
theorem unescape_any (s : ByteArray) (W : World) (hs : s.size ≤ 140737488351232) : Calls Tryz.prog 103 #[.string s] W (TextOk (une false (bl s)) W) := by
  obtain ⟨r, hr⟩ : ∃ r, r = une false (bl s) := ⟨_, rfl⟩
  rw [← hr]
  have HR := Lib.hid hr
  clear hr
  go_enter Tryz.func103, Tryz.ntmps103
  go_wp2_with fail
  go_loopw [4, 5, 6, 7, 8] (fun v vf vt _ _ wx => URel W s r v vf vt wx) (fun _ _ _ _ _ wx => s.size - wx.iterPos W.heap.size)
  case atStart =>
    refine ⟨0, 0, false, none, [], Nat.le_refl _, Nat.zero_le _, rfl, rfl, AtIter.start _ _, Own.nil _, (fun _ h => by cases h), (Below.refl _ _).alloc (Nat.le_refl _) _, Nat.le_refl _, ?_⟩
    rw [HR.out, piece_self, List.drop_zero]
    cases une false (bl s) <;> simp
  case round =>
    obtain ⟨k, f, t, o, bs, hfk, hk, rfl, rfl, hit, hown, ho, hB, hbl, hu⟩ := hrel
    have HM := Lib.hid hit.pos
    have HU := Lib.hid hu
    have HO := Lib.hid ho
    clear hu ho
    by_cases hlt : k < s.size
    · rcases decode_step s k hlt with ⟨hc, hd⟩ | ⟨hc, x, n, hd, hx1, hx2, hn, hw⟩
      · obtain ⟨w1, hnx, hit1, t1, z1⟩ := next_some (P := Tryz.prog) hit hlt hd
        obtain ⟨hown1, hB1⟩ := QRel.next (by omega) hit t1 hown hB
        have HD := Lib.hid (bl_drop s k hlt)
        have HP := Lib.hid (show piece s f (k + 1) = piece s f k ++ [s[k]] by rw [piece_more s f k 1 hfk, take_one s k hlt])
        clear hd z1 t1 hit hown hB
        cases t with
        | true =>
          have HF := Lib.hid (show (une false ((bl s).drop (k + 1))).map (bs ++ piece s f (k + 1) ++ ·) = r by
            have := HU.out
            rw [HD.out, une_taken] at this
            rw [HP.out, ← this, ← List.append_assoc, ← map_app]
            rfl)
          go_wp2_with fail
          refine ⟨⟨k + 1, f, false, o, bs, by omega, hlt, rfl, rfl, hit1, hown1, HO.out, hB1, by omega, HF.out⟩, ?_⟩
          rw [hit1.pos, HM.out]
          omega
        | false =>
          by_cases h92 : (s[k].toNat : Int) = 92
          · have e1 : ((s[k].toNat : Int) == 92) = true := by simpa using h92
            have hz1 := hB1.size
            have hpl : (bs ++ piece s f k).length ≤ k + 1 := by
              unfold piece
              rw [List.length_append, List.length_take]
              omega
            obtain ⟨v2, w2, o2, hrun2, own2, t2, ho2⟩ := run_add_text W.heap.size w1 u4 o bs (s.extract f k) hown1 HO.out hz1 (by have := extract_len s f k (by omega); omega)
            rw [extract_bl] at own2
            obtain ⟨hit2, hB2⟩ := QRel.add hit1 hown1 HO.out hB1 t2
            have HF := Lib.hid (show (une true ((bl s).drop (k + 1))).map ((bs ++ piece s f k) ++ piece s (k + 1) (k + 1) ++ ·) = r by
              have := HU.out
              rw [HD.out, une_back _ _ ((eq92 _).2 h92)] at this
              rw [piece_self, List.append_nil]
              exact this)
            have HR2 := Lib.hid hrun2
            have HO2 := Lib.hid ho2
            clear hrun2 ho2 t2 h92 hit1 hB1 hown1
            go_wp2_with (at_builtin; refine append_txt_by rfl (.tmp 20) (.tmp 24) 24 9 rfl _ _ v2 w2 rfl rfl HR2.out ?_)
            refine ⟨⟨k + 1, k + 1, true, o2, _, Nat.le_refl _, hlt, by simp, rfl, hit2, own2, HO2.out, hB2, hpl, HF.out⟩, ?_⟩
            rw [hit2.pos, HM.out]
            omega
          · have e1 : ((s[k].toNat : Int) == 92) = false := by simpa using h92
            by_cases h34 : (s[k].toNat : Int) = 34
            · have e2 : ((s[k].toNat : Int) == 34) = true := by simpa using h34
              have HF := Lib.hid (show none = r by
                have := HU.out
                rw [HD.out, une_quote _ _ ((eq34 _).2 h34)] at this
                exact this)
              clear h92 h34
              go_wp2_with fail
              go_ret2
              exact ⟨by rw [← HF.out]; rfl, hB1⟩
            · have e2 : ((s[k].toNat : Int) == 34) = false := by simpa using h34
              have HF := Lib.hid (show (une false ((bl s).drop (k + 1))).map (bs ++ piece s f (k + 1) ++ ·) = r by
                have := HU.out
                rw [HD.out, une_other _ _ (fun h => h92 ((eq92 _).1 h)) (fun h => h34 ((eq34 _).1 h))] at this
                rw [HP.out, ← this, ← List.append_assoc, ← map_app]
                rfl)
              clear h92 h34
              go_wp2_with fail
              refine ⟨⟨k + 1, f, false, o, bs, by omega, hlt, rfl, rfl, hit1, hown1, HO.out, hB1, by omega, HF.out⟩, ?_⟩
              rw [hit1.pos, HM.out]
              omega
      · obtain ⟨w1, hnx, hit1, t1, z1⟩ := next_some (P := Tryz.prog) hit hlt hd
        obtain ⟨hown1, hB1⟩ := QRel.next (by omega) hit t1 hown hB
        have HF := Lib.hid (show (une false ((bl s).drop (k + (n + 1)))).map (bs ++ piece s f (k + (n + 1)) ++ ·) = r by
          have := HU.out
          rw [drop_more s k (n + 1), une_wide _ _ _ (by
            intro h
            have := congrArg List.length h
            rw [List.length_take, List.length_drop, bl_length] at this
            simp at this
            omega) hw, map_app] at this
          rw [piece_more s f k (n + 1) hfk, ← this, List.append_assoc])
        have e1 : ((x : Int) == 92) = false := beq_eq_false_iff_ne.2 (by omega)
        have e2 : ((x : Int) == 34) = false := beq_eq_false_iff_ne.2 (by omega)
        clear hd z1 t1 hit hown hB hw
        cases t with
        | true =>
          go_wp2_with fail
          refine ⟨⟨k + (n + 1), f, false, o, bs, by omega, hn, rfl, rfl, hit1, hown1, HO.out, hB1, by omega, HF.out⟩, ?_⟩
          rw [hit1.pos, HM.out]
          omega
        | false =>
          go_wp2_with fail
          refine ⟨⟨k + (n + 1), f, false, o, bs, by omega, hn, rfl, rfl, hit1, hown1, HO.out, hB1, by omega, HF.out⟩, ?_⟩
          rw [hit1.pos, HM.out]
          omega
    · have hnx := next_none (P := Tryz.prog) hit hlt
      have HE := Lib.hid (show (une t []).map (bs ++ piece s f s.size ++ ·) = r by
        have := HU.out
        rw [List.drop_of_length_le (by rw [bl_length]; omega), show k = s.size by omega] at this
        exact this)
      cases t with
      | true =>
        have HF := Lib.hid (show none = r from HE.out)
        go_wp2_with fail
        go_ret2
        exact ⟨by rw [← HF.out]; rfl, hB⟩
      | false =>
        have HF := Lib.hid (show some (bs ++ piece s f s.size) = r by rw [← HE.out]; simp [une])
        have hz1 := hB.size
        obtain ⟨v2, w2, o2, hrun2, own2, t2, ho2⟩ := run_add_text W.heap.size wr u4 o bs (s.extract f s.size) hown HO.out hz1 (by have := extract_len s f s.size (by omega); omega)
        rw [extract_bl] at own2
        obtain ⟨hit2, hB2⟩ := QRel.add hit hown HO.out hB t2
        have hcv := run_made_text w2 v2 o2 _ own2
        have HR2 := Lib.hid hrun2
        clear hrun2 ho2 t2 hit hB hown own2
        go_wp2_with (at_builtin; refine append_txt_by rfl (.tmp 32) (.tmp 35) 24 9 rfl _ _ v2 w2 rfl rfl HR2.out ?_)
        go_ret2
        exact ⟨by rw [← HF.out]; rfl, hB2⟩

theorem unqF_short (l : List UInt8) (h : l.length ≤ 1) : unqF l = none := by
  cases l with
  | nil => rfl
  | cons c l =>
    cases l with
    | nil => simp [unqF, ubody]
    | cons d l => simp at h
theorem unqF_first (l : List UInt8) (c : UInt8) (h : l[0]? = some c) (hc : c ≠ 34) : unqF l = none := by
  cases l with
  | nil => rfl
  | cons d l =>
    simp at h
    subst h
    simp [unqF, hc]
theorem unqF_last (l : List UInt8) (c : UInt8) (h : l[l.length - 1]? = some c) (hc : c ≠ 34) : unqF l = none := by
  cases l with
  | nil => rfl
  | cons d l =>
    simp only [unqF]
    split
    · cases hu : ubody l with
      | none => rfl
      | some z =>
        obtain ⟨x, rfl⟩ := ubody_last l.length l z (Nat.le_refl _) hu
        simp at h
        exact absurd h.symm hc
    · rfl
theorem split_ends (s : ByteArray) (h : 2 ≤ s.size) : bl s = s[0] :: (piece s 1 (s.size - 1) ++ [s[s.size - 1]]) := by
  have h0 := bl_drop s 0 (by omega)
  have h1 := piece_last s 1 s.size (by omega) (Nat.le_refl _)
  rw [List.drop_zero] at h0
  rw [h0, ← h1, piece_back]

set_option maxHeartbeats 2000000 in
theorem ty_unquote (s : ByteArray) (W : World) (hs : s.size ≤ 140737488351232) : Calls Tryz.prog 83 #[.string s] W (TextOk (unqF (bl s)) W) := by
  by_cases h2 : s.size ≤ 1
  · have e0 : decide ((s.size : Int) - 1 < 1) = true := by simp; omega
    rw [unqF_short (bl s) (by rw [bl_length]; exact h2)]
    go_enter Tryz.func83, Tryz.ntmps83
    go_wp2_with fail
    go_ret2
    exact ⟨rfl, Below.refl _ _⟩
  · have h2' : 2 ≤ s.size := by omega
    have h0 : 0 < s.size := by omega
    obtain ⟨j, hj, hj1, hjs, hsp⟩ : ∃ (j : Nat) (hj : j < s.size), 1 ≤ j ∧ (s.size : Int) - 1 = (j : Int) ∧ bl s = s[0] :: (piece s 1 j ++ [s[j]]) := ⟨s.size - 1, by omega, by omega, by omega, split_ends s h2'⟩
    have hj2 : 1 ≤ (j : Int) := by omega
    have HS := Lib.hid hsp
    clear hsp h2 h2'
    by_cases h34 : (s[0].toNat : Int) = 34
    · have e1 : ((s[0].toNat : Int) != 34) = false := by simpa using h34
      by_cases h34' : (s[j].toNat : Int) = 34
      · have e2 : ((s[j].toNat : Int) != 34) = false := by simpa using h34'
        have C := Lib.hid (ty_visible s W)
        have HQ := Lib.hid (show unqF (bl s) = if visF (bl s) then une false (piece s 1 j) else none by
          rw [HS.out, (eq34 _).2 h34, (eq34 _).2 h34']
          exact unqF_inside _)
        clear h34 h34'
        cases hv : visF (bl s) with
        | false =>
          rw [hv] at C
          have HF := Lib.hid (show unqF (bl s) = none by rw [HQ.out, hv]; rfl)
          clear hv
          go_enter Tryz.func83, Tryz.ntmps83
          go_wp2_with fail
          refine C.out.mono ?_
          rintro e w1 ⟨rfl, b1⟩
          go_wp2_with fail
          go_ret2
          exact ⟨by rw [HF.out]; rfl, b1⟩
        | true =>
          rw [hv] at C
          have HF := Lib.hid (show unqF (bl s) = une false (piece s 1 j) by rw [HQ.out, hv]; rfl)
          have CU := Lib.hid (fun X : World => unescape_any (s.extract 1 j) X (by have := extract_size s 1 j; omega))
          rw [extract_bl] at CU
          clear hv
          generalize une false (piece s 1 j) = r at *
          go_enter Tryz.func83, Tryz.ntmps83
          go_wp2_with fail
          refine C.out.mono ?_
          rintro e w1 ⟨rfl, b1⟩
          go_wp2_with fail
          refine (CU.out _).mono ?_
          rintro e w2 ⟨rfl, b2⟩
          go_wp2_with fail
          go_ret2
          exact ⟨by rw [HF.out]; rfl, b1.trans (b2.mono b1.size)⟩
      · have e2 : ((s[j].toNat : Int) != 34) = true := by simpa using h34'
        have HF := Lib.hid (show unqF (bl s) = none from unqF_last (bl s) s[j] (by rw [bl_length, show s.size - 1 = j by omega]; exact bl_get s j hj) (fun h => h34' ((eq34 _).1 h)))
        clear h34 h34'
        go_enter Tryz.func83, Tryz.ntmps83
        go_wp2_with fail
        go_ret2
        exact ⟨by rw [HF.out]; rfl, Below.refl _ _⟩
    · have e1 : ((s[0].toNat : Int) != 34) = true := by simpa using h34
      have HF := Lib.hid (show unqF (bl s) = none from unqF_first (bl s) s[0] (bl_get s 0 h0) (fun h => h34 ((eq34 _).1 h)))
      clear h34
      go_enter Tryz.func83, Tryz.ntmps83
      go_wp2_with fail
      go_ret2
      exact ⟨by rw [HF.out]; rfl, Below.refl _ _⟩
theorem tx_unquote (s : ByteArray) (W : World) (hs : s.size ≤ 1000000000) : Calls Tryz.prog 83 #[.string s] W (TextOk (unqF (bl s)) W) := ty_unquote s W (by omega)
end Go.Proofs.YtdcbcjljmjnopaaGreatDoor
