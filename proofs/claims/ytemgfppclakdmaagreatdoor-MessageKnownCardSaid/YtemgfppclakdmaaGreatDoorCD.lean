/-
  What the reference's Take answers: the walk.
  Conditions: those that each theorem names.
-/
import Derived.Test.YtemgfppclakdmaaGreatDoorCB
import Derived.Test.YtemgfppclakdmaaGreatDoorND
import Derived.Test.YtemgfppclakdmaaGreatDoorHI
import Derived.Test.YtemgfppclakdmaaGreatDoorKA
namespace Go.Proofs.YtemgfppclakdmaaGreatDoor
open Go.RowKit

def hexK (p : Nat × Nat) : Nat × Nat := if p.2 = 3 then (0, 21) else if p.2 = 0 then (p.1, 0) else (0, 20)
theorem while_at (u : List UInt8) (i : Nat) (h : ∀ c ∈ u.take i, c ≠ 59) (hi : i = u.length ∨ u[i]? = some 59) : u.takeWhile (· != 59) = u.take i ∧ u.dropWhile (· != 59) = u.drop i := by
  induction u generalizing i with
  | nil => simp
  | cons c r ih =>
    cases i with
    | zero =>
      rcases hi with hi | hi
      · simp at hi
      · have : c = 59 := by simpa using hi
        subst this
        exact ⟨rfl, rfl⟩
    | succ i =>
      have hc : (c != 59) = true := by simpa using h c (by simp)
      obtain ⟨h1, h2⟩ := ih i (fun d hd => h d (by simp [hd])) (by simpa using hi)
      rw [List.takeWhile_cons, if_pos hc, List.dropWhile_cons, if_pos hc, h1, h2]
      exact ⟨rfl, rfl⟩
theorem size_at (u : List UInt8) (i : Nat) (h : ∀ c ∈ u.take i, c ≠ 59) (hi : i = u.length ∨ u[i]? = some 59) : sizeF (u ++ [13]) = if u.drop i ≠ [] ∧ visF (u.drop (i + 1)) = false then (0, 20) else hexK (readF 16 (u.take i)) := by
  obtain ⟨h1, h2⟩ := while_at u i h hi
  unfold sizeF hexK
  rw [if_neg (by simp), List.dropLast_concat, h1, h2, List.drop_drop]

set_option maxHeartbeats 4000000 in
set_option maxRecDepth 100000 in
theorem rsize_any (s : ByteArray) (t : List UInt8) (hs : bl s = t ++ [10]) (hl : s.size ≤ 100) (w : World) : Calls Tryz.prog 104 #[.string s] w (RRead (sizeF t) w) := by
  have hsz : s.size = t.length + 1 := by rw [← bl_length, hs, List.length_append]; rfl
  by_cases ht : t = []
  · subst ht
    have a1 : decide ((s.size : Int) < 2) = true := decide_eq_true (by simp at hsz; omega)
    have HR := Lib.hid (show sizeF [] = (0, 20) from rfl)
    clear hs hsz hl
    go_enter Tryz.func104, Tryz.ntmps104
    go_wp2_with fail
    go_ret2
    exact RRead.mk HR.out rfl rfl
  · obtain ⟨u, c, rfl⟩ : ∃ u c, t = u ++ [c] := ⟨t.dropLast, t.getLast ht, (List.dropLast_concat_getLast ht).symm⟩
    have hsz2 : s.size = u.length + 2 := by rw [hsz]; simp
    have a1 : decide ((s.size : Int) < 2) = false := decide_eq_false (by omega)
    have g1 : s[u.length]'(by omega) = c := by
      have h := bl_get s u.length (by omega)
      rw [hs] at h
      simp at h
      exact h.symm
    have g2 : s[u.length + 1]'(by omega) = 10 := by
      have h := bl_get s (u.length + 1) (by omega)
      rw [hs] at h
      simp at h
      exact h.symm
    clear ht
    by_cases hc : c = 13
    · subst hc
      go_enter Tryz.func104, Tryz.ntmps104
      go_wp2_with fail
      obtain ⟨U, hU⟩ : ∃ U, U = s.extract 0 u.length := ⟨_, rfl⟩
      have hb : bl U = u := by
        rw [hU, bl_extract, bl_mk, piece, hs]
        simp
      have hUs : U.size = u.length := by rw [← bl_length, hb]
      have hU100 : U.size ≤ 100 := by omega
      rw [← hU]
      have HB := Lib.hid hb
      have HZ := Lib.hid hUs
      clear hU hs hsz hsz2 a1 g1 g2 hb hUs
      go_loop [4] (fun vi => ∃ i : Nat, vi = .int .i64 (i : Int) ∧ i ≤ U.size ∧ Hid (∀ c ∈ (bl U).take i, c ≠ 59)) (fun vi => U.size - (intOf vi).toNat)
      case atStart => exact ⟨0, rfl, Nat.zero_le _, Lib.hid (by simp)⟩
      case round =>
        obtain ⟨i, rfl, hi, HP⟩ := hrel
        by_cases hlt : i < U.size
        · have hg := bl_get U i hlt
          by_cases h59 : (U[i].toNat : Int) = 59
          · have e1 : ((U[i].toNat : Int) != 59) = false := by simpa using h59
            have hx : U[i] = 59 := UInt8.toNat_inj.1 (by show U[i].toNat = 59; omega)
            have HR := Lib.hid (size_at (bl U) i HP.out (.inr (by rw [hg, hx])))
            rw [HB.out] at HR
            have hne : u.drop i ≠ [] := by
              intro h
              have := congrArg List.length h
              rw [List.length_drop] at this
              simp at this
              have := HZ.out
              omega
            have hv : bl (U.extract (i + 1) U.size) = u.drop (i + 1) := by
              rw [bl_extract, bl_mk, piece, HB.out, List.take_of_length_le (by rw [List.length_drop]; have := HZ.out; omega)]
            have hk : bl (U.extract 0 i) = u.take i := by rw [bl_extract, bl_mk, piece, HB.out]; simp
            have hv100 : (U.extract (i + 1) U.size).size ≤ 100 := by rw [← bl_length, hv, List.length_drop]; have := HZ.out; omega
            have hk100 : (U.extract 0 i).size ≤ 100 := by rw [← bl_length, hk, List.length_take]; have := HZ.out; omega
            have CV := Lib.hid (fun X : World => visible_any (U.extract (i + 1) U.size) X (by unfold maxLen; omega))
            have CH := Lib.hid (fun X : World => rhex_any (U.extract 0 i) X (by omega))
            rw [hv] at CV
            rw [hk] at CH
            have HH := Lib.hid (show hexK (readF 16 (u.take i)) = if (readF 16 (u.take i)).2 = 3 then (0, 21) else if (readF 16 (u.take i)).2 = 0 then ((readF 16 (u.take i)).1, 0) else (0, 20) from rfl)
            have HR2 := Lib.hid (show sizeF (u ++ [13]) = if visF (u.drop (i + 1)) = false then (0, 20) else hexK (readF 16 (u.take i)) by rw [HR.out]; simp only [hne, ne_eq, not_false_eq_true, true_and])
            clear hx hg h59 HR hne hv hk hv100 hk100
            generalize visF (u.drop (i + 1)) = q at *
            generalize hexK (readF 16 (u.take i)) = K at *
            generalize readF 16 (u.take i) = r at *
            obtain ⟨n, e⟩ := r
            unfold RRead at CH
            simp only at CH HH
            cases q with
            | false =>
              have HF := Lib.hid (HR2.out.trans (if_pos rfl))
              go_wp2_with fail
              refine (CV.out _).mono ?_
              rintro e w3 ⟨rfl, rfl⟩
              go_wp2_with fail
              go_ret2
              exact RRead.mk HF.out rfl rfl
            | true =>
              have HF := Lib.hid (HR2.out.trans (if_neg (by simp)))
              by_cases h3 : e = 3
              · have d1 : ((e : Int) == 3) = true := by subst h3; rfl
                have HG := Lib.hid (HF.out.trans (HH.out.trans (if_pos h3)))
                clear h3
                go_wp2_with fail
                refine (CV.out _).mono ?_
                rintro e w3 ⟨rfl, rfl⟩
                go_wp2_with fail
                refine (CH.out _).mono ?_
                rintro e w4 ⟨rfl, rfl⟩
                go_wp2_with fail
                go_ret2
                exact RRead.mk HG.out rfl rfl
              · have d1 : ((e : Int) == 3) = false := by simp; omega
                by_cases h0 : e = 0
                · have d2 : ((e : Int) != 0) = false := by subst h0; rfl
                  have HG := Lib.hid (HF.out.trans (HH.out.trans ((if_neg h3).trans (if_pos h0))))
                  clear h3 h0
                  go_wp2_with fail
                  refine (CV.out _).mono ?_
                  rintro e w3 ⟨rfl, rfl⟩
                  go_wp2_with fail
                  refine (CH.out _).mono ?_
                  rintro e w4 ⟨rfl, rfl⟩
                  go_wp2_with fail
                  go_ret2
                  exact RRead.mk HG.out rfl rfl
                · have d2 : ((e : Int) != 0) = true := by simp; omega
                  have HG := Lib.hid (HF.out.trans (HH.out.trans ((if_neg h3).trans (if_neg h0))))
                  clear h3 h0
                  go_wp2_with fail
                  refine (CV.out _).mono ?_
                  rintro e w3 ⟨rfl, rfl⟩
                  go_wp2_with fail
                  refine (CH.out _).mono ?_
                  rintro e w4 ⟨rfl, rfl⟩
                  go_wp2_with fail
                  go_ret2
                  exact RRead.mk HG.out rfl rfl
          · have e1 : ((U[i].toNat : Int) != 59) = true := by simpa using h59
            have HN := Lib.hid (show ∀ c ∈ (bl U).take (i + 1), c ≠ 59 by
              rw [bl_take U i hlt]
              intro c hc
              rcases List.mem_append.1 hc with h | h
              · exact HP.out c h
              · rw [List.mem_singleton.1 h]
                intro h2
                rw [h2] at h59
                exact h59 rfl)
            clear hg h59
            go_wp2_with fail
            go_round
            case rel => exact ⟨i + 1, by go_num, hlt, HN⟩
            case measure => simp [intOf]; omega
        · have hi2 : i = U.size := by omega
          subst hi2
          have HR := Lib.hid (size_at (bl U) U.size HP.out (.inl (bl_length U).symm))
          rw [HB.out] at HR
          have CH := Lib.hid (fun X : World => rhex_any U X (by have := HZ.out; omega))
          rw [HB.out] at CH
          have HR2 := Lib.hid (show sizeF (u ++ [13]) = hexK (readF 16 u) by
            rw [HR.out, if_neg (by rw [HZ.out, List.drop_length]; simp), HZ.out, List.take_length])
          have HH := Lib.hid (show hexK (readF 16 u) = if (readF 16 u).2 = 3 then (0, 21) else if (readF 16 u).2 = 0 then ((readF 16 u).1, 0) else (0, 20) from rfl)
          clear HR HP hi hlt
          generalize hexK (readF 16 u) = K at *
          generalize readF 16 u = r at *
          obtain ⟨n, e⟩ := r
          unfold RRead at CH
          simp only at CH HH
          by_cases h3 : e = 3
          · have d1 : ((e : Int) == 3) = true := by subst h3; rfl
            have HG := Lib.hid (HR2.out.trans (HH.out.trans (if_pos h3)))
            clear h3
            go_wp2_with fail
            refine (CH.out _).mono ?_
            rintro e w4 ⟨rfl, rfl⟩
            go_wp2_with fail
            go_ret2
            exact RRead.mk HG.out rfl rfl
          · have d1 : ((e : Int) == 3) = false := by simp; omega
            by_cases h0 : e = 0
            · have d2 : ((e : Int) != 0) = false := by subst h0; rfl
              have HG := Lib.hid (HR2.out.trans (HH.out.trans ((if_neg h3).trans (if_pos h0))))
              clear h3 h0
              go_wp2_with fail
              refine (CH.out _).mono ?_
              rintro e w4 ⟨rfl, rfl⟩
              go_wp2_with fail
              go_ret2
              exact RRead.mk HG.out rfl rfl
            · have d2 : ((e : Int) != 0) = true := by simp; omega
              have HG := Lib.hid (HR2.out.trans (HH.out.trans ((if_neg h3).trans (if_neg h0))))
              clear h3 h0
              go_wp2_with fail
              refine (CH.out _).mono ?_
              rintro e w4 ⟨rfl, rfl⟩
              go_wp2_with fail
              go_ret2
              exact RRead.mk HG.out rfl rfl
    · have e1 : ((c.toNat : Int) != 13) = true := by
        have : c.toNat ≠ 13 := fun h => hc (UInt8.toNat_inj.1 h)
        simp; omega
      have HR := Lib.hid (show sizeF (u ++ [c]) = (0, 20) by
        unfold sizeF
        rw [if_pos (by simpa using hc)])
      clear hc
      go_enter Tryz.func104, Tryz.ntmps104
      go_wp2_with fail
      go_ret2
      exact RRead.mk HR.out rfl rfl
end Go.Proofs.YtemgfppclakdmaaGreatDoor

namespace Go.Proofs.YtemgfppclakdmaaGreatDoor
open Go.RowKit

/-- What Take tells. -/
def TakeGot (R : Tk) (w : World) (e : Ending) (w' : World) : Prop :=
  ∃ v o, e = .returned (.tuple #[v, .int .i64 (R.2.1 : Int), .int .i64 (R.2.2 : Int)]) ∧ Own w' v o R.1 ∧ (∀ b, o = some b → w.heap.size ≤ b) ∧ Below w.heap.size w w'
theorem take_stop {R : Tk} {w w' : World} {e : Nat} {b : Int} (h : R = ([], 0, e)) (hb : b = e) (hB : Below w.heap.size w w') : TakeGot R w (.returned (.tuple #[.slice none 0 0, .int .i64 0, .int .i64 b])) w' :=
  ⟨_, none, by rw [h, hb]; rfl, by rw [h]; exact Own.nil _, fun _ h => (by cases h), hB⟩
theorem take_tell {R : Tk} {v : Value} {a : Int} {b : List UInt8} {u : Nat} (h : R = (b, u, 0)) (ha : a = u) : Ending.returned (.tuple #[v, .int .i64 a, .int .i64 0]) = Ending.returned (.tuple #[v, .int .i64 (R.2.1 : Int), .int .i64 (R.2.2 : Int)]) := by rw [h, ha]; rfl
theorem lf_at (bs : List UInt8) (k j : Nat) (h : j < 64) (h10 : bs[k + j]? = some 10) (hn : ∀ i, i < j → bs[k + i]? ≠ some 10) : lfF 64 (bs.drop k) = some j :=
  lf_of 64 _ j h (by rw [List.getElem?_drop]; exact h10) (fun i hi => by rw [List.getElem?_drop]; exact hn i hi)

theorem Src.part {w : World} {P : Nat → Prop} {A : Option Addr} {bs : List UInt8} (h : Src w P A bs) (lo m : Nat) (hm : lo + m ≤ bs.length) : Src w P (Option.map (fun x => x.add lo) A) ((bs.drop lo).take m) := by
  intro h0
  rw [List.length_take, List.length_drop] at h0
  obtain ⟨ad, rfl, hP, hlt, hc⟩ := h (by omega)
  refine ⟨ad.add lo, rfl, ?_, ?_, fun i v hv => ?_⟩
  · unfold Addr.add; split <;> exact hP
  · unfold Addr.add; split <;> exact hlt
  · rw [add_add_at]
    refine hc _ v ?_
    rw [vals_take, vals_drop, List.getElem?_take] at hv
    split at hv
    · rwa [List.getElem?_drop] at hv
    · cases hv
/-- One round of the plain machine, in places of the whole. -/
theorem take_round (bs body : List UInt8) (at0 k f nn e : Nat) (h1 : at0 ≤ k) (h2 : k < bs.length) (hl : lfF 64 (bs.drop at0) = some (k - at0)) (hs : sizeF ((bs.drop at0).take (k - at0)) = (nn, e)) : takeG (f + 1) at0 body (bs.drop at0) =
    if e ≠ 0 then ([], 0, e)
    else if 4096 < body.length + nn then ([], 0, 21)
    else if nn = 0 then (if (parseH (bs.drop (k + 1))).2.2 = 0 then (body, k + 1 + (parseH (bs.drop (k + 1))).2.1, 0) else ([], 0, (parseH (bs.drop (k + 1))).2.2))
    else if bs.length < k + 1 + nn + 2 then ([], 0, 8)
    else if bs[k + 1 + nn]? ≠ some 13 ∨ bs[k + 1 + nn + 1]? ≠ some 10 then ([], 0, 20)
    else takeG f (k + 1 + nn + 2) (body ++ (bs.drop (k + 1)).take nn) (bs.drop (k + 1 + nn + 2)) := by
  rw [takeG_some hl hs]
  have d1 : (bs.drop at0).drop (k - at0 + 1) = bs.drop (k + 1) := by rw [List.drop_drop]; congr 1; omega
  have d2 : (bs.drop at0).drop (k - at0 + 1 + nn + 2) = bs.drop (k + 1 + nn + 2) := by rw [List.drop_drop]; congr 1; omega
  have d3 : (bs.drop at0)[k - at0 + 1 + nn]? = bs[k + 1 + nn]? := by rw [List.getElem?_drop]; congr 1; omega
  have d4 : (bs.drop at0)[k - at0 + 1 + nn + 1]? = bs[k + 1 + nn + 1]? := by rw [List.getElem?_drop]; congr 1; omega
  have d5 : ((bs.drop at0).length < k - at0 + 1 + nn + 2) = (bs.length < k + 1 + nn + 2) := by rw [List.length_drop, eq_iff_iff]; omega
  have d6 : at0 + (k - at0 + 1) = k + 1 := by omega
  have d7 : at0 + (k - at0 + 1 + nn + 2) = k + 1 + nn + 2 := by omega
  simp only [d1, d2, d3, d4, d5, d6, d7]
theorem readF_some (b : Nat) (x : List UInt8) : (readF b x).1 = 0 ∨ (readF b x).1 ≤ Most := by
  unfold readF
  split
  · exact .inl rfl
  · split
    · split
      · next h => exact .inr h
      · exact .inl rfl
    · exact .inl rfl
theorem sizeF_small (t : List UInt8) : (sizeF t).1 ≤ Most := by
  unfold sizeF
  split
  · simp
  · split
    · simp
    · split
      · simp
      · split
        · rcases readF_some 16 (t.dropLast.takeWhile (· != 59)) with h | h
          · rw [h]; simp
          · exact h
        · simp

set_option maxHeartbeats 16000000 in
set_option maxRecDepth 100000 in
theorem rtake_any {P : Nat → Prop} (w : World) (A : Option Addr) (bs : List UInt8) (n c : Nat) (hn : bs.length = n) (hnc : n ≤ c) (hmax : n ≤ 140737488351232) (h : Src w P A bs) :
    Calls Tryz.prog 66 #[.slice A n c] w (TakeGot (takeF bs) w) := by
  have HN := Lib.hid hn
  have H := Lib.hid h
  obtain ⟨R, hR⟩ : ∃ R, takeF bs = R := ⟨_, rfl⟩
  rw [hR]
  have HR := Lib.hid (show takeG (n + 1) 0 [] (bs.drop 0) = R by rw [List.drop_zero, ← hn]; exact hR)
  clear hn h hR
  go_enter Tryz.func66, Tryz.ntmps66
  go_wp2_with fail
  go_loopw [5, 6, 7, 8, 9] (fun vb va v7 v8 v9 wr => ∃ (at0 f : Nat) (body : List UInt8) (o : Option Nat), va = .int .i64 (at0 : Int) ∧ at0 ≤ n ∧ body.length ≤ 4096 ∧ n - at0 < f + 1 ∧ Hid (takeG (f + 1) at0 body (bs.drop at0) = R) ∧ Hid (Own wr vb o body) ∧ Hid (∀ b, o = some b → w.heap.size ≤ b) ∧ Hid (Below w.heap.size w wr)) (fun _ va _ _ _ _ => n - (intOf va).toNat)
  case atStart => exact ⟨0, n, [], none, rfl, Nat.zero_le _, by simp, by omega, HR, Lib.hid (Own.nil _), Lib.hid (fun _ h => by cases h), Lib.hid (Below.refl _ _)⟩
  case round =>
    obtain ⟨at0, f, body, o, rfl, hat0, hbody, hf, HT, HO, HOB, HB⟩ := hrel
    obtain ⟨wo, rfl⟩ : ∃ wo, wo = wr := ⟨_, rfl⟩
    obtain ⟨A5, c5, hv5, hs5⟩ := HO.out.src (fun _ => True) (fun _ _ => trivial)
    subst hv5
    clear hs5
    go_wp2_with fail
    go_loop [7] (fun ve => ∃ k : Nat, ve = .int .i64 (k : Int) ∧ at0 ≤ k ∧ k ≤ n ∧ k ≤ at0 + 64 ∧ Hid (∀ i, at0 ≤ i → i < k → bs[i]? ≠ some 10)) (fun ve => n - (intOf ve).toNat)
    case atStart => exact ⟨at0, rfl, Nat.le_refl _, hat0, by omega, Lib.hid (fun i h1 h2 => by omega)⟩
    case round =>
      obtain ⟨k, rfl, hk1, hk2, hk3, HK⟩ := hrel
      by_cases hbig : k = at0 + 64
      · have HF := Lib.hid (show R = ([], 0, 21) by
          rw [← HT.out, takeG_none ((lf_none 64 _).2 (fun j hj => by rw [List.getElem?_drop]; exact HK.out _ (by omega) (by omega))), if_pos (by rw [List.length_drop, HN.out]; omega)])
        have e1 : ((k : Int) == (at0 : Int) + 64) = true := by simp; omega
        have e2 : decide ((k : Int) < (at0 : Int) + 64) = false := decide_eq_false (by omega)
        clear hbig
        by_cases hlt : k < n
        · have e3 : decide ((k : Int) < (n : Int)) = true := decide_eq_true (by omega)
          have e3n : decide (k < n) = true := decide_eq_true hlt
          go_wp2_with fail
          go_ret3
          exact take_stop HF.out rfl HB.out
        · have e3 : decide ((k : Int) < (n : Int)) = false := decide_eq_false (by omega)
          have e3n : decide (k < n) = false := decide_eq_false hlt
          go_wp2_with fail
          go_ret3
          exact take_stop HF.out rfl HB.out
      · have e1 : ((k : Int) == (at0 : Int) + 64) = false := by simp; omega
        have e2 : decide ((k : Int) < (at0 : Int) + 64) = true := decide_eq_true (by omega)
        have hk64 : k < at0 + 64 := by omega
        clear hbig
        by_cases hlt : k < n
        · have e3 : decide ((k : Int) < (n : Int)) = true := decide_eq_true (by omega)
          have e3n : decide (k < n) = true := decide_eq_true hlt
          obtain ⟨p, x, hx, hat, y0⟩ := H.out.at (c := c) HN.out hlt HB.out
          by_cases h10 : (x.toNat : Int) = 10
          · have e4 : ((x.toNat : Int) != 10) = false := by simpa using h10
            have e5 : ((k : Int) == (n : Int)) = false := by simp; omega
            have hx10 : x = 10 := UInt8.toNat_inj.1 (by show x.toNat = 10; omega)
            subst hx10
            have HL := Lib.hid (lf_at bs at0 (k - at0) (by omega) (by rw [show at0 + (k - at0) = k by omega]; exact hx) (fun i hi => HK.out _ (by omega) (by omega)))
            have hTS : ((bs.drop at0).take (k - at0)) ++ [10] = (bs.drop at0).take (k + 1 - at0) := by
              rw [show k + 1 - at0 = (k - at0) + 1 by omega, take_snoc (bs.drop at0) (k - at0) 10 (by rw [List.getElem?_drop, show at0 + (k - at0) = k by omega]; exact hx)]
            have hlS : ((bs.drop at0).take (k + 1 - at0)).length = k + 1 - at0 := by rw [List.length_take, List.length_drop, HN.out]; omega
            have hcv := run_text wo (Option.map (fun x => x.add at0) A) _ (k + 1 - at0) (c - at0) hlS (((H.out.kept (Turn.of_below (S := fun _ => False) HB.out) (fun _ _ h => h))).part at0 (k + 1 - at0) (by rw [HN.out]; omega))
            obtain ⟨S, hS⟩ : ∃ S : ByteArray, S = ⟨((bs.drop at0).take (k + 1 - at0)).toArray⟩ := ⟨_, rfl⟩
            rw [← hS] at hcv
            have hbS : bl S = ((bs.drop at0).take (k - at0)) ++ [10] := by rw [hS, bl_mk, hTS]
            have hSz : S.size ≤ 100 := by rw [← bl_length, hS, bl_mk, hlS]; omega
            have CZ := Lib.hid (fun X : World => rsize_any S _ hbS hSz X)
            have hsm := sizeF_small ((bs.drop at0).take (k - at0))
            have HRR := Lib.hid (fun (nn e : Nat) (hz : sizeF ((bs.drop at0).take (k - at0)) = (nn, e)) => HT.out.symm.trans (take_round bs body at0 k f nn e hk1 (by rw [HN.out]; exact hlt) HL.out hz))
            rw [HN.out] at HRR
            clear hTS hlS hS hbS hSz hx h10 e4 hk64 HL HT HK
            generalize sizeF ((bs.drop at0).take (k - at0)) = z at *
            obtain ⟨nn, e⟩ := z
            have HG := Lib.hid (HRR.out nn e rfl)
            unfold RRead at CZ
            simp only at CZ hsm
            clear HRR
            by_cases he : e = 0
            · subst he
              have d0 : ((0 : Int) != 0) = false := rfl
              have HG1 := Lib.hid (HG.out.trans (if_neg (by simp)))
              clear HG
              by_cases hb : 4096 < body.length + nn
              · have HF := Lib.hid (HG1.out.trans (if_pos hb))
                have hc : (decide ((4096 : Int) < (nn : Int)) = true ∧ decide (4096 < nn) = true) ∨ ((decide ((4096 : Int) < (nn : Int)) = false ∧ decide (4096 < nn) = false) ∧ nn ≤ 4096 ∧ decide ((4096 : Int) < (body.length : Int) + (nn : Int)) = true) := by
                  by_cases h : 4096 < nn
                  · exact .inl ⟨decide_eq_true (by omega), decide_eq_true h⟩
                  · exact .inr ⟨⟨decide_eq_false (by omega), decide_eq_false h⟩, by omega, decide_eq_true (by omega)⟩
                clear HG1 hb
                rcases hc with ⟨f1, f1n⟩ | ⟨⟨f1, f1n⟩, hnn, f2⟩
                all_goals
                  go_wp2_with fail
                  refine (CZ.out _).mono ?_
                  rintro e w3 ⟨rfl, rfl⟩
                  go_wp2_with fail
                  go_ret3
                  exact take_stop HF.out rfl HB.out
              · have HG2 := Lib.hid (HG1.out.trans (if_neg hb))
                have hnn : nn ≤ 4096 := by omega
                have f1 : decide ((4096 : Int) < (nn : Int)) = false := decide_eq_false (by omega)
                have f1n : decide (4096 < nn) = false := decide_eq_false (by omega)
                have f2 : decide ((4096 : Int) < (body.length : Int) + (nn : Int)) = false := decide_eq_false (by omega)
                have HBN := Lib.hid (show body.length + nn ≤ 4096 by omega)
                clear HG1 hb hsm
                by_cases h0 : nn = 0
                · have HG3 := Lib.hid (HG2.out.trans (if_pos h0))
                  have d1 : ((nn : Int) == 0) = true := by subst h0; rfl
                  clear HG2
                  obtain ⟨A7, hcut, hA7⟩ := run_cut A n c (k + 1) (by omega) hnc
                  have hcut' : ∀ W : World, (Instr.slice 22 (.slice A n c) (some (.int .i64 ((k : Int) + 1))) none none).run Tryz.prog W = .ok (.slice A7 (n - (k + 1)) (c - (k + 1))) W := fun W => by
                    have := hcut W
                    rwa [show (((k + 1 : Nat)) : Int) = (k : Int) + 1 by omega] at this
                  have hld : (bs.drop (k + 1)).length = n - (k + 1) := by rw [List.length_drop, HN.out]
                  have S7 : Src wo P A7 (bs.drop (k + 1)) := fun h0' => by
                    have h1 := (H.out.kept (Turn.of_below (S := fun _ => False) HB.out) (fun _ _ h => h)).part (k + 1) (n - (k + 1)) (by rw [HN.out]; omega)
                    rw [List.take_of_length_le (by omega), ← hA7 (by omega)] at h1
                    exact h1 h0'
                  have CP := Lib.hid (rparse_head wo A7 (bs.drop (k + 1)) (n - (k + 1)) (c - (k + 1)) hld (by omega) S7)
                  have hqu := run_used (bs.drop (k + 1))
                  rw [hld] at hqu
                  clear hcut hA7 hld S7 h0
                  generalize parseH (bs.drop (k + 1)) = q at *
                  obtain ⟨ql, qu, qe⟩ := q
                  simp only at HG3
                  unfold HeadGot at CP
                  simp only at CP
                  by_cases hq : qe = 0
                  · subst hq
                    have HF := Lib.hid (HG3.out.trans (if_pos rfl))
                    go_wp2_with fail
                    refine (CZ.out _).mono ?_
                    rintro e w3 ⟨rfl, rfl⟩
                    go_wp2_with fail
                    refine CP.out.mono ?_
                    rintro e w4 ⟨v7, o7, rfl, own7, ho7, b7⟩
                    have O7 := Lib.hid (HO.out.kept (Turn.of_below (S := fun _ => False) b7) (fun _ _ h => h))
                    have B7 := Lib.hid (HB.out.trans (b7.mono HB.out.size))
                    clear own7 ho7 b7
                    go_wp2_with fail
                    go_ret3
                    exact ⟨_, o, take_tell HF.out (by omega), by rw [HF.out]; exact O7.out, HOB.out, B7.out⟩
                  · have d2 : ((qe : Int) != 0) = true := by simp; omega
                    have HF := Lib.hid (HG3.out.trans (if_neg hq))
                    clear hq
                    go_wp2_with fail
                    refine (CZ.out _).mono ?_
                    rintro e w3 ⟨rfl, rfl⟩
                    go_wp2_with fail
                    refine CP.out.mono ?_
                    rintro e w4 ⟨v7, o7, rfl, own7, ho7, b7⟩
                    have B7 := Lib.hid (HB.out.trans (b7.mono HB.out.size))
                    clear own7 ho7 b7
                    go_wp2_with fail
                    go_ret3
                    exact take_stop HF.out rfl B7.out
                · have d1 : ((nn : Int) == 0) = false := by simp; omega
                  have HG3 := Lib.hid (HG2.out.trans (if_neg h0))
                  clear HG2
                  by_cases h4 : n < k + 1 + nn + 2
                  · have HF := Lib.hid (HG3.out.trans (if_pos h4))
                    have d2 : decide ((n : Int) < (k : Int) + 1 + (nn : Int) + 2) = true := decide_eq_true (by omega)
                    clear HG3 h4 h0
                    go_wp2_with fail
                    refine (CZ.out _).mono ?_
                    rintro e w3 ⟨rfl, rfl⟩
                    go_wp2_with fail
                    go_ret3
                    exact take_stop HF.out rfl HB.out
                  · have HG4 := Lib.hid (HG3.out.trans (if_neg h4))
                    have d2 : decide ((n : Int) < (k : Int) + 1 + (nn : Int) + 2) = false := decide_eq_false (by omega)
                    obtain ⟨A8, hpart, hsrc⟩ := run_part A n c (k + 1) (k + 1 + nn) (by omega) (by omega)
                    have hpart' : ∀ W : World, (Instr.slice 22 (.slice A n c) (some (.int .i64 ((k : Int) + 1))) (some (.int .i64 ((k : Int) + 1 + (nn : Int)))) none).run Tryz.prog W = .ok (.slice A8 nn (c - (k + 1))) W := fun W => by
                      have := hpart W
                      rwa [show (((k + 1 : Nat)) : Int) = (k : Int) + 1 by omega, show (((k + 1 + nn : Nat)) : Int) = (k : Int) + 1 + (nn : Int) by omega, show k + 1 + nn - (k + 1) = nn by omega] at this
                    have S8 := hsrc wo _ bs HN.out (by omega) (H.out.kept (Turn.of_below (S := fun _ => False) HB.out) (fun _ _ h => h))
                    rw [show k + 1 + nn - (k + 1) = nn by omega] at S8
                    obtain ⟨v9, w9, o9, hrun, own9, t9, ho9⟩ := run_append_src wo (.slice A5 body.length c5) o body _ HO.out A8 nn (c - (k + 1)) (by rw [List.length_take, List.length_drop, HN.out]; omega) S8 (by rw [List.length_take]; omega)
                    have T9 := own_turn HB.out HOB.out t9 (fun b hb => by
                      rcases ho9 with h | h
                      · exact .inl (by rw [← h]; exact hb)
                      · rw [h] at hb; injection hb with hb; exact .inr (by omega))
                    obtain ⟨p1, x1, hx1, hat1, y1⟩ := H.out.at (c := c) (k := k + 1 + nn) HN.out (by omega) T9.1
                    obtain ⟨p2, x2, hx2, hat2, y2⟩ := H.out.at (c := c) (k := k + 1 + nn + 1) HN.out (by omega) T9.1
                    rw [show (((k + 1 + nn : Nat)) : Int) = (k : Int) + 1 + (nn : Int) by omega] at hat1
                    rw [show (((k + 1 + nn + 1 : Nat)) : Int) = (k : Int) + 1 + (nn : Int) + 1 by omega] at hat2
                    have R9 := Lib.hid hrun
                    have O9 := Lib.hid own9
                    have B9 := Lib.hid T9.1
                    have N9 := Lib.hid T9.2
                    clear hpart hsrc S8 hrun own9 t9 ho9 T9
                    by_cases hbad : bs[k + 1 + nn]? ≠ some 13 ∨ bs[k + 1 + nn + 1]? ≠ some 10
                    · have HF := Lib.hid (HG4.out.trans (if_pos hbad))
                      have hc : ((x1.toNat : Int) != 13) = true ∨ (((x1.toNat : Int) != 13) = false ∧ ((x2.toNat : Int) != 10) = true) := by
                        rw [hx1, hx2] at hbad
                        by_cases h13 : (x1.toNat : Int) = 13
                        · have e13 : x1 = 13 := UInt8.toNat_inj.1 (by show x1.toNat = 13; omega)
                          refine .inr ⟨by simpa using h13, ?_⟩
                          rcases hbad with h | h
                          · rw [e13] at h; exact absurd rfl h
                          · have : ¬ (x2.toNat : Int) = 10 := fun h10 => h (by rw [UInt8.toNat_inj.1 (show x2.toNat = (10 : UInt8).toNat by show x2.toNat = 10; omega)])
                            simpa using this
                        · exact .inl (by simpa using h13)
                      clear hbad hx1 hx2 HG4 HG3 h4 h0
                      rcases hc with c1 | ⟨c1, c2⟩
                      all_goals
                        go_wp2_with fail
                        refine (CZ.out _).mono ?_
                        rintro e w3 ⟨rfl, rfl⟩
                        go_wp2_with (at_builtin; refine append_by rfl (.tmp 91) (.tmp 98) 22 rfl _ _ v9 w9 rfl rfl R9.out ?_)
                        go_ret3
                        exact take_stop HF.out rfl B9.out
                    · obtain ⟨f', rfl⟩ : ∃ f', f = f' + 1 := ⟨f - 1, by omega⟩
                      have HF := Lib.hid (HG4.out.trans (if_neg hbad)).symm
                      have hc : ((x1.toNat : Int) != 13) = false ∧ ((x2.toNat : Int) != 10) = false := by
                        rw [hx1, hx2] at hbad
                        simp only [not_or, ne_eq, Decidable.not_not, Option.some.injEq] at hbad
                        obtain ⟨rfl, rfl⟩ := hbad
                        exact ⟨rfl, rfl⟩
                      obtain ⟨c1, c2⟩ := hc
                      have HBL := Lib.hid (show (body ++ (bs.drop (k + 1)).take nn).length ≤ 4096 by rw [List.length_append, List.length_take]; have := HBN.out; omega)
                      have hle : k + 1 + nn + 2 ≤ n := by omega
                      clear hbad hx1 hx2 HG4 HG3 h4 h0
                      go_wp2_with fail
                      refine (CZ.out _).mono ?_
                      rintro e w3 ⟨rfl, rfl⟩
                      go_wp2_with (at_builtin; refine append_by rfl (.tmp 91) (.tmp 98) 22 rfl _ _ v9 w9 rfl rfl R9.out ?_)
                      go_roundw
                      case rel => exact ⟨k + 1 + nn + 2, f', _, o9, by go_num, hle, HBL.out, by omega, HF, O9, N9, B9⟩
                      case measure => simp [intOf]; omega
            · have d0 : ((e : Int) != 0) = true := by simp; omega
              have HF := Lib.hid (HG.out.trans (if_pos he))
              clear HG he
              go_wp2_with fail
              refine (CZ.out _).mono ?_
              rintro e w3 ⟨rfl, rfl⟩
              go_wp2_with fail
              go_ret3
              exact take_stop HF.out rfl HB.out
          · have e4 : ((x.toNat : Int) != 10) = true := by simpa using h10
            have HN2 := Lib.hid (show ∀ i, at0 ≤ i → i < k + 1 → bs[i]? ≠ some 10 from fun i h1 h2 => by
              by_cases hi : i < k
              · exact HK.out i h1 hi
              · obtain rfl : i = k := by omega
                rw [hx]
                intro he
                injection he with he
                rw [he] at h10
                exact h10 rfl)
            clear hx h10
            go_wp2_with fail
            go_round
            case rel => exact ⟨k + 1, by go_num, by omega, hlt, by omega, HN2⟩
            case measure => simp [intOf]; omega
        · have e3 : decide ((k : Int) < (n : Int)) = false := decide_eq_false (by omega)
          have e3n : decide (k < n) = false := decide_eq_false hlt
          have e5 : ((k : Int) == (n : Int)) = true := by simp; omega
          have HF := Lib.hid (show R = ([], 0, 8) by
            rw [← HT.out, takeG_none ((lf_none 64 _).2 (fun j hj => by
              rw [List.getElem?_drop]
              by_cases hj2 : at0 + j < k
              · exact HK.out _ (by omega) hj2
              · rw [List.getElem?_eq_none (by rw [HN.out]; omega)]; simp)), if_neg (by rw [List.length_drop, HN.out]; omega)])
          go_wp2_with fail
          go_ret3
          exact take_stop HF.out rfl HB.out
end Go.Proofs.YtemgfppclakdmaaGreatDoor
