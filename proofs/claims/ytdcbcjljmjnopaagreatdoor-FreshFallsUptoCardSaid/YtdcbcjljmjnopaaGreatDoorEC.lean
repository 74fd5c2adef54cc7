/-
  How a request's and a response's Control come, directive by directive; the cells of a Control.
  Conditions: those that each theorem names.
-/
import Derived.Test.YtdcbcjljmjnopaaGreatDoorEA
import Derived.Test.YtdcbcjljmjnopaaGreatDoorVE
namespace Go.Proofs.YtdcbcjljmjnopaaGreatDoor.Con
open Go.RowKit Hop

theorem least_any (a b : Int) (w : World) : Calls Tryz.prog 46 #[.int .i64 a, .int .i64 b] w fun e w' => e = .returned (.int .i64 (leastF a b)) ∧ w' = w := by
  by_cases h1 : a < 0
  · have HF := Lib.hid (show leastF a b = b by unfold leastF; rw [if_pos (.inl h1)])
    go_enter Tryz.func46, Tryz.ntmps46
    go_wp2_with fail
    go_ret
    exact ⟨by rw [HF.out]; rfl, rfl⟩
  · by_cases h2 : b < a
    · have HF := Lib.hid (show leastF a b = b by unfold leastF; rw [if_pos (.inr h2)])
      go_enter Tryz.func46, Tryz.ntmps46
      go_wp2_with fail
      go_ret
      exact ⟨by rw [HF.out]; rfl, rfl⟩
    · have HF := Lib.hid (show leastF a b = a by unfold leastF; rw [if_neg (by omega)])
      go_enter Tryz.func46, Tryz.ntmps46
      go_wp2_with fail
      go_ret
      exact ⟨by rw [HF.out]; rfl, rfl⟩

theorem digit_iff (c : UInt8) : digB 10 c = (decide (48 ≤ c.toNat) && decide (c.toNat ≤ 57)) := by
  have := byte_every (fun c => digB 10 c == (decide (48 ≤ c.toNat) && decide (c.toNat ≤ 57))) (by decide +kernel) c
  simpa using this
theorem digit_worth (c : UInt8) (h : digB 10 c = true) : worth c = c.toNat - 48 := by
  rw [digit_iff] at h
  simp at h
  unfold worth
  rw [if_pos h]
theorem cap_no (l : List UInt8) (k : Nat) (c : UInt8) (h : l[k]? = some c) (hd : digB 10 c = false) : capN l = 0 := by
  unfold capN
  split
  · rfl
  · rw [if_neg]
    intro hall
    have := List.all_eq_true.1 hall c (List.mem_of_getElem? h)
    rw [hd] at this
    cases this
theorem cap_step (v d : Nat) (hd : d ≤ 9) : min (10 * min v Top + d) Top = min (v * 10 + d) Top := by
  unfold Top
  omega

set_option maxHeartbeats 4000000 in
set_option maxRecDepth 100000 in
theorem number_any (s : ByteArray) (w : World) (hs : s.size ≤ 140737488351232) : Calls Tryz.prog 45 #[.string s] w fun e w' => e = .returned (.int .i64 (capN (bl s) : Nat)) ∧ w' = w := by
  by_cases h0 : s.size = 0
  · have HF := Lib.hid (show capN (bl s) = 0 by
      have : bl s = [] := List.eq_nil_of_length_eq_zero (by rw [bl_length]; exact h0)
      rw [this]
      rfl)
    go_enter Tryz.func45, Tryz.ntmps45
    go_wp2_with fail
    go_ret
    exact ⟨by rw [HF.out]; rfl, rfl⟩
  · have e0 : ((s.size : Int) == 0) = false := beq_eq_false_iff_ne.2 (by omega)
    have HNE := Lib.hid (show bl s ≠ [] by
      intro e
      have := bl_length s
      rw [e] at this
      exact h0 this.symm)
    clear h0
    go_enter Tryz.func45, Tryz.ntmps45
    go_wp2_with fail
    clear e0
    go_loopw [4] (fun i wx => ∃ k : Nat, i = .int .i64 (k : Int) ∧ k ≤ s.size ∧ Hid (((bl s).take k).all (digB 10) = true) ∧ wx = w) (fun i _ => s.size - (intOf i).toNat)
    case atStart => exact ⟨0, rfl, Nat.zero_le _, Lib.hid rfl, rfl⟩
    case round =>
      obtain ⟨k, rfl, hk, HA, rfl⟩ := hrel
      by_cases hlt : k < s.size
      · have HG := Lib.hid (bl_get s k hlt)
        cases hd : digB 10 s[k] with
        | false =>
          have HF := Lib.hid (cap_no _ k _ HG.out hd)
          rw [digit_iff] at hd
          by_cases h1 : (s[k].toNat : Int) < 48
          · clear hd
            go_wp2_with fail
            go_ret
            exact ⟨by rw [HF.out]; rfl, rfl⟩
          · have h2 : (57 : Int) < (s[k].toNat : Int) := by
              simp at hd
              omega
            clear hd
            go_wp2_with fail
            go_ret
            exact ⟨by rw [HF.out]; rfl, rfl⟩
        | true =>
          have HT := Lib.hid (show ((bl s).take (k + 1)).all (digB 10) = true by rw [bl_take s k hlt, List.all_append, HA.out]; simp [hd])
          rw [digit_iff] at hd
          have h1 : ¬ (s[k].toNat : Int) < 48 := by simp at hd; omega
          have h2 : ¬ (57 : Int) < (s[k].toNat : Int) := by simp at hd; omega
          clear hd
          go_wp2_with fail
          go_roundw
          case rel => exact ⟨k + 1, by go_num, hlt, HT, trivial⟩
          case measure => simp [intOf]; omega
      · have HALL := Lib.hid (show (bl s).all (digB 10) = true by
          have := HA.out
          rw [List.take_of_length_le (by rw [bl_length]; omega)] at this
          exact this)
        have HF := Lib.hid (show capN (bl s) = min (valF 10 (bl s)) Top by unfold capN; rw [if_neg HNE.out, if_pos HALL.out])
        go_wp2_with fail
        go_loopw [5, 3] (fun i n wx => ∃ k m : Nat, i = .int .i64 (k : Int) ∧ n = .int .i64 (m : Int) ∧ k ≤ s.size ∧ m ≤ 2147483647 ∧ Hid (m = min (valF 10 ((bl s).take k)) Top) ∧ wx = wr) (fun i _ _ => s.size - (intOf i).toNat)
        case atStart => exact ⟨0, 0, rfl, rfl, Nat.zero_le _, by omega, Lib.hid rfl, rfl⟩
        case round =>
          obtain ⟨k2, m, rfl, rfl, hk2, hm, HM, rfl⟩ := hrel
          by_cases hlt2 : k2 < s.size
          · have hd : digB 10 s[k2] = true := List.all_eq_true.1 HALL.out _ (List.mem_of_getElem? (bl_get s k2 hlt2))
            have hw := digit_worth _ hd
            rw [digit_iff] at hd
            have HS := Lib.hid (show min (10 * m + (s[k2].toNat - 48)) Top = min (valF 10 ((bl s).take (k2 + 1))) Top by
              rw [bl_take s k2 hlt2, valF_snoc, hw, HM.out]
              simp at hd
              exact cap_step _ _ (by omega))
            obtain ⟨d, hdd⟩ : ∃ d : Nat, s[k2].toNat = 48 + d := ⟨s[k2].toNat - 48, by simp at hd; omega⟩
            have hd9 : d ≤ 9 := by simp at hd; omega
            have e1 : s[k2].toNat - 48 = d := by omega
            rw [e1] at HS
            have e2 : (s[k2].toNat : Int) = 48 + (d : Int) := by omega
            clear hd hw e1 hdd
            by_cases hgt : (2147483647 : Int) < 10 * (m : Int) + (d : Int)
            · go_wp2_with fail
              go_roundw
              case rel => exact ⟨k2 + 1, 2147483647, by go_num, rfl, hlt2, by omega, Lib.hid (by rw [← HS.out]; unfold Top; omega), trivial⟩
              case measure => simp [intOf]; omega
            · go_wp2_with fail
              go_roundw
              case rel => exact ⟨k2 + 1, 10 * m + d, by go_num, by go_num, hlt2, by omega, Lib.hid (by rw [← HS.out]; unfold Top; omega), trivial⟩
              case measure => simp [intOf]; omega
          · have HQ := Lib.hid (show m = capN (bl s) by
              rw [HF.out, HM.out, List.take_of_length_le (by rw [bl_length]; omega)])
            go_wp2_with fail
            go_ret
            exact ⟨by rw [← HQ.out]; rfl, rfl⟩
end Go.Proofs.YtdcbcjljmjnopaaGreatDoor.Con

namespace Go.Proofs.YtdcbcjljmjnopaaGreatDoor.Con
open Go.RowKit Hop

theorem numD_not (p : Dir) (h : p.1 ≠ staleN) : numD p = capN p.2 := by
  unfold numD
  rw [if_neg (fun e => h e.1)]
theorem nF_step (mx : Bool) (ds : List Dir) (p : Dir) (k : List UInt8) (hk : (mx && k == freshN) = false) (hs : k ≠ staleN) : nF mx (ds ++ [p]) k = if (p.1 == k) = true then leastF (nF mx ds k) (capN p.2) else nF mx ds k := by
  cases h : p.1 == k with
  | true =>
    have e : p.1 = k := by simpa using h
    subst e
    rw [nF_hit mx ds p hk, numD_not p hs]
    rfl
  | false =>
    have e : p.1 ≠ k := by simpa using h
    rw [nF_miss mx ds p k e]
    rfl
theorem nF_stale (mx : Bool) (ds : List Dir) (p : Dir) : nF mx (ds ++ [p]) staleN = if (p.1 == staleN) = true then leastF (nF mx ds staleN) (if p.2 = [] then Top else capN p.2) else nF mx ds staleN := by
  cases h : p.1 == staleN with
  | true =>
    have e : p.1 = staleN := by simpa using h
    have e2 := nF_hit mx ds p (by rw [e]; cases mx <;> decide)
    rw [e] at e2
    rw [e2]
    show leastF _ _ = leastF _ _
    congr 1
    unfold numD
    by_cases h2 : p.2 = []
    · rw [if_pos ⟨e, h2⟩, if_pos h2]
    · rw [if_neg (fun x => h2 x.2), if_neg h2]
  | false =>
    have e : p.1 ≠ staleN := by simpa using h
    rw [nF_miss mx ds p _ e]
    rfl
theorem nF_fresh2 (ds : List Dir) (p : Dir) : nF true (ds ++ [p]) freshN = if (p.1 == freshN) = true then max (capN p.2 : Int) (nF true ds freshN) else nF true ds freshN := by
  cases h : p.1 == freshN with
  | true =>
    have e : p.1 = freshN := by simpa using h
    rw [nF_fresh ds p e, numD_not p (by rw [e]; decide)]
    rfl
  | false =>
    have e : p.1 ≠ freshN := by simpa using h
    rw [nF_miss true ds p _ e]
    rfl
theorem res_step (ds : List Dir) (p : Dir) : resD (ds ++ [p]) = ⟨(resD ds).ns || p.1 == noStoreN, (resD ds).nc || p.1 == noCacheN, (resD ds).pv || p.1 == privN, (resD ds).pb || p.1 == pubN, (resD ds).mu || p.1 == mustN || p.1 == proxN, false,
    if (p.1 == ageN) = true then leastF (resD ds).ma (capN p.2) else (resD ds).ma, if (p.1 == sharedN) = true then leastF (resD ds).sh (capN p.2) else (resD ds).sh, -1, -1⟩ := by
  unfold resD
  simp only [said_snoc, nF_step false ds p ageN rfl (by decide), nF_step false ds p sharedN rfl (by decide), Ctl.mk.injEq, true_and, and_true]
  cases saidB ds mustN <;> cases saidB ds proxN <;> cases p.1 == mustN <;> cases p.1 == proxN <;> rfl
/-- A request's, without what pragma says. -/
theorem req_step (ds : List Dir) (p : Dir) : reqD (ds ++ [p]) false = ⟨(reqD ds false).ns || p.1 == noStoreN, (reqD ds false).nc || p.1 == noCacheN, false, false, false, (reqD ds false).on || p.1 == onlyN,
    if (p.1 == ageN) = true then leastF (reqD ds false).ma (capN p.2) else (reqD ds false).ma, -1, if (p.1 == freshN) = true then max (capN p.2 : Int) (reqD ds false).mf else (reqD ds false).mf,
    if (p.1 == staleN) = true then leastF (reqD ds false).ms (if p.2 = [] then Top else capN p.2) else (reqD ds false).ms⟩ := by
  unfold reqD
  simp only [said_snoc, nF_step true ds p ageN rfl (by decide), nF_fresh2, nF_stale, Bool.or_false]
theorem req_old (ds : List Dir) (old : Bool) : reqD ds old = { reqD ds false with nc := (reqD ds false).nc || old } := by
  unfold reqD
  simp only [Bool.or_false]
theorem req_res_none : reqD [] false = ⟨false, false, false, false, false, false, -1, -1, -1, -1⟩ ∧ resD [] = ⟨false, false, false, false, false, false, -1, -1, -1, -1⟩ := ⟨rfl, rfl⟩

/-- A list of texts in blocks that do not turn. -/
theorem srcs_turn {w w' : World} {P S : Nat → Prop} {A : Option Addr} {ls : List (List UInt8)} (h : SrcS w P A ls) (ht : Turn S w w') (hP : ∀ k, P k → ¬ S k) : SrcS w' P A ls := fun h0 => by
  obtain ⟨ad, h1, h2, h3, h4⟩ := h h0
  refine ⟨ad, h1, h2, Nat.lt_of_lt_of_le h3 ht.size, fun i l hl => ?_⟩
  have e : (ad.add i).block = ad.block := by unfold Addr.add; split <;> rfl
  rw [ht.cell (by rw [e]; exact h3) (by rw [e]; exact hP _ h2), h4 i l hl]

/-! Controls compared. -/
theorem ctlGuard : Tryz.prog.eqGuardType Tryz.prog.depth 53 = false := by kernel_rfl
theorem ctlStruct : Tryz.prog.underlying 53 = some (.struct (Tryz.prog.fieldsOf 53)) := by kernel_rfl
theorem ctlHeld : Tryz.prog.stoodInHeld 53 = false := by kernel_rfl
theorem ctlSize : (Tryz.prog.info? 53).map (·.size) = some 10 := by kernel_rfl
/-- The cells of a Control, before anything is said. -/
def zeroL : List Value := [.bool false, .bool false, .bool false, .bool false, .bool false, .bool false, .int .i64 0, .int .i64 0, .int .i64 0, .int .i64 0]
def putC (w : World) (g : Nat) (c : Ctl) : World := ((((((((((w.setCell ⟨g, 0, none⟩ (.bool c.ns)).setCell ⟨g, 1, none⟩ (.bool c.nc)).setCell ⟨g, 2, none⟩ (.bool c.pv)).setCell ⟨g, 3, none⟩ (.bool c.pb)).setCell ⟨g, 4, none⟩ (.bool c.mu)).setCell ⟨g, 5, none⟩ (.bool c.on)).setCell ⟨g, 6, none⟩ (.int .i64 c.ma)).setCell ⟨g, 7, none⟩ (.int .i64 c.sh)).setCell ⟨g, 8, none⟩ (.int .i64 c.mf)).setCell ⟨g, 9, none⟩ (.int .i64 c.ms))
theorem putC_is {w : World} {g : Nat} (h : Is w g 53 zeroL) (c : Ctl) : Is (putC w g c) g 53 c.cells := ((((((((((h.set 0 _).set 1 _).set 2 _).set 3 _).set 4 _).set 5 _).set 6 _).set 7 _).set 8 _).set 9 _)
theorem putC_below {B g : Nat} {a w : World} (h : Below B a w) (hg : B ≤ g) (c : Ctl) : Below B a (putC w g c) := ((((((((((h.setCell hg _).setCell hg _).setCell hg _).setCell hg _).setCell hg _).setCell hg _).setCell hg _).setCell hg _).setCell hg _).setCell hg _)
end Go.Proofs.YtdcbcjljmjnopaaGreatDoor.Con
