/-
  How a request's and a response's Control come, directive by directive; the cells of a Control.
  Conditions: those that each theorem names.
-/
import Derived.Test.YtkccmjeabkfmdaaDoorEB
namespace Go.Proofs.YtkccmjeabkfmdaaDoor.Con
open Go.RowKit Hop

theorem numD_not (p : Dir) (h : p.1 ≠ staleN) : numD p = capN p.2 := by
  unfold numD
  rw [if_neg (fun e => h e.1)]
theorem nF_step (mx : Bool) (ds : List Dir) (p : Dir) (k : List UInt8) (hk : (mx && k == freshN) = false) (hs : k ≠ staleN) : nF mx (ds ++ [p]) k = if (p.1 == k) = true then leastF (nF mx ds k) (capN p.2) else nF mx ds k := by
  cases h : p.1 == k with
  | true =>
    have e : p.1 = k := by simpa using h
    subst e
    rw [nF_hit mx ds p hk, numD_not p hs]
    rfl
  | false =>
    have e : p.1 ≠ k := by simpa using h
    rw [nF_miss mx ds p k e]
    rfl
theorem nF_stale (mx : Bool) (ds : List Dir) (p : Dir) : nF mx (ds ++ [p]) staleN = if (p.1 == staleN) = true then leastF (nF mx ds staleN) (if p.2 = [] then Top else capN p.2) else nF mx ds staleN := by
  cases h : p.1 == staleN with
  | true =>
    have e : p.1 = staleN := by simpa using h
    have e2 := nF_hit mx ds p (by rw [e]; cases mx <;> decide)
    rw [e] at e2
    rw [e2]
    show leastF _ _ = leastF _ _
    congr 1
    unfold numD
    by_cases h2 : p.2 = []
    · rw [if_pos ⟨e, h2⟩, if_pos h2]
    · rw [if_neg (fun x => h2 x.2), if_neg h2]
  | false =>
    have e : p.1 ≠ staleN := by simpa using h
    rw [nF_miss mx ds p _ e]
    rfl
theorem nF_fresh2 (ds : List Dir) (p : Dir) : nF true (ds ++ [p]) freshN = if (p.1 == freshN) = true then max (capN p.2 : Int) (nF true ds freshN) else nF true ds freshN := by
  cases h : p.1 == freshN with
  | true =>
    have e : p.1 = freshN := by simpa using h
    rw [nF_fresh ds p e, numD_not p (by rw [e]; decide)]
    rfl
  | false =>
    have e : p.1 ≠ freshN := by simpa using h
    rw [nF_miss true ds p _ e]
    rfl
theorem res_step (ds : List Dir) (p : Dir) : resD (ds ++ [p]) = ⟨(resD ds).ns || p.1 == noStoreN, (resD ds).nc || p.1 == noCacheN, (resD ds).pv || p.1 == privN, (resD ds).pb || p.1 == pubN, (resD ds).mu || p.1 == mustN || p.1 == proxN, false,
    if (p.1 == ageN) = true then leastF (resD ds).ma (capN p.2) else (resD ds).ma, if (p.1 == sharedN) = true then leastF (resD ds).sh (capN p.2) else (resD ds).sh, -1, -1⟩ := by
  unfold resD
  simp only [said_snoc, nF_step false ds p ageN rfl (by decide), nF_step false ds p sharedN rfl (by decide), Ctl.mk.injEq, true_and, and_true]
  cases saidB ds mustN <;> cases saidB ds proxN <;> cases p.1 == mustN <;> cases p.1 == proxN <;> rfl
/-- A request's, without what pragma says. -/
theorem req_step (ds : List Dir) (p : Dir) : reqD (ds ++ [p]) false = ⟨(reqD ds false).ns || p.1 == noStoreN, (reqD ds false).nc || p.1 == noCacheN, false, false, false, (reqD ds false).on || p.1 == onlyN,
    if (p.1 == ageN) = true then leastF (reqD ds false).ma (capN p.2) else (reqD ds false).ma, -1, if (p.1 == freshN) = true then max (capN p.2 : Int) (reqD ds false).mf else (reqD ds false).mf,
    if (p.1 == staleN) = true then leastF (reqD ds false).ms (if p.2 = [] then Top else capN p.2) else (reqD ds false).ms⟩ := by
  unfold reqD
  simp only [said_snoc, nF_step true ds p ageN rfl (by decide), nF_fresh2, nF_stale, Bool.or_false]
theorem req_old (ds : List Dir) (old : Bool) : reqD ds old = { reqD ds false with nc := (reqD ds false).nc || old } := by
  unfold reqD
  simp only [Bool.or_false]
theorem req_res_none : reqD [] false = ⟨false, false, false, false, false, false, -1, -1, -1, -1⟩ ∧ resD [] = ⟨false, false, false, false, false, false, -1, -1, -1, -1⟩ := ⟨rfl, rfl⟩

/-- A list of texts in blocks that do not turn. -/
theorem srcs_turn {w w' : World} {P S : Nat → Prop} {A : Option Addr} {ls : List (List UInt8)} (h : SrcS w P A ls) (ht : Turn S w w') (hP : ∀ k, P k → ¬ S k) : SrcS w' P A ls := fun h0 => by
  obtain ⟨ad, h1, h2, h3, h4⟩ := h h0
  refine ⟨ad, h1, h2, Nat.lt_of_lt_of_le h3 ht.size, fun i l hl => ?_⟩
  have e : (ad.add i).block = ad.block := by unfold Addr.add; split <;> rfl
  rw [ht.cell (by rw [e]; exact h3) (by rw [e]; exact hP _ h2), h4 i l hl]

/-! Controls compared. -/
theorem ctlGuard : Tryd.prog.eqGuardType Tryd.prog.depth 24 = false := by kernel_rfl
theorem ctlStruct : Tryd.prog.underlying 24 = some (.struct (Tryd.prog.fieldsOf 24)) := by kernel_rfl
theorem ctlHeld : Tryd.prog.stoodInHeld 24 = false := by kernel_rfl
theorem ctlSize : (Tryd.prog.info? 24).map (·.size) = some 10 := by kernel_rfl
/-- The cells of a Control, before anything is said. -/
def zeroL : List Value := [.bool false, .bool false, .bool false, .bool false, .bool false, .bool false, .int .i64 0, .int .i64 0, .int .i64 0, .int .i64 0]
def putC (w : World) (g : Nat) (c : Ctl) : World := ((((((((((w.setCell ⟨g, 0, none⟩ (.bool c.ns)).setCell ⟨g, 1, none⟩ (.bool c.nc)).setCell ⟨g, 2, none⟩ (.bool c.pv)).setCell ⟨g, 3, none⟩ (.bool c.pb)).setCell ⟨g, 4, none⟩ (.bool c.mu)).setCell ⟨g, 5, none⟩ (.bool c.on)).setCell ⟨g, 6, none⟩ (.int .i64 c.ma)).setCell ⟨g, 7, none⟩ (.int .i64 c.sh)).setCell ⟨g, 8, none⟩ (.int .i64 c.mf)).setCell ⟨g, 9, none⟩ (.int .i64 c.ms))
theorem putC_is {w : World} {g : Nat} (h : Is w g 24 zeroL) (c : Ctl) : Is (putC w g c) g 24 c.cells := ((((((((((h.set 0 _).set 1 _).set 2 _).set 3 _).set 4 _).set 5 _).set 6 _).set 7 _).set 8 _).set 9 _)
theorem putC_below {B g : Nat} {a w : World} (h : Below B a w) (hg : B ≤ g) (c : Ctl) : Below B a (putC w g c) := ((((((((((h.setCell hg _).setCell hg _).setCell hg _).setCell hg _).setCell hg _).setCell hg _).setCell hg _).setCell hg _).setCell hg _).setCell hg _)
end Go.Proofs.YtkccmjeabkfmdaaDoor.Con
