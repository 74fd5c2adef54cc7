/-
  Plain mathematics of layer 12: directives, their numbers, what a request's and a response's fields say.
  Conditions: those that each theorem names.
-/
import Derived.Test.YtdcbcjljmjnopaaGreatDoorVA
import Derived.Test.YtdcbcjljmjnopaaGreatDoorRF
import Derived.Test.YtdcbcjljmjnopaaGreatDoorNA
namespace Go.Proofs.YtdcbcjljmjnopaaGreatDoor.Con
open Go.RowKit Hop

def ccN : List UInt8 := [99, 97, 99, 104, 101, 45, 99, 111, 110, 116, 114, 111, 108]
def prN : List UInt8 := [112, 114, 97, 103, 109, 97]
def noStoreN : List UInt8 := [110, 111, 45, 115, 116, 111, 114, 101]
def noCacheN : List UInt8 := [110, 111, 45, 99, 97, 99, 104, 101]
def onlyN : List UInt8 := [111, 110, 108, 121, 45, 105, 102, 45, 99, 97, 99, 104, 101, 100]
def privN : List UInt8 := [112, 114, 105, 118, 97, 116, 101]
def pubN : List UInt8 := [112, 117, 98, 108, 105, 99]
def mustN : List UInt8 := [109, 117, 115, 116, 45, 114, 101, 118, 97, 108, 105, 100, 97, 116, 101]
def proxN : List UInt8 := [112, 114, 111, 120, 121, 45, 114, 101, 118, 97, 108, 105, 100, 97, 116, 101]
def ageN : List UInt8 := [109, 97, 120, 45, 97, 103, 101]
def sharedN : List UInt8 := [115, 45, 109, 97, 120, 97, 103, 101]
def freshN : List UInt8 := [109, 105, 110, 45, 102, 114, 101, 115, 104]
def staleN : List UInt8 := [109, 97, 120, 45, 115, 116, 97, 108, 101]
def Top : Nat := 2147483647
abbrev Dir := List UInt8 × List UInt8
/-- The directives among elements. -/
def dirsF (es : List (List UInt8)) : List Dir := es.filterMap pairF
/-- A value's number. -/
def capN (v : List UInt8) : Nat := if v = [] then 0 else if v.all (digB 10) = true then min (valF 10 v) Top else 0
def numD (p : Dir) : Nat := if p.1 = staleN ∧ p.2 = [] then Top else capN p.2
/-- Of two numbers of one name, which one counts; mx: of min-fresh the greater one. -/
def pickO (mx : Bool) (k : List UInt8) (a b : Nat) : Nat := if (mx && k == freshN) = true then max a b else min a b
def joinO (mx : Bool) (k : List UInt8) (n : Nat) : Option Nat → Nat
  | none => n
  | some o => pickO mx k n o
def sayStep (mx : Bool) (k : List UInt8) (acc : Option Nat) (p : Dir) : Option Nat := if (p.1 == k) = true then some (joinO mx k (numD p) acc) else acc
def sayF (mx : Bool) (ds : List Dir) (k : List UInt8) : Option Nat := ds.foldl (sayStep mx k) none
def saidB (ds : List Dir) (k : List UInt8) : Bool := ds.any fun p => p.1 == k
def intO : Option Nat → Int
  | none => -1
  | some n => (n : Int)
def nF (mx : Bool) (ds : List Dir) (k : List UInt8) : Int := intO (sayF mx ds k)
def contB (ls : List Fld) : Bool := ls.any fun f => lowF f.1 == ccN
def pragB (es : List (List UInt8)) : Bool := es.any fun x => lowF x == noCacheN
/-- What Control has. -/
structure Ctl where
  ns : Bool
  nc : Bool
  pv : Bool
  pb : Bool
  mu : Bool
  on : Bool
  ma : Int
  sh : Int
  mf : Int
  ms : Int
  deriving DecidableEq
def Ctl.cells (c : Ctl) : List Value := [.bool c.ns, .bool c.nc, .bool c.pv, .bool c.pb, .bool c.mu, .bool c.on, .int .i64 c.ma, .int .i64 c.sh, .int .i64 c.mf, .int .i64 c.ms]
def Ctl.v (c : Ctl) : Value := .agg c.cells.toArray
def reqD (ds : List Dir) (old : Bool) : Ctl := ⟨saidB ds noStoreN, saidB ds noCacheN || old, false, false, false, saidB ds onlyN, nF true ds ageN, -1, nF true ds freshN, nF true ds staleN⟩
def resD (ds : List Dir) : Ctl := ⟨saidB ds noStoreN, saidB ds noCacheN, saidB ds privN, saidB ds pubN, saidB ds mustN || saidB ds proxN, false, nF false ds ageN, nF false ds sharedN, -1, -1⟩
def oldB (ls : List Fld) : Bool := !contB ls && pragB (elemF ls prN)
def requestF (ls : List Fld) : Ctl := reqD (dirsF (elemF ls ccN)) (oldB ls)
def responseF (ls : List Fld) : Ctl := resD (dirsF (elemF ls ccN))

theorem dirs_app (a b : List (List UInt8)) : dirsF (a ++ b) = dirsF a ++ dirsF b := by simp [dirsF]
theorem dirs_none (es : List (List UInt8)) (k : Nat) (e : List UInt8) (h : es[k]? = some e) (hp : pairF e = none) : dirsF (es.take (k + 1)) = dirsF (es.take k) := by
  rw [take_snoc es k e h, dirs_app]
  simp [dirsF, hp]
theorem dirs_some (es : List (List UInt8)) (k : Nat) (e : List UInt8) (p : Dir) (h : es[k]? = some e) (hp : pairF e = some p) : dirsF (es.take (k + 1)) = dirsF (es.take k) ++ [p] := by
  rw [take_snoc es k e h, dirs_app]
  simp [dirsF, hp]
theorem say_snoc (mx : Bool) (ds : List Dir) (p : Dir) (k : List UInt8) : sayF mx (ds ++ [p]) k = sayStep mx k (sayF mx ds k) p := by simp [sayF]
theorem said_snoc (ds : List Dir) (p : Dir) (k : List UInt8) : saidB (ds ++ [p]) k = (saidB ds k || p.1 == k) := by simp [saidB]
theorem say_hit (mx : Bool) (ds : List Dir) (p : Dir) : sayF mx (ds ++ [p]) p.1 = some (joinO mx p.1 (numD p) (sayF mx ds p.1)) := by
  rw [say_snoc, sayStep, if_pos (by simp)]
theorem say_miss (mx : Bool) (ds : List Dir) (p : Dir) (k : List UInt8) (h : p.1 ≠ k) : sayF mx (ds ++ [p]) k = sayF mx ds k := by
  rw [say_snoc, sayStep, if_neg (by simpa using h)]
theorem say_some (mx : Bool) (k : List UInt8) : ∀ (ds : List Dir) (acc : Option Nat), (ds.foldl (sayStep mx k) acc).isSome = (acc.isSome || saidB ds k)
  | [], acc => by simp [saidB]
  | p :: r, acc => by
    rw [List.foldl_cons, say_some mx k r]
    unfold sayStep saidB
    rw [List.any_cons]
    cases hk : p.1 == k
    · simp
    · simp
theorem say_is (mx : Bool) (ds : List Dir) (k : List UInt8) : (sayF mx ds k).isSome = saidB ds k := by
  unfold sayF
  rw [say_some]
  rfl
theorem capN_le (v : List UInt8) : capN v ≤ Top := by
  unfold capN
  split
  · exact Nat.zero_le _
  · split
    · exact Nat.min_le_right _ _
    · exact Nat.zero_le _
theorem numD_le (p : Dir) : numD p ≤ Top := by
  unfold numD
  split
  · exact Nat.le_refl _
  · exact capN_le _
theorem pickO_le (mx : Bool) (k : List UInt8) (a b : Nat) (ha : a ≤ Top) (hb : b ≤ Top) : pickO mx k a b ≤ Top := by
  unfold pickO
  split <;> omega
theorem say_top (mx : Bool) (k : List UInt8) : ∀ (ds : List Dir) (acc : Option Nat), (∀ n, acc = some n → n ≤ Top) → ∀ n, ds.foldl (sayStep mx k) acc = some n → n ≤ Top
  | [], acc, h, n, hn => h n hn
  | p :: r, acc, h, n, hn => by
    refine say_top mx k r (sayStep mx k acc p) (fun m hm => ?_) n hn
    unfold sayStep at hm
    split at hm
    · injection hm with hm
      subst hm
      cases acc with
      | none => exact numD_le p
      | some o => exact pickO_le _ _ _ _ (numD_le p) (h o rfl)
    · exact h m hm
theorem sayF_top (mx : Bool) (ds : List Dir) (k : List UInt8) (n : Nat) (h : sayF mx ds k = some n) : n ≤ Top := say_top mx k ds none (fun _ h => by cases h) n h
theorem nF_range (mx : Bool) (ds : List Dir) (k : List UInt8) : -1 ≤ nF mx ds k ∧ nF mx ds k ≤ 2147483647 := by
  unfold nF
  cases h : sayF mx ds k with
  | none => exact ⟨by simp [intO], by simp [intO]⟩
  | some n =>
    have := sayF_top mx ds k n h
    simp only [intO, Top] at *
    omega

/-! The document's own way. -/
def leastF (was n : Int) : Int := if was < 0 ∨ n < was then n else was
theorem least_some (o n : Nat) : leastF (o : Int) (n : Int) = ((min n o : Nat) : Int) := by
  unfold leastF
  split <;> omega
theorem nF_hit (mx : Bool) (ds : List Dir) (p : Dir) (h : (mx && p.1 == freshN) = false) : nF mx (ds ++ [p]) p.1 = leastF (nF mx ds p.1) (numD p) := by
  unfold nF
  rw [say_hit]
  cases sayF mx ds p.1 with
  | none => rfl
  | some o =>
    show intO (some (pickO mx p.1 (numD p) o)) = leastF (o : Int) (numD p)
    rw [least_some]
    unfold pickO
    rw [h]
    rfl
theorem nF_miss (mx : Bool) (ds : List Dir) (p : Dir) (k : List UInt8) (h : p.1 ≠ k) : nF mx (ds ++ [p]) k = nF mx ds k := by
  unfold nF
  rw [say_miss mx ds p k h]
theorem nF_fresh (ds : List Dir) (p : Dir) (h : p.1 = freshN) : nF true (ds ++ [p]) freshN = max (numD p : Int) (nF true ds freshN) := by
  have e := say_hit true ds p
  rw [h] at e
  unfold nF
  rw [e]
  cases sayF true ds freshN with
  | none =>
    simp only [joinO, intO]
    omega
  | some o =>
    simp only [joinO, pickO, intO]
    simp only [Bool.true_and, beq_self_eq_true, if_true]
    omega
end Go.Proofs.YtdcbcjljmjnopaaGreatDoor.Con
