/-
  Plain mathematics of layer 17: the one field of a name, moments, lives, ages, and what follows as time goes on.
  Conditions: those that each theorem names.
-/
import Derived.Test.YtdcbcjljmjnopaaGreatDoorEA
import Derived.Test.YtdcbcjljmjnopaaGreatDoorDI
namespace Go.Proofs.YtdcbcjljmjnopaaGreatDoor.Fre
open Go.RowKit Hop Con

def dateN : List UInt8 := [100, 97, 116, 101]
def expN : List UInt8 := [101, 120, 112, 105, 114, 101, 115]
def chgN : List UInt8 := [108, 97, 115, 116, 45, 109, 111, 100, 105, 102, 105, 101, 100]
def oldN : List UInt8 := [97, 103, 101]
def M31 : Nat := 2147483648
def MS : Nat := 2147483648000
/-- The Value of the one field of a name. -/
def soleF (l : List (List UInt8)) : List UInt8 := match l with
  | [x] => x
  | _ => []
def oneF (ls : List Fld) (nm : List UInt8) : List UInt8 := soleF (getF ls nm)
/-- What a text says as a moment. -/
def sayM (x : List UInt8) : Nat × Nat := parseF ⟨x.toArray⟩
def momentF (ls : List Fld) (nm : List UInt8) : Nat × Bool := ((sayM (oneF ls nm)).1, (sayM (oneF ls nm)).2 == 0)
/-- What a text says as an age. -/
def sayA (x : List UInt8) : Nat := if (readF 10 x).2 = 3 then M31 else min (readF 10 x).1 M31
def toldF (ls : List Fld) : Nat := sayA (oneF ls oldN)
def untilF (b e : Nat) : Nat := min (e - b) MS
def spanF (ls : List Fld) (b e : List UInt8) : Nat := if (momentF ls b).2 = true ∧ (momentF ls e).2 = true then untilF (momentF ls b).1 (momentF ls e).1 else 0
def livesB (st : Int) : Bool := [200, 203, 204, 300, 301, 308, 404, 405, 410, 414, 501].any fun k => st == k
/-- How long a response lives, and whether it says so. -/
def lifeF (st : Int) (ls : List Fld) : Int × Bool :=
  if 0 ≤ (responseF ls).sh then ((responseF ls).sh, true)
  else if 0 ≤ (responseF ls).ma then ((responseF ls).ma, true)
  else if 0 < (getF ls expN).length then (((min (spanF ls dateN expN) M31 : Nat) : Int), true)
  else if livesB st = true then (((min (spanF ls chgN dateN / 10) 86400 : Nat) : Int), false)
  else (0, false)
/-- Its age when it came, in milliseconds. -/
def birthF (ls : List Fld) (asked came : Nat) : Nat := max (toldF ls * 1000 + untilF asked came) (if (momentF ls dateN).2 = true then untilF ((momentF ls dateN).1 * 1000) came else 0)
def ageOf (birth came now : Nat) : Nat := min ((birth + untilF came now) / 1000) M31
def ageF (ls : List Fld) (asked came now : Nat) : Nat := ageOf (birthF ls asked came) came now
def freshB (st : Int) (ls : List Fld) (asked came now : Nat) : Bool := decide ((ageF ls asked came now : Int) < (lifeF st ls).1)

theorem sayM_cases (x : List UInt8) : (sayM x).2 = 0 ∧ (sayM x).1 ≤ LastN ∨ sayM x = (0, 5) := by
  unfold sayM parseF
  split
  · rename_i h
    exact .inl ⟨rfl, h.2.1⟩
  · exact .inr rfl
theorem sayM_le (x : List UInt8) : (sayM x).1 ≤ LastN := by
  rcases sayM_cases x with h | h
  · exact h.2
  · rw [h]
    exact Nat.zero_le _
theorem sayM_nil : sayM [] = (0, 5) := by
  unfold sayM parseF
  rw [if_neg]
  intro h
  have h1 : (0 : Nat) = 29 := h.1
  omega
theorem sayA_nil : sayA [] = 0 := by decide
theorem sayA_le (x : List UInt8) : sayA x ≤ M31 := by
  unfold sayA
  split
  · exact Nat.le_refl _
  · exact Nat.min_le_right _ _
theorem read_cases (l : List UInt8) : (readF 10 l).2 = 0 ∨ (readF 10 l).2 = 3 ∨ readF 10 l = (0, 5) := by
  unfold readF
  repeat' split
  all_goals simp
theorem moment_le (ls : List Fld) (nm : List UInt8) : (momentF ls nm).1 ≤ LastN := sayM_le _
theorem told_le (ls : List Fld) : toldF ls ≤ M31 := sayA_le _
theorem until_le (b e : Nat) : untilF b e ≤ MS := Nat.min_le_right _ _
theorem birth_le (ls : List Fld) (a c : Nat) : birthF ls a c ≤ 2 * MS := by
  have h1 := told_le ls
  have h2 := until_le a c
  have h3 := until_le ((momentF ls dateN).1 * 1000) c
  unfold birthF
  unfold M31 at h1
  unfold MS at *
  split <;> omega
theorem span_le (ls : List Fld) (b e : List UInt8) : spanF ls b e ≤ LastN := by
  unfold spanF untilF
  have := moment_le ls e
  unfold LastN at *
  split <;> omega
theorem age_le (ls : List Fld) (a c n : Nat) : ageF ls a c n ≤ M31 := Nat.min_le_right _ _
theorem res_range (ls : List Fld) : (responseF ls).sh ≤ 2147483647 ∧ (responseF ls).ma ≤ 2147483647 := ⟨(nF_range _ _ _).2, (nF_range _ _ _).2⟩
theorem life_range (st : Int) (ls : List Fld) : 0 ≤ (lifeF st ls).1 ∧ (lifeF st ls).1 ≤ 2147483648 := by
  have h1 := res_range ls
  unfold lifeF
  repeat' split
  · rename_i h; exact ⟨h, by show (responseF ls).sh ≤ _; omega⟩
  · rename_i h _; exact ⟨by assumption, by show (responseF ls).ma ≤ _; omega⟩
  · refine ⟨by show (0 : Int) ≤ (_ : Nat); omega, ?_⟩
    show ((min (spanF ls dateN expN) M31 : Nat) : Int) ≤ _
    unfold M31
    omega
  · refine ⟨by show (0 : Int) ≤ (_ : Nat); omega, ?_⟩
    show ((min (spanF ls chgN dateN / 10) 86400 : Nat) : Int) ≤ _
    omega
  · exact ⟨by show (0 : Int) ≤ 0; omega, by show (0 : Int) ≤ _; omega⟩

/-! As time goes on. -/
theorem until_mono (c : Nat) {n m : Nat} (h : n ≤ m) : untilF c n ≤ untilF c m := by
  unfold untilF
  omega
theorem age_mono (b c : Nat) {n m : Nat} (h : n ≤ m) : ageOf b c n ≤ ageOf b c m := by
  have := until_mono c h
  unfold ageOf
  omega
theorem age_grows (b c now wait : Nat) (hc : c ≤ now) (h : ageOf b c (now + wait) < M31) :
    ageOf b c now + wait / 1000 ≤ ageOf b c (now + wait) ∧ ageOf b c (now + wait) ≤ ageOf b c now + wait / 1000 + 1 ∧ (wait % 1000 = 0 → ageOf b c (now + wait) = ageOf b c now + wait / 1000) := by
  unfold ageOf untilF M31 MS at *
  have h1 : (b + min (now + wait - c) 2147483648000) / 1000 < 2147483648 := by omega
  have h2 : now + wait - c < 2147483648000 := by omega
  have e1 : min (now + wait - c) 2147483648000 = now - c + wait := by omega
  have e2 : min (now - c) 2147483648000 = now - c := by omega
  rw [e1] at h h1 ⊢
  rw [e2]
  refine ⟨by omega, by omega, fun hw => by omega⟩
theorem age_here (ls : List Fld) (a c now : Nat) (hc : c ≤ now) : min ((now - c + (c - a)) / 1000) M31 ≤ ageF ls a c now := by
  have : toldF ls * 1000 + untilF a c ≤ birthF ls a c := Nat.le_max_left _ _
  unfold ageF ageOf
  generalize birthF ls a c = b at *
  generalize toldF ls = t at *
  unfold untilF M31 MS at *
  omega
end Go.Proofs.YtdcbcjljmjnopaaGreatDoor.Fre
