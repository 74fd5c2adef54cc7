/-
  Plain mathematics of layer 7: what lengths and codings say, kinds of bodies.
  Conditions: those that each theorem names.
-/
import Derived.Test.YtcpohdejdiljnaaDoorNA
import Derived.Test.YtcpohdejdiljnaaDoorHE
import Derived.Test.YtcpohdejdiljnaaDoorRE
namespace Go.Proofs.YtcpohdejdiljnaaDoor
open Go.RowKit

def lenN : List UInt8 := [99, 111, 110, 116, 101, 110, 116, 45, 108, 101, 110, 103, 116, 104]
def codN : List UInt8 := [116, 114, 97, 110, 115, 102, 101, 114, 45, 101, 110, 99, 111, 100, 105, 110, 103]
def chkN : List UInt8 := [99, 104, 117, 110, 107, 101, 100]
def isChk (x : List UInt8) : Bool := lowF x == lowF chkN
/-- All elements of values. -/
def elsF (vs : List (List UInt8)) : List (List UInt8) := vs.flatMap listF
theorem elsF_snoc (vs : List (List UInt8)) (v : List UInt8) : elsF (vs ++ [v]) = elsF vs ++ listF v := by simp [elsF]
/-- What a length says: its number, its text, if that is too long, and the error. -/
abbrev Sd := Nat × List UInt8 × Nat
def rdF (x : List UInt8) : Sd := if (readF 10 x).2 = 3 then (0, x, 3) else ((readF 10 x).1, [], (readF 10 x).2)
def firstF : List (List UInt8) → Sd
  | [] => (0, [], 0)
  | x :: _ => rdF x
def okL (p : Sd) (y : List UInt8) : Bool := rdF y == p && (rdF y).2.2 != 5
def sureL (xs : List (List UInt8)) : Bool := xs.all (okL (firstF xs))
theorem firstF_snoc (xs : List (List UInt8)) (x : List UInt8) : firstF (xs ++ [x]) = if xs.length = 0 then rdF x else firstF xs := by
  cases xs <;> simp [firstF]
theorem sureL_snoc (xs : List (List UInt8)) (x : List UInt8) : sureL (xs ++ [x]) = (sureL xs && okL (firstF (xs ++ [x])) x) := by
  cases xs with
  | nil => simp [sureL]
  | cons y xs => simp [sureL, firstF, Bool.and_assoc]
abbrev Kd := Nat × Nat × Nat
def codF (minor : Int) (cs : List (List UInt8)) : Kd := if cs.length = 1 ∧ (minor = 1 ∧ cs.all isChk = true) then (2, 0, 0) else (0, 0, 22)
def lenF (xs : List (List UInt8)) : Kd :=
  if xs.length = 0 ∨ sureL xs = false then (0, 0, 22) else if (firstF xs).2.2 = 3 ∨ 4096 < (firstF xs).1 then (0, 0, 21) else (1, (firstF xs).1, 0)
/-- What a request is. -/
def reqK (minor : Int) (ls : List Fld) : Kd :=
  if minor ≠ 0 ∧ minor ≠ 1 then (0, 0, 1)
  else if getF ls lenN ≠ [] ∧ getF ls codN ≠ [] then (0, 0, 22)
  else if getF ls codN ≠ [] then codF minor (elsF (getF ls codN))
  else if getF ls lenN ≠ [] then lenF (elsF (getF ls lenN))
  else (0, 0, 0)
def bodyF (status : Int) (m : List UInt8) : Bool :=
  if m = [72, 69, 65, 68] ∨ status < 200 ∨ status = 204 ∨ status = 304 then false else (m != [67, 79, 78, 78, 69, 67, 84]) || decide (300 ≤ status)
/-- What a response is, by what a request with its fields is. -/
def resK (status : Int) (m : List UInt8) (p : Kd) : Kd :=
  if status < 100 ∨ 599 < status then (0, 0, 1)
  else if p.2.2 = 1 ∨ p.2.2 = 22 then (0, 0, p.2.2)
  else if bodyF status m = false then (0, 0, 0)
  else if p.2.2 = 0 ∧ p.1 = 0 then (3, 0, 0)
  else p
/-- What is told: a kind, a number, an error. -/
def kdV (p : Kd) : Value := .tuple #[.int .i64 (p.1 : Int), .int .u64 (p.2.1 : Int), .int .i64 (p.2.2 : Int)]
def Tells (p : Kd) (w : World) (e : Ending) (w' : World) : Prop := e = .returned (kdV p) ∧ Below w.heap.size w w'

theorem readF_cases (x : List UInt8) : (readF 10 x = (0, 5)) ∨ (readF 10 x = (0, 3)) ∨ (∃ n, n ≤ Most ∧ readF 10 x = (n, 0)) := by
  unfold readF
  split
  · exact .inl rfl
  · split
    · split
      · exact .inr (.inr ⟨_, by assumption, rfl⟩)
      · exact .inr (.inl rfl)
    · exact .inl rfl
theorem rdF_cases (x : List UInt8) : rdF x = (0, [], 5) ∨ rdF x = (0, x, 3) ∨ ∃ n, n ≤ Most ∧ rdF x = (n, [], 0) := by
  unfold rdF
  rcases readF_cases x with h | h | ⟨n, hn, h⟩
  · left; simp [h]
  · right; left; simp [h]
  · right; right; exact ⟨n, hn, by simp [h]⟩
theorem firstF_small (xs : List (List UInt8)) : (firstF xs).1 ≤ Most := by
  cases xs with
  | nil => simp [firstF]
  | cons x xs =>
    show (rdF x).1 ≤ Most
    rcases rdF_cases x with h | h | ⟨n, hn, h⟩ <;> rw [h]
    · simp
    · simp
    · exact hn
end Go.Proofs.YtcpohdejdiljnaaDoor
