/-
  What the reference's Put answers.
  Conditions: those that each theorem names.
-/
import Derived.Test.YtinibacmhmmcdaaDoorHF
import Derived.Test.YtinibacmhmmcdaaDoorUD
namespace Go.Proofs.YtinibacmhmmcdaaDoor
open Go.RowKit

/-- The plain lines of fields; their bytes. -/
def linesF (ls : List Fld) : List UInt8 := ls.flatMap fun f => f.1 ++ ([58, 32] ++ (f.2 ++ [13, 10]))
def putF (ls : List Fld) : Option (List UInt8) := if mayF ls = true then some (linesF ls ++ [13, 10]) else none
theorem linesF_snoc (ls : List Fld) (f : Fld) : linesF (ls ++ [f]) = linesF ls ++ (f.1 ++ ([58, 32] ++ (f.2 ++ [13, 10]))) := by simp [linesF]
theorem linesF_length (ls : List Fld) : (linesF ls).length + 2 = sumL ls := by
  unfold linesF sumL lineL
  induction ls with
  | nil => rfl
  | cons f r ih =>
    simp only [List.flatMap_cons, List.length_append, List.map_cons, List.sum_cons, List.length_cons, List.length_nil] at ih ⊢
    omega
theorem may_facts (ls : List Fld) (h : mayF ls = true) : ls.length ≤ 32 ∧ (∀ f ∈ ls, lineOk f = true) ∧ sumL ls ≤ 2048 := by
  unfold mayF at h
  simp only [Bool.and_eq_true, decide_eq_true_eq, List.all_eq_true] at h
  exact h
/-- What Put tells: nil and ErrArg; or bytes in new memory. -/
def PutGot (r : Option (List UInt8)) (w : World) (e : Ending) (w' : World) : Prop :=
  Below w.heap.size w w' ∧ match r with
    | none => e = .returned (.tuple #[.slice none 0 0, .int .i64 1])
    | some l => ∃ g cap, e = .returned (.tuple #[.slice (some ⟨g, 0, none⟩) l.length cap, .int .i64 0]) ∧ Row w' g l ∧ w.heap.size ≤ g

end Go.Proofs.YtinibacmhmmcdaaDoor
