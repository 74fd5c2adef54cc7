/-
  Package head's Drop and With.
  Conditions: those that each theorem names.
-/
import Derived.Test.YtkccmjeabkfmdaaDoorKF
namespace Go.Proofs.YtkccmjeabkfmdaaDoor
open Go.RowKit





end Go.Proofs.YtkccmjeabkfmdaaDoor
