/-
  What the document's own Admits, May, All answer.
  Conditions: those that each theorem names.
-/
import Derived.Test.YtopanahgeeolbaaGreatDoorAF
import Derived.Test.YtopanahgeeolbaaGreatDoorYU
namespace Go.Proofs.YtopanahgeeolbaaGreatDoor.Acl
open Go.RowKit

/-- What the document's own walks ask of a rule's size. -/
structure RuE.Small (r : RuE) : Prop where
  h : r.h.size ≤ 4000000
  n : r.n ≤ 4000000
  ms : ∀ x ∈ r.ms, x.length ≤ 4000000
end Go.Proofs.YtopanahgeeolbaaGreatDoor.Acl
