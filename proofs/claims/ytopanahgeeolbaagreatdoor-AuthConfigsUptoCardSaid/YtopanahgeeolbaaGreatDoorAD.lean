/-
  What package acl's Matches, Admits do.
  Conditions: the rules' Methods lie in memory.
-/
import Derived.Test.YtopanahgeeolbaaGreatDoorAC
namespace Go.Proofs.YtopanahgeeolbaaGreatDoor.Acl
open Go.RowKit

theorem Ok.box {w : World} {r : RuE} : Is (w.alloc (.cells #[.bool r.al, .string r.h, .int .i64 r.lo, .int .i64 r.hi, .slice r.A r.n r.c] 51)) w.heap.size 51 r.cells := Is.made w 51 r.cells
theorem is_below {w w' : World} {g : Nat} {t : TypeId} {l : List Value} (h : Is w g t l) (hb : Below w.heap.size w w') : Is w' g t l := h.kept (Turn.of_below (S := fun _ => False) hb) (fun h => h)


/-! ## Admits -/
theorem admit_none {L : List RuE} {h : List UInt8} {p : Int} {m : List UInt8} (hn : L.any (matchF h p m) = false) : admitF L h p m = false := by
  unfold admitF
  rw [List.find?_eq_none.2 (fun x hx => by
    have := List.any_eq_false.1 hn x hx
    simpa using this)]
theorem admit_hit {L : List RuE} {h : List UInt8} {p : Int} {m : List UInt8} {k : Nat} {r : RuE} (hn : (L.take k).any (matchF h p m) = false) (hr : L[k]? = some r) (hm : matchF h p m r = true) : admitF L h p m = r.al := by
  have hs : L = L.take k ++ (r :: L.drop (k + 1)) := by
    obtain ⟨hk, rfl⟩ := List.getElem?_eq_some_iff.1 hr
    rw [List.getElem_cons_drop, List.take_append_drop]
  unfold admitF
  rw [hs, List.find?_append, List.find?_eq_none.2 (fun x hx => by
    have := List.any_eq_false.1 hn x hx
    simpa using this), List.find?_cons_of_pos (by simpa using hm)]
  rfl
end Go.Proofs.YtopanahgeeolbaaGreatDoor.Acl
