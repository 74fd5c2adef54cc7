/-
  Package head's calls, all in one word; and the law's rows.
  Conditions: those that each theorem names.
-/
import Derived.Test.YtdggfonbjhejoaaDoorKG
import Derived.Test.YtdggfonbjhejoaaDoorKC
import Derived.Test.YtdggfonbjhejoaaDoorHR
namespace Go.Proofs.YtdggfonbjhejoaaDoor
open Go.RowKit

theorem head_c : HeadC where
  may w A ls n c hn hmax h hs := may_any w A ls n c hn (by omega) h hs
  put w A ls n c hn hmax h hs := put_any w A ls n c hn (by omega) h hs
  parse w A bs n c hn hnc hmax h := parse_any w A bs n c hn hnc hmax h
  get w A ls n c hn hmax h hs nm _ := get_any w A ls n c hn (by omega) h hs nm
  drop w A A' ls names n c q c' hn hq hmax hqm h h' hs _ := drop_any w A A' ls names n c q c' hn hq (by omega) hqm h h' hs
  with_ w A ls n c hn hmax h hs nm v hnm hv := with_any w A ls n c hn (by omega) h hs nm v hnm hv
theorem wakes_any (w : World) : Calls Tryd.prog 12 #[] w fun e w' => e = .returned (.bool true) ∧ Below w.heap.size w w' := wakes_head head_c w
end Go.Proofs.YtdggfonbjhejoaaDoor
