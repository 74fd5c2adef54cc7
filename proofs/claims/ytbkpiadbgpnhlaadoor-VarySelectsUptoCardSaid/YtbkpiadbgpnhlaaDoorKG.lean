/-
  Package head's Drop and With.
  Conditions: those that each theorem names.
-/
import Derived.Test.YtbkpiadbgpnhlaaDoorKF
namespace Go.Proofs.YtbkpiadbgpnhlaaDoor
open Go.RowKit





end Go.Proofs.YtbkpiadbgpnhlaaDoor
