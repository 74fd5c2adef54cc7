/-
  The table that package start's laws read holds what is listed.
  Conditions: those that the theorem names.
-/
import Derived.Test.YtemgfppclakdmaaGreatDoorGD
import Derived.Test.YtemgfppclakdmaaGreatDoorZL
namespace Go.Proofs.YtemgfppclakdmaaGreatDoor.Sta
open Go.RowKit

theorem pow_start {W : World} {l : List (String × DataW Unit)} (h : laidMetH Tryz.prog l W) (h1 : l.filter (fun x => x.1 == "internal/strconv.uint64pow10") = [("internal/strconv.uint64pow10", Lib.tabData .u64 Lib.pow10Tab)]) : PowT W :=
  tab_of h _ .u64 Lib.pow10Tab h1 (g := 3) (t := 223) (e := 63) (n := 20) (by kernel_rfl) (by kernel_rfl) (by kernel_rfl) (by kernel_rfl) (by kernel_rfl) (by kernel_rfl)
end Go.Proofs.YtemgfppclakdmaaGreatDoor.Sta
