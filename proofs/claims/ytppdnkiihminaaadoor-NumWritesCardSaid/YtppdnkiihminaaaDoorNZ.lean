/-
  The tables that package num's laws read hold what is listed.
  Conditions: those that the theorem names.
-/
import Derived.Test.YtppdnkiihminaaaDoorNF
import Derived.Test.YtppdnkiihminaaaDoorNH
import Derived.Test.YtppdnkiihminaaaDoorZL
namespace Go.Proofs.YtppdnkiihminaaaDoor
open Go.RowKit

theorem tabs_num {W : World} {l : List (String × DataW Unit)} (h : laidMetH Tryd.prog l W) (h1 : l.filter (fun x => x.1 == "internal/strconv.uint64pow10") = [("internal/strconv.uint64pow10", Lib.tabData .u64 Lib.pow10Tab)])
    (h2 : l.filter (fun x => x.1 == "math/bits.deBruijn64tab") = [("math/bits.deBruijn64tab", Lib.tabData .u8 bruijn64)]) : Tabs W :=
  ⟨tab_of h _ .u64 Lib.pow10Tab h1 (g := 4) (t := 111) (e := 22) (n := 20) (by kernel_rfl) (by kernel_rfl) (by kernel_rfl) (by kernel_rfl) (by kernel_rfl) (by kernel_rfl),
   tab_of h _ .u8 bruijn64 h2 (g := 6) (t := 121) (e := 5) (n := 64) (by kernel_rfl) (by kernel_rfl) (by kernel_rfl) (by kernel_rfl) (by kernel_rfl) (by kernel_rfl)⟩
end Go.Proofs.YtppdnkiihminaaaDoor
