/- The examples. -/
import Derived.Test.YtkdalahepedghaaEvP
namespace Go.Proofs.Ytkdalahepedghaa
open Go
theorem f11 : evE Dg 11 [] = some (.bool true) := evE_of (n := 60) (by kernel_rfl)
end Go.Proofs.Ytkdalahepedghaa
