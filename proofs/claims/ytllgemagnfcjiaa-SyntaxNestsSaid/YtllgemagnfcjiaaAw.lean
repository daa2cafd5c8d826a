/- awake. -/
import Derived.Test.YtllgemagnfcjiaaEvP
namespace Go.Proofs.Ytllgemagnfcjiaa
open Go Go.RowKit
set_option maxRecDepth 100000
theorem f9 : evE Dg 9 [] = some (.bool true) := evE_of (n := 80) (by kernel_rfl)
end Go.Proofs.Ytllgemagnfcjiaa
