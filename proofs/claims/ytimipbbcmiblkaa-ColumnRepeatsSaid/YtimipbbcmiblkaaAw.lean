/- awake. -/
import Derived.Test.YtimipbbcmiblkaaEvP
namespace Go.Proofs.Ytimipbbcmiblkaa
open Go Go.RowKit
set_option maxRecDepth 100000
theorem f10 : evE Dg 10 [] = some (.bool true) := evE_of (n := 80) (by kernel_rfl)
end Go.Proofs.Ytimipbbcmiblkaa
