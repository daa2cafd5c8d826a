/- event: awake. -/
import Derived.Test.YtidkdiooempkpaaDoorEvP
namespace Go.Proofs.YtidkdiooempkpaaDoor
open Go Go.RowKit
set_option maxRecDepth 100000
theorem f10 : evE Dg 10 [] = some (.bool true) := evE_of (n := 80) (by kernel_rfl)
end Go.Proofs.YtidkdiooempkpaaDoor
