/- heapdump: awake. -/
import Derived.Test.YtdbfbaiopmpklaaDoorEvP
namespace Go.Proofs.YtdbfbaiopmpklaaDoor
open Go Go.RowKit
set_option maxRecDepth 100000
theorem f8 : evE Dg 8 [] = some (.bool true) := evE_of (n := 80) (by kernel_rfl)
end Go.Proofs.YtdbfbaiopmpklaaDoor
