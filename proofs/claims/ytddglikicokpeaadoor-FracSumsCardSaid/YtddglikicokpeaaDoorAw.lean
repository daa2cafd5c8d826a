/- The layer's examples. -/
import Derived.Test.YtddglikicokpeaaDoorEvP
namespace Go.Proofs.YtddglikicokpeaaDoor
open Go Go.RowKit
theorem f14 : evE Dg 14 [] = some (.bool true) := evE_of (n := 60) (by kernel_rfl)
end Go.Proofs.YtddglikicokpeaaDoor
