/- num: awake. -/
import Derived.Test.YtnodcoemjojlhaaDoorEvP
namespace Go.Proofs.YtnodcoemjojlhaaDoor
open Go Go.RowKit
theorem f16 : evE Dg 16 [] = some (.bool true) := evE_of (n := 60) (by kernel_rfl)
end Go.Proofs.YtnodcoemjojlhaaDoor
