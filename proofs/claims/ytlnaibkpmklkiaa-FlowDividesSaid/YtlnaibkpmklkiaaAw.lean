/- The layer's examples. -/
import Derived.Test.YtlnaibkpmklkiaaEvP
namespace Go.Proofs.Ytlnaibkpmklkiaa
open Go Go.RowKit
theorem f9 : evE Dg 9 [] = some (.bool true) := evE_of (n := 60) (by kernel_rfl)
end Go.Proofs.Ytlnaibkpmklkiaa
