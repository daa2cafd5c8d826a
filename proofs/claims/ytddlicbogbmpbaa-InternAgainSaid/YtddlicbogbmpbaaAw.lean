/- intern: awake. -/
import Derived.Test.YtddlicbogbmpbaaEvP
namespace Go.Proofs.Ytddlicbogbmpbaa
open Go Go.RowKit
theorem f9 : evE Dg 9 [] = some (.bool true) := evE_of (n := 60) (by kernel_rfl)
end Go.Proofs.Ytddlicbogbmpbaa
