/- The examples. -/
import Derived.Test.YtecmcggnpgjbiaaEvP
namespace Go.Proofs.Ytecmcggnpgjbiaa
open Go
theorem f10 : evE Dg 10 [] = some (.bool true) := evE_of (n := 60) (by kernel_rfl)
end Go.Proofs.Ytecmcggnpgjbiaa
