/- event: EventParses. -/
import Derived.Test.YtidkdiooempkpaaDoorEtY
namespace Go.Proofs.YtidkdiooempkpaaDoor
open Go Go.RowKit Go.Lib
set_option linter.unusedVariables false

theorem law5 (ps : List PV) (h : ArgL Tryd.prog 12 [9] ps) : evE Dg 5 ps = some (.bool true) := by
  obtain ⟨p, rfl, h1⟩ := argL1 h
  obtain ⟨s, rfl, _⟩ := argT_string Tryd.underlying9 h1
  exact f5 (by unfold lim; decide) s
end Go.Proofs.YtidkdiooempkpaaDoor
