/- event: Check, kind by kind (written by mkEt.py). -/
-- BIG
import Derived.Test.YtidkdiooempkpaaDoorEtA
namespace Go.Proofs.YtidkdiooempkpaaDoor
open Go Go.RowKit
set_option linter.unusedVariables false
set_option linter.unusedSimpArgs false
set_option maxHeartbeats 4000000
set_option maxRecDepth 100000

/-- what is checked, in order -/
def chkC (a b c d : Bool) (e : Ev) (rest : Int) : Int :=
  if (a = false ∧ ¬ e.name = []) ∨ (b = false ∧ ¬ e.n = 0) ∨ (c = false ∧ ¬ e.m = 0) ∨ (d = false ∧ ¬ e.st = []) then 1
  else if a = true ∧ nameOk e.name = false then 3
  else if d = true ∧ ¬ framesE e.st = 0 then framesE e.st
  else rest
end Go.Proofs.YtidkdiooempkpaaDoor
