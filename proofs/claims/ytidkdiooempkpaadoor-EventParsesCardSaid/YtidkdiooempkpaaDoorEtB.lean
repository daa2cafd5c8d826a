/- event: Check, kind by kind (written by mkEt.py). -/
-- LATT
-- BIG
import Derived.Test.YtidkdiooempkpaaDoorEtA
namespace Go.Proofs.YtidkdiooempkpaaDoor
open Go Go.RowKit
attribute [local simp] evCode evOps evOne evOp evPur evEff evPur.chunks fillP AOp.isEff AO.ev putP PV.cells PV.leaf getB getM mapE iterE keyC mapRows mfind eq1 eqL scal binP unP minP maxP foldP PV.lt PV.lt.ltL endP expoAll expoG expo expo.expoL frIds frIds.frIdsL nodupN kill cls clsFuel resO RV.get loadP evC_p evC_s endS endT rowsOf callP thinL unfr unfr.unfrL PV.noMem PV.noMem.noMemL optI mapO norm trimT trimB forget hasN blksLt List.set softChk softGo softRd effTg tgOf chgN sameB PV.same PV.same.sameL PV.same.sameLL rdP
set_option linter.unusedVariables false
set_option linter.unusedSimpArgs false
set_option maxHeartbeats 4000000
set_option maxRecDepth 100000

/-- what is checked, in order -/
def chkC (a b c d : Bool) (e : Ev) (rest : Int) : Int :=
  if (a = false ∧ ¬ e.name = []) ∨ (b = false ∧ ¬ e.n = 0) ∨ (c = false ∧ ¬ e.m = 0) ∨ (d = false ∧ ¬ e.st = []) then 1
  else if a = true ∧ nameOk e.name = false then 3
  else if d = true ∧ ¬ framesE e.st = 0 then framesE e.st
  else rest
end Go.Proofs.YtidkdiooempkpaaDoor
