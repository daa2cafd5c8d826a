/- FracField: the cases of f6. -/
-- BIG
import Derived.Test.YtddglikicokpeaaDoorFrV
namespace Go.Proofs.YtddglikicokpeaaDoor
open Go Go.RowKit
set_option linter.unusedVariables false
set_option linter.unusedSimpArgs false
set_option maxHeartbeats 40000000

set_option maxRecDepth 100000 in
theorem f6_11 (a1 a2 b1 b2 c1 c2 l1 l2 m1 m2 o1 o2 x1 x2 y1 y2 z1 z2 : Int) (h14 : evE Dg 14 [] = some (.bool true))
    (qAB : evE Dg 18 [.agg [.int .i64 a1, .int .i64 a2], .agg [.int .i64 b1, .int .i64 b2]] = some (.tup [.agg [.int .i64 x1, .int .i64 x2], .bool true]))
    (qBA : evE Dg 18 [.agg [.int .i64 b1, .int .i64 b2], .agg [.int .i64 a1, .int .i64 a2]] = some (.tup [.agg [.int .i64 x1, .int .i64 x2], .bool true]))
    (qM : evE Dg 22 [.agg [.int .i64 a1, .int .i64 a2], .agg [.int .i64 b1, .int .i64 b2]] = some (.tup [.agg [.int .i64 m1, .int .i64 m2], .bool true]))
    (qM' : evE Dg 22 [.agg [.int .i64 b1, .int .i64 b2], .agg [.int .i64 a1, .int .i64 a2]] = some (.tup [.agg [.int .i64 m1, .int .i64 m2], .bool true]))
    (qSB : evE Dg 20 [.agg [.int .i64 x1, .int .i64 x2], .agg [.int .i64 b1, .int .i64 b2]] = some (.tup [.agg [.int .i64 a1, .int .i64 a2], .bool true]))
    (qBC : evE Dg 18 [.agg [.int .i64 b1, .int .i64 b2], .agg [.int .i64 c1, .int .i64 c2]] = some (.tup [.agg [.int .i64 y1, .int .i64 y2], .bool true]))
    (qL : evE Dg 18 [.agg [.int .i64 x1, .int .i64 x2], .agg [.int .i64 c1, .int .i64 c2]] = some (.tup [.agg [.int .i64 l1, .int .i64 l2], .bool false]))
    (qR : evE Dg 18 [.agg [.int .i64 a1, .int .i64 a2], .agg [.int .i64 y1, .int .i64 y2]] = some (.tup [.agg [.int .i64 l1, .int .i64 l2], .bool false]))
    (qZ : evE Dg 22 [.agg [.int .i64 a1, .int .i64 a2], .agg [.int .i64 c1, .int .i64 c2]] = some (.tup [.agg [.int .i64 z1, .int .i64 z2], .bool true]))
    (qO : evE Dg 22 [.agg [.int .i64 a1, .int .i64 a2], .agg [.int .i64 y1, .int .i64 y2]] = some (.tup [.agg [.int .i64 o1, .int .i64 o2], .bool true]))
    (qT : evE Dg 18 [.agg [.int .i64 m1, .int .i64 m2], .agg [.int .i64 z1, .int .i64 z2]] = some (.tup [.agg [.int .i64 o1, .int .i64 o2], .bool true]))
    : evE Dg 6 [.agg [.int .i64 a1, .int .i64 a2], .agg [.int .i64 b1, .int .i64 b2], .agg [.int .i64 c1, .int .i64 c2]] = some (.bool true) := by
  refine evE_intro 1 D6 rfl ?_
  unfold c6
  simp (maxSteps := 100000000) [evCode, evOps, evOne, evOp, evPur, evEff, evPur.chunks, fillP, AOp.isEff, AO.ev, putP, PV.cells, PV.leaf, getB, getM, mapE, iterE, keyC, mapRows, mfind, eq1, eqL, scal, binP, unP, minP, maxP, foldP, PV.lt, PV.lt.ltL, endP, expoAll, expoG, expo, expo.expoL, frIds, frIds.frIdsL, nodupN, kill, cls, clsFuel, resO, RV.get, loadP, evC_p, evC_s, endS, endT, rowsOf, callP, thinL, unfr, unfr.unfrL, PV.noMem, PV.noMem.noMemL, optI, mapO, norm, trimT, trimB, forget, hasN, blksLt, List.set, softChk, softGo, softRd, effTg, rdP, h14, qAB, qBA, qM, qM', qSB, qBC, qL, qR, qZ, qO, qT]
set_option maxRecDepth 100000 in
theorem f6_12 (a1 a2 b1 b2 c1 c2 l1 l2 m1 m2 o1 o2 x1 x2 y1 y2 z1 z2 : Int) (h14 : evE Dg 14 [] = some (.bool true))
    (qAB : evE Dg 18 [.agg [.int .i64 a1, .int .i64 a2], .agg [.int .i64 b1, .int .i64 b2]] = some (.tup [.agg [.int .i64 x1, .int .i64 x2], .bool true]))
    (qBA : evE Dg 18 [.agg [.int .i64 b1, .int .i64 b2], .agg [.int .i64 a1, .int .i64 a2]] = some (.tup [.agg [.int .i64 x1, .int .i64 x2], .bool true]))
    (qM : evE Dg 22 [.agg [.int .i64 a1, .int .i64 a2], .agg [.int .i64 b1, .int .i64 b2]] = some (.tup [.agg [.int .i64 m1, .int .i64 m2], .bool true]))
    (qM' : evE Dg 22 [.agg [.int .i64 b1, .int .i64 b2], .agg [.int .i64 a1, .int .i64 a2]] = some (.tup [.agg [.int .i64 m1, .int .i64 m2], .bool true]))
    (qSB : evE Dg 20 [.agg [.int .i64 x1, .int .i64 x2], .agg [.int .i64 b1, .int .i64 b2]] = some (.tup [.agg [.int .i64 a1, .int .i64 a2], .bool true]))
    (qBC : evE Dg 18 [.agg [.int .i64 b1, .int .i64 b2], .agg [.int .i64 c1, .int .i64 c2]] = some (.tup [.agg [.int .i64 y1, .int .i64 y2], .bool true]))
    (qL : evE Dg 18 [.agg [.int .i64 x1, .int .i64 x2], .agg [.int .i64 c1, .int .i64 c2]] = some (.tup [.agg [.int .i64 l1, .int .i64 l2], .bool true]))
    (qR : evE Dg 18 [.agg [.int .i64 a1, .int .i64 a2], .agg [.int .i64 y1, .int .i64 y2]] = some (.tup [.agg [.int .i64 l1, .int .i64 l2], .bool true]))
    (qZ : evE Dg 22 [.agg [.int .i64 a1, .int .i64 a2], .agg [.int .i64 c1, .int .i64 c2]] = some (.tup [.agg [.int .i64 z1, .int .i64 z2], .bool true]))
    (qO : evE Dg 22 [.agg [.int .i64 a1, .int .i64 a2], .agg [.int .i64 y1, .int .i64 y2]] = some (.tup [.agg [.int .i64 o1, .int .i64 o2], .bool false]))
    (qT : evE Dg 18 [.agg [.int .i64 m1, .int .i64 m2], .agg [.int .i64 z1, .int .i64 z2]] = some (.tup [.agg [.int .i64 o1, .int .i64 o2], .bool false]))
    : evE Dg 6 [.agg [.int .i64 a1, .int .i64 a2], .agg [.int .i64 b1, .int .i64 b2], .agg [.int .i64 c1, .int .i64 c2]] = some (.bool true) := by
  refine evE_intro 1 D6 rfl ?_
  unfold c6
  simp (maxSteps := 100000000) [evCode, evOps, evOne, evOp, evPur, evEff, evPur.chunks, fillP, AOp.isEff, AO.ev, putP, PV.cells, PV.leaf, getB, getM, mapE, iterE, keyC, mapRows, mfind, eq1, eqL, scal, binP, unP, minP, maxP, foldP, PV.lt, PV.lt.ltL, endP, expoAll, expoG, expo, expo.expoL, frIds, frIds.frIdsL, nodupN, kill, cls, clsFuel, resO, RV.get, loadP, evC_p, evC_s, endS, endT, rowsOf, callP, thinL, unfr, unfr.unfrL, PV.noMem, PV.noMem.noMemL, optI, mapO, norm, trimT, trimB, forget, hasN, blksLt, List.set, softChk, softGo, softRd, effTg, rdP, h14, qAB, qBA, qM, qM', qSB, qBC, qL, qR, qZ, qO, qT]
set_option maxRecDepth 100000 in
theorem f6_13 (a1 a2 b1 b2 c1 c2 l1 l2 m1 m2 o1 o2 x1 x2 y1 y2 z1 z2 : Int) (h14 : evE Dg 14 [] = some (.bool true))
    (qAB : evE Dg 18 [.agg [.int .i64 a1, .int .i64 a2], .agg [.int .i64 b1, .int .i64 b2]] = some (.tup [.agg [.int .i64 x1, .int .i64 x2], .bool true]))
    (qBA : evE Dg 18 [.agg [.int .i64 b1, .int .i64 b2], .agg [.int .i64 a1, .int .i64 a2]] = some (.tup [.agg [.int .i64 x1, .int .i64 x2], .bool true]))
    (qM : evE Dg 22 [.agg [.int .i64 a1, .int .i64 a2], .agg [.int .i64 b1, .int .i64 b2]] = some (.tup [.agg [.int .i64 m1, .int .i64 m2], .bool true]))
    (qM' : evE Dg 22 [.agg [.int .i64 b1, .int .i64 b2], .agg [.int .i64 a1, .int .i64 a2]] = some (.tup [.agg [.int .i64 m1, .int .i64 m2], .bool true]))
    (qSB : evE Dg 20 [.agg [.int .i64 x1, .int .i64 x2], .agg [.int .i64 b1, .int .i64 b2]] = some (.tup [.agg [.int .i64 a1, .int .i64 a2], .bool true]))
    (qBC : evE Dg 18 [.agg [.int .i64 b1, .int .i64 b2], .agg [.int .i64 c1, .int .i64 c2]] = some (.tup [.agg [.int .i64 y1, .int .i64 y2], .bool true]))
    (qL : evE Dg 18 [.agg [.int .i64 x1, .int .i64 x2], .agg [.int .i64 c1, .int .i64 c2]] = some (.tup [.agg [.int .i64 l1, .int .i64 l2], .bool true]))
    (qR : evE Dg 18 [.agg [.int .i64 a1, .int .i64 a2], .agg [.int .i64 y1, .int .i64 y2]] = some (.tup [.agg [.int .i64 l1, .int .i64 l2], .bool true]))
    (qZ : evE Dg 22 [.agg [.int .i64 a1, .int .i64 a2], .agg [.int .i64 c1, .int .i64 c2]] = some (.tup [.agg [.int .i64 z1, .int .i64 z2], .bool true]))
    (qO : evE Dg 22 [.agg [.int .i64 a1, .int .i64 a2], .agg [.int .i64 y1, .int .i64 y2]] = some (.tup [.agg [.int .i64 o1, .int .i64 o2], .bool true]))
    (qT : evE Dg 18 [.agg [.int .i64 m1, .int .i64 m2], .agg [.int .i64 z1, .int .i64 z2]] = some (.tup [.agg [.int .i64 o1, .int .i64 o2], .bool true]))
    : evE Dg 6 [.agg [.int .i64 a1, .int .i64 a2], .agg [.int .i64 b1, .int .i64 b2], .agg [.int .i64 c1, .int .i64 c2]] = some (.bool true) := by
  refine evE_intro 1 D6 rfl ?_
  unfold c6
  simp (maxSteps := 100000000) [evCode, evOps, evOne, evOp, evPur, evEff, evPur.chunks, fillP, AOp.isEff, AO.ev, putP, PV.cells, PV.leaf, getB, getM, mapE, iterE, keyC, mapRows, mfind, eq1, eqL, scal, binP, unP, minP, maxP, foldP, PV.lt, PV.lt.ltL, endP, expoAll, expoG, expo, expo.expoL, frIds, frIds.frIdsL, nodupN, kill, cls, clsFuel, resO, RV.get, loadP, evC_p, evC_s, endS, endT, rowsOf, callP, thinL, unfr, unfr.unfrL, PV.noMem, PV.noMem.noMemL, optI, mapO, norm, trimT, trimB, forget, hasN, blksLt, List.set, softChk, softGo, softRd, effTg, rdP, h14, qAB, qBA, qM, qM', qSB, qBC, qL, qR, qZ, qO, qT]
end Go.Proofs.YtddglikicokpeaaDoor
