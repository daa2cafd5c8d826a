/- FracOrders: the cases of f7. -/
-- BIG
import Derived.Test.YtddglikicokpeaaDoorFrV
namespace Go.Proofs.YtddglikicokpeaaDoor
open Go Go.RowKit
set_option linter.unusedVariables false
set_option linter.unusedSimpArgs false
set_option maxHeartbeats 40000000

set_option maxRecDepth 100000 in
theorem f7_210 (an ad cn cd y z d1 d2 : Int) (h14 : evE Dg 14 [] = some (.bool true))
    (qa : evE Dg 24 [.agg [.int .i64 an, .int .i64 ad], .agg [.int .i64 an, .int .i64 ad]] = some (.int .i64 0))
    (qbc : evE Dg 24 [.agg [.int .i64 an, .int .i64 ad], .agg [.int .i64 cn, .int .i64 cd]] = some (.int .i64 y))
    (qac : evE Dg 24 [.agg [.int .i64 an, .int .i64 ad], .agg [.int .i64 cn, .int .i64 cd]] = some (.int .i64 z))
    (va : evE Dg 13 [.agg [.int .i64 an, .int .i64 ad]] = some (.bool true))
    (vb : evE Dg 13 [.agg [.int .i64 an, .int .i64 ad]] = some (.bool true))
    (qs : evE Dg 20 [.agg [.int .i64 an, .int .i64 ad], .agg [.int .i64 an, .int .i64 ad]] = some (.tup [.agg [.int .i64 d1, .int .i64 d2], .bool true]))
    (qg : evE Dg 26 [.int .i64 d1] = some (.int .i64 0))
    (w00 : IntKind.i64.wrap 0 = 0)
    (a2 : y ≤ 0)
    (a3 : ¬ 0 < z)
    (a4 : ¬ 0 < y)
    : evE Dg 7 [.agg [.int .i64 an, .int .i64 ad], .agg [.int .i64 an, .int .i64 ad], .agg [.int .i64 cn, .int .i64 cd]] = some (.bool true) := by
  refine evE_intro 1 D7 rfl ?_
  unfold c7
  simp (maxSteps := 100000000) [evCode, evOps, evOne, evOp, evPur, evEff, evPur.chunks, fillP, AOp.isEff, AO.ev, putP, PV.cells, PV.leaf, getB, getM, mapE, iterE, keyC, mapRows, mfind, eq1, eqL, scal, binP, unP, minP, maxP, foldP, PV.lt, PV.lt.ltL, endP, expoAll, expoG, expo, expo.expoL, frIds, frIds.frIdsL, nodupN, kill, cls, clsFuel, resO, RV.get, loadP, evC_p, evC_s, endS, endT, rowsOf, callP, thinL, unfr, unfr.unfrL, PV.noMem, PV.noMem.noMemL, optI, mapO, norm, trimT, trimB, forget, hasN, blksLt, List.set, softChk, softGo, softRd, effTg, rdP, h14, qa, qbc, qac, va, vb, qs, qg, w00, a2, a3, a4]
set_option maxRecDepth 100000 in
theorem f7_211 (an ad cn cd y z d1 d2 : Int) (h14 : evE Dg 14 [] = some (.bool true))
    (qa : evE Dg 24 [.agg [.int .i64 an, .int .i64 ad], .agg [.int .i64 an, .int .i64 ad]] = some (.int .i64 0))
    (qbc : evE Dg 24 [.agg [.int .i64 an, .int .i64 ad], .agg [.int .i64 cn, .int .i64 cd]] = some (.int .i64 y))
    (qac : evE Dg 24 [.agg [.int .i64 an, .int .i64 ad], .agg [.int .i64 cn, .int .i64 cd]] = some (.int .i64 z))
    (va : evE Dg 13 [.agg [.int .i64 an, .int .i64 ad]] = some (.bool true))
    (vb : evE Dg 13 [.agg [.int .i64 an, .int .i64 ad]] = some (.bool true))
    (qs : evE Dg 20 [.agg [.int .i64 an, .int .i64 ad], .agg [.int .i64 an, .int .i64 ad]] = some (.tup [.agg [.int .i64 d1, .int .i64 d2], .bool true]))
    (qg : evE Dg 26 [.int .i64 d1] = some (.int .i64 0))
    (w00 : IntKind.i64.wrap 0 = 0)
    (a2 : ¬ y ≤ 0)
    (a4 : 0 < y)
    : evE Dg 7 [.agg [.int .i64 an, .int .i64 ad], .agg [.int .i64 an, .int .i64 ad], .agg [.int .i64 cn, .int .i64 cd]] = some (.bool true) := by
  refine evE_intro 1 D7 rfl ?_
  unfold c7
  simp (maxSteps := 100000000) [evCode, evOps, evOne, evOp, evPur, evEff, evPur.chunks, fillP, AOp.isEff, AO.ev, putP, PV.cells, PV.leaf, getB, getM, mapE, iterE, keyC, mapRows, mfind, eq1, eqL, scal, binP, unP, minP, maxP, foldP, PV.lt, PV.lt.ltL, endP, expoAll, expoG, expo, expo.expoL, frIds, frIds.frIdsL, nodupN, kill, cls, clsFuel, resO, RV.get, loadP, evC_p, evC_s, endS, endT, rowsOf, callP, thinL, unfr, unfr.unfrL, PV.noMem, PV.noMem.noMemL, optI, mapO, norm, trimT, trimB, forget, hasN, blksLt, List.set, softChk, softGo, softRd, effTg, rdP, h14, qa, qbc, qac, va, vb, qs, qg, w00, a2, a4]
set_option maxRecDepth 100000 in
theorem f7_300 (an ad bn bd cn cd x y z d1 d2 g : Int) (h14 : evE Dg 14 [] = some (.bool true))
    (qa : evE Dg 24 [.agg [.int .i64 an, .int .i64 ad], .agg [.int .i64 an, .int .i64 ad]] = some (.int .i64 0))
    (qab : evE Dg 24 [.agg [.int .i64 an, .int .i64 ad], .agg [.int .i64 bn, .int .i64 bd]] = some (.int .i64 x))
    (qba : evE Dg 24 [.agg [.int .i64 bn, .int .i64 bd], .agg [.int .i64 an, .int .i64 ad]] = some (.int .i64 (-x)))
    (qbc : evE Dg 24 [.agg [.int .i64 bn, .int .i64 bd], .agg [.int .i64 cn, .int .i64 cd]] = some (.int .i64 y))
    (qac : evE Dg 24 [.agg [.int .i64 an, .int .i64 ad], .agg [.int .i64 cn, .int .i64 cd]] = some (.int .i64 z))
    (va : evE Dg 13 [.agg [.int .i64 an, .int .i64 ad]] = some (.bool true))
    (vb : evE Dg 13 [.agg [.int .i64 bn, .int .i64 bd]] = some (.bool true))
    (qs : evE Dg 20 [.agg [.int .i64 an, .int .i64 ad], .agg [.int .i64 bn, .int .i64 bd]] = some (.tup [.agg [.int .i64 d1, .int .i64 d2], .bool false]))
    (qg : evE Dg 26 [.int .i64 d1] = some (.int .i64 g))
    (w0 : IntKind.i64.wrap x = x)
    (w1 : IntKind.i64.wrap (- -x) = x)
    (w2 : IntKind.i64.wrap (0 - -x) = x)
    (a1 : x ≤ 0)
    (a2 : y ≤ 0)
    (a3 : ¬ 0 < z)
    (b3 : ¬ x = 0)
    (b4 : ¬ an = bn)
    (c1 : (x == 0) = false)
    (c2 : (an == bn) = false)
    : evE Dg 7 [.agg [.int .i64 an, .int .i64 ad], .agg [.int .i64 bn, .int .i64 bd], .agg [.int .i64 cn, .int .i64 cd]] = some (.bool true) := by
  refine evE_intro 1 D7 rfl ?_
  unfold c7
  simp (maxSteps := 100000000) [evCode, evOps, evOne, evOp, evPur, evEff, evPur.chunks, fillP, AOp.isEff, AO.ev, putP, PV.cells, PV.leaf, getB, getM, mapE, iterE, keyC, mapRows, mfind, eq1, eqL, scal, binP, unP, minP, maxP, foldP, PV.lt, PV.lt.ltL, endP, expoAll, expoG, expo, expo.expoL, frIds, frIds.frIdsL, nodupN, kill, cls, clsFuel, resO, RV.get, loadP, evC_p, evC_s, endS, endT, rowsOf, callP, thinL, unfr, unfr.unfrL, PV.noMem, PV.noMem.noMemL, optI, mapO, norm, trimT, trimB, forget, hasN, blksLt, List.set, softChk, softGo, softRd, effTg, rdP, h14, qa, qab, qba, qbc, qac, va, vb, qs, qg, w0, w1, w2, a1, a2, a3, b3, b4, c1, c2]
set_option maxRecDepth 100000 in
theorem f7_301 (an ad bn bd cn cd x y z d1 d2 g : Int) (h14 : evE Dg 14 [] = some (.bool true))
    (qa : evE Dg 24 [.agg [.int .i64 an, .int .i64 ad], .agg [.int .i64 an, .int .i64 ad]] = some (.int .i64 0))
    (qab : evE Dg 24 [.agg [.int .i64 an, .int .i64 ad], .agg [.int .i64 bn, .int .i64 bd]] = some (.int .i64 x))
    (qba : evE Dg 24 [.agg [.int .i64 bn, .int .i64 bd], .agg [.int .i64 an, .int .i64 ad]] = some (.int .i64 (-x)))
    (qbc : evE Dg 24 [.agg [.int .i64 bn, .int .i64 bd], .agg [.int .i64 cn, .int .i64 cd]] = some (.int .i64 y))
    (qac : evE Dg 24 [.agg [.int .i64 an, .int .i64 ad], .agg [.int .i64 cn, .int .i64 cd]] = some (.int .i64 z))
    (va : evE Dg 13 [.agg [.int .i64 an, .int .i64 ad]] = some (.bool true))
    (vb : evE Dg 13 [.agg [.int .i64 bn, .int .i64 bd]] = some (.bool true))
    (qs : evE Dg 20 [.agg [.int .i64 an, .int .i64 ad], .agg [.int .i64 bn, .int .i64 bd]] = some (.tup [.agg [.int .i64 d1, .int .i64 d2], .bool false]))
    (qg : evE Dg 26 [.int .i64 d1] = some (.int .i64 g))
    (w0 : IntKind.i64.wrap x = x)
    (w1 : IntKind.i64.wrap (- -x) = x)
    (w2 : IntKind.i64.wrap (0 - -x) = x)
    (a1 : x ≤ 0)
    (a2 : ¬ y ≤ 0)
    (b3 : ¬ x = 0)
    (b4 : ¬ an = bn)
    (c1 : (x == 0) = false)
    (c2 : (an == bn) = false)
    : evE Dg 7 [.agg [.int .i64 an, .int .i64 ad], .agg [.int .i64 bn, .int .i64 bd], .agg [.int .i64 cn, .int .i64 cd]] = some (.bool true) := by
  refine evE_intro 1 D7 rfl ?_
  unfold c7
  simp (maxSteps := 100000000) [evCode, evOps, evOne, evOp, evPur, evEff, evPur.chunks, fillP, AOp.isEff, AO.ev, putP, PV.cells, PV.leaf, getB, getM, mapE, iterE, keyC, mapRows, mfind, eq1, eqL, scal, binP, unP, minP, maxP, foldP, PV.lt, PV.lt.ltL, endP, expoAll, expoG, expo, expo.expoL, frIds, frIds.frIdsL, nodupN, kill, cls, clsFuel, resO, RV.get, loadP, evC_p, evC_s, endS, endT, rowsOf, callP, thinL, unfr, unfr.unfrL, PV.noMem, PV.noMem.noMemL, optI, mapO, norm, trimT, trimB, forget, hasN, blksLt, List.set, softChk, softGo, softRd, effTg, rdP, h14, qa, qab, qba, qbc, qac, va, vb, qs, qg, w0, w1, w2, a1, a2, b3, b4, c1, c2]
set_option maxRecDepth 100000 in
theorem f7_302 (an ad bn bd cn cd x y z d1 d2 g : Int) (h14 : evE Dg 14 [] = some (.bool true))
    (qa : evE Dg 24 [.agg [.int .i64 an, .int .i64 ad], .agg [.int .i64 an, .int .i64 ad]] = some (.int .i64 0))
    (qab : evE Dg 24 [.agg [.int .i64 an, .int .i64 ad], .agg [.int .i64 bn, .int .i64 bd]] = some (.int .i64 x))
    (qba : evE Dg 24 [.agg [.int .i64 bn, .int .i64 bd], .agg [.int .i64 an, .int .i64 ad]] = some (.int .i64 (-x)))
    (qbc : evE Dg 24 [.agg [.int .i64 bn, .int .i64 bd], .agg [.int .i64 cn, .int .i64 cd]] = some (.int .i64 y))
    (qac : evE Dg 24 [.agg [.int .i64 an, .int .i64 ad], .agg [.int .i64 cn, .int .i64 cd]] = some (.int .i64 z))
    (va : evE Dg 13 [.agg [.int .i64 an, .int .i64 ad]] = some (.bool true))
    (vb : evE Dg 13 [.agg [.int .i64 bn, .int .i64 bd]] = some (.bool true))
    (qs : evE Dg 20 [.agg [.int .i64 an, .int .i64 ad], .agg [.int .i64 bn, .int .i64 bd]] = some (.tup [.agg [.int .i64 d1, .int .i64 d2], .bool false]))
    (qg : evE Dg 26 [.int .i64 d1] = some (.int .i64 g))
    (w0 : IntKind.i64.wrap x = x)
    (w1 : IntKind.i64.wrap (- -x) = x)
    (w2 : IntKind.i64.wrap (0 - -x) = x)
    (a1 : ¬ x ≤ 0)
    (b3 : ¬ x = 0)
    (b4 : ¬ an = bn)
    (c1 : (x == 0) = false)
    (c2 : (an == bn) = false)
    : evE Dg 7 [.agg [.int .i64 an, .int .i64 ad], .agg [.int .i64 bn, .int .i64 bd], .agg [.int .i64 cn, .int .i64 cd]] = some (.bool true) := by
  refine evE_intro 1 D7 rfl ?_
  unfold c7
  simp (maxSteps := 100000000) [evCode, evOps, evOne, evOp, evPur, evEff, evPur.chunks, fillP, AOp.isEff, AO.ev, putP, PV.cells, PV.leaf, getB, getM, mapE, iterE, keyC, mapRows, mfind, eq1, eqL, scal, binP, unP, minP, maxP, foldP, PV.lt, PV.lt.ltL, endP, expoAll, expoG, expo, expo.expoL, frIds, frIds.frIdsL, nodupN, kill, cls, clsFuel, resO, RV.get, loadP, evC_p, evC_s, endS, endT, rowsOf, callP, thinL, unfr, unfr.unfrL, PV.noMem, PV.noMem.noMemL, optI, mapO, norm, trimT, trimB, forget, hasN, blksLt, List.set, softChk, softGo, softRd, effTg, rdP, h14, qa, qab, qba, qbc, qac, va, vb, qs, qg, w0, w1, w2, a1, b3, b4, c1, c2]
set_option maxRecDepth 100000 in
theorem f7_310 (an ad bn bd cn cd x y z d1 d2 : Int) (h14 : evE Dg 14 [] = some (.bool true))
    (qa : evE Dg 24 [.agg [.int .i64 an, .int .i64 ad], .agg [.int .i64 an, .int .i64 ad]] = some (.int .i64 0))
    (qab : evE Dg 24 [.agg [.int .i64 an, .int .i64 ad], .agg [.int .i64 bn, .int .i64 bd]] = some (.int .i64 x))
    (qba : evE Dg 24 [.agg [.int .i64 bn, .int .i64 bd], .agg [.int .i64 an, .int .i64 ad]] = some (.int .i64 (-x)))
    (qbc : evE Dg 24 [.agg [.int .i64 bn, .int .i64 bd], .agg [.int .i64 cn, .int .i64 cd]] = some (.int .i64 y))
    (qac : evE Dg 24 [.agg [.int .i64 an, .int .i64 ad], .agg [.int .i64 cn, .int .i64 cd]] = some (.int .i64 z))
    (va : evE Dg 13 [.agg [.int .i64 an, .int .i64 ad]] = some (.bool true))
    (vb : evE Dg 13 [.agg [.int .i64 bn, .int .i64 bd]] = some (.bool true))
    (qs : evE Dg 20 [.agg [.int .i64 an, .int .i64 ad], .agg [.int .i64 bn, .int .i64 bd]] = some (.tup [.agg [.int .i64 d1, .int .i64 d2], .bool true]))
    (qg : evE Dg 26 [.int .i64 d1] = some (.int .i64 x))
    (w0 : IntKind.i64.wrap x = x)
    (w1 : IntKind.i64.wrap (- -x) = x)
    (w2 : IntKind.i64.wrap (0 - -x) = x)
    (a1 : x ≤ 0)
    (a2 : y ≤ 0)
    (a3 : ¬ 0 < z)
    (b3 : ¬ x = 0)
    (b4 : ¬ an = bn)
    (c1 : (x == 0) = false)
    (c2 : (an == bn) = false)
    : evE Dg 7 [.agg [.int .i64 an, .int .i64 ad], .agg [.int .i64 bn, .int .i64 bd], .agg [.int .i64 cn, .int .i64 cd]] = some (.bool true) := by
  refine evE_intro 1 D7 rfl ?_
  unfold c7
  simp (maxSteps := 100000000) [evCode, evOps, evOne, evOp, evPur, evEff, evPur.chunks, fillP, AOp.isEff, AO.ev, putP, PV.cells, PV.leaf, getB, getM, mapE, iterE, keyC, mapRows, mfind, eq1, eqL, scal, binP, unP, minP, maxP, foldP, PV.lt, PV.lt.ltL, endP, expoAll, expoG, expo, expo.expoL, frIds, frIds.frIdsL, nodupN, kill, cls, clsFuel, resO, RV.get, loadP, evC_p, evC_s, endS, endT, rowsOf, callP, thinL, unfr, unfr.unfrL, PV.noMem, PV.noMem.noMemL, optI, mapO, norm, trimT, trimB, forget, hasN, blksLt, List.set, softChk, softGo, softRd, effTg, rdP, h14, qa, qab, qba, qbc, qac, va, vb, qs, qg, w0, w1, w2, a1, a2, a3, b3, b4, c1, c2]
set_option maxRecDepth 100000 in
theorem f7_311 (an ad bn bd cn cd x y z d1 d2 : Int) (h14 : evE Dg 14 [] = some (.bool true))
    (qa : evE Dg 24 [.agg [.int .i64 an, .int .i64 ad], .agg [.int .i64 an, .int .i64 ad]] = some (.int .i64 0))
    (qab : evE Dg 24 [.agg [.int .i64 an, .int .i64 ad], .agg [.int .i64 bn, .int .i64 bd]] = some (.int .i64 x))
    (qba : evE Dg 24 [.agg [.int .i64 bn, .int .i64 bd], .agg [.int .i64 an, .int .i64 ad]] = some (.int .i64 (-x)))
    (qbc : evE Dg 24 [.agg [.int .i64 bn, .int .i64 bd], .agg [.int .i64 cn, .int .i64 cd]] = some (.int .i64 y))
    (qac : evE Dg 24 [.agg [.int .i64 an, .int .i64 ad], .agg [.int .i64 cn, .int .i64 cd]] = some (.int .i64 z))
    (va : evE Dg 13 [.agg [.int .i64 an, .int .i64 ad]] = some (.bool true))
    (vb : evE Dg 13 [.agg [.int .i64 bn, .int .i64 bd]] = some (.bool true))
    (qs : evE Dg 20 [.agg [.int .i64 an, .int .i64 ad], .agg [.int .i64 bn, .int .i64 bd]] = some (.tup [.agg [.int .i64 d1, .int .i64 d2], .bool true]))
    (qg : evE Dg 26 [.int .i64 d1] = some (.int .i64 x))
    (w0 : IntKind.i64.wrap x = x)
    (w1 : IntKind.i64.wrap (- -x) = x)
    (w2 : IntKind.i64.wrap (0 - -x) = x)
    (a1 : x ≤ 0)
    (a2 : ¬ y ≤ 0)
    (b3 : ¬ x = 0)
    (b4 : ¬ an = bn)
    (c1 : (x == 0) = false)
    (c2 : (an == bn) = false)
    : evE Dg 7 [.agg [.int .i64 an, .int .i64 ad], .agg [.int .i64 bn, .int .i64 bd], .agg [.int .i64 cn, .int .i64 cd]] = some (.bool true) := by
  refine evE_intro 1 D7 rfl ?_
  unfold c7
  simp (maxSteps := 100000000) [evCode, evOps, evOne, evOp, evPur, evEff, evPur.chunks, fillP, AOp.isEff, AO.ev, putP, PV.cells, PV.leaf, getB, getM, mapE, iterE, keyC, mapRows, mfind, eq1, eqL, scal, binP, unP, minP, maxP, foldP, PV.lt, PV.lt.ltL, endP, expoAll, expoG, expo, expo.expoL, frIds, frIds.frIdsL, nodupN, kill, cls, clsFuel, resO, RV.get, loadP, evC_p, evC_s, endS, endT, rowsOf, callP, thinL, unfr, unfr.unfrL, PV.noMem, PV.noMem.noMemL, optI, mapO, norm, trimT, trimB, forget, hasN, blksLt, List.set, softChk, softGo, softRd, effTg, rdP, h14, qa, qab, qba, qbc, qac, va, vb, qs, qg, w0, w1, w2, a1, a2, b3, b4, c1, c2]
end Go.Proofs.YtddglikicokpeaaDoor
