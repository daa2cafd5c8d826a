/- ring: Put of the reference, case by case. -/
import Derived.Test.YthoncigfbhinlaaRgW
namespace Go.Proofs.Ythoncigfbhinlaa
open Go Go.RowKit
set_option linter.unusedVariables false
set_option linter.unusedSimpArgs false
set_option maxHeartbeats 8000000

/-- what Put answers -/
def pR (r : PV) (lost err : Int) : PV := .tup [r, .int .i64 lost, .int .i64 err]
set_option maxRecDepth 100000 in
theorem p24_bad (x : Bool) (p : Int) (D b : List Nat) (s e f m : Int) (hD : D.length ≤ 100000) (ok : okB D) (h : ¬ errF p D s e f m = 0) : evE Dg 24 [eR p (eB x D) s e f m, eB false b] = some (pR (eR p (eB x D) s e f m) 0 (errF p D s e f m)) := by
  have h18 := f18 x p D s e f m hD ok
  generalize errF p D s e f m = er at *
  simp only [eR, eB] at h18
  refine evE_intro 3 D24 rfl ?_
  unfold c24
  simp [evCode, evOps, evOne, evOp, evPur, evEff, evPur.chunks, fillP, AOp.isEff, AO.ev, putP, PV.cells, PV.leaf, getB, getM, mapE, keyC, mapRows, mfind, eq1, eqL, scal, binP, unP, minP, maxP, foldP, PV.lt, PV.lt.ltL, endP, expoAll, expo, expo.expoL, frIds, frIds.frIdsL, nodupN, kill, cls, clsFuel, resO, RV.get, loadP, evC_p, evC_s, endS, endT, rowsOf, callP, thinL, unfr, unfr.unfrL, PV.noMem, PV.noMem.noMemL, optI, mapO, norm, trimT, trimB, forget, hasN, blksLt, List.set, eR, eB, pR, h18, h]
set_option maxRecDepth 100000 in
theorem p24_long (x : Bool) (p : Int) (D b G : List Nat) (s e f m : Int) (hD : D.length ≤ 100000) (ok : okB D) (h : errF p D s e f m = 0) (h34 : evE Dg 34 [eB false b] = some (.fr 1 (bR G))) (hb : 2000 < b.length ∨ D.length < G.length) : evE Dg 24 [eR p (eB x D) s e f m, eB false b] = some (pR (eR p (eB x D) s e f m) 0 7) := by
  have h18 := f18 x p D s e f m hD ok
  rw [h] at h18
  have e1 := bR_len b
  have e2 := bR_len G
  have e3 := bR_len D
  simp only [eR, eB] at h18 h34
  by_cases c : 2000 < b.length
  · have c' : (2000 : Int) < b.length := by omega
    refine evE_intro 3 D24 rfl ?_
    unfold c24
    simp [evCode, evOps, evOne, evOp, evPur, evEff, evPur.chunks, fillP, AOp.isEff, AO.ev, putP, PV.cells, PV.leaf, getB, getM, mapE, keyC, mapRows, mfind, eq1, eqL, scal, binP, unP, minP, maxP, foldP, PV.lt, PV.lt.ltL, endP, expoAll, expo, expo.expoL, frIds, frIds.frIdsL, nodupN, kill, cls, clsFuel, resO, RV.get, loadP, evC_p, evC_s, endS, endT, rowsOf, callP, thinL, unfr, unfr.unfrL, PV.noMem, PV.noMem.noMemL, optI, mapO, norm, trimT, trimB, forget, hasN, blksLt, List.set, eR, eB, pR, h18, h34, e1, e2, e3, c, c']
  · have c' : ¬ (2000 : Int) < b.length := by omega
    have d : D.length < G.length := by omega
    have d' : (D.length : Int) < G.length := by omega
    refine evE_intro 3 D24 rfl ?_
    unfold c24
    simp [evCode, evOps, evOne, evOp, evPur, evEff, evPur.chunks, fillP, AOp.isEff, AO.ev, putP, PV.cells, PV.leaf, getB, getM, mapE, keyC, mapRows, mfind, eq1, eqL, scal, binP, unP, minP, maxP, foldP, PV.lt, PV.lt.ltL, endP, expoAll, expo, expo.expoL, frIds, frIds.frIdsL, nodupN, kill, cls, clsFuel, resO, RV.get, loadP, evC_p, evC_s, endS, endT, rowsOf, callP, thinL, unfr, unfr.unfrL, PV.noMem, PV.noMem.noMemL, optI, mapO, norm, trimT, trimB, forget, hasN, blksLt, List.set, eR, eB, pR, h18, h34, e1, e2, e3, c, c', d, d']
set_option maxRecDepth 100000 in
theorem p24_full (x : Bool) (D b G : List Nat) (s e f m : Int) (hD : D.length ≤ 100000) (ok : okB D) (h : errF 2 D s e f m = 0) (h34 : evE Dg 34 [eB false b] = some (.fr 1 (bR G))) (hb : ¬ 2000 < b.length) (hb2 : ¬ D.length < G.length) (hf : freF 2 D s e f m < G.length) : evE Dg 24 [eR 2 (eB x D) s e f m, eB false b] = some (pR (eR 2 (eB x D) s e f m) 0 6) := by
  have h18 := f18 x 2 D s e f m hD ok
  rw [h] at h18
  have h20 := f20 x 2 D s e f m hD ok
  generalize freF 2 D s e f m = fr at *
  have e1 := bR_len b
  have e2 := bR_len G
  have e3 := bR_len D
  simp only [eR, eB] at h18 h34 h20
  have c' : ¬ (2000 : Int) < b.length := by omega
  have d' : ¬ (D.length : Int) < G.length := by omega
  refine evE_intro 3 D24 rfl ?_
  unfold c24
  simp [evCode, evOps, evOne, evOp, evPur, evEff, evPur.chunks, fillP, AOp.isEff, AO.ev, putP, PV.cells, PV.leaf, getB, getM, mapE, keyC, mapRows, mfind, eq1, eqL, scal, binP, unP, minP, maxP, foldP, PV.lt, PV.lt.ltL, endP, expoAll, expo, expo.expoL, frIds, frIds.frIdsL, nodupN, kill, cls, clsFuel, resO, RV.get, loadP, evC_p, evC_s, endS, endT, rowsOf, callP, thinL, unfr, unfr.unfrL, PV.noMem, PV.noMem.noMemL, optI, mapO, norm, trimT, trimB, forget, hasN, blksLt, List.set, eR, eB, pR, h18, h34, h20, e1, e2, e3, hb, c', hb2, d', hf]
end Go.Proofs.Ythoncigfbhinlaa
