/- ring: Put of the program, case by case. -/
import Derived.Test.YthoncigfbhinlaaRhA
namespace Go.Proofs.Ythoncigfbhinlaa
open Go Go.RowKit
set_option linter.unusedVariables false
set_option linter.unusedSimpArgs false
set_option maxHeartbeats 8000000

set_option maxRecDepth 100000 in
theorem p23_bad (x : Bool) (p : Int) (D b : List Nat) (s e f m : Int) (hD : D.length ≤ 100000) (ok : okB D) (h : ¬ errF p D s e f m = 0) : evE Dg 23 [eR p (eB x D) s e f m, eB false b] = some (pR (eR p (eB x D) s e f m) 0 (errF p D s e f m)) := by
  have h27 := f27 x p D s e f m hD ok
  have hg : goodL p D s e f m = [] := by unfold goodL; rw [if_neg h]
  rw [hg] at h27
  have z0 : rcR [] = [] := rfl
  generalize errF p D s e f m = er at *
  simp only [eR, eB] at h27
  refine evE_intro 3 D23 rfl ?_
  unfold c23
  simp [evCode, evOps, evOne, evOp, evPur, evEff, evPur.chunks, fillP, AOp.isEff, AO.ev, putP, PV.cells, PV.leaf, getB, getM, mapE, keyC, mapRows, mfind, eq1, eqL, scal, binP, unP, minP, maxP, foldP, PV.lt, PV.lt.ltL, endP, expoAll, expo, expo.expoL, frIds, frIds.frIdsL, nodupN, kill, cls, clsFuel, resO, RV.get, loadP, evC_p, evC_s, endS, endT, rowsOf, callP, thinL, unfr, unfr.unfrL, PV.noMem, PV.noMem.noMemL, optI, mapO, norm, trimT, trimB, forget, hasN, blksLt, List.set, eR, eB, pR, h27, h, z0]
set_option maxRecDepth 100000 in
theorem p23_long (x : Bool) (p : Int) (D b : List Nat) (s e f m : Int) (hD : D.length ≤ 100000) (ok : okB D) (h : errF p D s e f m = 0) (hb : 2000 < b.length ∨ D.length < (putF b.length ++ b).length) : evE Dg 23 [eR p (eB x D) s e f m, eB false b] = some (pR (eR p (eB x D) s e f m) 0 7) := by
  have h27 := f27 x p D s e f m hD ok
  rw [h] at h27
  generalize goodL p D s e f m = l at *
  have e1 := bR_len b
  have e2 := bR_len (putF b.length ++ b)
  have e3 := bR_len D
  simp only [eR, eB] at h27
  by_cases c : 2000 < b.length
  · have c' : (2000 : Int) < b.length := by omega
    refine evE_intro 3 D23 rfl ?_
    unfold c23
    simp [evCode, evOps, evOne, evOp, evPur, evEff, evPur.chunks, fillP, AOp.isEff, AO.ev, putP, PV.cells, PV.leaf, getB, getM, mapE, keyC, mapRows, mfind, eq1, eqL, scal, binP, unP, minP, maxP, foldP, PV.lt, PV.lt.ltL, endP, expoAll, expo, expo.expoL, frIds, frIds.frIdsL, nodupN, kill, cls, clsFuel, resO, RV.get, loadP, evC_p, evC_s, endS, endT, rowsOf, callP, thinL, unfr, unfr.unfrL, PV.noMem, PV.noMem.noMemL, optI, mapO, norm, trimT, trimB, forget, hasN, blksLt, List.set, eR, eB, pR, h27, e1, e3, c, c']
  · have c' : ¬ (2000 : Int) < b.length := by omega
    have h32 := f32s b.length (by omega)
    obtain ⟨z, Q, hP⟩ := putF_cons b.length
    have hQ := putF_len b.length
    have h31 := f31 true (putF b.length) b (by rw [hP]; simp) (by omega) (by omega)
    have d : D.length < (putF b.length ++ b).length := by omega
    generalize putF b.length ++ b = G at *
    generalize putF b.length = P at *
    have d' : (D.length : Int) < G.length := by omega
    refine evE_intro 3 D23 rfl ?_
    unfold c23
    simp [evCode, evOps, evOne, evOp, evPur, evEff, evPur.chunks, fillP, AOp.isEff, AO.ev, putP, PV.cells, PV.leaf, getB, getM, mapE, keyC, mapRows, mfind, eq1, eqL, scal, binP, unP, minP, maxP, foldP, PV.lt, PV.lt.ltL, endP, expoAll, expo, expo.expoL, frIds, frIds.frIdsL, nodupN, kill, cls, clsFuel, resO, RV.get, loadP, evC_p, evC_s, endS, endT, rowsOf, callP, thinL, unfr, unfr.unfrL, PV.noMem, PV.noMem.noMemL, optI, mapO, norm, trimT, trimB, forget, hasN, blksLt, List.set, eR, eB, pR, h27, h31, h32, e1, e2, e3, c, c', d, d']
end Go.Proofs.Ythoncigfbhinlaa
