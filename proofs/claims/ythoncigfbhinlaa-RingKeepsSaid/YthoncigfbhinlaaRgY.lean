/- ring: Put of the reference, out of range, and done. -/
import Derived.Test.YthoncigfbhinlaaRgX
namespace Go.Proofs.Ythoncigfbhinlaa
open Go Go.RowKit
set_option linter.unusedVariables false
set_option linter.unusedSimpArgs false
set_option maxHeartbeats 8000000

set_option maxRecDepth 100000 in
theorem p24_range (x : Bool) (p : Int) (D b G : List Nat) (s e f m : Int) (hD : D.length ≤ 100000) (ok : okB D) (h : errF p D s e f m = 0) (h34 : evE Dg 34 [eB false b] = some (.fr 1 (bR G))) (hb : ¬ 2000 < b.length) (hb2 : ¬ D.length < G.length) (hf : p = 2 → ¬ freF p D s e f m < G.length)
    (hr : 1000000000000000 < e + G.length ∨ m = 1000000000000000) : evE Dg 24 [eR p (eB x D) s e f m, eB false b] = some (pR (eR p (eB x D) s e f m) 0 2) := by
  have h18 := f18 x p D s e f m hD ok
  have h20 := f20 x p D s e f m hD ok
  obtain ⟨hp, n0, n0', n1, n2, n3, n4, n5, n6, n7⟩ := err_nums h
  rw [h] at h18
  generalize freF p D s e f m = fr at *
  have e1 := bR_len b
  have e2 := bR_len G
  have e3 := bR_len D
  simp only [eR, eB] at h18 h34 h20
  have c' : ¬ (2000 : Int) < b.length := by omega
  have d' : ¬ (D.length : Int) < G.length := by omega
  have w : IntKind.i64.wrap (e + G.length) = e + G.length := wrap_i64 _ (by omega) (by omega)
  have w2 : IntKind.i64.wrap (m + 1) = m + 1 := wrap_i64 _ (by omega) (by omega)
  by_cases r1 : 1000000000000000 < e + G.length
  · rcases hp with rfl | rfl
    · refine evE_intro 3 D24 rfl ?_
      unfold c24
      simp [evCode, evOps, evOne, evOp, evPur, evEff, evPur.chunks, fillP, AOp.isEff, AO.ev, putP, PV.cells, PV.leaf, getB, getM, mapE, keyC, mapRows, mfind, eq1, eqL, scal, binP, unP, minP, maxP, foldP, PV.lt, PV.lt.ltL, endP, expoAll, expo, expo.expoL, frIds, frIds.frIdsL, nodupN, kill, cls, clsFuel, resO, RV.get, loadP, evC_p, evC_s, endS, endT, rowsOf, callP, thinL, unfr, unfr.unfrL, PV.noMem, PV.noMem.noMemL, optI, mapO, norm, trimT, trimB, forget, hasN, blksLt, List.set, eR, eB, pR, h18, h34, h20, e1, e2, e3, hb, c', hb2, d', w, r1]
    · have hf := hf rfl
      refine evE_intro 3 D24 rfl ?_
      unfold c24
      simp [evCode, evOps, evOne, evOp, evPur, evEff, evPur.chunks, fillP, AOp.isEff, AO.ev, putP, PV.cells, PV.leaf, getB, getM, mapE, keyC, mapRows, mfind, eq1, eqL, scal, binP, unP, minP, maxP, foldP, PV.lt, PV.lt.ltL, endP, expoAll, expo, expo.expoL, frIds, frIds.frIdsL, nodupN, kill, cls, clsFuel, resO, RV.get, loadP, evC_p, evC_s, endS, endT, rowsOf, callP, thinL, unfr, unfr.unfrL, PV.noMem, PV.noMem.noMemL, optI, mapO, norm, trimT, trimB, forget, hasN, blksLt, List.set, eR, eB, pR, h18, h34, h20, e1, e2, e3, hb, c', hb2, d', hf, w, r1]
  · have r2 : (1000000000000000 : Int) < m + 1 := by omega
    rcases hp with rfl | rfl
    · refine evE_intro 3 D24 rfl ?_
      unfold c24
      simp [evCode, evOps, evOne, evOp, evPur, evEff, evPur.chunks, fillP, AOp.isEff, AO.ev, putP, PV.cells, PV.leaf, getB, getM, mapE, keyC, mapRows, mfind, eq1, eqL, scal, binP, unP, minP, maxP, foldP, PV.lt, PV.lt.ltL, endP, expoAll, expo, expo.expoL, frIds, frIds.frIdsL, nodupN, kill, cls, clsFuel, resO, RV.get, loadP, evC_p, evC_s, endS, endT, rowsOf, callP, thinL, unfr, unfr.unfrL, PV.noMem, PV.noMem.noMemL, optI, mapO, norm, trimT, trimB, forget, hasN, blksLt, List.set, eR, eB, pR, h18, h34, h20, e1, e2, e3, hb, c', hb2, d', w, w2, r1, r2]
    · have hf := hf rfl
      refine evE_intro 3 D24 rfl ?_
      unfold c24
      simp [evCode, evOps, evOne, evOp, evPur, evEff, evPur.chunks, fillP, AOp.isEff, AO.ev, putP, PV.cells, PV.leaf, getB, getM, mapE, keyC, mapRows, mfind, eq1, eqL, scal, binP, unP, minP, maxP, foldP, PV.lt, PV.lt.ltL, endP, expoAll, expo, expo.expoL, frIds, frIds.frIdsL, nodupN, kill, cls, clsFuel, resO, RV.get, loadP, evC_p, evC_s, endS, endT, rowsOf, callP, thinL, unfr, unfr.unfrL, PV.noMem, PV.noMem.noMemL, optI, mapO, norm, trimT, trimB, forget, hasN, blksLt, List.set, eR, eB, pR, h18, h34, h20, e1, e2, e3, hb, c', hb2, d', hf, w, w2, r1, r2]
end Go.Proofs.Ythoncigfbhinlaa
