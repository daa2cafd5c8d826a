/- ring: Check of the reference, policy 2. -/
import Derived.Test.YthoncigfbhinlaaRgK
namespace Go.Proofs.Ythoncigfbhinlaa
open Go Go.RowKit
set_option linter.unusedVariables false
set_option linter.unusedSimpArgs false
set_option maxHeartbeats 8000000

set_option maxRecDepth 100000 in
theorem k2_c1 (x : Bool) (D : List Nat) (s e f m : Int)  (c1 : (D.length : Int) < 16) : evE Dg 18 [eR 2 (eB x D) s e f m] = some (.int .i64 2) := by
  have e1 := bR_len D
  have d1 : D.length < 16 := by omega
  refine evE_intro 3 D18 rfl ?_
  unfold c18
  simp [evCode, evOps, evOne, evOp, evPur, evEff, evPur.chunks, fillP, AOp.isEff, AO.ev, putP, PV.cells, PV.leaf, getB, getM, mapE, keyC, mapRows, mfind, eq1, eqL, scal, binP, unP, minP, maxP, foldP, PV.lt, PV.lt.ltL, endP, expoAll, expo, expo.expoL, frIds, frIds.frIdsL, nodupN, kill, cls, clsFuel, resO, RV.get, loadP, evC_p, evC_s, endS, endT, rowsOf, callP, thinL, unfr, unfr.unfrL, PV.noMem, PV.noMem.noMemL, optI, mapO, norm, trimT, trimB, forget, hasN, blksLt, List.set, eR, eB, e1, c1, d1]
set_option maxRecDepth 100000 in
theorem k2_c2 (x : Bool) (D : List Nat) (s e f m : Int) (c1 : ¬ (D.length : Int) < 16) (c2 : (65536 : Int) < D.length) : evE Dg 18 [eR 2 (eB x D) s e f m] = some (.int .i64 2) := by
  have e1 := bR_len D
  have d1 : ¬ D.length < 16 := by omega
  have d2 : 65536 < D.length := by omega
  refine evE_intro 3 D18 rfl ?_
  unfold c18
  simp [evCode, evOps, evOne, evOp, evPur, evEff, evPur.chunks, fillP, AOp.isEff, AO.ev, putP, PV.cells, PV.leaf, getB, getM, mapE, keyC, mapRows, mfind, eq1, eqL, scal, binP, unP, minP, maxP, foldP, PV.lt, PV.lt.ltL, endP, expoAll, expo, expo.expoL, frIds, frIds.frIdsL, nodupN, kill, cls, clsFuel, resO, RV.get, loadP, evC_p, evC_s, endS, endT, rowsOf, callP, thinL, unfr, unfr.unfrL, PV.noMem, PV.noMem.noMemL, optI, mapO, norm, trimT, trimB, forget, hasN, blksLt, List.set, eR, eB, e1, c1, c2, d1, d2]
set_option maxRecDepth 100000 in
theorem k2_c3 (x : Bool) (D : List Nat) (s e f m : Int) (c1 : ¬ (D.length : Int) < 16) (c2 : ¬ (65536 : Int) < D.length) (c3 : s < 0) : evE Dg 18 [eR 2 (eB x D) s e f m] = some (.int .i64 2) := by
  have e1 := bR_len D
  have d1 : ¬ D.length < 16 := by omega
  have d2 : ¬ 65536 < D.length := by omega
  refine evE_intro 3 D18 rfl ?_
  unfold c18
  simp [evCode, evOps, evOne, evOp, evPur, evEff, evPur.chunks, fillP, AOp.isEff, AO.ev, putP, PV.cells, PV.leaf, getB, getM, mapE, keyC, mapRows, mfind, eq1, eqL, scal, binP, unP, minP, maxP, foldP, PV.lt, PV.lt.ltL, endP, expoAll, expo, expo.expoL, frIds, frIds.frIdsL, nodupN, kill, cls, clsFuel, resO, RV.get, loadP, evC_p, evC_s, endS, endT, rowsOf, callP, thinL, unfr, unfr.unfrL, PV.noMem, PV.noMem.noMemL, optI, mapO, norm, trimT, trimB, forget, hasN, blksLt, List.set, eR, eB, e1, c1, c2, c3, d1, d2]
set_option maxRecDepth 100000 in
theorem k2_c4 (x : Bool) (D : List Nat) (s e f m : Int) (c1 : ¬ (D.length : Int) < 16) (c2 : ¬ (65536 : Int) < D.length) (c3 : ¬ s < 0) (c4 : e < s) : evE Dg 18 [eR 2 (eB x D) s e f m] = some (.int .i64 2) := by
  have e1 := bR_len D
  have d1 : ¬ D.length < 16 := by omega
  have d2 : ¬ 65536 < D.length := by omega
  refine evE_intro 3 D18 rfl ?_
  unfold c18
  simp [evCode, evOps, evOne, evOp, evPur, evEff, evPur.chunks, fillP, AOp.isEff, AO.ev, putP, PV.cells, PV.leaf, getB, getM, mapE, keyC, mapRows, mfind, eq1, eqL, scal, binP, unP, minP, maxP, foldP, PV.lt, PV.lt.ltL, endP, expoAll, expo, expo.expoL, frIds, frIds.frIdsL, nodupN, kill, cls, clsFuel, resO, RV.get, loadP, evC_p, evC_s, endS, endT, rowsOf, callP, thinL, unfr, unfr.unfrL, PV.noMem, PV.noMem.noMemL, optI, mapO, norm, trimT, trimB, forget, hasN, blksLt, List.set, eR, eB, e1, c1, c2, c3, c4, d1, d2]
set_option maxRecDepth 100000 in
theorem k2_c5 (x : Bool) (D : List Nat) (s e f m : Int) (c1 : ¬ (D.length : Int) < 16) (c2 : ¬ (65536 : Int) < D.length) (c3 : ¬ s < 0) (c4 : ¬ e < s) (c5 : 1000000000000000 < e) : evE Dg 18 [eR 2 (eB x D) s e f m] = some (.int .i64 2) := by
  have e1 := bR_len D
  have d1 : ¬ D.length < 16 := by omega
  have d2 : ¬ 65536 < D.length := by omega
  refine evE_intro 3 D18 rfl ?_
  unfold c18
  simp [evCode, evOps, evOne, evOp, evPur, evEff, evPur.chunks, fillP, AOp.isEff, AO.ev, putP, PV.cells, PV.leaf, getB, getM, mapE, keyC, mapRows, mfind, eq1, eqL, scal, binP, unP, minP, maxP, foldP, PV.lt, PV.lt.ltL, endP, expoAll, expo, expo.expoL, frIds, frIds.frIdsL, nodupN, kill, cls, clsFuel, resO, RV.get, loadP, evC_p, evC_s, endS, endT, rowsOf, callP, thinL, unfr, unfr.unfrL, PV.noMem, PV.noMem.noMemL, optI, mapO, norm, trimT, trimB, forget, hasN, blksLt, List.set, eR, eB, e1, c1, c2, c3, c4, c5, d1, d2]
set_option maxRecDepth 100000 in
theorem k2_c6 (x : Bool) (D : List Nat) (s e f m : Int) (c1 : ¬ (D.length : Int) < 16) (c2 : ¬ (65536 : Int) < D.length) (c3 : ¬ s < 0) (c4 : ¬ e < s) (c5 : ¬ 1000000000000000 < e) (c6 : (D.length : Int) < e - s) : evE Dg 18 [eR 2 (eB x D) s e f m] = some (.int .i64 2) := by
  have e1 := bR_len D
  have d1 : ¬ D.length < 16 := by omega
  have d2 : ¬ 65536 < D.length := by omega
  have w1 : IntKind.i64.wrap (e - s) = e - s := wrap_i64 _ (by omega) (by omega)
  refine evE_intro 3 D18 rfl ?_
  unfold c18
  simp [evCode, evOps, evOne, evOp, evPur, evEff, evPur.chunks, fillP, AOp.isEff, AO.ev, putP, PV.cells, PV.leaf, getB, getM, mapE, keyC, mapRows, mfind, eq1, eqL, scal, binP, unP, minP, maxP, foldP, PV.lt, PV.lt.ltL, endP, expoAll, expo, expo.expoL, frIds, frIds.frIdsL, nodupN, kill, cls, clsFuel, resO, RV.get, loadP, evC_p, evC_s, endS, endT, rowsOf, callP, thinL, unfr, unfr.unfrL, PV.noMem, PV.noMem.noMemL, optI, mapO, norm, trimT, trimB, forget, hasN, blksLt, List.set, eR, eB, e1, c1, c2, c3, c4, c5, c6, w1, d1, d2]
set_option maxRecDepth 100000 in
theorem k2_c7 (x : Bool) (D : List Nat) (s e f m : Int) (c1 : ¬ (D.length : Int) < 16) (c2 : ¬ (65536 : Int) < D.length) (c3 : ¬ s < 0) (c4 : ¬ e < s) (c5 : ¬ 1000000000000000 < e) (c6 : ¬ (D.length : Int) < e - s) (c7 : f < 0) : evE Dg 18 [eR 2 (eB x D) s e f m] = some (.int .i64 2) := by
  have e1 := bR_len D
  have d1 : ¬ D.length < 16 := by omega
  have d2 : ¬ 65536 < D.length := by omega
  have w1 : IntKind.i64.wrap (e - s) = e - s := wrap_i64 _ (by omega) (by omega)
  refine evE_intro 3 D18 rfl ?_
  unfold c18
  simp [evCode, evOps, evOne, evOp, evPur, evEff, evPur.chunks, fillP, AOp.isEff, AO.ev, putP, PV.cells, PV.leaf, getB, getM, mapE, keyC, mapRows, mfind, eq1, eqL, scal, binP, unP, minP, maxP, foldP, PV.lt, PV.lt.ltL, endP, expoAll, expo, expo.expoL, frIds, frIds.frIdsL, nodupN, kill, cls, clsFuel, resO, RV.get, loadP, evC_p, evC_s, endS, endT, rowsOf, callP, thinL, unfr, unfr.unfrL, PV.noMem, PV.noMem.noMemL, optI, mapO, norm, trimT, trimB, forget, hasN, blksLt, List.set, eR, eB, e1, c1, c2, c3, c4, c5, c6, c7, w1, d1, d2]
set_option maxRecDepth 100000 in
theorem k2_c8 (x : Bool) (D : List Nat) (s e f m : Int) (c1 : ¬ (D.length : Int) < 16) (c2 : ¬ (65536 : Int) < D.length) (c3 : ¬ s < 0) (c4 : ¬ e < s) (c5 : ¬ 1000000000000000 < e) (c6 : ¬ (D.length : Int) < e - s) (c7 : ¬ f < 0) (c8 : m < f) : evE Dg 18 [eR 2 (eB x D) s e f m] = some (.int .i64 2) := by
  have e1 := bR_len D
  have d1 : ¬ D.length < 16 := by omega
  have d2 : ¬ 65536 < D.length := by omega
  have w1 : IntKind.i64.wrap (e - s) = e - s := wrap_i64 _ (by omega) (by omega)
  refine evE_intro 3 D18 rfl ?_
  unfold c18
  simp [evCode, evOps, evOne, evOp, evPur, evEff, evPur.chunks, fillP, AOp.isEff, AO.ev, putP, PV.cells, PV.leaf, getB, getM, mapE, keyC, mapRows, mfind, eq1, eqL, scal, binP, unP, minP, maxP, foldP, PV.lt, PV.lt.ltL, endP, expoAll, expo, expo.expoL, frIds, frIds.frIdsL, nodupN, kill, cls, clsFuel, resO, RV.get, loadP, evC_p, evC_s, endS, endT, rowsOf, callP, thinL, unfr, unfr.unfrL, PV.noMem, PV.noMem.noMemL, optI, mapO, norm, trimT, trimB, forget, hasN, blksLt, List.set, eR, eB, e1, c1, c2, c3, c4, c5, c6, c7, c8, w1, d1, d2]
set_option maxRecDepth 100000 in
theorem k2_c9 (x : Bool) (D : List Nat) (s e f m : Int) (c1 : ¬ (D.length : Int) < 16) (c2 : ¬ (65536 : Int) < D.length) (c3 : ¬ s < 0) (c4 : ¬ e < s) (c5 : ¬ 1000000000000000 < e) (c6 : ¬ (D.length : Int) < e - s) (c7 : ¬ f < 0) (c8 : ¬ m < f) (c9 : 1000000000000000 < m) : evE Dg 18 [eR 2 (eB x D) s e f m] = some (.int .i64 2) := by
  have e1 := bR_len D
  have d1 : ¬ D.length < 16 := by omega
  have d2 : ¬ 65536 < D.length := by omega
  have w1 : IntKind.i64.wrap (e - s) = e - s := wrap_i64 _ (by omega) (by omega)
  refine evE_intro 3 D18 rfl ?_
  unfold c18
  simp [evCode, evOps, evOne, evOp, evPur, evEff, evPur.chunks, fillP, AOp.isEff, AO.ev, putP, PV.cells, PV.leaf, getB, getM, mapE, keyC, mapRows, mfind, eq1, eqL, scal, binP, unP, minP, maxP, foldP, PV.lt, PV.lt.ltL, endP, expoAll, expo, expo.expoL, frIds, frIds.frIdsL, nodupN, kill, cls, clsFuel, resO, RV.get, loadP, evC_p, evC_s, endS, endT, rowsOf, callP, thinL, unfr, unfr.unfrL, PV.noMem, PV.noMem.noMemL, optI, mapO, norm, trimT, trimB, forget, hasN, blksLt, List.set, eR, eB, e1, c1, c2, c3, c4, c5, c6, c7, c8, c9, w1, d1, d2]
set_option maxRecDepth 100000 in
theorem k2_run (x : Bool) (D : List Nat) (s e f m : Int) (c1 : ¬ (D.length : Int) < 16) (c2 : ¬ (65536 : Int) < D.length) (c3 : ¬ s < 0) (c4 : ¬ e < s) (c5 : ¬ 1000000000000000 < e) (c6 : ¬ (D.length : Int) < e - s) (c7 : ¬ f < 0) (c8 : ¬ m < f) (c9 : ¬ 1000000000000000 < m) (C : List Nat) (R : Option (List (List Nat))) (v : Int)
    (hv : v = match R with | some l => if (l.length : Int) = m - f then 0 else 10 | none => 10)
    (h30 : evE Dg 30 [eR 2 (eB x D) s e f m] = some (.fr 1 (bR C)))
    (h29 : evE Dg 29 [.sl false 1 (bR C)] = some (match R with | some l => .tup [.fr 1 (rcN l), .bool true] | none => .tup [.fr 1 [], .bool false])) : evE Dg 18 [eR 2 (eB x D) s e f m] = some (.int .i64 v) := by
  have e1 := bR_len D
  have d1 : ¬ D.length < 16 := by omega
  have d2 : ¬ 65536 < D.length := by omega
  have w1 : IntKind.i64.wrap (e - s) = e - s := wrap_i64 _ (by omega) (by omega)
  have wm : IntKind.i64.wrap (m - f) = m - f := wrap_i64 _ (by omega) (by omega)
  simp only [eR, eB] at h30
  refine evE_intro 3 D18 rfl ?_
  rcases R with _ | l
  · simp only at hv h29
    subst hv
    unfold c18
    simp [evCode, evOps, evOne, evOp, evPur, evEff, evPur.chunks, fillP, AOp.isEff, AO.ev, putP, PV.cells, PV.leaf, getB, getM, mapE, keyC, mapRows, mfind, eq1, eqL, scal, binP, unP, minP, maxP, foldP, PV.lt, PV.lt.ltL, endP, expoAll, expo, expo.expoL, frIds, frIds.frIdsL, nodupN, kill, cls, clsFuel, resO, RV.get, loadP, evC_p, evC_s, endS, endT, rowsOf, callP, thinL, unfr, unfr.unfrL, PV.noMem, PV.noMem.noMemL, optI, mapO, norm, trimT, trimB, forget, hasN, blksLt, List.set, eR, eB, e1, d1, d2, c1, c2, c3, c4, c5, w1, c6, c7, c8, c9, h30, h29, wm]
  · have el := rcN_len l
    simp only at hv h29
    by_cases hlen : (l.length : Int) = m - f
    · rw [if_pos hlen] at hv
      subst hv
      unfold c18
      simp [evCode, evOps, evOne, evOp, evPur, evEff, evPur.chunks, fillP, AOp.isEff, AO.ev, putP, PV.cells, PV.leaf, getB, getM, mapE, keyC, mapRows, mfind, eq1, eqL, scal, binP, unP, minP, maxP, foldP, PV.lt, PV.lt.ltL, endP, expoAll, expo, expo.expoL, frIds, frIds.frIdsL, nodupN, kill, cls, clsFuel, resO, RV.get, loadP, evC_p, evC_s, endS, endT, rowsOf, callP, thinL, unfr, unfr.unfrL, PV.noMem, PV.noMem.noMemL, optI, mapO, norm, trimT, trimB, forget, hasN, blksLt, List.set, eR, eB, e1, d1, d2, c1, c2, c3, c4, c5, w1, c6, c7, c8, c9, h30, h29, wm, el, hlen]
    · rw [if_neg hlen] at hv
      subst hv
      unfold c18
      simp [evCode, evOps, evOne, evOp, evPur, evEff, evPur.chunks, fillP, AOp.isEff, AO.ev, putP, PV.cells, PV.leaf, getB, getM, mapE, keyC, mapRows, mfind, eq1, eqL, scal, binP, unP, minP, maxP, foldP, PV.lt, PV.lt.ltL, endP, expoAll, expo, expo.expoL, frIds, frIds.frIdsL, nodupN, kill, cls, clsFuel, resO, RV.get, loadP, evC_p, evC_s, endS, endT, rowsOf, callP, thinL, unfr, unfr.unfrL, PV.noMem, PV.noMem.noMemL, optI, mapO, norm, trimT, trimB, forget, hasN, blksLt, List.set, eR, eB, e1, d1, d2, c1, c2, c3, c4, c5, w1, c6, c7, c8, c9, h30, h29, wm, el, hlen]
end Go.Proofs.Ythoncigfbhinlaa
