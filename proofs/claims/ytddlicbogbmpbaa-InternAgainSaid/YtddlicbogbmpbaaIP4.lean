/- intern: Put, PutStack. -/
import Derived.Test.YtddlicbogbmpbaaIP3
namespace Go.Proofs.Ytddlicbogbmpbaa
open Go Go.RowKit
set_option linter.unusedVariables false
set_option linter.unusedSimpArgs false
set_option maxHeartbeats 2000000

def putR (n : List (List UInt8)) (s : List UInt8) : Int × List (List UInt8) × Int :=
  if nameOk s then if 0 ≤ idx n s then (idx n s, n, 0) else if 1000 ≤ n.length then (0, n, 6) else (n.length, n ++ [s], 0) else (0, n, 3)

theorem p19 (x : Bool) (n : List (List UInt8)) (s : List UInt8) (hl : n.length ≤ 1100) : ∃ x', ∀ bl, callP (evE Dg) bl false 19 [eN x n, .str s] = some (.tup [.int .i64 (putR n s).1, eN x' (putR n s).2.1, .int .i64 (putR n s).2.2], []) := by
  have h10 := f10 s
  have h33 := f33 x n s (by omega)
  have h34 := f34 x n
  simp only [eN] at h33 h34
  by_cases c1 : nameOk s = true
  · simp only [nameE, c1, if_true] at h10
    by_cases c2 : 0 ≤ idx n s
    · refine ⟨x, fun bl => callP_unfr (evE_intro (r := .tup [.int .i64 (idx n s), eN x n, .int .i64 0]) 1 D19 rfl ?_) rfl (by simp [unfr, unfr.unfrL, putR, c1, c2, eN]) (by simp [PV.lt, PV.lt.ltL, eN])⟩
      unfold c19
      simp [evCode, evOps, evOne, evOp, evPur, evEff, evPur.chunks, fillP, AOp.isEff, AO.ev, putP, PV.cells, PV.leaf, getB, getM, mapE, keyC, mapRows, mfind, eq1, eqL, scal, binP, unP, minP, maxP, foldP, PV.lt, PV.lt.ltL, endP, expoAll, expo, expo.expoL, frIds, frIds.frIdsL, nodupN, kill, cls, clsFuel, resO, RV.get, loadP, evC_p, evC_s, endS, endT, rowsOf, callP, thinL, unfr, unfr.unfrL, PV.noMem, PV.noMem.noMemL, optI, mapO, norm, trimT, trimB, forget, hasN, blksLt, List.set, eN, h10, h33, c2]
    · by_cases c3 : 1000 ≤ n.length
      · have c3' : (1000 : Int) ≤ n.length := by omega
        refine ⟨x, fun bl => callP_unfr (evE_intro (r := .tup [.int .i64 0, eN x n, .int .i64 6]) 1 D19 rfl ?_) rfl (by simp [unfr, unfr.unfrL, putR, c1, c2, c3, eN]) (by simp [PV.lt, PV.lt.ltL, eN])⟩
        unfold c19
        simp [evCode, evOps, evOne, evOp, evPur, evEff, evPur.chunks, fillP, AOp.isEff, AO.ev, putP, PV.cells, PV.leaf, getB, getM, mapE, keyC, mapRows, mfind, eq1, eqL, scal, binP, unP, minP, maxP, foldP, PV.lt, PV.lt.ltL, endP, expoAll, expo, expo.expoL, frIds, frIds.frIdsL, nodupN, kill, cls, clsFuel, resO, RV.get, loadP, evC_p, evC_s, endS, endT, rowsOf, callP, thinL, unfr, unfr.unfrL, PV.noMem, PV.noMem.noMemL, optI, mapO, norm, trimT, trimB, forget, hasN, blksLt, List.set, eN, h10, h33, c2, c3']
      · have c3' : ¬ (1000 : Int) ≤ n.length := by omega
        have m1 : (n.length + 1) * 16 ≤ 140737488355328 := by omega
        have m2 : n.length + 1 ≤ 140737488355328 := by omega
        refine ⟨false, fun bl => callP_unfr (evE_intro (r := .tup [.int .i64 n.length, .fr 1 ((n ++ [s]).map fun t => [.str t]), .int .i64 0]) 1 D19 rfl ?_) rfl (by simp [unfr, unfr.unfrL, putR, c1, c2, c3, eN]) (by simp [PV.lt, PV.lt.ltL, eN])⟩
        unfold c19
        simp [evCode, evOps, evOne, evOp, evPur, evEff, evPur.chunks, fillP, AOp.isEff, AO.ev, putP, PV.cells, PV.leaf, getB, getM, mapE, keyC, mapRows, mfind, eq1, eqL, scal, binP, unP, minP, maxP, foldP, PV.lt, PV.lt.ltL, endP, expoAll, expo, expo.expoL, frIds, frIds.frIdsL, nodupN, kill, cls, clsFuel, resO, RV.get, loadP, evC_p, evC_s, endS, endT, rowsOf, callP, thinL, unfr, unfr.unfrL, PV.noMem, PV.noMem.noMemL, optI, mapO, norm, trimT, trimB, forget, hasN, blksLt, List.set, eN, h10, h33, c2, c3', h34, m1, m2, impV, impB]
  · have c1' : nameOk s = false := by simpa using c1
    simp only [nameE, c1', Bool.false_eq_true, if_false] at h10
    refine ⟨x, fun bl => callP_unfr (evE_intro (r := .tup [.int .i64 0, eN x n, .int .i64 3]) 1 D19 rfl ?_) rfl (by simp [unfr, unfr.unfrL, putR, c1, eN]) (by simp [PV.lt, PV.lt.ltL, eN])⟩
    unfold c19
    simp [evCode, evOps, evOne, evOp, evPur, evEff, evPur.chunks, fillP, AOp.isEff, AO.ev, putP, PV.cells, PV.leaf, getB, getM, mapE, keyC, mapRows, mfind, eq1, eqL, scal, binP, unP, minP, maxP, foldP, PV.lt, PV.lt.ltL, endP, expoAll, expo, expo.expoL, frIds, frIds.frIdsL, nodupN, kill, cls, clsFuel, resO, RV.get, loadP, evC_p, evC_s, endS, endT, rowsOf, callP, thinL, unfr, unfr.unfrL, PV.noMem, PV.noMem.noMemL, optI, mapO, norm, trimT, trimB, forget, hasN, blksLt, List.set, eN, h10]

theorem p20 (x : Bool) (n : List (List UInt8)) (s : List UInt8) (hl : n.length ≤ 1100) : ∃ x', ∀ bl, callP (evE Dg) bl false 20 [eN x n, .str s] = some (.tup [.int .i64 (putR n s).1, eN x' (putR n s).2.1, .int .i64 (putR n s).2.2], []) := by
  have h10 := f11 s
  have h33 := f30 x n s (by omega)
  simp only [eN] at h33
  by_cases c1 : nameOk s = true
  · simp only [nameE, c1, if_true] at h10
    by_cases c2 : 0 ≤ idx n s
    · refine ⟨x, fun bl => callP_unfr (evE_intro (r := .tup [.int .i64 (idx n s), eN x n, .int .i64 0]) 1 D20 rfl ?_) rfl (by simp [unfr, unfr.unfrL, putR, c1, c2, eN]) (by simp [PV.lt, PV.lt.ltL, eN])⟩
      unfold c20
      simp [evCode, evOps, evOne, evOp, evPur, evEff, evPur.chunks, fillP, AOp.isEff, AO.ev, putP, PV.cells, PV.leaf, getB, getM, mapE, keyC, mapRows, mfind, eq1, eqL, scal, binP, unP, minP, maxP, foldP, PV.lt, PV.lt.ltL, endP, expoAll, expo, expo.expoL, frIds, frIds.frIdsL, nodupN, kill, cls, clsFuel, resO, RV.get, loadP, evC_p, evC_s, endS, endT, rowsOf, callP, thinL, unfr, unfr.unfrL, PV.noMem, PV.noMem.noMemL, optI, mapO, norm, trimT, trimB, forget, hasN, blksLt, List.set, eN, h10, h33, c2]
    · by_cases c3 : 1000 ≤ n.length
      · have c3' : (1000 : Int) ≤ n.length := by omega
        refine ⟨x, fun bl => callP_unfr (evE_intro (r := .tup [.int .i64 0, eN x n, .int .i64 6]) 1 D20 rfl ?_) rfl (by simp [unfr, unfr.unfrL, putR, c1, c2, c3, eN]) (by simp [PV.lt, PV.lt.ltL, eN])⟩
        unfold c20
        simp [evCode, evOps, evOne, evOp, evPur, evEff, evPur.chunks, fillP, AOp.isEff, AO.ev, putP, PV.cells, PV.leaf, getB, getM, mapE, keyC, mapRows, mfind, eq1, eqL, scal, binP, unP, minP, maxP, foldP, PV.lt, PV.lt.ltL, endP, expoAll, expo, expo.expoL, frIds, frIds.frIdsL, nodupN, kill, cls, clsFuel, resO, RV.get, loadP, evC_p, evC_s, endS, endT, rowsOf, callP, thinL, unfr, unfr.unfrL, PV.noMem, PV.noMem.noMemL, optI, mapO, norm, trimT, trimB, forget, hasN, blksLt, List.set, eN, h10, h33, c2, c3']
      · have c3' : ¬ (1000 : Int) ≤ n.length := by omega
        have m0 : n.length * 16 ≤ 140737488355328 := by omega
        have m3 : n.length ≤ 140737488355328 := by omega
        have m1 : (n.length + 1) * 16 ≤ 140737488355328 := by omega
        have m2 : n.length + 1 ≤ 140737488355328 := by omega
        refine ⟨false, fun bl => callP_unfr (evE_intro (r := .tup [.int .i64 n.length, .fr 1 ((n ++ [s]).map fun t => [.str t]), .int .i64 0]) 1 D20 rfl ?_) rfl (by simp [unfr, unfr.unfrL, putR, c1, c2, c3, eN]) (by simp [PV.lt, PV.lt.ltL, eN])⟩
        unfold c20
        simp [evCode, evOps, evOne, evOp, evPur, evEff, evPur.chunks, fillP, AOp.isEff, AO.ev, putP, PV.cells, PV.leaf, getB, getM, mapE, keyC, mapRows, mfind, eq1, eqL, scal, binP, unP, minP, maxP, foldP, PV.lt, PV.lt.ltL, endP, expoAll, expo, expo.expoL, frIds, frIds.frIdsL, nodupN, kill, cls, clsFuel, resO, RV.get, loadP, evC_p, evC_s, endS, endT, rowsOf, callP, thinL, unfr, unfr.unfrL, PV.noMem, PV.noMem.noMemL, optI, mapO, norm, trimT, trimB, forget, hasN, blksLt, List.set, eN, h10, h33, c2, c3', m0, m1, m2, m3, impV, impB]
  · have c1' : nameOk s = false := by simpa using c1
    simp only [nameE, c1', Bool.false_eq_true, if_false] at h10
    refine ⟨x, fun bl => callP_unfr (evE_intro (r := .tup [.int .i64 0, eN x n, .int .i64 3]) 1 D20 rfl ?_) rfl (by simp [unfr, unfr.unfrL, putR, c1, eN]) (by simp [PV.lt, PV.lt.ltL, eN])⟩
    unfold c20
    simp [evCode, evOps, evOne, evOp, evPur, evEff, evPur.chunks, fillP, AOp.isEff, AO.ev, putP, PV.cells, PV.leaf, getB, getM, mapE, keyC, mapRows, mfind, eq1, eqL, scal, binP, unP, minP, maxP, foldP, PV.lt, PV.lt.ltL, endP, expoAll, expo, expo.expoL, frIds, frIds.frIdsL, nodupN, kill, cls, clsFuel, resO, RV.get, loadP, evC_p, evC_s, endS, endT, rowsOf, callP, thinL, unfr, unfr.unfrL, PV.noMem, PV.noMem.noMemL, optI, mapO, norm, trimT, trimB, forget, hasN, blksLt, List.set, eN, h10]
end Go.Proofs.Ytddlicbogbmpbaa
