/- valid and count of the statements. -/
import Derived.Test.YtalmhggbdfjalaaMmK0
namespace Go.Proofs.Ytalmhggbdfjalaa
open Go Go.RowKit
set_option linter.unusedVariables false
set_option linter.unusedSectionVars false
set_option linter.unusedSimpArgs false
set_option maxHeartbeats 4000000

section
variable (l : List Td) (k : Nat) (t : Td) (ht : l[k]? = some t) (hl : l.length ≤ 1000) (f : Nat)
include ht hl
set_option maxRecDepth 100000 in
theorem v1 (h1 : t.th < 0) : ∃ s, evCode (evC Dg) f c22b0 (S22 l k) = some (.ret s) ∧ R22 s := by
  have hk : k < l.length := (List.getElem?_eq_some_iff.1 ht).1
  have hk' : (k : Int) < l.length := by omega
  have w1 := wrap_i64 ((k : Int) + 1) (by omega) (by omega)
  have eL := tRows_len l
  have eg := tRows_get ht
  have eg' := tRows_getE ht
  have h37 := f37 t.st
  simp only [eTx] at h37
  unfold c22b0
  simp [evCode, evOps, evOne, evOp, evPur, evEff, evPur.chunks, fillP, AOp.isEff, AO.ev, putP, PV.cells, PV.leaf, getB, getM, mapE, iterE, keyC, mapRows, mfind, eq1, eqL, scal, binP, unP, minP, maxP, foldP, PV.lt, PV.lt.ltL, endP, expoAll, expoG, expo, expo.expoL, frIds, frIds.frIdsL, nodupN, kill, cls, clsFuel, resO, RV.get, loadP, evC_p, evC_s, endS, endT, rowsOf, callP, thinL, unfr, unfr.unfrL, PV.noMem, PV.noMem.noMemL, optI, mapO, norm, trimT, trimB, forget, hasN, blksLt, List.set, softChk, softGo, softRd, effTg, rdP, S22, R22, hk, hk', w1, eL, eg, eg', tRow, eTx, h1]
set_option maxRecDepth 100000 in
theorem v2 (h1 : ¬ t.th < 0) (h2 : 1000000000000000 < t.th) : ∃ s, evCode (evC Dg) f c22b0 (S22 l k) = some (.ret s) ∧ R22 s := by
  have hk : k < l.length := (List.getElem?_eq_some_iff.1 ht).1
  have hk' : (k : Int) < l.length := by omega
  have w1 := wrap_i64 ((k : Int) + 1) (by omega) (by omega)
  have eL := tRows_len l
  have eg := tRows_get ht
  have eg' := tRows_getE ht
  have h37 := f37 t.st
  simp only [eTx] at h37
  unfold c22b0
  simp [evCode, evOps, evOne, evOp, evPur, evEff, evPur.chunks, fillP, AOp.isEff, AO.ev, putP, PV.cells, PV.leaf, getB, getM, mapE, iterE, keyC, mapRows, mfind, eq1, eqL, scal, binP, unP, minP, maxP, foldP, PV.lt, PV.lt.ltL, endP, expoAll, expoG, expo, expo.expoL, frIds, frIds.frIdsL, nodupN, kill, cls, clsFuel, resO, RV.get, loadP, evC_p, evC_s, endS, endT, rowsOf, callP, thinL, unfr, unfr.unfrL, PV.noMem, PV.noMem.noMemL, optI, mapO, norm, trimT, trimB, forget, hasN, blksLt, List.set, softChk, softGo, softRd, effTg, rdP, S22, R22, hk, hk', w1, eL, eg, eg', tRow, eTx, h1, h2]
set_option maxRecDepth 100000 in
theorem v3 (h1 : ¬ t.th < 0) (h2 : ¬ 1000000000000000 < t.th) (h3 : t.n < 0) : ∃ s, evCode (evC Dg) f c22b0 (S22 l k) = some (.ret s) ∧ R22 s := by
  have hk : k < l.length := (List.getElem?_eq_some_iff.1 ht).1
  have hk' : (k : Int) < l.length := by omega
  have w1 := wrap_i64 ((k : Int) + 1) (by omega) (by omega)
  have eL := tRows_len l
  have eg := tRows_get ht
  have eg' := tRows_getE ht
  have h37 := f37 t.st
  simp only [eTx] at h37
  unfold c22b0
  simp [evCode, evOps, evOne, evOp, evPur, evEff, evPur.chunks, fillP, AOp.isEff, AO.ev, putP, PV.cells, PV.leaf, getB, getM, mapE, iterE, keyC, mapRows, mfind, eq1, eqL, scal, binP, unP, minP, maxP, foldP, PV.lt, PV.lt.ltL, endP, expoAll, expoG, expo, expo.expoL, frIds, frIds.frIdsL, nodupN, kill, cls, clsFuel, resO, RV.get, loadP, evC_p, evC_s, endS, endT, rowsOf, callP, thinL, unfr, unfr.unfrL, PV.noMem, PV.noMem.noMemL, optI, mapO, norm, trimT, trimB, forget, hasN, blksLt, List.set, softChk, softGo, softRd, effTg, rdP, S22, R22, hk, hk', w1, eL, eg, eg', tRow, eTx, h1, h2, h3]
set_option maxRecDepth 100000 in
theorem v4 (h1 : ¬ t.th < 0) (h2 : ¬ 1000000000000000 < t.th) (h3 : ¬ t.n < 0) (h4 : 1000000000000000 < t.n) : ∃ s, evCode (evC Dg) f c22b0 (S22 l k) = some (.ret s) ∧ R22 s := by
  have hk : k < l.length := (List.getElem?_eq_some_iff.1 ht).1
  have hk' : (k : Int) < l.length := by omega
  have w1 := wrap_i64 ((k : Int) + 1) (by omega) (by omega)
  have eL := tRows_len l
  have eg := tRows_get ht
  have eg' := tRows_getE ht
  have h37 := f37 t.st
  simp only [eTx] at h37
  unfold c22b0
  simp [evCode, evOps, evOne, evOp, evPur, evEff, evPur.chunks, fillP, AOp.isEff, AO.ev, putP, PV.cells, PV.leaf, getB, getM, mapE, iterE, keyC, mapRows, mfind, eq1, eqL, scal, binP, unP, minP, maxP, foldP, PV.lt, PV.lt.ltL, endP, expoAll, expoG, expo, expo.expoL, frIds, frIds.frIdsL, nodupN, kill, cls, clsFuel, resO, RV.get, loadP, evC_p, evC_s, endS, endT, rowsOf, callP, thinL, unfr, unfr.unfrL, PV.noMem, PV.noMem.noMemL, optI, mapO, norm, trimT, trimB, forget, hasN, blksLt, List.set, softChk, softGo, softRd, effTg, rdP, S22, R22, hk, hk', w1, eL, eg, eg', tRow, eTx, h1, h2, h3, h4]
set_option maxRecDepth 100000 in
theorem v5 (h1 : ¬ t.th < 0) (h2 : ¬ 1000000000000000 < t.th) (h3 : ¬ t.n < 0) (h4 : ¬ 1000000000000000 < t.n) (h5 : t.kd = 11) (h6 : t.m < 1) : ∃ s, evCode (evC Dg) f c22b0 (S22 l k) = some (.ret s) ∧ R22 s := by
  have hk : k < l.length := (List.getElem?_eq_some_iff.1 ht).1
  have hk' : (k : Int) < l.length := by omega
  have w1 := wrap_i64 ((k : Int) + 1) (by omega) (by omega)
  have eL := tRows_len l
  have eg := tRows_get ht
  have eg' := tRows_getE ht
  have h37 := f37 t.st
  simp only [eTx] at h37
  unfold c22b0
  simp [evCode, evOps, evOne, evOp, evPur, evEff, evPur.chunks, fillP, AOp.isEff, AO.ev, putP, PV.cells, PV.leaf, getB, getM, mapE, iterE, keyC, mapRows, mfind, eq1, eqL, scal, binP, unP, minP, maxP, foldP, PV.lt, PV.lt.ltL, endP, expoAll, expoG, expo, expo.expoL, frIds, frIds.frIdsL, nodupN, kill, cls, clsFuel, resO, RV.get, loadP, evC_p, evC_s, endS, endT, rowsOf, callP, thinL, unfr, unfr.unfrL, PV.noMem, PV.noMem.noMemL, optI, mapO, norm, trimT, trimB, forget, hasN, blksLt, List.set, softChk, softGo, softRd, effTg, rdP, S22, R22, hk, hk', w1, eL, eg, eg', tRow, eTx, h1, h2, h3, h4, h5, h6]
set_option maxRecDepth 100000 in
theorem v6 (h1 : ¬ t.th < 0) (h2 : ¬ 1000000000000000 < t.th) (h3 : ¬ t.n < 0) (h4 : ¬ 1000000000000000 < t.n) (h5 : t.kd = 11) (h6 : ¬ t.m < 1) (h7 : 1000000000000 < t.m) : ∃ s, evCode (evC Dg) f c22b0 (S22 l k) = some (.ret s) ∧ R22 s := by
  have hk : k < l.length := (List.getElem?_eq_some_iff.1 ht).1
  have hk' : (k : Int) < l.length := by omega
  have w1 := wrap_i64 ((k : Int) + 1) (by omega) (by omega)
  have eL := tRows_len l
  have eg := tRows_get ht
  have eg' := tRows_getE ht
  have h37 := f37 t.st
  simp only [eTx] at h37
  unfold c22b0
  simp [evCode, evOps, evOne, evOp, evPur, evEff, evPur.chunks, fillP, AOp.isEff, AO.ev, putP, PV.cells, PV.leaf, getB, getM, mapE, iterE, keyC, mapRows, mfind, eq1, eqL, scal, binP, unP, minP, maxP, foldP, PV.lt, PV.lt.ltL, endP, expoAll, expoG, expo, expo.expoL, frIds, frIds.frIdsL, nodupN, kill, cls, clsFuel, resO, RV.get, loadP, evC_p, evC_s, endS, endT, rowsOf, callP, thinL, unfr, unfr.unfrL, PV.noMem, PV.noMem.noMemL, optI, mapO, norm, trimT, trimB, forget, hasN, blksLt, List.set, softChk, softGo, softRd, effTg, rdP, S22, R22, hk, hk', w1, eL, eg, eg', tRow, eTx, h1, h2, h3, h4, h5, h6, h7]
set_option maxRecDepth 100000 in
theorem v7 (h1 : ¬ t.th < 0) (h2 : ¬ 1000000000000000 < t.th) (h3 : ¬ t.n < 0) (h4 : ¬ 1000000000000000 < t.n) (h5 : t.kd = 11) (h6 : ¬ t.m < 1) (h7 : ¬ 1000000000000 < t.m) (h8 : ¬ framesE t.st = 0) : ∃ s, evCode (evC Dg) f c22b0 (S22 l k) = some (.ret s) ∧ R22 s := by
  have hk : k < l.length := (List.getElem?_eq_some_iff.1 ht).1
  have hk' : (k : Int) < l.length := by omega
  have w1 := wrap_i64 ((k : Int) + 1) (by omega) (by omega)
  have eL := tRows_len l
  have eg := tRows_get ht
  have eg' := tRows_getE ht
  have h37 := f37 t.st
  simp only [eTx] at h37
  unfold c22b0
  simp [evCode, evOps, evOne, evOp, evPur, evEff, evPur.chunks, fillP, AOp.isEff, AO.ev, putP, PV.cells, PV.leaf, getB, getM, mapE, iterE, keyC, mapRows, mfind, eq1, eqL, scal, binP, unP, minP, maxP, foldP, PV.lt, PV.lt.ltL, endP, expoAll, expoG, expo, expo.expoL, frIds, frIds.frIdsL, nodupN, kill, cls, clsFuel, resO, RV.get, loadP, evC_p, evC_s, endS, endT, rowsOf, callP, thinL, unfr, unfr.unfrL, PV.noMem, PV.noMem.noMemL, optI, mapO, norm, trimT, trimB, forget, hasN, blksLt, List.set, softChk, softGo, softRd, effTg, rdP, S22, R22, hk, hk', w1, eL, eg, eg', tRow, eTx, h1, h2, h3, h4, h5, h6, h7, h8, h37]
end
end Go.Proofs.Ytalmhggbdfjalaa
