/- MemoryEnds: one event after the other, 2. -/
-- BIG
import Derived.Test.YtalmhggbdfjalaaMmP0
namespace Go.Proofs.Ytalmhggbdfjalaa
open Go Go.RowKit
set_option linter.unusedVariables false
set_option linter.unusedSectionVars false
set_option linter.unusedSimpArgs false
set_option maxHeartbeats 4000000

section
variable (l : List Td) (hl : l.length ≤ 1000) (a : Int) (A : List Bk) (i k : Nat) (t : Td) (ht : l[k]? = some t) (b : Bk) (hb : A[i]? = some b) (x y : Bool) (f : Nat)
include hl ht hb
set_option maxRecDepth 100000 in
theorem e6_b1ae2 (h1 : t.n = b.i) (h2 : t.kd = 11) (g1 : b.lv = true) : ∃ s, evCode (evC Dg) f c6b0 (S6i l a A i k (true, false)) = some (.normal s) ∧ norm [0, 1, 5, 6, 7, 8, 9] 0 s = S6i l a A i (k + 1) (true, false) := by
  have hk : k < l.length := (List.getElem?_eq_some_iff.1 ht).1
  have hk' : (k : Int) < l.length := by omega
  have hi : i < A.length := (List.getElem?_eq_some_iff.1 hb).1
  have hi' : (i : Int) < A.length := by omega
  have w1 := wrap_i64 ((k : Int) + 1) (by omega) (by omega)
  have eL := tRows_len l
  have eA := bRows_len A
  have eg := tRows_get ht
  have eg' := tRows_getE ht
  have gb := bRows_get hb
  have gb' := bRows_getE hb
  have q1 := f25 t
  simp only [tRow, eTx, h1, h2, g1] at q1
  unfold c6b0
  simp (maxSteps := 100000000) [evCode, evOps, evOne, evOp, evPur, evEff, evPur.chunks, fillP, AOp.isEff, AO.ev, putP, PV.cells, PV.leaf, getB, getM, mapE, iterE, keyC, mapRows, mfind, eq1, eqL, scal, binP, unP, minP, maxP, foldP, PV.lt, PV.lt.ltL, endP, expoAll, expoG, expo, expo.expoL, frIds, frIds.frIdsL, nodupN, kill, cls, clsFuel, resO, RV.get, loadP, evC_p, evC_s, endS, endT, rowsOf, callP, thinL, unfr, unfr.unfrL, PV.noMem, PV.noMem.noMemL, optI, mapO, norm, trimT, trimB, forget, hasN, blksLt, List.set, softChk, softGo, softRd, effTg, rdP, S6i, hk, hk', hi, hi', w1, eL, eA, eg, eg', gb, gb', tRow, bRow, eTx, q1, h1, h2, g1]
set_option maxRecDepth 100000 in
theorem e6_b1be2 (h1 : t.n = b.i) (h2 : t.kd = 12) (g1 : b.lv = true) : ∃ s, evCode (evC Dg) f c6b0 (S6i l a A i k (true, false)) = some (.normal s) ∧ norm [0, 1, 5, 6, 7, 8, 9] 0 s = S6i l a A i (k + 1) (true, false) := by
  have hk : k < l.length := (List.getElem?_eq_some_iff.1 ht).1
  have hk' : (k : Int) < l.length := by omega
  have hi : i < A.length := (List.getElem?_eq_some_iff.1 hb).1
  have hi' : (i : Int) < A.length := by omega
  have w1 := wrap_i64 ((k : Int) + 1) (by omega) (by omega)
  have eL := tRows_len l
  have eA := bRows_len A
  have eg := tRows_get ht
  have eg' := tRows_getE ht
  have gb := bRows_get hb
  have gb' := bRows_getE hb
  have q1 := f25 t
  simp only [tRow, eTx, h1, h2, g1] at q1
  unfold c6b0
  simp (maxSteps := 100000000) [evCode, evOps, evOne, evOp, evPur, evEff, evPur.chunks, fillP, AOp.isEff, AO.ev, putP, PV.cells, PV.leaf, getB, getM, mapE, iterE, keyC, mapRows, mfind, eq1, eqL, scal, binP, unP, minP, maxP, foldP, PV.lt, PV.lt.ltL, endP, expoAll, expoG, expo, expo.expoL, frIds, frIds.frIdsL, nodupN, kill, cls, clsFuel, resO, RV.get, loadP, evC_p, evC_s, endS, endT, rowsOf, callP, thinL, unfr, unfr.unfrL, PV.noMem, PV.noMem.noMemL, optI, mapO, norm, trimT, trimB, forget, hasN, blksLt, List.set, softChk, softGo, softRd, effTg, rdP, S6i, hk, hk', hi, hi', w1, eL, eA, eg, eg', gb, gb', tRow, bRow, eTx, q1, h1, h2, g1]
set_option maxRecDepth 100000 in
theorem e6_b2e2 (h1 : t.n = b.i) (h2 : t.kd = 12) (g1 : b.lv = true) : ∃ s, evCode (evC Dg) f c6b0 (S6i l a A i k (false, false)) = some (.normal s) ∧ norm [0, 1, 5, 6, 7, 8, 9] 0 s = S6i l a A i (k + 1) (false, false) := by
  have hk : k < l.length := (List.getElem?_eq_some_iff.1 ht).1
  have hk' : (k : Int) < l.length := by omega
  have hi : i < A.length := (List.getElem?_eq_some_iff.1 hb).1
  have hi' : (i : Int) < A.length := by omega
  have w1 := wrap_i64 ((k : Int) + 1) (by omega) (by omega)
  have eL := tRows_len l
  have eA := bRows_len A
  have eg := tRows_get ht
  have eg' := tRows_getE ht
  have gb := bRows_get hb
  have gb' := bRows_getE hb
  have q1 := f25 t
  simp only [tRow, eTx, h1, h2, g1] at q1
  unfold c6b0
  simp (maxSteps := 100000000) [evCode, evOps, evOne, evOp, evPur, evEff, evPur.chunks, fillP, AOp.isEff, AO.ev, putP, PV.cells, PV.leaf, getB, getM, mapE, iterE, keyC, mapRows, mfind, eq1, eqL, scal, binP, unP, minP, maxP, foldP, PV.lt, PV.lt.ltL, endP, expoAll, expoG, expo, expo.expoL, frIds, frIds.frIdsL, nodupN, kill, cls, clsFuel, resO, RV.get, loadP, evC_p, evC_s, endS, endT, rowsOf, callP, thinL, unfr, unfr.unfrL, PV.noMem, PV.noMem.noMemL, optI, mapO, norm, trimT, trimB, forget, hasN, blksLt, List.set, softChk, softGo, softRd, effTg, rdP, S6i, hk, hk', hi, hi', w1, eL, eA, eg, eg', gb, gb', tRow, bRow, eTx, q1, h1, h2, g1]
set_option maxRecDepth 100000 in
theorem e6_b3e2 (h1 : t.n = b.i) (h2 : t.kd = 11) (h3 : ¬ tm t = b.f) (g1 : b.lv = true) : ∃ s, evCode (evC Dg) f c6b0 (S6i l a A i k (false, false)) = some (.normal s) ∧ norm [0, 1, 5, 6, 7, 8, 9] 0 s = S6i l a A i (k + 1) (false, false) := by
  have hk : k < l.length := (List.getElem?_eq_some_iff.1 ht).1
  have hk' : (k : Int) < l.length := by omega
  have hi : i < A.length := (List.getElem?_eq_some_iff.1 hb).1
  have hi' : (i : Int) < A.length := by omega
  have w1 := wrap_i64 ((k : Int) + 1) (by omega) (by omega)
  have eL := tRows_len l
  have eA := bRows_len A
  have eg := tRows_get ht
  have eg' := tRows_getE ht
  have gb := bRows_get hb
  have gb' := bRows_getE hb
  have q1 := f25 t
  simp only [tRow, eTx, h1, h2, g1] at q1
  unfold c6b0
  simp (maxSteps := 100000000) [evCode, evOps, evOne, evOp, evPur, evEff, evPur.chunks, fillP, AOp.isEff, AO.ev, putP, PV.cells, PV.leaf, getB, getM, mapE, iterE, keyC, mapRows, mfind, eq1, eqL, scal, binP, unP, minP, maxP, foldP, PV.lt, PV.lt.ltL, endP, expoAll, expoG, expo, expo.expoL, frIds, frIds.frIdsL, nodupN, kill, cls, clsFuel, resO, RV.get, loadP, evC_p, evC_s, endS, endT, rowsOf, callP, thinL, unfr, unfr.unfrL, PV.noMem, PV.noMem.noMemL, optI, mapO, norm, trimT, trimB, forget, hasN, blksLt, List.set, softChk, softGo, softRd, effTg, rdP, S6i, hk, hk', hi, hi', w1, eL, eA, eg, eg', gb, gb', tRow, bRow, eTx, q1, h1, h2, g1, h3]
set_option maxRecDepth 100000 in
theorem e6_b4e2 (h1 : t.n = b.i) (h2 : t.kd = 11) (h3 : tm t = b.f) (h4 : ¬ t.m = b.s) (g1 : b.lv = true) : ∃ s, evCode (evC Dg) f c6b0 (S6i l a A i k (false, false)) = some (.normal s) ∧ norm [0, 1, 5, 6, 7, 8, 9] 0 s = S6i l a A i (k + 1) (false, false) := by
  have hk : k < l.length := (List.getElem?_eq_some_iff.1 ht).1
  have hk' : (k : Int) < l.length := by omega
  have hi : i < A.length := (List.getElem?_eq_some_iff.1 hb).1
  have hi' : (i : Int) < A.length := by omega
  have w1 := wrap_i64 ((k : Int) + 1) (by omega) (by omega)
  have eL := tRows_len l
  have eA := bRows_len A
  have eg := tRows_get ht
  have eg' := tRows_getE ht
  have gb := bRows_get hb
  have gb' := bRows_getE hb
  have q1 := f25 t
  simp only [tRow, eTx, h1, h2, h3, g1] at q1
  unfold c6b0
  simp (maxSteps := 100000000) [evCode, evOps, evOne, evOp, evPur, evEff, evPur.chunks, fillP, AOp.isEff, AO.ev, putP, PV.cells, PV.leaf, getB, getM, mapE, iterE, keyC, mapRows, mfind, eq1, eqL, scal, binP, unP, minP, maxP, foldP, PV.lt, PV.lt.ltL, endP, expoAll, expoG, expo, expo.expoL, frIds, frIds.frIdsL, nodupN, kill, cls, clsFuel, resO, RV.get, loadP, evC_p, evC_s, endS, endT, rowsOf, callP, thinL, unfr, unfr.unfrL, PV.noMem, PV.noMem.noMemL, optI, mapO, norm, trimT, trimB, forget, hasN, blksLt, List.set, softChk, softGo, softRd, effTg, rdP, S6i, hk, hk', hi, hi', w1, eL, eA, eg, eg', gb, gb', tRow, bRow, eTx, q1, h1, h2, h3, g1, h4]
set_option maxRecDepth 100000 in
theorem e6_b5e3 (h1 : t.n = b.i) (h2 : t.kd = 11) (h3 : tm t = b.f) (h4 : t.m = b.s) (h5 : ¬ t.th = b.t) (g1 : b.lv = false) (g2 : ¬ b.f = b.e) : ∃ s, evCode (evC Dg) f c6b0 (S6i l a A i k (false, false)) = some (.normal s) ∧ norm [0, 1, 5, 6, 7, 8, 9] 0 s = S6i l a A i (k + 1) (false, false) := by
  have hk : k < l.length := (List.getElem?_eq_some_iff.1 ht).1
  have hk' : (k : Int) < l.length := by omega
  have hi : i < A.length := (List.getElem?_eq_some_iff.1 hb).1
  have hi' : (i : Int) < A.length := by omega
  have w1 := wrap_i64 ((k : Int) + 1) (by omega) (by omega)
  have eL := tRows_len l
  have eA := bRows_len A
  have eg := tRows_get ht
  have eg' := tRows_getE ht
  have gb := bRows_get hb
  have gb' := bRows_getE hb
  have q1 := f25 t
  simp only [tRow, eTx, h1, h2, h3, h4, g1] at q1
  unfold c6b0
  simp (maxSteps := 100000000) [evCode, evOps, evOne, evOp, evPur, evEff, evPur.chunks, fillP, AOp.isEff, AO.ev, putP, PV.cells, PV.leaf, getB, getM, mapE, iterE, keyC, mapRows, mfind, eq1, eqL, scal, binP, unP, minP, maxP, foldP, PV.lt, PV.lt.ltL, endP, expoAll, expoG, expo, expo.expoL, frIds, frIds.frIdsL, nodupN, kill, cls, clsFuel, resO, RV.get, loadP, evC_p, evC_s, endS, endT, rowsOf, callP, thinL, unfr, unfr.unfrL, PV.noMem, PV.noMem.noMemL, optI, mapO, norm, trimT, trimB, forget, hasN, blksLt, List.set, softChk, softGo, softRd, effTg, rdP, S6i, hk, hk', hi, hi', w1, eL, eA, eg, eg', gb, gb', tRow, bRow, eTx, q1, h1, h2, h3, h4, g1, h5, g2]
end
end Go.Proofs.Ytalmhggbdfjalaa
