/- memory.Check: ranges, b. -/
import Derived.Test.YtalmhggbdfjalaaMmN0
namespace Go.Proofs.Ytalmhggbdfjalaa
open Go Go.RowKit
set_option linter.unusedVariables false
set_option linter.unusedSectionVars false
set_option linter.unusedSimpArgs false
set_option maxHeartbeats 4000000

section
variable (l : List Bk) (k : Nat) (b : Bk) (hb : l[k]? = some b) (hl : l.length ≤ 1000) (ms : List (Int × Int)) (f : Nat)
include hb hl
set_option maxRecDepth 100000 in
theorem c14_5 (h0 : ¬ b.i < 0) (h1 : ¬ 1000000000000000 < b.i) (h2 : ¬ b.t < 0) (h3 : ¬ 1000000000000000 < b.t) (h4 : ¬ b.s < 1) (h5 : 1000000000000 < b.s) : ∃ s, evCode (evC Dg) f c14b0 (S14 l k ms) = some (.ret s) ∧ R14 2 s := by
  have hk : k < l.length := (List.getElem?_eq_some_iff.1 hb).1
  have hk' : (k : Int) < l.length := by omega
  have w1 := wrap_i64 ((k : Int) + 1) (by omega) (by omega)
  have eL := bRows_len l
  have eg := bRows_get hb
  have eg' := bRows_getE hb
  unfold c14b0
  simp [evCode, evOps, evOne, evOp, evPur, evEff, evPur.chunks, fillP, AOp.isEff, AO.ev, putP, PV.cells, PV.leaf, getB, getM, mapE, iterE, keyC, mapRows, mfind, eq1, eqL, scal, binP, unP, minP, maxP, foldP, PV.lt, PV.lt.ltL, endP, expoAll, expoG, expo, expo.expoL, frIds, frIds.frIdsL, nodupN, kill, cls, clsFuel, resO, RV.get, loadP, evC_p, evC_s, endS, endT, rowsOf, callP, thinL, unfr, unfr.unfrL, PV.noMem, PV.noMem.noMemL, optI, mapO, norm, trimT, trimB, forget, hasN, blksLt, List.set, softChk, softGo, softRd, effTg, rdP, S14, R14, hk, hk', w1, eL, eg, eg', bRow, eTx, h0, h1, h2, h3, h4, h5]
set_option maxRecDepth 100000 in
theorem c14_6 (h0 : ¬ b.i < 0) (h1 : ¬ 1000000000000000 < b.i) (h2 : ¬ b.t < 0) (h3 : ¬ 1000000000000000 < b.t) (h4 : ¬ b.s < 1) (h5 : ¬ 1000000000000 < b.s) (h6 : b.f < 0) : ∃ s, evCode (evC Dg) f c14b0 (S14 l k ms) = some (.ret s) ∧ R14 2 s := by
  have hk : k < l.length := (List.getElem?_eq_some_iff.1 hb).1
  have hk' : (k : Int) < l.length := by omega
  have w1 := wrap_i64 ((k : Int) + 1) (by omega) (by omega)
  have eL := bRows_len l
  have eg := bRows_get hb
  have eg' := bRows_getE hb
  unfold c14b0
  simp [evCode, evOps, evOne, evOp, evPur, evEff, evPur.chunks, fillP, AOp.isEff, AO.ev, putP, PV.cells, PV.leaf, getB, getM, mapE, iterE, keyC, mapRows, mfind, eq1, eqL, scal, binP, unP, minP, maxP, foldP, PV.lt, PV.lt.ltL, endP, expoAll, expoG, expo, expo.expoL, frIds, frIds.frIdsL, nodupN, kill, cls, clsFuel, resO, RV.get, loadP, evC_p, evC_s, endS, endT, rowsOf, callP, thinL, unfr, unfr.unfrL, PV.noMem, PV.noMem.noMemL, optI, mapO, norm, trimT, trimB, forget, hasN, blksLt, List.set, softChk, softGo, softRd, effTg, rdP, S14, R14, hk, hk', w1, eL, eg, eg', bRow, eTx, h0, h1, h2, h3, h4, h5, h6]
set_option maxRecDepth 100000 in
theorem c14_7 (h0 : ¬ b.i < 0) (h1 : ¬ 1000000000000000 < b.i) (h2 : ¬ b.t < 0) (h3 : ¬ 1000000000000000 < b.t) (h4 : ¬ b.s < 1) (h5 : ¬ 1000000000000 < b.s) (h6 : ¬ b.f < 0) (h7 : b.e ≤ b.f) : ∃ s, evCode (evC Dg) f c14b0 (S14 l k ms) = some (.ret s) ∧ R14 2 s := by
  have hk : k < l.length := (List.getElem?_eq_some_iff.1 hb).1
  have hk' : (k : Int) < l.length := by omega
  have w1 := wrap_i64 ((k : Int) + 1) (by omega) (by omega)
  have eL := bRows_len l
  have eg := bRows_get hb
  have eg' := bRows_getE hb
  unfold c14b0
  simp [evCode, evOps, evOne, evOp, evPur, evEff, evPur.chunks, fillP, AOp.isEff, AO.ev, putP, PV.cells, PV.leaf, getB, getM, mapE, iterE, keyC, mapRows, mfind, eq1, eqL, scal, binP, unP, minP, maxP, foldP, PV.lt, PV.lt.ltL, endP, expoAll, expoG, expo, expo.expoL, frIds, frIds.frIdsL, nodupN, kill, cls, clsFuel, resO, RV.get, loadP, evC_p, evC_s, endS, endT, rowsOf, callP, thinL, unfr, unfr.unfrL, PV.noMem, PV.noMem.noMemL, optI, mapO, norm, trimT, trimB, forget, hasN, blksLt, List.set, softChk, softGo, softRd, effTg, rdP, S14, R14, hk, hk', w1, eL, eg, eg', bRow, eTx, h0, h1, h2, h3, h4, h5, h6, h7]
set_option maxRecDepth 100000 in
theorem c14_8 (h0 : ¬ b.i < 0) (h1 : ¬ 1000000000000000 < b.i) (h2 : ¬ b.t < 0) (h3 : ¬ 1000000000000000 < b.t) (h4 : ¬ b.s < 1) (h5 : ¬ 1000000000000 < b.s) (h6 : ¬ b.f < 0) (h7 : ¬ b.e ≤ b.f) (h8 : 1000000000000 < b.e) : ∃ s, evCode (evC Dg) f c14b0 (S14 l k ms) = some (.ret s) ∧ R14 2 s := by
  have hk : k < l.length := (List.getElem?_eq_some_iff.1 hb).1
  have hk' : (k : Int) < l.length := by omega
  have w1 := wrap_i64 ((k : Int) + 1) (by omega) (by omega)
  have eL := bRows_len l
  have eg := bRows_get hb
  have eg' := bRows_getE hb
  unfold c14b0
  simp [evCode, evOps, evOne, evOp, evPur, evEff, evPur.chunks, fillP, AOp.isEff, AO.ev, putP, PV.cells, PV.leaf, getB, getM, mapE, iterE, keyC, mapRows, mfind, eq1, eqL, scal, binP, unP, minP, maxP, foldP, PV.lt, PV.lt.ltL, endP, expoAll, expoG, expo, expo.expoL, frIds, frIds.frIdsL, nodupN, kill, cls, clsFuel, resO, RV.get, loadP, evC_p, evC_s, endS, endT, rowsOf, callP, thinL, unfr, unfr.unfrL, PV.noMem, PV.noMem.noMemL, optI, mapO, norm, trimT, trimB, forget, hasN, blksLt, List.set, softChk, softGo, softRd, effTg, rdP, S14, R14, hk, hk', w1, eL, eg, eg', bRow, eTx, h0, h1, h2, h3, h4, h5, h6, h7, h8]
end
end Go.Proofs.Ytalmhggbdfjalaa
