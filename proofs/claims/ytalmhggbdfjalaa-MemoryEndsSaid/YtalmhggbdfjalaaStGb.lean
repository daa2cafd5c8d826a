/- slices.symMergeCmpFunc: behind its third search, case b. -/
import Derived.Test.YtalmhggbdfjalaaStF0
namespace Go.Proofs.Ytalmhggbdfjalaa
open Go Go.RowKit
set_option linter.unusedVariables false
set_option linter.unusedSimpArgs false
set_option maxHeartbeats 16000000

set_option maxRecDepth 100000 in
theorem r52b {B : List Rw → Blks} {b v L n g : Nat} (hB : BB B b v L) (hn : n ≤ 1000000) (a m e d nn q p w : Nat) (hnn : nn < 2000000) (hp : p ≤ nn) (hw : nn - p = w) (D0 D1 D2 D3 : List Rw) (f : Nat)
    (x1 : (p : Int) < m) (x2 : ¬ (m : Int) < w) (x3 : D1 = D0)
    (H2 : (a < p ∧ p < d ∧ evS Dg 52 [.own b v 0 n, .int .i64 a, .int .i64 p, .int .i64 d, .fn g []] (B D1) = some (.tup [], B D2)) ∨ (¬ (a < p ∧ p < d) ∧ D2 = D1))
    (H3 : (d < w ∧ w < e ∧ evS Dg 52 [.own b v 0 n, .int .i64 d, .int .i64 w, .int .i64 e, .fn g []] (B D2) = some (.tup [], B D3)) ∨ (¬ (d < w ∧ w < e) ∧ D3 = D2)) :
    ∃ t, evCode (evC Dg) f c52r0 (CX B b v n g a m e d nn q D0 p) = some (.normal ⟨t, B D3⟩) := by
  have g0 := hB.len
  have g3 := hB.tk
  have g4 := hB.lt
  have g5 : Nat.blt b L = true := by simpa [Nat.blt_eq] using hB.hb
  have w1 : IntKind.i64.wrap ((nn : Int) - p) = (w : Int) := by rw [wrap_i64 _ (by omega) (by omega)]; omega
  have C2 : ((a : Int) < p ∧ (p : Int) < d ∧ evS Dg 52 [.own b v 0 n, .int .i64 a, .int .i64 p, .int .i64 d, .fn g []] (B D1) = some (.tup [], B D2)) ∨ ((a : Int) < p ∧ ¬ (p : Int) < d ∧ D2 = D1) ∨ (¬ (a : Int) < p ∧ D2 = D1) := by
    rcases H2 with ⟨h1, h2, h3⟩ | ⟨h1, h2⟩
    · exact .inl ⟨by omega, by omega, h3⟩
    · by_cases h : a < p
      · exact .inr (.inl ⟨by omega, by omega, h2⟩)
      · exact .inr (.inr ⟨by omega, h2⟩)
  have C3 : ((d : Int) < w ∧ (w : Int) < e ∧ evS Dg 52 [.own b v 0 n, .int .i64 d, .int .i64 w, .int .i64 e, .fn g []] (B D2) = some (.tup [], B D3)) ∨ ((d : Int) < w ∧ ¬ (w : Int) < e ∧ D3 = D2) ∨ (¬ (d : Int) < w ∧ D3 = D2) := by
    rcases H3 with ⟨h1, h2, h3⟩ | ⟨h1, h2⟩
    · exact .inl ⟨by omega, by omega, h3⟩
    · by_cases h : d < w
      · exact .inr (.inl ⟨by omega, by omega, h2⟩)
      · exact .inr (.inr ⟨by omega, h2⟩)
  clear H2 H3 hw hp hnn
  refine nbOf_inv ?_
  unfold c52r0 CX
  subst x3
  rcases C2 with ⟨y1, y2, y3⟩ | ⟨y1, y2, rfl⟩ | ⟨y1, rfl⟩ <;> rcases C3 with ⟨z1, z2, z3⟩ | ⟨z1, z2, rfl⟩ | ⟨z1, rfl⟩
  · simp [evCode, evOps, evOne, evOp, evPur, evEff, evPur.chunks, fillP, AOp.isEff, AO.ev, putP, PV.cells, PV.leaf, getB, getM, mapE, iterE, keyC, mapRows, mfind, eq1, eqL, scal, binP, unP, minP, maxP, foldP, PV.lt, PV.lt.ltL, endP, expoAll, expoG, expo, expo.expoL, frIds, frIds.frIdsL, nodupN, kill, cls, clsFuel, resO, RV.get, loadP, evC_p, evC_s, endS, endT, rowsOf, callP, thinL, unfr, unfr.unfrL, PV.noMem, PV.noMem.noMemL, optI, mapO, norm, trimT, trimB, forget, hasN, blksLt, List.set, softChk, softGo, softRd, effTg, rdP, nbOf, x1, x2, y1, y2, y3, z1, z2, z3, w1, g0, g3, g4, g5]
  · simp [evCode, evOps, evOne, evOp, evPur, evEff, evPur.chunks, fillP, AOp.isEff, AO.ev, putP, PV.cells, PV.leaf, getB, getM, mapE, iterE, keyC, mapRows, mfind, eq1, eqL, scal, binP, unP, minP, maxP, foldP, PV.lt, PV.lt.ltL, endP, expoAll, expoG, expo, expo.expoL, frIds, frIds.frIdsL, nodupN, kill, cls, clsFuel, resO, RV.get, loadP, evC_p, evC_s, endS, endT, rowsOf, callP, thinL, unfr, unfr.unfrL, PV.noMem, PV.noMem.noMemL, optI, mapO, norm, trimT, trimB, forget, hasN, blksLt, List.set, softChk, softGo, softRd, effTg, rdP, nbOf, x1, x2, y1, y2, y3, z1, z2, w1, g0, g3, g4, g5]
  · simp [evCode, evOps, evOne, evOp, evPur, evEff, evPur.chunks, fillP, AOp.isEff, AO.ev, putP, PV.cells, PV.leaf, getB, getM, mapE, iterE, keyC, mapRows, mfind, eq1, eqL, scal, binP, unP, minP, maxP, foldP, PV.lt, PV.lt.ltL, endP, expoAll, expoG, expo, expo.expoL, frIds, frIds.frIdsL, nodupN, kill, cls, clsFuel, resO, RV.get, loadP, evC_p, evC_s, endS, endT, rowsOf, callP, thinL, unfr, unfr.unfrL, PV.noMem, PV.noMem.noMemL, optI, mapO, norm, trimT, trimB, forget, hasN, blksLt, List.set, softChk, softGo, softRd, effTg, rdP, nbOf, x1, x2, y1, y2, y3, z1, w1, g0, g3, g4, g5]
  · simp [evCode, evOps, evOne, evOp, evPur, evEff, evPur.chunks, fillP, AOp.isEff, AO.ev, putP, PV.cells, PV.leaf, getB, getM, mapE, iterE, keyC, mapRows, mfind, eq1, eqL, scal, binP, unP, minP, maxP, foldP, PV.lt, PV.lt.ltL, endP, expoAll, expoG, expo, expo.expoL, frIds, frIds.frIdsL, nodupN, kill, cls, clsFuel, resO, RV.get, loadP, evC_p, evC_s, endS, endT, rowsOf, callP, thinL, unfr, unfr.unfrL, PV.noMem, PV.noMem.noMemL, optI, mapO, norm, trimT, trimB, forget, hasN, blksLt, List.set, softChk, softGo, softRd, effTg, rdP, nbOf, x1, x2, y1, y2, z1, z2, z3, w1, g0, g3, g4, g5]
  · simp [evCode, evOps, evOne, evOp, evPur, evEff, evPur.chunks, fillP, AOp.isEff, AO.ev, putP, PV.cells, PV.leaf, getB, getM, mapE, iterE, keyC, mapRows, mfind, eq1, eqL, scal, binP, unP, minP, maxP, foldP, PV.lt, PV.lt.ltL, endP, expoAll, expoG, expo, expo.expoL, frIds, frIds.frIdsL, nodupN, kill, cls, clsFuel, resO, RV.get, loadP, evC_p, evC_s, endS, endT, rowsOf, callP, thinL, unfr, unfr.unfrL, PV.noMem, PV.noMem.noMemL, optI, mapO, norm, trimT, trimB, forget, hasN, blksLt, List.set, softChk, softGo, softRd, effTg, rdP, nbOf, x1, x2, y1, y2, z1, z2, w1, g0, g3, g4, g5]
  · simp [evCode, evOps, evOne, evOp, evPur, evEff, evPur.chunks, fillP, AOp.isEff, AO.ev, putP, PV.cells, PV.leaf, getB, getM, mapE, iterE, keyC, mapRows, mfind, eq1, eqL, scal, binP, unP, minP, maxP, foldP, PV.lt, PV.lt.ltL, endP, expoAll, expoG, expo, expo.expoL, frIds, frIds.frIdsL, nodupN, kill, cls, clsFuel, resO, RV.get, loadP, evC_p, evC_s, endS, endT, rowsOf, callP, thinL, unfr, unfr.unfrL, PV.noMem, PV.noMem.noMemL, optI, mapO, norm, trimT, trimB, forget, hasN, blksLt, List.set, softChk, softGo, softRd, effTg, rdP, nbOf, x1, x2, y1, y2, z1, w1, g0, g3, g4, g5]
  · simp [evCode, evOps, evOne, evOp, evPur, evEff, evPur.chunks, fillP, AOp.isEff, AO.ev, putP, PV.cells, PV.leaf, getB, getM, mapE, iterE, keyC, mapRows, mfind, eq1, eqL, scal, binP, unP, minP, maxP, foldP, PV.lt, PV.lt.ltL, endP, expoAll, expoG, expo, expo.expoL, frIds, frIds.frIdsL, nodupN, kill, cls, clsFuel, resO, RV.get, loadP, evC_p, evC_s, endS, endT, rowsOf, callP, thinL, unfr, unfr.unfrL, PV.noMem, PV.noMem.noMemL, optI, mapO, norm, trimT, trimB, forget, hasN, blksLt, List.set, softChk, softGo, softRd, effTg, rdP, nbOf, x1, x2, y1, z1, z2, z3, w1, g0, g3, g4, g5]
  · simp [evCode, evOps, evOne, evOp, evPur, evEff, evPur.chunks, fillP, AOp.isEff, AO.ev, putP, PV.cells, PV.leaf, getB, getM, mapE, iterE, keyC, mapRows, mfind, eq1, eqL, scal, binP, unP, minP, maxP, foldP, PV.lt, PV.lt.ltL, endP, expoAll, expoG, expo, expo.expoL, frIds, frIds.frIdsL, nodupN, kill, cls, clsFuel, resO, RV.get, loadP, evC_p, evC_s, endS, endT, rowsOf, callP, thinL, unfr, unfr.unfrL, PV.noMem, PV.noMem.noMemL, optI, mapO, norm, trimT, trimB, forget, hasN, blksLt, List.set, softChk, softGo, softRd, effTg, rdP, nbOf, x1, x2, y1, z1, z2, w1, g0, g3, g4, g5]
  · simp [evCode, evOps, evOne, evOp, evPur, evEff, evPur.chunks, fillP, AOp.isEff, AO.ev, putP, PV.cells, PV.leaf, getB, getM, mapE, iterE, keyC, mapRows, mfind, eq1, eqL, scal, binP, unP, minP, maxP, foldP, PV.lt, PV.lt.ltL, endP, expoAll, expoG, expo, expo.expoL, frIds, frIds.frIdsL, nodupN, kill, cls, clsFuel, resO, RV.get, loadP, evC_p, evC_s, endS, endT, rowsOf, callP, thinL, unfr, unfr.unfrL, PV.noMem, PV.noMem.noMemL, optI, mapO, norm, trimT, trimB, forget, hasN, blksLt, List.set, softChk, softGo, softRd, effTg, rdP, nbOf, x1, x2, y1, z1, w1, g0, g3, g4, g5]
end Go.Proofs.Ytalmhggbdfjalaa
