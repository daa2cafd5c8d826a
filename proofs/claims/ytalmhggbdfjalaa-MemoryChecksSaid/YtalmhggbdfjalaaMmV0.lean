/- The reference's Check: two blocks. -/
import Derived.Test.YtalmhggbdfjalaaMmN0
namespace Go.Proofs.Ytalmhggbdfjalaa
open Go Go.RowKit
set_option linter.unusedVariables false
set_option linter.unusedSectionVars false
set_option linter.unusedSimpArgs false
set_option maxHeartbeats 4000000

theorem f39 (a b c d : Int) : evE Dg 39 [.agg [.int .i64 a, .int .i64 b], .agg [.int .i64 c, .int .i64 d]] = some (.bool (decide (a < d) && decide (c < b))) := by
  refine evE_intro 1 D39 rfl ?_
  unfold c39
  by_cases h1 : a < d
  · simp [evCode, evOps, evOne, evOp, evPur, evEff, evPur.chunks, fillP, AOp.isEff, AO.ev, putP, PV.cells, PV.leaf, getB, getM, mapE, iterE, keyC, mapRows, mfind, eq1, eqL, scal, binP, unP, minP, maxP, foldP, PV.lt, PV.lt.ltL, endP, expoAll, expoG, expo, expo.expoL, frIds, frIds.frIdsL, nodupN, kill, cls, clsFuel, resO, RV.get, loadP, evC_p, evC_s, endS, endT, rowsOf, callP, thinL, unfr, unfr.unfrL, PV.noMem, PV.noMem.noMemL, optI, mapO, norm, trimT, trimB, forget, hasN, blksLt, List.set, softChk, softGo, softRd, effTg, rdP, h1]
  · simp [evCode, evOps, evOne, evOp, evPur, evEff, evPur.chunks, fillP, AOp.isEff, AO.ev, putP, PV.cells, PV.leaf, getB, getM, mapE, iterE, keyC, mapRows, mfind, eq1, eqL, scal, binP, unP, minP, maxP, foldP, PV.lt, PV.lt.ltL, endP, expoAll, expoG, expo, expo.expoL, frIds, frIds.frIdsL, nodupN, kill, cls, clsFuel, resO, RV.get, loadP, evC_p, evC_s, endS, endT, rowsOf, callP, thinL, unfr, unfr.unfrL, PV.noMem, PV.noMem.noMemL, optI, mapO, norm, trimT, trimB, forget, hasN, blksLt, List.set, softChk, softGo, softRd, effTg, rdP, h1]
def S15 (l : List Bk) (k : Nat) : St := ⟨[.sl false 7 (bRows l), .top, .top, .int .i64 k] ++ List.replicate 106 .top, []⟩
def R15 (z : Int) (s : St) : Prop := s.sl[2]?.getD .top = .int .i64 z
def S15i (l : List Bk) (k : Nat) (b : Bk) (j : Nat) : St := ⟨[.sl false 7 (bRows l), .top, .top, .int .i64 k, .ptr 0 1 0 0, .top, .int .i64 j] ++ List.replicate 103 .top, [some ⟨1, 7, true, [bRow b]⟩]⟩
def X15i (l : List Bk) (k : Nat) (b : Bk) : St := ⟨[.sl false 7 (bRows l), .top, .top, .int .i64 k, .ptr 0 1 0 0, .top, .int .i64 k] ++ List.replicate 80 .top ++ [.int .i64 k, .int .i64 k, .bool false] ++ List.replicate 20 .top, [some ⟨1, 7, true, [bRow b]⟩]⟩
theorem exit15i (l : List Bk) (k : Nat) (b : Bk) (f : Nat) : evCode (evC Dg) f c15b0 (S15i l k b k) = some (.exit 2 (X15i l k b)) := by
  unfold c15b0 X15i
  simp [evCode, evOps, evOne, evOp, evPur, evEff, evPur.chunks, fillP, AOp.isEff, AO.ev, putP, PV.cells, PV.leaf, getB, getM, mapE, iterE, keyC, mapRows, mfind, eq1, eqL, scal, binP, unP, minP, maxP, foldP, PV.lt, PV.lt.ltL, endP, expoAll, expoG, expo, expo.expoL, frIds, frIds.frIdsL, nodupN, kill, cls, clsFuel, resO, RV.get, loadP, evC_p, evC_s, endS, endT, rowsOf, callP, thinL, unfr, unfr.unfrL, PV.noMem, PV.noMem.noMemL, optI, mapO, norm, trimT, trimB, forget, hasN, blksLt, List.set, softChk, softGo, softRd, effTg, rdP, S15i, bRow, eTx]
set_option maxRecDepth 100000 in
theorem step15i (l : List Bk) (hl : l.length ≤ 1000) (k : Nat) (hkl : k ≤ l.length) (b c : Bk) (j : Nat) (hj : j < k) (hc : l[j]? = some c) (hcb : c.f < b.e) (f : Nat) :
    ((c.i = b.i ∧ b.f < c.e) → ∃ s, evCode (evC Dg) f c15b0 (S15i l k b j) = some (.ret s) ∧ R15 4 s) ∧
    (¬ (c.i = b.i ∧ b.f < c.e) → ∃ s, evCode (evC Dg) f c15b0 (S15i l k b j) = some (.normal s) ∧ norm [0, 3, 4, 6] 1 s = S15i l k b (j + 1)) := by
  have hj1 : (j : Int) < k := by omega
  have hj2 : j < l.length := by omega
  have hj3 : (j : Int) < l.length := by omega
  have w1 := wrap_i64 ((j : Int) + 1) (by omega) (by omega)
  have eL := bRows_len l
  have eg := bRows_get hc
  have eg' := bRows_getE hc
  have h39 := f39 c.f c.e b.f b.e
  have hcb' : decide (c.f < b.e) = true := by simp [hcb]
  rw [hcb', Bool.true_and] at h39
  constructor
  · rintro ⟨h1, h2⟩
    rw [show decide (b.f < c.e) = true from by simp [h2]] at h39
    unfold c15b0
    simp [evCode, evOps, evOne, evOp, evPur, evEff, evPur.chunks, fillP, AOp.isEff, AO.ev, putP, PV.cells, PV.leaf, getB, getM, mapE, iterE, keyC, mapRows, mfind, eq1, eqL, scal, binP, unP, minP, maxP, foldP, PV.lt, PV.lt.ltL, endP, expoAll, expoG, expo, expo.expoL, frIds, frIds.frIdsL, nodupN, kill, cls, clsFuel, resO, RV.get, loadP, evC_p, evC_s, endS, endT, rowsOf, callP, thinL, unfr, unfr.unfrL, PV.noMem, PV.noMem.noMemL, optI, mapO, norm, trimT, trimB, forget, hasN, blksLt, List.set, softChk, softGo, softRd, effTg, rdP, S15i, R15, hj, hj1, hj2, hj3, w1, eL, eg, eg', bRow, eTx, h1, h39]
  · intro h
    by_cases h1 : c.i = b.i
    · have h2 : ¬ b.f < c.e := fun e => h ⟨h1, e⟩
      rw [show decide (b.f < c.e) = false from by simp [h2]] at h39
      unfold c15b0
      simp [evCode, evOps, evOne, evOp, evPur, evEff, evPur.chunks, fillP, AOp.isEff, AO.ev, putP, PV.cells, PV.leaf, getB, getM, mapE, iterE, keyC, mapRows, mfind, eq1, eqL, scal, binP, unP, minP, maxP, foldP, PV.lt, PV.lt.ltL, endP, expoAll, expoG, expo, expo.expoL, frIds, frIds.frIdsL, nodupN, kill, cls, clsFuel, resO, RV.get, loadP, evC_p, evC_s, endS, endT, rowsOf, callP, thinL, unfr, unfr.unfrL, PV.noMem, PV.noMem.noMemL, optI, mapO, norm, trimT, trimB, forget, hasN, blksLt, List.set, softChk, softGo, softRd, effTg, rdP, S15i, hj, hj1, hj2, hj3, w1, eL, eg, eg', bRow, eTx, h1, h39]
    · unfold c15b0
      simp [evCode, evOps, evOne, evOp, evPur, evEff, evPur.chunks, fillP, AOp.isEff, AO.ev, putP, PV.cells, PV.leaf, getB, getM, mapE, iterE, keyC, mapRows, mfind, eq1, eqL, scal, binP, unP, minP, maxP, foldP, PV.lt, PV.lt.ltL, endP, expoAll, expoG, expo, expo.expoL, frIds, frIds.frIdsL, nodupN, kill, cls, clsFuel, resO, RV.get, loadP, evC_p, evC_s, endS, endT, rowsOf, callP, thinL, unfr, unfr.unfrL, PV.noMem, PV.noMem.noMemL, optI, mapO, norm, trimT, trimB, forget, hasN, blksLt, List.set, softChk, softGo, softRd, effTg, rdP, S15i, hj, hj1, hj2, hj3, w1, eL, eg, eg', bRow, eTx, h1]
end Go.Proofs.Ytalmhggbdfjalaa
