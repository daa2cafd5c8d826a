/- itree: spans.Meet of two single spans; ItreeFinds. -/
import Derived.Test.YtkodjmlhmpokoaaItX
namespace Go.Proofs.Ytkodjmlhmpokoaa
open Go Go.RowKit
set_option linter.unusedVariables false
set_option linter.unusedSimpArgs false
set_option maxHeartbeats 8000000

def mxI (a b : Int) : Int := if a < b then b else a
def mnI (a b : Int) : Int := if b < a then b else a
set_option maxRecDepth 100000 in
theorem f21_1 (x y : Bool) (s t : Sp) : ∃ rows, evE Dg 21 [.sl x 2 [row2 s], .sl y 2 [row2 t]] = some (.fr 2 rows) ∧ (rows.length = 0 ↔ comB s t = false) := by
  have h1 := f36_1 x s
  have h2 := f36_1 y t
  have hb0 : ∀ b, Nat.blt b 0 = false := fun b => by cases b <;> rfl
  have im : ∀ rows, impB (PV.fr 2 rows) = [⟨rows.length, 2, true, rows⟩] := fun _ => rfl
  have iv : ∀ k rows, impV k (PV.fr 2 rows) = .own k rows.length 0 rows.length := fun _ _ => rfl
  unfold comB
  cases hs : valB s with
  | false =>
    rw [hs] at h1
    refine ⟨[], ?_, by simp⟩
    simp only [row2, if_false, Bool.false_eq_true] at h1 h2
    refine evE_intro 3 D21 rfl ?_
    unfold c21 c21b0
    cases ht : valB t with
    | false => rw [ht] at h2; simp only [if_false, Bool.false_eq_true] at h2; simp [evCode, evOps, evOne, evOp, evPur, evEff, evPur.chunks, fillP, AOp.isEff, AO.ev, putP, PV.cells, PV.leaf, getB, getM, mapE, iterE, keyC, mapRows, mfind, eq1, eqL, scal, binP, unP, minP, maxP, foldP, PV.lt, PV.lt.ltL, endP, expoAll, expoG, expo, expo.expoL, frIds, frIds.frIdsL, nodupN, kill, cls, clsFuel, resO, RV.get, loadP, evC_p, evC_s, endS, endT, rowsOf, callP, thinL, unfr, unfr.unfrL, PV.noMem, PV.noMem.noMemL, optI, mapO, norm, trimT, trimB, forget, hasN, blksLt, List.set, softChk, softGo, softRd, effTg, rdP, evLoop, row2, h1, h2, im, iv, hb0]
    | true => rw [ht] at h2; simp only [if_true] at h2; simp [evCode, evOps, evOne, evOp, evPur, evEff, evPur.chunks, fillP, AOp.isEff, AO.ev, putP, PV.cells, PV.leaf, getB, getM, mapE, iterE, keyC, mapRows, mfind, eq1, eqL, scal, binP, unP, minP, maxP, foldP, PV.lt, PV.lt.ltL, endP, expoAll, expoG, expo, expo.expoL, frIds, frIds.frIdsL, nodupN, kill, cls, clsFuel, resO, RV.get, loadP, evC_p, evC_s, endS, endT, rowsOf, callP, thinL, unfr, unfr.unfrL, PV.noMem, PV.noMem.noMemL, optI, mapO, norm, trimT, trimB, forget, hasN, blksLt, List.set, softChk, softGo, softRd, effTg, rdP, evLoop, row2, h1, h2, im, iv, hb0]
  | true =>
    rw [hs] at h1
    cases ht : valB t with
    | false =>
      rw [ht] at h2
      refine ⟨[], ?_, by simp⟩
      simp only [row2, if_false, if_true, Bool.false_eq_true] at h1 h2
      refine evE_intro 3 D21 rfl ?_
      unfold c21 c21b0
      simp [evCode, evOps, evOne, evOp, evPur, evEff, evPur.chunks, fillP, AOp.isEff, AO.ev, putP, PV.cells, PV.leaf, getB, getM, mapE, iterE, keyC, mapRows, mfind, eq1, eqL, scal, binP, unP, minP, maxP, foldP, PV.lt, PV.lt.ltL, endP, expoAll, expoG, expo, expo.expoL, frIds, frIds.frIdsL, nodupN, kill, cls, clsFuel, resO, RV.get, loadP, evC_p, evC_s, endS, endT, rowsOf, callP, thinL, unfr, unfr.unfrL, PV.noMem, PV.noMem.noMemL, optI, mapO, norm, trimT, trimB, forget, hasN, blksLt, List.set, softChk, softGo, softRd, effTg, rdP, evLoop, row2, h1, h2, im, iv, hb0]
    | true =>
      rw [ht] at h2
      simp only [row2, if_true] at h1 h2
      have v1 : s.1 < s.2 := by unfold valB at hs; simp at hs; exact hs.1.2
      have v2 : t.1 < t.2 := by unfold valB at ht; simp at ht; exact ht.1.2
      have hm : ((if s.1 < t.1 then t.1 else s.1) < (if t.2 < s.2 then t.2 else s.2)) ↔ (s.1 < t.2 ∧ t.1 < s.2) := by
        split <;> split <;> omega
      by_cases m : (if s.1 < t.1 then t.1 else s.1) < (if t.2 < s.2 then t.2 else s.2)
      · refine ⟨[[.int .i64 (if s.1 < t.1 then t.1 else s.1), .int .i64 (if t.2 < s.2 then t.2 else s.2)]], ?_, ?_⟩
        · refine evE_intro 3 D21 rfl ?_
          unfold c21 c21b0
          by_cases c : s.2 < t.2
          · simp [evCode, evOps, evOne, evOp, evPur, evEff, evPur.chunks, fillP, AOp.isEff, AO.ev, putP, PV.cells, PV.leaf, getB, getM, mapE, iterE, keyC, mapRows, mfind, eq1, eqL, scal, binP, unP, minP, maxP, foldP, PV.lt, PV.lt.ltL, endP, expoAll, expoG, expo, expo.expoL, frIds, frIds.frIdsL, nodupN, kill, cls, clsFuel, resO, RV.get, loadP, evC_p, evC_s, endS, endT, rowsOf, callP, thinL, unfr, unfr.unfrL, PV.noMem, PV.noMem.noMemL, optI, mapO, norm, trimT, trimB, forget, hasN, blksLt, List.set, softChk, softGo, softRd, effTg, rdP, evLoop, row2, h1, h2, im, iv, hb0, m, c]
          · simp [evCode, evOps, evOne, evOp, evPur, evEff, evPur.chunks, fillP, AOp.isEff, AO.ev, putP, PV.cells, PV.leaf, getB, getM, mapE, iterE, keyC, mapRows, mfind, eq1, eqL, scal, binP, unP, minP, maxP, foldP, PV.lt, PV.lt.ltL, endP, expoAll, expoG, expo, expo.expoL, frIds, frIds.frIdsL, nodupN, kill, cls, clsFuel, resO, RV.get, loadP, evC_p, evC_s, endS, endT, rowsOf, callP, thinL, unfr, unfr.unfrL, PV.noMem, PV.noMem.noMemL, optI, mapO, norm, trimT, trimB, forget, hasN, blksLt, List.set, softChk, softGo, softRd, effTg, rdP, evLoop, row2, h1, h2, im, iv, hb0, m, c]
        · have := hm.1 m
          simp [this.1, this.2]
      · refine ⟨[], ?_, ?_⟩
        · refine evE_intro 3 D21 rfl ?_
          unfold c21 c21b0
          by_cases c : s.2 < t.2
          · simp [evCode, evOps, evOne, evOp, evPur, evEff, evPur.chunks, fillP, AOp.isEff, AO.ev, putP, PV.cells, PV.leaf, getB, getM, mapE, iterE, keyC, mapRows, mfind, eq1, eqL, scal, binP, unP, minP, maxP, foldP, PV.lt, PV.lt.ltL, endP, expoAll, expoG, expo, expo.expoL, frIds, frIds.frIdsL, nodupN, kill, cls, clsFuel, resO, RV.get, loadP, evC_p, evC_s, endS, endT, rowsOf, callP, thinL, unfr, unfr.unfrL, PV.noMem, PV.noMem.noMemL, optI, mapO, norm, trimT, trimB, forget, hasN, blksLt, List.set, softChk, softGo, softRd, effTg, rdP, evLoop, row2, h1, h2, im, iv, hb0, m, c]
          · simp [evCode, evOps, evOne, evOp, evPur, evEff, evPur.chunks, fillP, AOp.isEff, AO.ev, putP, PV.cells, PV.leaf, getB, getM, mapE, iterE, keyC, mapRows, mfind, eq1, eqL, scal, binP, unP, minP, maxP, foldP, PV.lt, PV.lt.ltL, endP, expoAll, expoG, expo, expo.expoL, frIds, frIds.frIdsL, nodupN, kill, cls, clsFuel, resO, RV.get, loadP, evC_p, evC_s, endS, endT, rowsOf, callP, thinL, unfr, unfr.unfrL, PV.noMem, PV.noMem.noMemL, optI, mapO, norm, trimT, trimB, forget, hasN, blksLt, List.set, softChk, softGo, softRd, effTg, rdP, evLoop, row2, h1, h2, im, iv, hb0, m, c]
        · have : ¬ (s.1 < t.2 ∧ t.1 < s.2) := fun h => m (hm.2 h)
          by_cases q : s.1 < t.2
          · have q2 : ¬ t.1 < s.2 := fun h => this ⟨q, h⟩
            simp [q, q2]
          · simp [q]
end Go.Proofs.Ytkodjmlhmpokoaa
