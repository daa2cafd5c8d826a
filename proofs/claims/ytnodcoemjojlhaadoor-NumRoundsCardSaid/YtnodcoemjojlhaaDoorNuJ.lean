/- num: the reference's Floor, Ceil, Mul; NumSums and NumQuotients of pure arguments. -/
import Derived.Test.YtnodcoemjojlhaaDoorNuI
namespace Go.Proofs.YtnodcoemjojlhaaDoor
open Go Go.RowKit
set_option linter.unusedVariables false
set_option linter.unusedSimpArgs false
set_option maxHeartbeats 8000000

theorem f19 (a b c : Int) (hc64 : -9223372036854775808 ≤ c ∧ c ≤ 9223372036854775807) : evE Dg 19 [.int .i64 a, .int .i64 b, .int .i64 c] = some (pr (flr a b c)) := by
  have h31 := f31 a b c false
  have e : rnd a b c false = flr a b c := rfl
  rw [e] at h31
  obtain ⟨u, v, hW⟩ := pr_tup (flr a b c)
  rw [hW] at h31 ⊢
  refine evE_intro 1 D19 rfl ?_
  unfold c19
  simp [evCode, evOps, evOne, evOp, evPur, evEff, evPur.chunks, fillP, AOp.isEff, AO.ev, putP, PV.cells, PV.leaf, getB, getM, mapE, keyC, mapRows, mfind, eq1, eqL, scal, binP, unP, minP, maxP, foldP, PV.lt, PV.lt.ltL, endP, expoAll, expo, expo.expoL, frIds, frIds.frIdsL, nodupN, kill, cls, clsFuel, resO, RV.get, loadP, evC_p, evC_s, endS, endT, rowsOf, callP, thinL, unfr, unfr.unfrL, PV.noMem, PV.noMem.noMemL, optI, mapO, norm, trimT, trimB, forget, hasN, blksLt, List.set, h31]
theorem f20 (a b c : Int) (hc64 : -9223372036854775808 ≤ c ∧ c ≤ 9223372036854775807) : evE Dg 20 [.int .i64 a, .int .i64 b, .int .i64 c] = some (pr (cel a b c)) := by
  have h31 := f31 a b c true
  have e : rnd a b c true = cel a b c := rfl
  rw [e] at h31
  obtain ⟨u, v, hW⟩ := pr_tup (cel a b c)
  rw [hW] at h31 ⊢
  refine evE_intro 1 D20 rfl ?_
  unfold c20
  simp [evCode, evOps, evOne, evOp, evPur, evEff, evPur.chunks, fillP, AOp.isEff, AO.ev, putP, PV.cells, PV.leaf, getB, getM, mapE, keyC, mapRows, mfind, eq1, eqL, scal, binP, unP, minP, maxP, foldP, PV.lt, PV.lt.ltL, endP, expoAll, expo, expo.expoL, frIds, frIds.frIdsL, nodupN, kill, cls, clsFuel, resO, RV.get, loadP, evC_p, evC_s, endS, endT, rowsOf, callP, thinL, unfr, unfr.unfrL, PV.noMem, PV.noMem.noMemL, optI, mapO, norm, trimT, trimB, forget, hasN, blksLt, List.set, h31]
theorem f13 (a b : Int) : evE Dg 13 [.int .i64 a, .int .i64 b] = some (pr (flr a b 1)) := by
  have h19 := f19 a b 1 (by omega)
  obtain ⟨u, v, hW⟩ := pr_tup (flr a b 1)
  rw [hW] at h19 ⊢
  refine evE_intro 1 D13 rfl ?_
  unfold c13
  simp [evCode, evOps, evOne, evOp, evPur, evEff, evPur.chunks, fillP, AOp.isEff, AO.ev, putP, PV.cells, PV.leaf, getB, getM, mapE, keyC, mapRows, mfind, eq1, eqL, scal, binP, unP, minP, maxP, foldP, PV.lt, PV.lt.ltL, endP, expoAll, expo, expo.expoL, frIds, frIds.frIdsL, nodupN, kill, cls, clsFuel, resO, RV.get, loadP, evC_p, evC_s, endS, endT, rowsOf, callP, thinL, unfr, unfr.unfrL, PV.noMem, PV.noMem.noMemL, optI, mapO, norm, trimT, trimB, forget, hasN, blksLt, List.set, h19]
set_option maxRecDepth 100000 in
theorem n3 (a b : Int) : evE Dg 3 [.int .i64 a, .int .i64 b] = some (.bool true) := by
  have h10 := f10 a b
  have h11 := f11 a b
  have h12 := f12 a b
  have h13 := f13 a b
  have h14 := f14 a
  have h15 := f15 a
  obtain ⟨u, v, hW⟩ := pr_tup (addS a b)
  obtain ⟨u2, v2, hW2⟩ := pr_tup (flr a b 1)
  rw [hW] at h10 h12
  rw [hW2] at h11 h13
  refine evE_intro 1 D3 rfl ?_
  unfold c3
  simp [evCode, evOps, evOne, evOp, evPur, evEff, evPur.chunks, fillP, AOp.isEff, AO.ev, putP, PV.cells, PV.leaf, getB, getM, mapE, keyC, mapRows, mfind, eq1, eqL, scal, binP, unP, minP, maxP, foldP, PV.lt, PV.lt.ltL, endP, expoAll, expo, expo.expoL, frIds, frIds.frIdsL, nodupN, kill, cls, clsFuel, resO, RV.get, loadP, evC_p, evC_s, endS, endT, rowsOf, callP, thinL, unfr, unfr.unfrL, PV.noMem, PV.noMem.noMemL, optI, mapO, norm, trimT, trimB, forget, hasN, blksLt, List.set, h10, h11, h12, h13, h14, h15, f16]
set_option maxRecDepth 100000 in
theorem n5 (a b c : Int) (hc64 : -9223372036854775808 ≤ c ∧ c ≤ 9223372036854775807) : evE Dg 5 [.int .i64 a, .int .i64 b, .int .i64 c] = some (.bool true) := by
  have h17 := f17 a b c hc64
  have h18 := f18 a b c hc64
  have h19 := f19 a b c hc64
  have h20 := f20 a b c hc64
  obtain ⟨u, v, hW⟩ := pr_tup (flr a b c)
  obtain ⟨u2, v2, hW2⟩ := pr_tup (cel a b c)
  rw [hW] at h17 h19
  rw [hW2] at h18 h20
  refine evE_intro 1 D5 rfl ?_
  unfold c5
  simp [evCode, evOps, evOne, evOp, evPur, evEff, evPur.chunks, fillP, AOp.isEff, AO.ev, putP, PV.cells, PV.leaf, getB, getM, mapE, keyC, mapRows, mfind, eq1, eqL, scal, binP, unP, minP, maxP, foldP, PV.lt, PV.lt.ltL, endP, expoAll, expo, expo.expoL, frIds, frIds.frIdsL, nodupN, kill, cls, clsFuel, resO, RV.get, loadP, evC_p, evC_s, endS, endT, rowsOf, callP, thinL, unfr, unfr.unfrL, PV.noMem, PV.noMem.noMemL, optI, mapO, norm, trimT, trimB, forget, hasN, blksLt, List.set, h17, h18, h19, h20, f16]
theorem addS_comm (a b : Int) : addS b a = addS a b := by unfold addS; rw [Int.add_comm b a, Bool.and_comm (inB b)]
theorem flr_comm (a b c : Int) : flr b a c = flr a b c := by unfold flr; rw [Int.mul_comm b a, Bool.and_comm (inB b)]
set_option maxRecDepth 100000 in
theorem n4 (a b : Int) : evE Dg 4 [.int .i64 a, .int .i64 b] = some (.bool true) := by
  have h10 := f10 a b
  have h11 := f11 a b
  have h10' := f10 b a
  have h11' := f11 b a
  rw [addS_comm] at h10'
  rw [flr_comm] at h11'
  obtain ⟨u2, v2, hW2⟩ := pr_tup (flr a b 1)
  rw [hW2] at h11 h11'
  by_cases hb : inB a = true ∧ inB b = true ∧ inB (a + b) = true
  · obtain ⟨b1, b2, b3⟩ := hb
    have e1 : addS a b = some (a + b) := by unfold addS; rw [b1, b2, b3]; rfl
    obtain ⟨s, hs⟩ := ex_eq (a + b)
    have e2 : addS s (-b) = some a := by
      unfold addS
      rw [inB_neg, b2]
      have : s + -b = a := by omega
      rw [this, b1, ← hs, b3]; rfl
    rw [e1, hs] at h10 h10'
    have g := f10 s (-b)
    rw [e2] at g
    simp only [pr] at h10 h10' g
    have hb' := (inB_iff b).1 b2
    have w := wrap_i64 (-b) (by omega) (by omega)
    refine evE_intro 1 D4 rfl ?_
    unfold c4
    simp [evCode, evOps, evOne, evOp, evPur, evEff, evPur.chunks, fillP, AOp.isEff, AO.ev, putP, PV.cells, PV.leaf, getB, getM, mapE, keyC, mapRows, mfind, eq1, eqL, scal, binP, unP, minP, maxP, foldP, PV.lt, PV.lt.ltL, endP, expoAll, expo, expo.expoL, frIds, frIds.frIdsL, nodupN, kill, cls, clsFuel, resO, RV.get, loadP, evC_p, evC_s, endS, endT, rowsOf, callP, thinL, unfr, unfr.unfrL, PV.noMem, PV.noMem.noMemL, optI, mapO, norm, trimT, trimB, forget, hasN, blksLt, List.set, h10, h11, h10', h11', w, g, f16]
  · have e1 : addS a b = none := by
      unfold addS
      rw [if_neg]
      intro h
      apply hb
      simpa [and_assoc] using h
    rw [e1] at h10 h10'
    simp only [pr] at h10 h10'
    refine evE_intro 1 D4 rfl ?_
    unfold c4
    simp [evCode, evOps, evOne, evOp, evPur, evEff, evPur.chunks, fillP, AOp.isEff, AO.ev, putP, PV.cells, PV.leaf, getB, getM, mapE, keyC, mapRows, mfind, eq1, eqL, scal, binP, unP, minP, maxP, foldP, PV.lt, PV.lt.ltL, endP, expoAll, expo, expo.expoL, frIds, frIds.frIdsL, nodupN, kill, cls, clsFuel, resO, RV.get, loadP, evC_p, evC_s, endS, endT, rowsOf, callP, thinL, unfr, unfr.unfrL, PV.noMem, PV.noMem.noMemL, optI, mapO, norm, trimT, trimB, forget, hasN, blksLt, List.set, h10, h11, h10', h11', f16]
end Go.Proofs.YtnodcoemjojlhaaDoor
