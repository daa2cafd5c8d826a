/- A constant under negations: its nodes, its levels. -/
import Derived.Test.YtllgemagnfcjiaaEvP
namespace Go.Proofs.Ytllgemagnfcjiaa
open Go Go.RowKit
set_option linter.unusedVariables false
set_option linter.unusedSimpArgs false
set_option maxHeartbeats 4000000

def nest : Nat → List PV
  | 0 => [.int .i64 1, .str [], .int .i64 1, .int .i64 1, .str [], .nilS]
  | m + 1 => [.int .i64 3, .str [], .int .i64 0, .int .i64 0, .str [], .sl true 6 [nest m]]
theorem wk : IntKind.i64.wrap 1 = 1 := wrap_i64 1 (by omega) (by omega)
theorem nest_cells (m : Nat) : ∃ (a b c : Int) (k : PV), nest m = [.int .i64 a, .str [], .int .i64 b, .int .i64 c, .str [], k] ∧ k.leaf = true ∧ k.lt 0 = true := by
  cases m with
  | zero => exact ⟨_, _, _, _, rfl, rfl, rfl⟩
  | succ m => exact ⟨_, _, _, _, rfl, rfl, rfl⟩
set_option maxRecDepth 100000 in
/-- the number of nodes -/
theorem f26 : ∀ (m n : Nat), n + m + 1 ≤ 200 → evE Dg 26 [.agg (nest m), .int .i64 n] = some (.int .i64 (n + m + 1 : Nat))
  | 0, n, h => by
    have w1 : IntKind.i64.wrap ((n : Int) + 1) = ((n + 1 : Nat) : Int) := by rw [wrap_i64 _ (by omega) (by omega)]; omega
    refine evE_intro 3 D26 rfl ?_
    rw [show n + 0 + 1 = n + 1 by omega]
    generalize n + 1 = q at *
    unfold c26 nest
    simp [evCode, evOps, evOne, evOp, evPur, evEff, evPur.chunks, fillP, AOp.isEff, AO.ev, putP, PV.cells, PV.leaf, getB, getM, mapE, iterE, keyC, mapRows, mfind, eq1, eqL, scal, binP, unP, minP, maxP, foldP, PV.lt, PV.lt.ltL, endP, expoAll, expoG, expo, expo.expoL, frIds, frIds.frIdsL, nodupN, kill, cls, clsFuel, resO, RV.get, loadP, evC_p, evC_s, endS, endT, rowsOf, callP, thinL, unfr, unfr.unfrL, PV.noMem, PV.noMem.noMemL, optI, mapO, norm, trimT, trimB, forget, hasN, blksLt, List.set, softChk, softGo, softRd, effTg, rdP, w1]
    unfold c26b0
    simp [evCode, evOps, evOne, evOp, evPur, evEff, evPur.chunks, fillP, AOp.isEff, AO.ev, putP, PV.cells, PV.leaf, getB, getM, mapE, iterE, keyC, mapRows, mfind, eq1, eqL, scal, binP, unP, minP, maxP, foldP, PV.lt, PV.lt.ltL, endP, expoAll, expoG, expo, expo.expoL, frIds, frIds.frIdsL, nodupN, kill, cls, clsFuel, resO, RV.get, loadP, evC_p, evC_s, endS, endT, rowsOf, callP, thinL, unfr, unfr.unfrL, PV.noMem, PV.noMem.noMemL, optI, mapO, norm, trimT, trimB, forget, hasN, blksLt, List.set, softChk, softGo, softRd, effTg, rdP, evLoop]
  | m + 1, n, h => by
    have ih := f26 m (n + 1) (by omega)
    have w1 : IntKind.i64.wrap ((n : Int) + 1) = ((n + 1 : Nat) : Int) := by rw [wrap_i64 _ (by omega) (by omega)]; omega
    have c1 : ¬ (200 : Int) < ((n + 1 : Nat) : Int) := by omega
    obtain ⟨a, b, c, k, hn, hk1, hk2⟩ := nest_cells m
    refine evE_intro 3 D26 rfl ?_
    rw [show n + (m + 1) + 1 = n + 1 + m + 1 by omega]
    unfold nest
    rw [hn] at ih ⊢
    generalize n + 1 + m + 1 = r at *
    generalize n + 1 = q at *
    unfold c26
    simp [evCode, evOps, evOne, evOp, evPur, evEff, evPur.chunks, fillP, AOp.isEff, AO.ev, putP, PV.cells, PV.leaf, getB, getM, mapE, iterE, keyC, mapRows, mfind, eq1, eqL, scal, binP, unP, minP, maxP, foldP, PV.lt, PV.lt.ltL, endP, expoAll, expoG, expo, expo.expoL, frIds, frIds.frIdsL, nodupN, kill, cls, clsFuel, resO, RV.get, loadP, evC_p, evC_s, endS, endT, rowsOf, callP, thinL, unfr, unfr.unfrL, PV.noMem, PV.noMem.noMemL, optI, mapO, norm, trimT, trimB, forget, hasN, blksLt, List.set, softChk, softGo, softRd, effTg, rdP, w1]
    unfold c26b0
    simp [evCode, evOps, evOne, evOp, evPur, evEff, evPur.chunks, fillP, AOp.isEff, AO.ev, putP, PV.cells, PV.leaf, getB, getM, mapE, iterE, keyC, mapRows, mfind, eq1, eqL, scal, binP, unP, minP, maxP, foldP, PV.lt, PV.lt.ltL, endP, expoAll, expoG, expo, expo.expoL, frIds, frIds.frIdsL, nodupN, kill, cls, clsFuel, resO, RV.get, loadP, evC_p, evC_s, endS, endT, rowsOf, callP, thinL, unfr, unfr.unfrL, PV.noMem, PV.noMem.noMemL, optI, mapO, norm, trimT, trimB, forget, hasN, blksLt, List.set, softChk, softGo, softRd, effTg, rdP, evLoop, wk, c1, ih, ↓hk1, ↓hk2]
/-- whether there are more levels -/
def deep (m : Nat) (lv : Int) : Bool := decide (lv ≤ m)
set_option maxRecDepth 100000 in
theorem f72a (c : PV) : evE Dg 72 [.nilS, .fn 54 [c]] = some (.int .i64 (-1)) := by
  refine evE_intro 3 D72 rfl ?_
  unfold c72
  simp [evCode, evOps, evOne, evOp, evPur, evEff, evPur.chunks, fillP, AOp.isEff, AO.ev, putP, PV.cells, PV.leaf, getB, getM, mapE, iterE, keyC, mapRows, mfind, eq1, eqL, scal, binP, unP, minP, maxP, foldP, PV.lt, PV.lt.ltL, endP, expoAll, expoG, expo, expo.expoL, frIds, frIds.frIdsL, nodupN, kill, cls, clsFuel, resO, RV.get, loadP, evC_p, evC_s, endS, endT, rowsOf, callP, thinL, unfr, unfr.unfrL, PV.noMem, PV.noMem.noMemL, optI, mapO, norm, trimT, trimB, forget, hasN, blksLt, List.set, softChk, softGo, softRd, effTg, rdP]
  unfold c72b0
  simp [evCode, evOps, evOne, evOp, evPur, evEff, evPur.chunks, fillP, AOp.isEff, AO.ev, putP, PV.cells, PV.leaf, getB, getM, mapE, iterE, keyC, mapRows, mfind, eq1, eqL, scal, binP, unP, minP, maxP, foldP, PV.lt, PV.lt.ltL, endP, expoAll, expoG, expo, expo.expoL, frIds, frIds.frIdsL, nodupN, kill, cls, clsFuel, resO, RV.get, loadP, evC_p, evC_s, endS, endT, rowsOf, callP, thinL, unfr, unfr.unfrL, PV.noMem, PV.noMem.noMemL, optI, mapO, norm, trimT, trimB, forget, hasN, blksLt, List.set, softChk, softGo, softRd, effTg, rdP, evLoop]
set_option maxRecDepth 100000 in
theorem f72b (m : Nat) (lv : Int) (x : Bool) (ex : Bool) (h : evE Dg 54 [.agg (nest m), .cptr [.int .i64 lv]] = some (.bool x)) : evE Dg 72 [.sl ex 6 [nest m], .fn 54 [.cptr [.int .i64 lv]]] = some (.int .i64 (if x = true then 0 else -1)) := by
  obtain ⟨a, b, c, k, hn, hk1, hk2⟩ := nest_cells m
  rw [hn] at h ⊢
  refine evE_intro 3 D72 rfl ?_
  unfold c72
  cases x with
  | true =>
    simp [evCode, evOps, evOne, evOp, evPur, evEff, evPur.chunks, fillP, AOp.isEff, AO.ev, putP, PV.cells, PV.leaf, getB, getM, mapE, iterE, keyC, mapRows, mfind, eq1, eqL, scal, binP, unP, minP, maxP, foldP, PV.lt, PV.lt.ltL, endP, expoAll, expoG, expo, expo.expoL, frIds, frIds.frIdsL, nodupN, kill, cls, clsFuel, resO, RV.get, loadP, evC_p, evC_s, endS, endT, rowsOf, callP, thinL, unfr, unfr.unfrL, PV.noMem, PV.noMem.noMemL, optI, mapO, norm, trimT, trimB, forget, hasN, blksLt, List.set, softChk, softGo, softRd, effTg, rdP]
    unfold c72b0
    simp [evCode, evOps, evOne, evOp, evPur, evEff, evPur.chunks, fillP, AOp.isEff, AO.ev, putP, PV.cells, PV.leaf, getB, getM, mapE, iterE, keyC, mapRows, mfind, eq1, eqL, scal, binP, unP, minP, maxP, foldP, PV.lt, PV.lt.ltL, endP, expoAll, expoG, expo, expo.expoL, frIds, frIds.frIdsL, nodupN, kill, cls, clsFuel, resO, RV.get, loadP, evC_p, evC_s, endS, endT, rowsOf, callP, thinL, unfr, unfr.unfrL, PV.noMem, PV.noMem.noMemL, optI, mapO, norm, trimT, trimB, forget, hasN, blksLt, List.set, softChk, softGo, softRd, effTg, rdP, evLoop, wk, h, ↓hk1, ↓hk2]
  | false =>
    simp [evCode, evOps, evOne, evOp, evPur, evEff, evPur.chunks, fillP, AOp.isEff, AO.ev, putP, PV.cells, PV.leaf, getB, getM, mapE, iterE, keyC, mapRows, mfind, eq1, eqL, scal, binP, unP, minP, maxP, foldP, PV.lt, PV.lt.ltL, endP, expoAll, expoG, expo, expo.expoL, frIds, frIds.frIdsL, nodupN, kill, cls, clsFuel, resO, RV.get, loadP, evC_p, evC_s, endS, endT, rowsOf, callP, thinL, unfr, unfr.unfrL, PV.noMem, PV.noMem.noMemL, optI, mapO, norm, trimT, trimB, forget, hasN, blksLt, List.set, softChk, softGo, softRd, effTg, rdP]
    unfold c72b0
    simp [evCode, evOps, evOne, evOp, evPur, evEff, evPur.chunks, fillP, AOp.isEff, AO.ev, putP, PV.cells, PV.leaf, getB, getM, mapE, iterE, keyC, mapRows, mfind, eq1, eqL, scal, binP, unP, minP, maxP, foldP, PV.lt, PV.lt.ltL, endP, expoAll, expoG, expo, expo.expoL, frIds, frIds.frIdsL, nodupN, kill, cls, clsFuel, resO, RV.get, loadP, evC_p, evC_s, endS, endT, rowsOf, callP, thinL, unfr, unfr.unfrL, PV.noMem, PV.noMem.noMemL, optI, mapO, norm, trimT, trimB, forget, hasN, blksLt, List.set, softChk, softGo, softRd, effTg, rdP, evLoop, wk, h, ↓hk1, ↓hk2]
set_option maxRecDepth 100000 in
theorem f53a (lv : Int) : evE Dg 53 [.nilS, .fn 54 [.cptr [.int .i64 lv]]] = some (.bool false) := by
  have h := f72a (.cptr [.int .i64 lv])
  refine evE_intro 1 D53 rfl ?_
  unfold c53
  simp [evCode, evOps, evOne, evOp, evPur, evEff, evPur.chunks, fillP, AOp.isEff, AO.ev, putP, PV.cells, PV.leaf, getB, getM, mapE, iterE, keyC, mapRows, mfind, eq1, eqL, scal, binP, unP, minP, maxP, foldP, PV.lt, PV.lt.ltL, endP, expoAll, expoG, expo, expo.expoL, frIds, frIds.frIdsL, nodupN, kill, cls, clsFuel, resO, RV.get, loadP, evC_p, evC_s, endS, endT, rowsOf, callP, thinL, unfr, unfr.unfrL, PV.noMem, PV.noMem.noMemL, optI, mapO, norm, trimT, trimB, forget, hasN, blksLt, List.set, softChk, softGo, softRd, effTg, rdP, h]
set_option maxRecDepth 100000 in
theorem f53b (m : Nat) (lv : Int) (x : Bool) (ex : Bool) (h : evE Dg 54 [.agg (nest m), .cptr [.int .i64 lv]] = some (.bool x)) : evE Dg 53 [.sl ex 6 [nest m], .fn 54 [.cptr [.int .i64 lv]]] = some (.bool x) := by
  have h := f72b m lv x ex h
  generalize nest m = X at *
  refine evE_intro 1 D53 rfl ?_
  unfold c53
  cases x <;> simp [evCode, evOps, evOne, evOp, evPur, evEff, evPur.chunks, fillP, AOp.isEff, AO.ev, putP, PV.cells, PV.leaf, getB, getM, mapE, iterE, keyC, mapRows, mfind, eq1, eqL, scal, binP, unP, minP, maxP, foldP, PV.lt, PV.lt.ltL, endP, expoAll, expoG, expo, expo.expoL, frIds, frIds.frIdsL, nodupN, kill, cls, clsFuel, resO, RV.get, loadP, evC_p, evC_s, endS, endT, rowsOf, callP, thinL, unfr, unfr.unfrL, PV.noMem, PV.noMem.noMemL, optI, mapO, norm, trimT, trimB, forget, hasN, blksLt, List.set, softChk, softGo, softRd, effTg, rdP, h]
set_option maxRecDepth 100000 in
theorem f54 (m : Nat) (lv : Int) (h0 : 1 ≤ lv) (h1 : lv ≤ 1000) (x : Bool) (h : evE Dg 27 [.agg (nest m), .int .i64 (lv - 1)] = some (.bool x)) : evE Dg 54 [.agg (nest m), .cptr [.int .i64 lv]] = some (.bool x) := by
  obtain ⟨a, b, c, k, hn, hk1, hk2⟩ := nest_cells m
  rw [hn] at h ⊢
  have w1 : IntKind.i64.wrap (lv - 1) = lv - 1 := wrap_i64 _ (by omega) (by omega)
  refine evE_intro 1 D54 rfl ?_
  unfold c54
  simp [evCode, evOps, evOne, evOp, evPur, evEff, evPur.chunks, fillP, AOp.isEff, AO.ev, putP, PV.cells, PV.leaf, getB, getM, mapE, iterE, keyC, mapRows, mfind, eq1, eqL, scal, binP, unP, minP, maxP, foldP, PV.lt, PV.lt.ltL, endP, expoAll, expoG, expo, expo.expoL, frIds, frIds.frIdsL, nodupN, kill, cls, clsFuel, resO, RV.get, loadP, evC_p, evC_s, endS, endT, rowsOf, callP, thinL, unfr, unfr.unfrL, PV.noMem, PV.noMem.noMemL, optI, mapO, norm, trimT, trimB, forget, hasN, blksLt, List.set, softChk, softGo, softRd, effTg, rdP, w1, h, ↓hk1, ↓hk2]
set_option maxRecDepth 100000 in
theorem f27 : ∀ (m : Nat) (lv : Int), 0 ≤ lv → lv ≤ 1000 → evE Dg 27 [.agg (nest m), .int .i64 lv] = some (.bool (deep m lv))
  | 0, lv, h0, h1 => by
    have h53 := f53a lv
    refine evE_intro 1 D27 rfl ?_
    unfold c27 nest deep
    by_cases h2 : lv = 0
    · subst h2
      simp [evCode, evOps, evOne, evOp, evPur, evEff, evPur.chunks, fillP, AOp.isEff, AO.ev, putP, PV.cells, PV.leaf, getB, getM, mapE, iterE, keyC, mapRows, mfind, eq1, eqL, scal, binP, unP, minP, maxP, foldP, PV.lt, PV.lt.ltL, endP, expoAll, expoG, expo, expo.expoL, frIds, frIds.frIdsL, nodupN, kill, cls, clsFuel, resO, RV.get, loadP, evC_p, evC_s, endS, endT, rowsOf, callP, thinL, unfr, unfr.unfrL, PV.noMem, PV.noMem.noMemL, optI, mapO, norm, trimT, trimB, forget, hasN, blksLt, List.set, softChk, softGo, softRd, effTg, rdP]
    · have h3 : ¬ lv ≤ 0 := by omega
      simp [evCode, evOps, evOne, evOp, evPur, evEff, evPur.chunks, fillP, AOp.isEff, AO.ev, putP, PV.cells, PV.leaf, getB, getM, mapE, iterE, keyC, mapRows, mfind, eq1, eqL, scal, binP, unP, minP, maxP, foldP, PV.lt, PV.lt.ltL, endP, expoAll, expoG, expo, expo.expoL, frIds, frIds.frIdsL, nodupN, kill, cls, clsFuel, resO, RV.get, loadP, evC_p, evC_s, endS, endT, rowsOf, callP, thinL, unfr, unfr.unfrL, PV.noMem, PV.noMem.noMemL, optI, mapO, norm, trimT, trimB, forget, hasN, blksLt, List.set, softChk, softGo, softRd, effTg, rdP, h2, h3, h53]
  | m + 1, lv, h0, h1 => by
    by_cases h2 : lv = 0
    · subst h2
      obtain ⟨a, b, c, k, hn, hk1, hk2⟩ := nest_cells (m + 1)
      rw [hn]
      refine evE_intro 1 D27 rfl ?_
      unfold c27 deep
      have h3 : (0 : Int) ≤ ((m + 1 : Nat) : Int) := by omega
      generalize m + 1 = q at *
      simp [evCode, evOps, evOne, evOp, evPur, evEff, evPur.chunks, fillP, AOp.isEff, AO.ev, putP, PV.cells, PV.leaf, getB, getM, mapE, iterE, keyC, mapRows, mfind, eq1, eqL, scal, binP, unP, minP, maxP, foldP, PV.lt, PV.lt.ltL, endP, expoAll, expoG, expo, expo.expoL, frIds, frIds.frIdsL, nodupN, kill, cls, clsFuel, resO, RV.get, loadP, evC_p, evC_s, endS, endT, rowsOf, callP, thinL, unfr, unfr.unfrL, PV.noMem, PV.noMem.noMemL, optI, mapO, norm, trimT, trimB, forget, hasN, blksLt, List.set, softChk, softGo, softRd, effTg, rdP, h3, ↓hk1, ↓hk2]
    · have ih := f27 m (lv - 1) (by omega) (by omega)
      have h54 := f54 m lv (by omega) h1 _ ih
      have h53 := f53b m lv _ true h54
      have h53' := f53b m lv _ false h54
      have hd : deep (m + 1) lv = deep m (lv - 1) := by
        unfold deep
        by_cases h5 : lv - 1 ≤ m
        · have h6 : lv ≤ ((m + 1 : Nat) : Int) := by omega
          simp only [h5, h6]
        · have h6 : ¬ lv ≤ ((m + 1 : Nat) : Int) := by omega
          simp only [h5, h6]
      rw [hd]
      refine evE_intro 1 D27 rfl ?_
      unfold c27 nest
      generalize deep m (lv - 1) = x at *
      generalize nest m = X at *
      simp [evCode, evOps, evOne, evOp, evPur, evEff, evPur.chunks, fillP, AOp.isEff, AO.ev, putP, PV.cells, PV.leaf, getB, getM, mapE, iterE, keyC, mapRows, mfind, eq1, eqL, scal, binP, unP, minP, maxP, foldP, PV.lt, PV.lt.ltL, endP, expoAll, expoG, expo, expo.expoL, frIds, frIds.frIdsL, nodupN, kill, cls, clsFuel, resO, RV.get, loadP, evC_p, evC_s, endS, endT, rowsOf, callP, thinL, unfr, unfr.unfrL, PV.noMem, PV.noMem.noMemL, optI, mapO, norm, trimT, trimB, forget, hasN, blksLt, List.set, softChk, softGo, softRd, effTg, rdP, h2, h53, h53']
end Go.Proofs.Ytllgemagnfcjiaa
