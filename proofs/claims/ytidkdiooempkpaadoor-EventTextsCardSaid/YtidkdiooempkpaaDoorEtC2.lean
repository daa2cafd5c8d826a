/- event: Check, kind by kind (written by mkEt.py). -/
-- BIG
import Derived.Test.YtidkdiooempkpaaDoorEtB
namespace Go.Proofs.YtidkdiooempkpaaDoor
open Go Go.RowKit
set_option linter.unusedVariables false
set_option linter.unusedSimpArgs false
set_option maxHeartbeats 4000000
set_option maxRecDepth 100000

theorem f12_2_zm (a k : Int) (nm : List UInt8) (n m : Int) (S : List (List PV)) (at1 : ¬ a < 0) (at2 : ¬ 1000000000000 < a) (k1 : ¬ k < 1) (k2 : ¬ 12 < k) (h21 : evE Dg 25 [.int .i64 k] = some (.tup [.bool true, .bool true, .bool false, .bool false])) (z : ¬ m = 0) : evE Dg 12 [.agg [.int .i64 a, .int .i64 k, .str nm, .int .i64 n, .int .i64 m, .sl false 1 S]] = some (.int .i64 1) := by
  refine evE_intro 1 D12 rfl ?_
  unfold c12
  simp (maxSteps := 100000000) [evCode, evOps, evOne, evOp, evPur, evEff, evPur.chunks, fillP, AOp.isEff, AO.ev, putP, PV.cells, PV.leaf, getB, getM, mapE, iterE, keyC, mapRows, mfind, eq1, eqL, scal, binP, unP, minP, maxP, foldP, PV.lt, PV.lt.ltL, endP, expoAll, expoG, expo, expo.expoL, frIds, frIds.frIdsL, nodupN, kill, cls, clsFuel, resO, RV.get, loadP, evC_p, evC_s, endS, endT, rowsOf, callP, thinL, unfr, unfr.unfrL, PV.noMem, PV.noMem.noMemL, optI, mapO, norm, trimT, trimB, forget, hasN, blksLt, List.set, softChk, softGo, softRd, effTg, tgOf, chgN, sameB, PV.same, PV.same.sameL, PV.same.sameLL, rdP, h21, at1, at2, k1, k2, z]
theorem f12_2_zS (a k : Int) (nm : List UInt8) (n m : Int) (S : List (List PV)) (at1 : ¬ a < 0) (at2 : ¬ 1000000000000 < a) (k1 : ¬ k < 1) (k2 : ¬ 12 < k) (h21 : evE Dg 25 [.int .i64 k] = some (.tup [.bool true, .bool true, .bool false, .bool false])) (z : 0 < S.length) : evE Dg 12 [.agg [.int .i64 a, .int .i64 k, .str nm, .int .i64 n, .int .i64 0, .sl false 1 S]] = some (.int .i64 1) := by
  refine evE_intro 1 D12 rfl ?_
  unfold c12
  simp (maxSteps := 100000000) [evCode, evOps, evOne, evOp, evPur, evEff, evPur.chunks, fillP, AOp.isEff, AO.ev, putP, PV.cells, PV.leaf, getB, getM, mapE, iterE, keyC, mapRows, mfind, eq1, eqL, scal, binP, unP, minP, maxP, foldP, PV.lt, PV.lt.ltL, endP, expoAll, expoG, expo, expo.expoL, frIds, frIds.frIdsL, nodupN, kill, cls, clsFuel, resO, RV.get, loadP, evC_p, evC_s, endS, endT, rowsOf, callP, thinL, unfr, unfr.unfrL, PV.noMem, PV.noMem.noMemL, optI, mapO, norm, trimT, trimB, forget, hasN, blksLt, List.set, softChk, softGo, softRd, effTg, tgOf, chgN, sameB, PV.same, PV.same.sameL, PV.same.sameLL, rdP, h21, at1, at2, k1, k2, z]
theorem f12_2_name (a k : Int) (nm : List UInt8) (n m : Int) (S : List (List PV)) (at1 : ¬ a < 0) (at2 : ¬ 1000000000000 < a) (k1 : ¬ k < 1) (k2 : ¬ 12 < k) (h21 : evE Dg 25 [.int .i64 k] = some (.tup [.bool true, .bool true, .bool false, .bool false])) (hn : evE Dg 26 [.str nm] = some (.int .i64 3)) : evE Dg 12 [.agg [.int .i64 a, .int .i64 k, .str nm, .int .i64 n, .int .i64 0, .sl false 1 []]] = some (.int .i64 3) := by
  refine evE_intro 1 D12 rfl ?_
  unfold c12
  simp (maxSteps := 100000000) [evCode, evOps, evOne, evOp, evPur, evEff, evPur.chunks, fillP, AOp.isEff, AO.ev, putP, PV.cells, PV.leaf, getB, getM, mapE, iterE, keyC, mapRows, mfind, eq1, eqL, scal, binP, unP, minP, maxP, foldP, PV.lt, PV.lt.ltL, endP, expoAll, expoG, expo, expo.expoL, frIds, frIds.frIdsL, nodupN, kill, cls, clsFuel, resO, RV.get, loadP, evC_p, evC_s, endS, endT, rowsOf, callP, thinL, unfr, unfr.unfrL, PV.noMem, PV.noMem.noMemL, optI, mapO, norm, trimT, trimB, forget, hasN, blksLt, List.set, softChk, softGo, softRd, effTg, tgOf, chgN, sameB, PV.same, PV.same.sameL, PV.same.sameLL, rdP, h21, at1, at2, k1, k2, hn]
theorem f12_2_end (a k : Int) (nm : List UInt8) (n m : Int) (S : List (List PV)) (at1 : ¬ a < 0) (at2 : ¬ 1000000000000 < a) (k1 : ¬ k < 1) (k2 : ¬ 12 < k) (h21 : evE Dg 25 [.int .i64 k] = some (.tup [.bool true, .bool true, .bool false, .bool false])) (hn : evE Dg 26 [.str nm] = some (.int .i64 0)) (M : Int) (h28 : evE Dg 28 [.agg [.int .i64 a, .int .i64 k, .str nm, .int .i64 n, .int .i64 0, .sl false 1 []]] = some (.int .i64 M)) : evE Dg 12 [.agg [.int .i64 a, .int .i64 k, .str nm, .int .i64 n, .int .i64 0, .sl false 1 []]] = some (.int .i64 M) := by
  refine evE_intro 1 D12 rfl ?_
  unfold c12
  simp (maxSteps := 100000000) [evCode, evOps, evOne, evOp, evPur, evEff, evPur.chunks, fillP, AOp.isEff, AO.ev, putP, PV.cells, PV.leaf, getB, getM, mapE, iterE, keyC, mapRows, mfind, eq1, eqL, scal, binP, unP, minP, maxP, foldP, PV.lt, PV.lt.ltL, endP, expoAll, expoG, expo, expo.expoL, frIds, frIds.frIdsL, nodupN, kill, cls, clsFuel, resO, RV.get, loadP, evC_p, evC_s, endS, endT, rowsOf, callP, thinL, unfr, unfr.unfrL, PV.noMem, PV.noMem.noMemL, optI, mapO, norm, trimT, trimB, forget, hasN, blksLt, List.set, softChk, softGo, softRd, effTg, tgOf, chgN, sameB, PV.same, PV.same.sameL, PV.same.sameLL, rdP, h21, at1, at2, k1, k2, hn, h28]
theorem f12_2 (e : Ev) (at1 : ¬ e.at_ < 0) (at2 : ¬ 1000000000000 < e.at_) (k1 : ¬ e.k < 1) (k2 : ¬ 12 < e.k) (h21 : evE Dg 25 [.int .i64 e.k] = some (.tup [.bool true, .bool true, .bool false, .bool false])) (N : Int) (h28 : chkC true true false false e 77 = 77 → evE Dg 28 [eE e] = some (.int .i64 N)) :
    evE Dg 12 [eE e] = some (.int .i64 (chkC true true false false e N)) := by
  obtain ⟨a, k, nm, n, m, st⟩ := e
  have hn := f26 nm
  have hf := f27 st
  simp only [eE, eC, eTx] at *
  unfold nameE at hn
  by_cases zm : m = 0
  case neg =>
    rw [show ∀ r, chkC true true false false ⟨a, k, nm, n, m, st⟩ r = 1 from fun r => by simp [chkC, zm]]
    exact f12_2_zm a k nm n m (st.map fun t => [.str t]) at1 at2 k1 k2 h21 zm
  subst zm
  by_cases zst : st = []
  case neg =>
    rw [show ∀ r, chkC true true false false ⟨a, k, nm, n, 0, st⟩ r = 1 from fun r => by simp [chkC, zst]]
    exact f12_2_zS a k nm n 0 (st.map fun t => [.str t]) at1 at2 k1 k2 h21 (by cases st with | nil => exact absurd rfl zst | cons x y => simp)
  subst zst
  cases hk : nameOk nm with
  | false =>
    rw [hk] at hn
    rw [show ∀ r, chkC true true false false ⟨a, k, nm, n, 0, []⟩ r = 3 from fun r => by simp [chkC, hk]]
    exact f12_2_name a k nm n 0 [] at1 at2 k1 k2 h21 hn
  | true =>
  rw [hk] at hn
  rw [show ∀ r, chkC true true false false ⟨a, k, nm, n, 0, []⟩ r = r from fun r => by simp [chkC, hk]]
  exact f12_2_end a k nm n 0 [] at1 at2 k1 k2 h21 hn N (h28 (by simp [chkC, hk]))
end Go.Proofs.YtidkdiooempkpaaDoor
