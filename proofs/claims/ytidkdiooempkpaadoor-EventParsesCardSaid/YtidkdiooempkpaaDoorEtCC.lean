/- several parts in one. -/
-- LATT
-- BIG
import Derived.Test.YtidkdiooempkpaaDoorEtB
/- event: Check, kind by kind (written by mkEt.py). -/
namespace Go.Proofs.YtidkdiooempkpaaDoor
open Go Go.RowKit
attribute [local simp] evCode evOps evOne evOp evPur evEff evPur.chunks fillP AOp.isEff AO.ev putP PV.cells PV.leaf getB getM mapE iterE keyC mapRows mfind eq1 eqL scal binP unP minP maxP foldP PV.lt PV.lt.ltL endP expoAll expoG expo expo.expoL frIds frIds.frIdsL nodupN kill cls clsFuel resO RV.get loadP evC_p evC_s endS endT rowsOf callP thinL unfr unfr.unfrL PV.noMem PV.noMem.noMemL optI mapO norm trimT trimB forget hasN blksLt List.set softChk softGo softRd effTg tgOf chgN sameB PV.same PV.same.sameL PV.same.sameLL rdP
set_option linter.unusedVariables false
set_option linter.unusedSimpArgs false
set_option maxHeartbeats 4000000
set_option maxRecDepth 100000

theorem f12_0_zn (a k : Int) (nm : List UInt8) (n m : Int) (S : List (List PV)) (at1 : ¬ a < 0) (at2 : ¬ 1000000000000 < a) (k1 : ¬ k < 1) (k2 : ¬ 12 < k) (h21 : evE Dg 25 [.int .i64 k] = some (.tup [.bool true, .bool false, .bool false, .bool false])) (z : ¬ n = 0) : evE Dg 12 [.agg [.int .i64 a, .int .i64 k, .str nm, .int .i64 n, .int .i64 m, .sl false 1 S]] = some (.int .i64 1) := by
  refine evE_intro 1 D12 rfl ?_
  unfold c12
  simp (maxSteps := 100000000) [h21, at1, at2, k1, k2, z]
theorem f12_0_zm (a k : Int) (nm : List UInt8) (n m : Int) (S : List (List PV)) (at1 : ¬ a < 0) (at2 : ¬ 1000000000000 < a) (k1 : ¬ k < 1) (k2 : ¬ 12 < k) (h21 : evE Dg 25 [.int .i64 k] = some (.tup [.bool true, .bool false, .bool false, .bool false])) (z : ¬ m = 0) : evE Dg 12 [.agg [.int .i64 a, .int .i64 k, .str nm, .int .i64 0, .int .i64 m, .sl false 1 S]] = some (.int .i64 1) := by
  refine evE_intro 1 D12 rfl ?_
  unfold c12
  simp (maxSteps := 100000000) [h21, at1, at2, k1, k2, z]
theorem f12_0_zS (a k : Int) (nm : List UInt8) (n m : Int) (S : List (List PV)) (at1 : ¬ a < 0) (at2 : ¬ 1000000000000 < a) (k1 : ¬ k < 1) (k2 : ¬ 12 < k) (h21 : evE Dg 25 [.int .i64 k] = some (.tup [.bool true, .bool false, .bool false, .bool false])) (z : 0 < S.length) : evE Dg 12 [.agg [.int .i64 a, .int .i64 k, .str nm, .int .i64 0, .int .i64 0, .sl false 1 S]] = some (.int .i64 1) := by
  refine evE_intro 1 D12 rfl ?_
  unfold c12
  simp (maxSteps := 100000000) [h21, at1, at2, k1, k2, z]
theorem f12_0_name (a k : Int) (nm : List UInt8) (n m : Int) (S : List (List PV)) (at1 : ¬ a < 0) (at2 : ¬ 1000000000000 < a) (k1 : ¬ k < 1) (k2 : ¬ 12 < k) (h21 : evE Dg 25 [.int .i64 k] = some (.tup [.bool true, .bool false, .bool false, .bool false])) (hn : evE Dg 26 [.str nm] = some (.int .i64 3)) : evE Dg 12 [.agg [.int .i64 a, .int .i64 k, .str nm, .int .i64 0, .int .i64 0, .sl false 1 []]] = some (.int .i64 3) := by
  refine evE_intro 1 D12 rfl ?_
  unfold c12
  simp (maxSteps := 100000000) [h21, at1, at2, k1, k2, hn]
theorem f12_0_end (a k : Int) (nm : List UInt8) (n m : Int) (S : List (List PV)) (at1 : ¬ a < 0) (at2 : ¬ 1000000000000 < a) (k1 : ¬ k < 1) (k2 : ¬ 12 < k) (h21 : evE Dg 25 [.int .i64 k] = some (.tup [.bool true, .bool false, .bool false, .bool false])) (hn : evE Dg 26 [.str nm] = some (.int .i64 0)) (M : Int) (h28 : evE Dg 28 [.agg [.int .i64 a, .int .i64 k, .str nm, .int .i64 0, .int .i64 0, .sl false 1 []]] = some (.int .i64 M)) : evE Dg 12 [.agg [.int .i64 a, .int .i64 k, .str nm, .int .i64 0, .int .i64 0, .sl false 1 []]] = some (.int .i64 M) := by
  refine evE_intro 1 D12 rfl ?_
  unfold c12
  simp (maxSteps := 100000000) [h21, at1, at2, k1, k2, hn, h28]
theorem f12_0 (e : Ev) (at1 : ¬ e.at_ < 0) (at2 : ¬ 1000000000000 < e.at_) (k1 : ¬ e.k < 1) (k2 : ¬ 12 < e.k) (h21 : evE Dg 25 [.int .i64 e.k] = some (.tup [.bool true, .bool false, .bool false, .bool false])) (N : Int) (h28 : chkC true false false false e 77 = 77 → evE Dg 28 [eE e] = some (.int .i64 N)) :
    evE Dg 12 [eE e] = some (.int .i64 (chkC true false false false e N)) := by
  obtain ⟨a, k, nm, n, m, st⟩ := e
  have hn := f26 nm
  have hf := f27 st
  simp only [eE, eC, eTx] at *
  unfold nameE at hn
  by_cases zn : n = 0
  case neg =>
    rw [show ∀ r, chkC true false false false ⟨a, k, nm, n, m, st⟩ r = 1 from fun r => by simp [chkC, zn]]
    exact f12_0_zn a k nm n m (st.map fun t => [.str t]) at1 at2 k1 k2 h21 zn
  subst zn
  by_cases zm : m = 0
  case neg =>
    rw [show ∀ r, chkC true false false false ⟨a, k, nm, 0, m, st⟩ r = 1 from fun r => by simp [chkC, zm]]
    exact f12_0_zm a k nm 0 m (st.map fun t => [.str t]) at1 at2 k1 k2 h21 zm
  subst zm
  by_cases zst : st = []
  case neg =>
    rw [show ∀ r, chkC true false false false ⟨a, k, nm, 0, 0, st⟩ r = 1 from fun r => by simp [chkC, zst]]
    exact f12_0_zS a k nm 0 0 (st.map fun t => [.str t]) at1 at2 k1 k2 h21 (by cases st with | nil => exact absurd rfl zst | cons x y => simp)
  subst zst
  cases hk : nameOk nm with
  | false =>
    rw [hk] at hn
    rw [show ∀ r, chkC true false false false ⟨a, k, nm, 0, 0, []⟩ r = 3 from fun r => by simp [chkC, hk]]
    exact f12_0_name a k nm 0 0 [] at1 at2 k1 k2 h21 hn
  | true =>
  rw [hk] at hn
  rw [show ∀ r, chkC true false false false ⟨a, k, nm, 0, 0, []⟩ r = r from fun r => by simp [chkC, hk]]
  exact f12_0_end a k nm 0 0 [] at1 at2 k1 k2 h21 hn N (h28 (by simp [chkC, hk]))
end Go.Proofs.YtidkdiooempkpaaDoor
/- event: Check, kind by kind (written by mkEt.py). -/
namespace Go.Proofs.YtidkdiooempkpaaDoor
open Go Go.RowKit
attribute [local simp] evCode evOps evOne evOp evPur evEff evPur.chunks fillP AOp.isEff AO.ev putP PV.cells PV.leaf getB getM mapE iterE keyC mapRows mfind eq1 eqL scal binP unP minP maxP foldP PV.lt PV.lt.ltL endP expoAll expoG expo expo.expoL frIds frIds.frIdsL nodupN kill cls clsFuel resO RV.get loadP evC_p evC_s endS endT rowsOf callP thinL unfr unfr.unfrL PV.noMem PV.noMem.noMemL optI mapO norm trimT trimB forget hasN blksLt List.set softChk softGo softRd effTg tgOf chgN sameB PV.same PV.same.sameL PV.same.sameLL rdP
set_option linter.unusedVariables false
set_option linter.unusedSimpArgs false
set_option maxHeartbeats 4000000
set_option maxRecDepth 100000

theorem f12_1_znm (a k : Int) (nm : List UInt8) (n m : Int) (S : List (List PV)) (at1 : ¬ a < 0) (at2 : ¬ 1000000000000 < a) (k1 : ¬ k < 1) (k2 : ¬ 12 < k) (h21 : evE Dg 25 [.int .i64 k] = some (.tup [.bool false, .bool false, .bool false, .bool false])) (z : ¬ nm = []) : evE Dg 12 [.agg [.int .i64 a, .int .i64 k, .str nm, .int .i64 n, .int .i64 m, .sl false 1 S]] = some (.int .i64 1) := by
  refine evE_intro 1 D12 rfl ?_
  unfold c12
  simp (maxSteps := 100000000) [h21, at1, at2, k1, k2, z]
theorem f12_1_zn (a k : Int) (nm : List UInt8) (n m : Int) (S : List (List PV)) (at1 : ¬ a < 0) (at2 : ¬ 1000000000000 < a) (k1 : ¬ k < 1) (k2 : ¬ 12 < k) (h21 : evE Dg 25 [.int .i64 k] = some (.tup [.bool false, .bool false, .bool false, .bool false])) (z : ¬ n = 0) : evE Dg 12 [.agg [.int .i64 a, .int .i64 k, .str [], .int .i64 n, .int .i64 m, .sl false 1 S]] = some (.int .i64 1) := by
  refine evE_intro 1 D12 rfl ?_
  unfold c12
  simp (maxSteps := 100000000) [h21, at1, at2, k1, k2, z]
theorem f12_1_zm (a k : Int) (nm : List UInt8) (n m : Int) (S : List (List PV)) (at1 : ¬ a < 0) (at2 : ¬ 1000000000000 < a) (k1 : ¬ k < 1) (k2 : ¬ 12 < k) (h21 : evE Dg 25 [.int .i64 k] = some (.tup [.bool false, .bool false, .bool false, .bool false])) (z : ¬ m = 0) : evE Dg 12 [.agg [.int .i64 a, .int .i64 k, .str [], .int .i64 0, .int .i64 m, .sl false 1 S]] = some (.int .i64 1) := by
  refine evE_intro 1 D12 rfl ?_
  unfold c12
  simp (maxSteps := 100000000) [h21, at1, at2, k1, k2, z]
theorem f12_1_zS (a k : Int) (nm : List UInt8) (n m : Int) (S : List (List PV)) (at1 : ¬ a < 0) (at2 : ¬ 1000000000000 < a) (k1 : ¬ k < 1) (k2 : ¬ 12 < k) (h21 : evE Dg 25 [.int .i64 k] = some (.tup [.bool false, .bool false, .bool false, .bool false])) (z : 0 < S.length) : evE Dg 12 [.agg [.int .i64 a, .int .i64 k, .str [], .int .i64 0, .int .i64 0, .sl false 1 S]] = some (.int .i64 1) := by
  refine evE_intro 1 D12 rfl ?_
  unfold c12
  simp (maxSteps := 100000000) [h21, at1, at2, k1, k2, z]
theorem f12_1_end (a k : Int) (nm : List UInt8) (n m : Int) (S : List (List PV)) (at1 : ¬ a < 0) (at2 : ¬ 1000000000000 < a) (k1 : ¬ k < 1) (k2 : ¬ 12 < k) (h21 : evE Dg 25 [.int .i64 k] = some (.tup [.bool false, .bool false, .bool false, .bool false])) (M : Int) (h28 : evE Dg 28 [.agg [.int .i64 a, .int .i64 k, .str [], .int .i64 0, .int .i64 0, .sl false 1 []]] = some (.int .i64 M)) : evE Dg 12 [.agg [.int .i64 a, .int .i64 k, .str [], .int .i64 0, .int .i64 0, .sl false 1 []]] = some (.int .i64 M) := by
  refine evE_intro 1 D12 rfl ?_
  unfold c12
  simp (maxSteps := 100000000) [h21, at1, at2, k1, k2, h28]
theorem f12_1 (e : Ev) (at1 : ¬ e.at_ < 0) (at2 : ¬ 1000000000000 < e.at_) (k1 : ¬ e.k < 1) (k2 : ¬ 12 < e.k) (h21 : evE Dg 25 [.int .i64 e.k] = some (.tup [.bool false, .bool false, .bool false, .bool false])) (N : Int) (h28 : chkC false false false false e 77 = 77 → evE Dg 28 [eE e] = some (.int .i64 N)) :
    evE Dg 12 [eE e] = some (.int .i64 (chkC false false false false e N)) := by
  obtain ⟨a, k, nm, n, m, st⟩ := e
  have hn := f26 nm
  have hf := f27 st
  simp only [eE, eC, eTx] at *
  unfold nameE at hn
  by_cases znm : nm = []
  case neg =>
    rw [show ∀ r, chkC false false false false ⟨a, k, nm, n, m, st⟩ r = 1 from fun r => by simp [chkC, znm]]
    exact f12_1_znm a k nm n m (st.map fun t => [.str t]) at1 at2 k1 k2 h21 znm
  subst znm
  by_cases zn : n = 0
  case neg =>
    rw [show ∀ r, chkC false false false false ⟨a, k, [], n, m, st⟩ r = 1 from fun r => by simp [chkC, zn]]
    exact f12_1_zn a k [] n m (st.map fun t => [.str t]) at1 at2 k1 k2 h21 zn
  subst zn
  by_cases zm : m = 0
  case neg =>
    rw [show ∀ r, chkC false false false false ⟨a, k, [], 0, m, st⟩ r = 1 from fun r => by simp [chkC, zm]]
    exact f12_1_zm a k [] 0 m (st.map fun t => [.str t]) at1 at2 k1 k2 h21 zm
  subst zm
  by_cases zst : st = []
  case neg =>
    rw [show ∀ r, chkC false false false false ⟨a, k, [], 0, 0, st⟩ r = 1 from fun r => by simp [chkC, zst]]
    exact f12_1_zS a k [] 0 0 (st.map fun t => [.str t]) at1 at2 k1 k2 h21 (by cases st with | nil => exact absurd rfl zst | cons x y => simp)
  subst zst
  rw [show ∀ r, chkC false false false false ⟨a, k, [], 0, 0, []⟩ r = r from fun r => by simp [chkC]]
  exact f12_1_end a k [] 0 0 [] at1 at2 k1 k2 h21 N (h28 (by simp [chkC]))
end Go.Proofs.YtidkdiooempkpaaDoor
/- event: Check, kind by kind (written by mkEt.py). -/
namespace Go.Proofs.YtidkdiooempkpaaDoor
open Go Go.RowKit
attribute [local simp] evCode evOps evOne evOp evPur evEff evPur.chunks fillP AOp.isEff AO.ev putP PV.cells PV.leaf getB getM mapE iterE keyC mapRows mfind eq1 eqL scal binP unP minP maxP foldP PV.lt PV.lt.ltL endP expoAll expoG expo expo.expoL frIds frIds.frIdsL nodupN kill cls clsFuel resO RV.get loadP evC_p evC_s endS endT rowsOf callP thinL unfr unfr.unfrL PV.noMem PV.noMem.noMemL optI mapO norm trimT trimB forget hasN blksLt List.set softChk softGo softRd effTg tgOf chgN sameB PV.same PV.same.sameL PV.same.sameLL rdP
set_option linter.unusedVariables false
set_option linter.unusedSimpArgs false
set_option maxHeartbeats 4000000
set_option maxRecDepth 100000

theorem f12_2_zm (a k : Int) (nm : List UInt8) (n m : Int) (S : List (List PV)) (at1 : ¬ a < 0) (at2 : ¬ 1000000000000 < a) (k1 : ¬ k < 1) (k2 : ¬ 12 < k) (h21 : evE Dg 25 [.int .i64 k] = some (.tup [.bool true, .bool true, .bool false, .bool false])) (z : ¬ m = 0) : evE Dg 12 [.agg [.int .i64 a, .int .i64 k, .str nm, .int .i64 n, .int .i64 m, .sl false 1 S]] = some (.int .i64 1) := by
  refine evE_intro 1 D12 rfl ?_
  unfold c12
  simp (maxSteps := 100000000) [h21, at1, at2, k1, k2, z]
theorem f12_2_zS (a k : Int) (nm : List UInt8) (n m : Int) (S : List (List PV)) (at1 : ¬ a < 0) (at2 : ¬ 1000000000000 < a) (k1 : ¬ k < 1) (k2 : ¬ 12 < k) (h21 : evE Dg 25 [.int .i64 k] = some (.tup [.bool true, .bool true, .bool false, .bool false])) (z : 0 < S.length) : evE Dg 12 [.agg [.int .i64 a, .int .i64 k, .str nm, .int .i64 n, .int .i64 0, .sl false 1 S]] = some (.int .i64 1) := by
  refine evE_intro 1 D12 rfl ?_
  unfold c12
  simp (maxSteps := 100000000) [h21, at1, at2, k1, k2, z]
theorem f12_2_name (a k : Int) (nm : List UInt8) (n m : Int) (S : List (List PV)) (at1 : ¬ a < 0) (at2 : ¬ 1000000000000 < a) (k1 : ¬ k < 1) (k2 : ¬ 12 < k) (h21 : evE Dg 25 [.int .i64 k] = some (.tup [.bool true, .bool true, .bool false, .bool false])) (hn : evE Dg 26 [.str nm] = some (.int .i64 3)) : evE Dg 12 [.agg [.int .i64 a, .int .i64 k, .str nm, .int .i64 n, .int .i64 0, .sl false 1 []]] = some (.int .i64 3) := by
  refine evE_intro 1 D12 rfl ?_
  unfold c12
  simp (maxSteps := 100000000) [h21, at1, at2, k1, k2, hn]
theorem f12_2_end (a k : Int) (nm : List UInt8) (n m : Int) (S : List (List PV)) (at1 : ¬ a < 0) (at2 : ¬ 1000000000000 < a) (k1 : ¬ k < 1) (k2 : ¬ 12 < k) (h21 : evE Dg 25 [.int .i64 k] = some (.tup [.bool true, .bool true, .bool false, .bool false])) (hn : evE Dg 26 [.str nm] = some (.int .i64 0)) (M : Int) (h28 : evE Dg 28 [.agg [.int .i64 a, .int .i64 k, .str nm, .int .i64 n, .int .i64 0, .sl false 1 []]] = some (.int .i64 M)) : evE Dg 12 [.agg [.int .i64 a, .int .i64 k, .str nm, .int .i64 n, .int .i64 0, .sl false 1 []]] = some (.int .i64 M) := by
  refine evE_intro 1 D12 rfl ?_
  unfold c12
  simp (maxSteps := 100000000) [h21, at1, at2, k1, k2, hn, h28]
theorem f12_2 (e : Ev) (at1 : ¬ e.at_ < 0) (at2 : ¬ 1000000000000 < e.at_) (k1 : ¬ e.k < 1) (k2 : ¬ 12 < e.k) (h21 : evE Dg 25 [.int .i64 e.k] = some (.tup [.bool true, .bool true, .bool false, .bool false])) (N : Int) (h28 : chkC true true false false e 77 = 77 → evE Dg 28 [eE e] = some (.int .i64 N)) :
    evE Dg 12 [eE e] = some (.int .i64 (chkC true true false false e N)) := by
  obtain ⟨a, k, nm, n, m, st⟩ := e
  have hn := f26 nm
  have hf := f27 st
  simp only [eE, eC, eTx] at *
  unfold nameE at hn
  by_cases zm : m = 0
  case neg =>
    rw [show ∀ r, chkC true true false false ⟨a, k, nm, n, m, st⟩ r = 1 from fun r => by simp [chkC, zm]]
    exact f12_2_zm a k nm n m (st.map fun t => [.str t]) at1 at2 k1 k2 h21 zm
  subst zm
  by_cases zst : st = []
  case neg =>
    rw [show ∀ r, chkC true true false false ⟨a, k, nm, n, 0, st⟩ r = 1 from fun r => by simp [chkC, zst]]
    exact f12_2_zS a k nm n 0 (st.map fun t => [.str t]) at1 at2 k1 k2 h21 (by cases st with | nil => exact absurd rfl zst | cons x y => simp)
  subst zst
  cases hk : nameOk nm with
  | false =>
    rw [hk] at hn
    rw [show ∀ r, chkC true true false false ⟨a, k, nm, n, 0, []⟩ r = 3 from fun r => by simp [chkC, hk]]
    exact f12_2_name a k nm n 0 [] at1 at2 k1 k2 h21 hn
  | true =>
  rw [hk] at hn
  rw [show ∀ r, chkC true true false false ⟨a, k, nm, n, 0, []⟩ r = r from fun r => by simp [chkC, hk]]
  exact f12_2_end a k nm n 0 [] at1 at2 k1 k2 h21 hn N (h28 (by simp [chkC, hk]))
end Go.Proofs.YtidkdiooempkpaaDoor
/- event: Check, kind by kind (written by mkEt.py). -/
namespace Go.Proofs.YtidkdiooempkpaaDoor
open Go Go.RowKit
attribute [local simp] evCode evOps evOne evOp evPur evEff evPur.chunks fillP AOp.isEff AO.ev putP PV.cells PV.leaf getB getM mapE iterE keyC mapRows mfind eq1 eqL scal binP unP minP maxP foldP PV.lt PV.lt.ltL endP expoAll expoG expo expo.expoL frIds frIds.frIdsL nodupN kill cls clsFuel resO RV.get loadP evC_p evC_s endS endT rowsOf callP thinL unfr unfr.unfrL PV.noMem PV.noMem.noMemL optI mapO norm trimT trimB forget hasN blksLt List.set softChk softGo softRd effTg tgOf chgN sameB PV.same PV.same.sameL PV.same.sameLL rdP
set_option linter.unusedVariables false
set_option linter.unusedSimpArgs false
set_option maxHeartbeats 4000000
set_option maxRecDepth 100000

theorem f12_3_znm (a k : Int) (nm : List UInt8) (n m : Int) (S : List (List PV)) (at1 : ¬ a < 0) (at2 : ¬ 1000000000000 < a) (k1 : ¬ k < 1) (k2 : ¬ 12 < k) (h21 : evE Dg 25 [.int .i64 k] = some (.tup [.bool false, .bool true, .bool false, .bool true])) (z : ¬ nm = []) : evE Dg 12 [.agg [.int .i64 a, .int .i64 k, .str nm, .int .i64 n, .int .i64 m, .sl false 1 S]] = some (.int .i64 1) := by
  refine evE_intro 1 D12 rfl ?_
  unfold c12
  simp (maxSteps := 100000000) [h21, at1, at2, k1, k2, z]
theorem f12_3_zm (a k : Int) (nm : List UInt8) (n m : Int) (S : List (List PV)) (at1 : ¬ a < 0) (at2 : ¬ 1000000000000 < a) (k1 : ¬ k < 1) (k2 : ¬ 12 < k) (h21 : evE Dg 25 [.int .i64 k] = some (.tup [.bool false, .bool true, .bool false, .bool true])) (z : ¬ m = 0) : evE Dg 12 [.agg [.int .i64 a, .int .i64 k, .str [], .int .i64 n, .int .i64 m, .sl false 1 S]] = some (.int .i64 1) := by
  refine evE_intro 1 D12 rfl ?_
  unfold c12
  simp (maxSteps := 100000000) [h21, at1, at2, k1, k2, z]
theorem f12_3_fr (a k : Int) (nm : List UInt8) (n m : Int) (S : List (List PV)) (at1 : ¬ a < 0) (at2 : ¬ 1000000000000 < a) (k1 : ¬ k < 1) (k2 : ¬ 12 < k) (h21 : evE Dg 25 [.int .i64 k] = some (.tup [.bool false, .bool true, .bool false, .bool true])) (F : Int) (hF : ¬ F = 0) (hf : evE Dg 27 [.sl false 1 S] = some (.int .i64 F)) : evE Dg 12 [.agg [.int .i64 a, .int .i64 k, .str [], .int .i64 n, .int .i64 0, .sl false 1 S]] = some (.int .i64 F) := by
  refine evE_intro 1 D12 rfl ?_
  unfold c12
  simp (maxSteps := 100000000) [h21, at1, at2, k1, k2, hf, hF]
theorem f12_3_end (a k : Int) (nm : List UInt8) (n m : Int) (S : List (List PV)) (at1 : ¬ a < 0) (at2 : ¬ 1000000000000 < a) (k1 : ¬ k < 1) (k2 : ¬ 12 < k) (h21 : evE Dg 25 [.int .i64 k] = some (.tup [.bool false, .bool true, .bool false, .bool true])) (hf : evE Dg 27 [.sl false 1 S] = some (.int .i64 0)) (M : Int) (h28 : evE Dg 28 [.agg [.int .i64 a, .int .i64 k, .str [], .int .i64 n, .int .i64 0, .sl false 1 S]] = some (.int .i64 M)) : evE Dg 12 [.agg [.int .i64 a, .int .i64 k, .str [], .int .i64 n, .int .i64 0, .sl false 1 S]] = some (.int .i64 M) := by
  refine evE_intro 1 D12 rfl ?_
  unfold c12
  simp (maxSteps := 100000000) [h21, at1, at2, k1, k2, hf, h28]
theorem f12_3 (e : Ev) (at1 : ¬ e.at_ < 0) (at2 : ¬ 1000000000000 < e.at_) (k1 : ¬ e.k < 1) (k2 : ¬ 12 < e.k) (h21 : evE Dg 25 [.int .i64 e.k] = some (.tup [.bool false, .bool true, .bool false, .bool true])) (N : Int) (h28 : chkC false true false true e 77 = 77 → evE Dg 28 [eE e] = some (.int .i64 N)) :
    evE Dg 12 [eE e] = some (.int .i64 (chkC false true false true e N)) := by
  obtain ⟨a, k, nm, n, m, st⟩ := e
  have hn := f26 nm
  have hf := f27 st
  simp only [eE, eC, eTx] at *
  unfold nameE at hn
  by_cases znm : nm = []
  case neg =>
    rw [show ∀ r, chkC false true false true ⟨a, k, nm, n, m, st⟩ r = 1 from fun r => by simp [chkC, znm]]
    exact f12_3_znm a k nm n m (st.map fun t => [.str t]) at1 at2 k1 k2 h21 znm
  subst znm
  by_cases zm : m = 0
  case neg =>
    rw [show ∀ r, chkC false true false true ⟨a, k, [], n, m, st⟩ r = 1 from fun r => by simp [chkC, zm]]
    exact f12_3_zm a k [] n m (st.map fun t => [.str t]) at1 at2 k1 k2 h21 zm
  subst zm
  by_cases hF : framesE st = 0
  case neg =>
    rw [show ∀ r, chkC false true false true ⟨a, k, [], n, 0, st⟩ r = framesE st from fun r => by simp [chkC, hF]]
    exact f12_3_fr a k [] n 0 (st.map fun t => [.str t]) at1 at2 k1 k2 h21 (framesE st) hF hf
  rw [hF] at hf
  rw [show ∀ r, chkC false true false true ⟨a, k, [], n, 0, st⟩ r = r from fun r => by simp [chkC, hF]]
  exact f12_3_end a k [] n 0 (st.map fun t => [.str t]) at1 at2 k1 k2 h21 hf N (h28 (by simp [chkC, hF]))
end Go.Proofs.YtidkdiooempkpaaDoor
/- event: Check, kind by kind (written by mkEt.py). -/
namespace Go.Proofs.YtidkdiooempkpaaDoor
open Go Go.RowKit
attribute [local simp] evCode evOps evOne evOp evPur evEff evPur.chunks fillP AOp.isEff AO.ev putP PV.cells PV.leaf getB getM mapE iterE keyC mapRows mfind eq1 eqL scal binP unP minP maxP foldP PV.lt PV.lt.ltL endP expoAll expoG expo expo.expoL frIds frIds.frIdsL nodupN kill cls clsFuel resO RV.get loadP evC_p evC_s endS endT rowsOf callP thinL unfr unfr.unfrL PV.noMem PV.noMem.noMemL optI mapO norm trimT trimB forget hasN blksLt List.set softChk softGo softRd effTg tgOf chgN sameB PV.same PV.same.sameL PV.same.sameLL rdP
set_option linter.unusedVariables false
set_option linter.unusedSimpArgs false
set_option maxHeartbeats 4000000
set_option maxRecDepth 100000

theorem f12_4_znm (a k : Int) (nm : List UInt8) (n m : Int) (S : List (List PV)) (at1 : ¬ a < 0) (at2 : ¬ 1000000000000 < a) (k1 : ¬ k < 1) (k2 : ¬ 12 < k) (h21 : evE Dg 25 [.int .i64 k] = some (.tup [.bool false, .bool true, .bool false, .bool false])) (z : ¬ nm = []) : evE Dg 12 [.agg [.int .i64 a, .int .i64 k, .str nm, .int .i64 n, .int .i64 m, .sl false 1 S]] = some (.int .i64 1) := by
  refine evE_intro 1 D12 rfl ?_
  unfold c12
  simp (maxSteps := 100000000) [h21, at1, at2, k1, k2, z]
theorem f12_4_zm (a k : Int) (nm : List UInt8) (n m : Int) (S : List (List PV)) (at1 : ¬ a < 0) (at2 : ¬ 1000000000000 < a) (k1 : ¬ k < 1) (k2 : ¬ 12 < k) (h21 : evE Dg 25 [.int .i64 k] = some (.tup [.bool false, .bool true, .bool false, .bool false])) (z : ¬ m = 0) : evE Dg 12 [.agg [.int .i64 a, .int .i64 k, .str [], .int .i64 n, .int .i64 m, .sl false 1 S]] = some (.int .i64 1) := by
  refine evE_intro 1 D12 rfl ?_
  unfold c12
  simp (maxSteps := 100000000) [h21, at1, at2, k1, k2, z]
theorem f12_4_zS (a k : Int) (nm : List UInt8) (n m : Int) (S : List (List PV)) (at1 : ¬ a < 0) (at2 : ¬ 1000000000000 < a) (k1 : ¬ k < 1) (k2 : ¬ 12 < k) (h21 : evE Dg 25 [.int .i64 k] = some (.tup [.bool false, .bool true, .bool false, .bool false])) (z : 0 < S.length) : evE Dg 12 [.agg [.int .i64 a, .int .i64 k, .str [], .int .i64 n, .int .i64 0, .sl false 1 S]] = some (.int .i64 1) := by
  refine evE_intro 1 D12 rfl ?_
  unfold c12
  simp (maxSteps := 100000000) [h21, at1, at2, k1, k2, z]
theorem f12_4_end (a k : Int) (nm : List UInt8) (n m : Int) (S : List (List PV)) (at1 : ¬ a < 0) (at2 : ¬ 1000000000000 < a) (k1 : ¬ k < 1) (k2 : ¬ 12 < k) (h21 : evE Dg 25 [.int .i64 k] = some (.tup [.bool false, .bool true, .bool false, .bool false])) (M : Int) (h28 : evE Dg 28 [.agg [.int .i64 a, .int .i64 k, .str [], .int .i64 n, .int .i64 0, .sl false 1 []]] = some (.int .i64 M)) : evE Dg 12 [.agg [.int .i64 a, .int .i64 k, .str [], .int .i64 n, .int .i64 0, .sl false 1 []]] = some (.int .i64 M) := by
  refine evE_intro 1 D12 rfl ?_
  unfold c12
  simp (maxSteps := 100000000) [h21, at1, at2, k1, k2, h28]
theorem f12_4 (e : Ev) (at1 : ¬ e.at_ < 0) (at2 : ¬ 1000000000000 < e.at_) (k1 : ¬ e.k < 1) (k2 : ¬ 12 < e.k) (h21 : evE Dg 25 [.int .i64 e.k] = some (.tup [.bool false, .bool true, .bool false, .bool false])) (N : Int) (h28 : chkC false true false false e 77 = 77 → evE Dg 28 [eE e] = some (.int .i64 N)) :
    evE Dg 12 [eE e] = some (.int .i64 (chkC false true false false e N)) := by
  obtain ⟨a, k, nm, n, m, st⟩ := e
  have hn := f26 nm
  have hf := f27 st
  simp only [eE, eC, eTx] at *
  unfold nameE at hn
  by_cases znm : nm = []
  case neg =>
    rw [show ∀ r, chkC false true false false ⟨a, k, nm, n, m, st⟩ r = 1 from fun r => by simp [chkC, znm]]
    exact f12_4_znm a k nm n m (st.map fun t => [.str t]) at1 at2 k1 k2 h21 znm
  subst znm
  by_cases zm : m = 0
  case neg =>
    rw [show ∀ r, chkC false true false false ⟨a, k, [], n, m, st⟩ r = 1 from fun r => by simp [chkC, zm]]
    exact f12_4_zm a k [] n m (st.map fun t => [.str t]) at1 at2 k1 k2 h21 zm
  subst zm
  by_cases zst : st = []
  case neg =>
    rw [show ∀ r, chkC false true false false ⟨a, k, [], n, 0, st⟩ r = 1 from fun r => by simp [chkC, zst]]
    exact f12_4_zS a k [] n 0 (st.map fun t => [.str t]) at1 at2 k1 k2 h21 (by cases st with | nil => exact absurd rfl zst | cons x y => simp)
  subst zst
  rw [show ∀ r, chkC false true false false ⟨a, k, [], n, 0, []⟩ r = r from fun r => by simp [chkC]]
  exact f12_4_end a k [] n 0 [] at1 at2 k1 k2 h21 N (h28 (by simp [chkC]))
end Go.Proofs.YtidkdiooempkpaaDoor
/- event: Check, kind by kind (written by mkEt.py). -/
namespace Go.Proofs.YtidkdiooempkpaaDoor
open Go Go.RowKit
attribute [local simp] evCode evOps evOne evOp evPur evEff evPur.chunks fillP AOp.isEff AO.ev putP PV.cells PV.leaf getB getM mapE iterE keyC mapRows mfind eq1 eqL scal binP unP minP maxP foldP PV.lt PV.lt.ltL endP expoAll expoG expo expo.expoL frIds frIds.frIdsL nodupN kill cls clsFuel resO RV.get loadP evC_p evC_s endS endT rowsOf callP thinL unfr unfr.unfrL PV.noMem PV.noMem.noMemL optI mapO norm trimT trimB forget hasN blksLt List.set softChk softGo softRd effTg tgOf chgN sameB PV.same PV.same.sameL PV.same.sameLL rdP
set_option linter.unusedVariables false
set_option linter.unusedSimpArgs false
set_option maxHeartbeats 4000000
set_option maxRecDepth 100000

theorem f12_5_znm (a k : Int) (nm : List UInt8) (n m : Int) (S : List (List PV)) (at1 : ¬ a < 0) (at2 : ¬ 1000000000000 < a) (k1 : ¬ k < 1) (k2 : ¬ 12 < k) (h21 : evE Dg 25 [.int .i64 k] = some (.tup [.bool false, .bool true, .bool true, .bool false])) (z : ¬ nm = []) : evE Dg 12 [.agg [.int .i64 a, .int .i64 k, .str nm, .int .i64 n, .int .i64 m, .sl false 1 S]] = some (.int .i64 1) := by
  refine evE_intro 1 D12 rfl ?_
  unfold c12
  simp (maxSteps := 100000000) [h21, at1, at2, k1, k2, z]
theorem f12_5_zS (a k : Int) (nm : List UInt8) (n m : Int) (S : List (List PV)) (at1 : ¬ a < 0) (at2 : ¬ 1000000000000 < a) (k1 : ¬ k < 1) (k2 : ¬ 12 < k) (h21 : evE Dg 25 [.int .i64 k] = some (.tup [.bool false, .bool true, .bool true, .bool false])) (z : 0 < S.length) : evE Dg 12 [.agg [.int .i64 a, .int .i64 k, .str [], .int .i64 n, .int .i64 m, .sl false 1 S]] = some (.int .i64 1) := by
  refine evE_intro 1 D12 rfl ?_
  unfold c12
  simp (maxSteps := 100000000) [h21, at1, at2, k1, k2, z]
theorem f12_5_end (a k : Int) (nm : List UInt8) (n m : Int) (S : List (List PV)) (at1 : ¬ a < 0) (at2 : ¬ 1000000000000 < a) (k1 : ¬ k < 1) (k2 : ¬ 12 < k) (h21 : evE Dg 25 [.int .i64 k] = some (.tup [.bool false, .bool true, .bool true, .bool false])) (M : Int) (h28 : evE Dg 28 [.agg [.int .i64 a, .int .i64 k, .str [], .int .i64 n, .int .i64 m, .sl false 1 []]] = some (.int .i64 M)) : evE Dg 12 [.agg [.int .i64 a, .int .i64 k, .str [], .int .i64 n, .int .i64 m, .sl false 1 []]] = some (.int .i64 M) := by
  refine evE_intro 1 D12 rfl ?_
  unfold c12
  simp (maxSteps := 100000000) [h21, at1, at2, k1, k2, h28]
theorem f12_5 (e : Ev) (at1 : ¬ e.at_ < 0) (at2 : ¬ 1000000000000 < e.at_) (k1 : ¬ e.k < 1) (k2 : ¬ 12 < e.k) (h21 : evE Dg 25 [.int .i64 e.k] = some (.tup [.bool false, .bool true, .bool true, .bool false])) (N : Int) (h28 : chkC false true true false e 77 = 77 → evE Dg 28 [eE e] = some (.int .i64 N)) :
    evE Dg 12 [eE e] = some (.int .i64 (chkC false true true false e N)) := by
  obtain ⟨a, k, nm, n, m, st⟩ := e
  have hn := f26 nm
  have hf := f27 st
  simp only [eE, eC, eTx] at *
  unfold nameE at hn
  by_cases znm : nm = []
  case neg =>
    rw [show ∀ r, chkC false true true false ⟨a, k, nm, n, m, st⟩ r = 1 from fun r => by simp [chkC, znm]]
    exact f12_5_znm a k nm n m (st.map fun t => [.str t]) at1 at2 k1 k2 h21 znm
  subst znm
  by_cases zst : st = []
  case neg =>
    rw [show ∀ r, chkC false true true false ⟨a, k, [], n, m, st⟩ r = 1 from fun r => by simp [chkC, zst]]
    exact f12_5_zS a k [] n m (st.map fun t => [.str t]) at1 at2 k1 k2 h21 (by cases st with | nil => exact absurd rfl zst | cons x y => simp)
  subst zst
  rw [show ∀ r, chkC false true true false ⟨a, k, [], n, m, []⟩ r = r from fun r => by simp [chkC]]
  exact f12_5_end a k [] n m [] at1 at2 k1 k2 h21 N (h28 (by simp [chkC]))
end Go.Proofs.YtidkdiooempkpaaDoor
/- event: Check, kind by kind (written by mkEt.py). -/
namespace Go.Proofs.YtidkdiooempkpaaDoor
open Go Go.RowKit
attribute [local simp] evCode evOps evOne evOp evPur evEff evPur.chunks fillP AOp.isEff AO.ev putP PV.cells PV.leaf getB getM mapE iterE keyC mapRows mfind eq1 eqL scal binP unP minP maxP foldP PV.lt PV.lt.ltL endP expoAll expoG expo expo.expoL frIds frIds.frIdsL nodupN kill cls clsFuel resO RV.get loadP evC_p evC_s endS endT rowsOf callP thinL unfr unfr.unfrL PV.noMem PV.noMem.noMemL optI mapO norm trimT trimB forget hasN blksLt List.set softChk softGo softRd effTg tgOf chgN sameB PV.same PV.same.sameL PV.same.sameLL rdP
set_option linter.unusedVariables false
set_option linter.unusedSimpArgs false
set_option maxHeartbeats 4000000
set_option maxRecDepth 100000

theorem f12_6_znm (a k : Int) (nm : List UInt8) (n m : Int) (S : List (List PV)) (at1 : ¬ a < 0) (at2 : ¬ 1000000000000 < a) (k1 : ¬ k < 1) (k2 : ¬ 12 < k) (h21 : evE Dg 25 [.int .i64 k] = some (.tup [.bool false, .bool true, .bool true, .bool true])) (z : ¬ nm = []) : evE Dg 12 [.agg [.int .i64 a, .int .i64 k, .str nm, .int .i64 n, .int .i64 m, .sl false 1 S]] = some (.int .i64 1) := by
  refine evE_intro 1 D12 rfl ?_
  unfold c12
  simp (maxSteps := 100000000) [h21, at1, at2, k1, k2, z]
theorem f12_6_fr (a k : Int) (nm : List UInt8) (n m : Int) (S : List (List PV)) (at1 : ¬ a < 0) (at2 : ¬ 1000000000000 < a) (k1 : ¬ k < 1) (k2 : ¬ 12 < k) (h21 : evE Dg 25 [.int .i64 k] = some (.tup [.bool false, .bool true, .bool true, .bool true])) (F : Int) (hF : ¬ F = 0) (hf : evE Dg 27 [.sl false 1 S] = some (.int .i64 F)) : evE Dg 12 [.agg [.int .i64 a, .int .i64 k, .str [], .int .i64 n, .int .i64 m, .sl false 1 S]] = some (.int .i64 F) := by
  refine evE_intro 1 D12 rfl ?_
  unfold c12
  simp (maxSteps := 100000000) [h21, at1, at2, k1, k2, hf, hF]
theorem f12_6_end (a k : Int) (nm : List UInt8) (n m : Int) (S : List (List PV)) (at1 : ¬ a < 0) (at2 : ¬ 1000000000000 < a) (k1 : ¬ k < 1) (k2 : ¬ 12 < k) (h21 : evE Dg 25 [.int .i64 k] = some (.tup [.bool false, .bool true, .bool true, .bool true])) (hf : evE Dg 27 [.sl false 1 S] = some (.int .i64 0)) (M : Int) (h28 : evE Dg 28 [.agg [.int .i64 a, .int .i64 k, .str [], .int .i64 n, .int .i64 m, .sl false 1 S]] = some (.int .i64 M)) : evE Dg 12 [.agg [.int .i64 a, .int .i64 k, .str [], .int .i64 n, .int .i64 m, .sl false 1 S]] = some (.int .i64 M) := by
  refine evE_intro 1 D12 rfl ?_
  unfold c12
  simp (maxSteps := 100000000) [h21, at1, at2, k1, k2, hf, h28]
theorem f12_6 (e : Ev) (at1 : ¬ e.at_ < 0) (at2 : ¬ 1000000000000 < e.at_) (k1 : ¬ e.k < 1) (k2 : ¬ 12 < e.k) (h21 : evE Dg 25 [.int .i64 e.k] = some (.tup [.bool false, .bool true, .bool true, .bool true])) (N : Int) (h28 : chkC false true true true e 77 = 77 → evE Dg 28 [eE e] = some (.int .i64 N)) :
    evE Dg 12 [eE e] = some (.int .i64 (chkC false true true true e N)) := by
  obtain ⟨a, k, nm, n, m, st⟩ := e
  have hn := f26 nm
  have hf := f27 st
  simp only [eE, eC, eTx] at *
  unfold nameE at hn
  by_cases znm : nm = []
  case neg =>
    rw [show ∀ r, chkC false true true true ⟨a, k, nm, n, m, st⟩ r = 1 from fun r => by simp [chkC, znm]]
    exact f12_6_znm a k nm n m (st.map fun t => [.str t]) at1 at2 k1 k2 h21 znm
  subst znm
  by_cases hF : framesE st = 0
  case neg =>
    rw [show ∀ r, chkC false true true true ⟨a, k, [], n, m, st⟩ r = framesE st from fun r => by simp [chkC, hF]]
    exact f12_6_fr a k [] n m (st.map fun t => [.str t]) at1 at2 k1 k2 h21 (framesE st) hF hf
  rw [hF] at hf
  rw [show ∀ r, chkC false true true true ⟨a, k, [], n, m, st⟩ r = r from fun r => by simp [chkC, hF]]
  exact f12_6_end a k [] n m (st.map fun t => [.str t]) at1 at2 k1 k2 h21 hf N (h28 (by simp [chkC, hF]))
end Go.Proofs.YtidkdiooempkpaaDoor
