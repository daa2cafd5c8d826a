/- event: Check where the stack is nil (written by mkEtN.py). -/
-- LATT
-- BIG
import Derived.Test.YtidkdiooempkpaaDoorEtNA
namespace Go.Proofs.YtidkdiooempkpaaDoor
open Go Go.RowKit
attribute [local simp] evCode evOps evOne evOp evPur evEff evPur.chunks fillP AOp.isEff AO.ev putP PV.cells PV.leaf getB getM mapE iterE keyC mapRows mfind eq1 eqL scal binP unP minP maxP foldP PV.lt PV.lt.ltL endP expoAll expoG expo expo.expoL frIds frIds.frIdsL nodupN kill cls clsFuel resO RV.get loadP evC_p evC_s endS endT rowsOf callP thinL unfr unfr.unfrL PV.noMem PV.noMem.noMemL optI mapO norm trimT trimB forget hasN blksLt List.set softChk softGo softRd effTg tgOf chgN sameB PV.same PV.same.sameL PV.same.sameLL rdP
set_option linter.unusedVariables false
set_option linter.unusedSimpArgs false
set_option maxHeartbeats 4000000
set_option maxRecDepth 100000

theorem f11n_3_znm (a k : Int) (nm : List UInt8) (n m : Int) (at1 : ¬ a < 0) (at2 : ¬ 1000000000000 < a) (w : List UInt8) (lo hi : Int) (h21 : evE Dg 21 [.int .i64 k] = some (.tup [.agg [.str w, .bool false, .bool true, .bool false, .bool true, .int .i64 lo, .int .i64 hi], .bool true])) (z : ¬ nm = []) : evE Dg 11 [.agg [.int .i64 a, .int .i64 k, .str nm, .int .i64 n, .int .i64 m, .nilS]] = some (.int .i64 1) := by
  refine evE_intro 1 D11 rfl ?_
  unfold c11
  simp (maxSteps := 100000000) [h21, at1, at2, z]
theorem f11n_3_zm (a k : Int) (nm : List UInt8) (n m : Int) (at1 : ¬ a < 0) (at2 : ¬ 1000000000000 < a) (w : List UInt8) (lo hi : Int) (h21 : evE Dg 21 [.int .i64 k] = some (.tup [.agg [.str w, .bool false, .bool true, .bool false, .bool true, .int .i64 lo, .int .i64 hi], .bool true])) (z : ¬ m = 0) : evE Dg 11 [.agg [.int .i64 a, .int .i64 k, .str [], .int .i64 n, .int .i64 m, .nilS]] = some (.int .i64 1) := by
  refine evE_intro 1 D11 rfl ?_
  unfold c11
  simp (maxSteps := 100000000) [h21, at1, at2, z]
theorem f11n_3_lo (a k : Int) (nm : List UInt8) (n m : Int) (at1 : ¬ a < 0) (at2 : ¬ 1000000000000 < a) (w : List UInt8) (lo hi : Int) (h21 : evE Dg 21 [.int .i64 k] = some (.tup [.agg [.str w, .bool false, .bool true, .bool false, .bool true, .int .i64 lo, .int .i64 hi], .bool true])) (hf : evE Dg 23 [.nilS] = some (.int .i64 0)) (h1 : n < lo) : evE Dg 11 [.agg [.int .i64 a, .int .i64 k, .str [], .int .i64 n, .int .i64 0, .nilS]] = some (.int .i64 2) := by
  refine evE_intro 1 D11 rfl ?_
  unfold c11
  simp (maxSteps := 100000000) [h21, at1, at2, hf, h1]
theorem f11n_3_hi (a k : Int) (nm : List UInt8) (n m : Int) (at1 : ¬ a < 0) (at2 : ¬ 1000000000000 < a) (w : List UInt8) (lo hi : Int) (h21 : evE Dg 21 [.int .i64 k] = some (.tup [.agg [.str w, .bool false, .bool true, .bool false, .bool true, .int .i64 lo, .int .i64 hi], .bool true])) (hf : evE Dg 23 [.nilS] = some (.int .i64 0)) (h1 : ¬ n < lo) (h2 : hi < n) : evE Dg 11 [.agg [.int .i64 a, .int .i64 k, .str [], .int .i64 n, .int .i64 0, .nilS]] = some (.int .i64 2) := by
  refine evE_intro 1 D11 rfl ?_
  unfold c11
  simp (maxSteps := 100000000) [h21, at1, at2, hf, h1, h2]
theorem f11n_3_end (a k : Int) (nm : List UInt8) (n m : Int) (at1 : ¬ a < 0) (at2 : ¬ 1000000000000 < a) (w : List UInt8) (lo hi : Int) (h21 : evE Dg 21 [.int .i64 k] = some (.tup [.agg [.str w, .bool false, .bool true, .bool false, .bool true, .int .i64 lo, .int .i64 hi], .bool true])) (hf : evE Dg 23 [.nilS] = some (.int .i64 0)) (h1 : ¬ n < lo) (h2 : ¬ hi < n) (M : Int) (h24 : evE Dg 24 [.agg [.str w, .bool false, .bool true, .bool false, .bool true, .int .i64 lo, .int .i64 hi], .agg [.int .i64 a, .int .i64 k, .str [], .int .i64 n, .int .i64 0, .nilS]] = some (.int .i64 M)) : evE Dg 11 [.agg [.int .i64 a, .int .i64 k, .str [], .int .i64 n, .int .i64 0, .nilS]] = some (.int .i64 M) := by
  refine evE_intro 1 D11 rfl ?_
  unfold c11
  simp (maxSteps := 100000000) [h21, at1, at2, hf, h1, h2, h24]
theorem f11n_3 (e : Ev) (hst : e.st = []) (at1 : ¬ e.at_ < 0) (at2 : ¬ 1000000000000 < e.at_) (w : List UInt8) (lo hi : Int) (h21 : evE Dg 21 [.int .i64 e.k] = some (.tup [.agg [.str w, .bool false, .bool true, .bool false, .bool true, .int .i64 lo, .int .i64 hi], .bool true])) :
    evE Dg 11 [eN e] = some (.int .i64 (chkC false true false true e (if e.n < lo then 2 else if hi < e.n then 2 else mE false e.k e.n e.m))) := by
  obtain ⟨a, k, nm, n, m, st⟩ := e
  simp only at hst
  subst hst
  have hn := f22 nm
  have hf := f23N
  have h24 := f24N w false true false true lo hi ⟨a, k, nm, n, m, []⟩
  simp only [eN] at *
  unfold nameE at hn
  by_cases znm : nm = []
  case neg =>
    rw [show ∀ r, chkC false true false true ⟨a, k, nm, n, m, []⟩ r = 1 from fun r => by simp [chkC, znm]]
    exact f11n_3_znm a k nm n m at1 at2 w lo hi h21 znm
  subst znm
  by_cases zm : m = 0
  case neg =>
    rw [show ∀ r, chkC false true false true ⟨a, k, [], n, m, []⟩ r = 1 from fun r => by simp [chkC, zm]]
    exact f11n_3_zm a k [] n m at1 at2 w lo hi h21 zm
  subst zm
  rw [show ∀ r, chkC false true false true ⟨a, k, [], n, 0, []⟩ r = r from fun r => by simp [chkC, fr_nil]]
  by_cases h1 : n < lo
  case pos => rw [if_pos h1]; exact f11n_3_lo a k [] n 0 at1 at2 w lo hi h21 hf h1
  by_cases h2 : hi < n
  case pos => rw [if_neg h1, if_pos h2]; exact f11n_3_hi a k [] n 0 at1 at2 w lo hi h21 hf h1 h2
  rw [if_neg h1, if_neg h2]
  exact f11n_3_end a k [] n 0 at1 at2 w lo hi h21 hf h1 h2 _ h24
end Go.Proofs.YtidkdiooempkpaaDoor
