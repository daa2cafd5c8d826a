/- event: Check, kind by kind (written by mkEt.py). -/
-- LATT
-- BIG
import Derived.Test.YtidkdiooempkpaaDoorEtB
namespace Go.Proofs.YtidkdiooempkpaaDoor
open Go Go.RowKit
attribute [local simp] evCode evOps evOne evOp evPur evEff evPur.chunks fillP AOp.isEff AO.ev putP PV.cells PV.leaf getB getM mapE iterE keyC mapRows mfind eq1 eqL scal binP unP minP maxP foldP PV.lt PV.lt.ltL endP expoAll expoG expo expo.expoL frIds frIds.frIdsL nodupN kill cls clsFuel resO RV.get loadP evC_p evC_s endS endT rowsOf callP thinL unfr unfr.unfrL PV.noMem PV.noMem.noMemL optI mapO norm trimT trimB forget hasN blksLt List.set softChk softGo softRd effTg tgOf chgN sameB PV.same PV.same.sameL PV.same.sameLL rdP
set_option linter.unusedVariables false
set_option linter.unusedSimpArgs false
set_option maxHeartbeats 4000000
set_option maxRecDepth 100000

theorem f11_6_znm (a k : Int) (nm : List UInt8) (n m : Int) (S : List (List PV)) (at1 : ¬ a < 0) (at2 : ¬ 1000000000000 < a) (w : List UInt8) (lo hi : Int) (h21 : evE Dg 21 [.int .i64 k] = some (.tup [.agg [.str w, .bool false, .bool true, .bool true, .bool true, .int .i64 lo, .int .i64 hi], .bool true])) (z : ¬ nm = []) : evE Dg 11 [.agg [.int .i64 a, .int .i64 k, .str nm, .int .i64 n, .int .i64 m, .sl false 1 S]] = some (.int .i64 1) := by
  refine evE_intro 1 D11 rfl ?_
  unfold c11
  simp (maxSteps := 100000000) [h21, at1, at2, z]
theorem f11_6_fr (a k : Int) (nm : List UInt8) (n m : Int) (S : List (List PV)) (at1 : ¬ a < 0) (at2 : ¬ 1000000000000 < a) (w : List UInt8) (lo hi : Int) (h21 : evE Dg 21 [.int .i64 k] = some (.tup [.agg [.str w, .bool false, .bool true, .bool true, .bool true, .int .i64 lo, .int .i64 hi], .bool true])) (F : Int) (hF : ¬ F = 0) (hf : evE Dg 23 [.sl false 1 S] = some (.int .i64 F)) : evE Dg 11 [.agg [.int .i64 a, .int .i64 k, .str [], .int .i64 n, .int .i64 m, .sl false 1 S]] = some (.int .i64 F) := by
  refine evE_intro 1 D11 rfl ?_
  unfold c11
  simp (maxSteps := 100000000) [h21, at1, at2, hf, hF]
theorem f11_6_lo (a k : Int) (nm : List UInt8) (n m : Int) (S : List (List PV)) (at1 : ¬ a < 0) (at2 : ¬ 1000000000000 < a) (w : List UInt8) (lo hi : Int) (h21 : evE Dg 21 [.int .i64 k] = some (.tup [.agg [.str w, .bool false, .bool true, .bool true, .bool true, .int .i64 lo, .int .i64 hi], .bool true])) (hf : evE Dg 23 [.sl false 1 S] = some (.int .i64 0)) (h1 : n < lo) : evE Dg 11 [.agg [.int .i64 a, .int .i64 k, .str [], .int .i64 n, .int .i64 m, .sl false 1 S]] = some (.int .i64 2) := by
  refine evE_intro 1 D11 rfl ?_
  unfold c11
  simp (maxSteps := 100000000) [h21, at1, at2, hf, h1]
theorem f11_6_hi (a k : Int) (nm : List UInt8) (n m : Int) (S : List (List PV)) (at1 : ¬ a < 0) (at2 : ¬ 1000000000000 < a) (w : List UInt8) (lo hi : Int) (h21 : evE Dg 21 [.int .i64 k] = some (.tup [.agg [.str w, .bool false, .bool true, .bool true, .bool true, .int .i64 lo, .int .i64 hi], .bool true])) (hf : evE Dg 23 [.sl false 1 S] = some (.int .i64 0)) (h1 : ¬ n < lo) (h2 : hi < n) : evE Dg 11 [.agg [.int .i64 a, .int .i64 k, .str [], .int .i64 n, .int .i64 m, .sl false 1 S]] = some (.int .i64 2) := by
  refine evE_intro 1 D11 rfl ?_
  unfold c11
  simp (maxSteps := 100000000) [h21, at1, at2, hf, h1, h2]
theorem f11_6_end (a k : Int) (nm : List UInt8) (n m : Int) (S : List (List PV)) (at1 : ¬ a < 0) (at2 : ¬ 1000000000000 < a) (w : List UInt8) (lo hi : Int) (h21 : evE Dg 21 [.int .i64 k] = some (.tup [.agg [.str w, .bool false, .bool true, .bool true, .bool true, .int .i64 lo, .int .i64 hi], .bool true])) (hf : evE Dg 23 [.sl false 1 S] = some (.int .i64 0)) (h1 : ¬ n < lo) (h2 : ¬ hi < n) (M : Int) (h24 : evE Dg 24 [.agg [.str w, .bool false, .bool true, .bool true, .bool true, .int .i64 lo, .int .i64 hi], .agg [.int .i64 a, .int .i64 k, .str [], .int .i64 n, .int .i64 m, .sl false 1 S]] = some (.int .i64 M)) : evE Dg 11 [.agg [.int .i64 a, .int .i64 k, .str [], .int .i64 n, .int .i64 m, .sl false 1 S]] = some (.int .i64 M) := by
  refine evE_intro 1 D11 rfl ?_
  unfold c11
  simp (maxSteps := 100000000) [h21, at1, at2, hf, h1, h2, h24]
theorem f11_6 (e : Ev) (at1 : ¬ e.at_ < 0) (at2 : ¬ 1000000000000 < e.at_) (w : List UInt8) (lo hi : Int) (h21 : evE Dg 21 [.int .i64 e.k] = some (.tup [.agg [.str w, .bool false, .bool true, .bool true, .bool true, .int .i64 lo, .int .i64 hi], .bool true])) :
    evE Dg 11 [eE e] = some (.int .i64 (chkC false true true true e (if e.n < lo then 2 else if hi < e.n then 2 else mE true e.k e.n e.m))) := by
  obtain ⟨a, k, nm, n, m, st⟩ := e
  have hn := f22 nm
  have hf := f23 st
  have h24 := f24 w false true true true lo hi ⟨a, k, nm, n, m, st⟩
  simp only [eE, eC, eTx] at *
  unfold nameE at hn
  by_cases znm : nm = []
  case neg =>
    rw [show ∀ r, chkC false true true true ⟨a, k, nm, n, m, st⟩ r = 1 from fun r => by simp [chkC, znm]]
    exact f11_6_znm a k nm n m (st.map fun t => [.str t]) at1 at2 w lo hi h21 znm
  subst znm
  by_cases hF : framesE st = 0
  case neg =>
    rw [show ∀ r, chkC false true true true ⟨a, k, [], n, m, st⟩ r = framesE st from fun r => by simp [chkC, hF]]
    exact f11_6_fr a k [] n m (st.map fun t => [.str t]) at1 at2 w lo hi h21 (framesE st) hF hf
  rw [hF] at hf
  rw [show ∀ r, chkC false true true true ⟨a, k, [], n, m, st⟩ r = r from fun r => by simp [chkC, hF]]
  by_cases h1 : n < lo
  case pos => rw [if_pos h1]; exact f11_6_lo a k [] n m (st.map fun t => [.str t]) at1 at2 w lo hi h21 hf h1
  by_cases h2 : hi < n
  case pos => rw [if_neg h1, if_pos h2]; exact f11_6_hi a k [] n m (st.map fun t => [.str t]) at1 at2 w lo hi h21 hf h1 h2
  rw [if_neg h1, if_neg h2]
  exact f11_6_end a k [] n m (st.map fun t => [.str t]) at1 at2 w lo hi h21 hf h1 h2 _ h24
end Go.Proofs.YtidkdiooempkpaaDoor
