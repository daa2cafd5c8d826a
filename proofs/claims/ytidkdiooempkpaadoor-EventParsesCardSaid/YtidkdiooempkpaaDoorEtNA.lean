/- event: Check where the stack is nil (written by mkEtN.py). -/
-- LATT
-- BIG
import Derived.Test.YtidkdiooempkpaaDoorEtE
namespace Go.Proofs.YtidkdiooempkpaaDoor
open Go Go.RowKit
attribute [local simp] evCode evOps evOne evOp evPur evEff evPur.chunks fillP AOp.isEff AO.ev putP PV.cells PV.leaf getB getM mapE iterE keyC mapRows mfind eq1 eqL scal binP unP minP maxP foldP PV.lt PV.lt.ltL endP expoAll expoG expo expo.expoL frIds frIds.frIdsL nodupN kill cls clsFuel resO RV.get loadP evC_p evC_s endS endT rowsOf callP thinL unfr unfr.unfrL PV.noMem PV.noMem.noMemL optI mapO norm trimT trimB forget hasN blksLt List.set softChk softGo softRd effTg tgOf chgN sameB PV.same PV.same.sameL PV.same.sameLL rdP
set_option linter.unusedVariables false
set_option linter.unusedSimpArgs false
set_option maxHeartbeats 4000000
set_option maxRecDepth 100000

def eN (e : Ev) : PV := .agg [.int .i64 e.at_, .int .i64 e.k, .str e.name, .int .i64 e.n, .int .i64 e.m, .nilS]
theorem fr_nil : framesE [] = 0 := rfl
theorem f23N : evE Dg 23 [.nilS] = some (.int .i64 0) := evE_of (n := 10) (by kernel_rfl)
theorem f27N : evE Dg 27 [.nilS] = some (.int .i64 0) := evE_of (n := 10) (by kernel_rfl)
theorem f31N : evE Dg 31 [.nilS] = some (.str [59]) := evE_of (n := 10) (by kernel_rfl)
theorem f30N (w : List UInt8) (a b c d : Bool) (lo hi : Int) (e : Ev) : evE Dg 30 [.agg [.str w, .bool a, .bool b, .bool c, .bool d, .int .i64 lo, .int .i64 hi], eN e] = some (.bool (uM c e.k e.n)) := by
  unfold uM
  refine evE_intro 1 D30 rfl ?_
  unfold c30
  cases c with
  | false => simp (maxSteps := 100000000) [eN]
  | true =>
    by_cases h : e.k = 9
    · by_cases h2 : e.n = 2
      · simp (maxSteps := 100000000) [eN, h, h2]
      · have : (e.n == 2) = false := by simpa using h2
        simp (maxSteps := 100000000) [eN, h, h2, this]
    · simp (maxSteps := 100000000) [eN, h]
theorem f24N (w : List UInt8) (a b c d : Bool) (lo hi : Int) (e : Ev) : evE Dg 24 [.agg [.str w, .bool a, .bool b, .bool c, .bool d, .int .i64 lo, .int .i64 hi], eN e] = some (.int .i64 (mE c e.k e.n e.m)) := by
  have h30 := f30N w a b c d lo hi e
  simp only [eN] at h30
  unfold mE wE
  refine evE_intro 1 D24 rfl ?_
  unfold c24
  cases hu : uM c e.k e.n with
  | false =>
    rw [hu] at h30
    by_cases hm : e.m = 0
    · simp (maxSteps := 100000000) [eN, h30, eq_true hm]
    · simp (maxSteps := 100000000) [eN, h30, hm]
  | true =>
    rw [hu] at h30
    by_cases hk : e.k = 11
    · by_cases h1 : e.m < 1
      · simp (maxSteps := 100000000) [eN, h30, eq_true hk, h1]
      · by_cases h2 : 1000000000000 < e.m
        · simp (maxSteps := 100000000) [eN, h30, eq_true hk, h1, h2]
        · simp (maxSteps := 100000000) [eN, h30, eq_true hk, h1, h2]
    · by_cases h1 : e.m < 0
      · simp (maxSteps := 100000000) [eN, h30, hk, h1]
      · by_cases h2 : 1000000000000000 < e.m
        · simp (maxSteps := 100000000) [eN, h30, hk, h1, h2]
        · simp (maxSteps := 100000000) [eN, h30, hk, h1, h2]
theorem f28N_k (a k n m : Int) (nm : List UInt8) (h1 : ¬ k < 1) (h2 : ¬ 12 < k) (hb : kB k = false → n = 0) (hc : kC k = false → m = 0) :
    evE Dg 28 [.agg [.int .i64 a, .int .i64 k, .str nm, .int .i64 n, .int .i64 m, .nilS]] = some (.int .i64 (numV ⟨a, k, nm, n, m, []⟩)) := by
  have w1 := f44 n (-1000000000000000) 1000000000000000
  have w2 := f44 n 1 1000000000000
  have w3 := f44 n 0 63
  have w4 := f44 n 0 3
  have w5 := f44 n 0 1000000000000000
  have m1 := f44 m 0 1000000000000000
  have m2 := f44 m 1 1000000000000
  unfold numV
  rcases kinds h1 h2 with rfl | rfl | rfl | rfl | rfl | rfl | rfl | rfl | rfl | rfl | rfl | rfl
  · obtain rfl := hb rfl
    obtain rfl := hc rfl
    refine evE_intro 1 D28 rfl ?_
    unfold c28
    simp (maxSteps := 100000000) [kLo, kHi, kC, mE, uM, wE]
  · obtain rfl := hb rfl
    obtain rfl := hc rfl
    refine evE_intro 1 D28 rfl ?_
    unfold c28
    simp (maxSteps := 100000000) [kLo, kHi, kC, mE, uM, wE]
  · obtain rfl := hb rfl
    obtain rfl := hc rfl
    refine evE_intro 1 D28 rfl ?_
    unfold c28
    simp (maxSteps := 100000000) [kLo, kHi, kC, mE, uM, wE]
  · obtain rfl := hc rfl
    generalize hq : wE n (-1000000000000000) 1000000000000000 = q at *
    refine evE_intro 1 D28 rfl ?_
    unfold c28
    by_cases q0 : q = 0
    · simp (maxSteps := 100000000) [kLo, kHi, kC, mE, uM, w1, hq, q0]
    · simp (maxSteps := 100000000) [kLo, kHi, kC, mE, uM, w1, hq, q0]
  · obtain rfl := hc rfl
    generalize hq : wE n 1 1000000000000 = q at *
    refine evE_intro 1 D28 rfl ?_
    unfold c28
    by_cases q0 : q = 0
    · simp (maxSteps := 100000000) [kLo, kHi, kC, mE, uM, w2, hq, q0]
    · simp (maxSteps := 100000000) [kLo, kHi, kC, mE, uM, w2, hq, q0]
  · obtain rfl := hc rfl
    generalize hq : wE n 0 1000000000000000 = q at *
    refine evE_intro 1 D28 rfl ?_
    unfold c28
    by_cases q0 : q = 0
    · simp (maxSteps := 100000000) [kLo, kHi, kC, mE, uM, w5, hq, q0]
    · simp (maxSteps := 100000000) [kLo, kHi, kC, mE, uM, w5, hq, q0]
  · obtain rfl := hc rfl
    generalize hq : wE n 0 1000000000000000 = q at *
    refine evE_intro 1 D28 rfl ?_
    unfold c28
    by_cases q0 : q = 0
    · simp (maxSteps := 100000000) [kLo, kHi, kC, mE, uM, w5, hq, q0]
    · simp (maxSteps := 100000000) [kLo, kHi, kC, mE, uM, w5, hq, q0]
  · obtain rfl := hc rfl
    generalize hq : wE n 0 63 = q at *
    refine evE_intro 1 D28 rfl ?_
    unfold c28
    by_cases q0 : q = 0
    · simp (maxSteps := 100000000) [kLo, kHi, kC, mE, uM, w3, hq, q0]
    · simp (maxSteps := 100000000) [kLo, kHi, kC, mE, uM, w3, hq, q0]
  · generalize hq : wE n 0 3 = q at *
    generalize hp : wE m 0 1000000000000000 = p at *
    refine evE_intro 1 D28 rfl ?_
    unfold c28
    by_cases q0 : q = 0
    · by_cases n2 : n = 2
      · subst n2
        simp (maxSteps := 100000000) [kLo, kHi, kC, mE, uM, w4, hq, q0, m1, hp]
      · by_cases m0 : m = 0
        · simp (maxSteps := 100000000) [kLo, kHi, kC, mE, uM, w4, hq, q0, n2, eq_true m0]
        · simp (maxSteps := 100000000) [kLo, kHi, kC, mE, uM, w4, hq, q0, n2, m0]
    · simp (maxSteps := 100000000) [kLo, kHi, kC, mE, uM, w4, hq, q0]
  · obtain rfl := hc rfl
    generalize hq : wE n 0 1000000000000000 = q at *
    refine evE_intro 1 D28 rfl ?_
    unfold c28
    by_cases q0 : q = 0
    · simp (maxSteps := 100000000) [kLo, kHi, kC, mE, uM, w5, hq, q0]
    · simp (maxSteps := 100000000) [kLo, kHi, kC, mE, uM, w5, hq, q0]
  · generalize hq : wE n 0 1000000000000000 = q at *
    generalize hp : wE m 1 1000000000000 = p at *
    refine evE_intro 1 D28 rfl ?_
    unfold c28
    by_cases q0 : q = 0
    · simp (maxSteps := 100000000) [kLo, kHi, kC, mE, uM, w5, hq, q0, m2, hp]
    · simp (maxSteps := 100000000) [kLo, kHi, kC, mE, uM, w5, hq, q0]
  · obtain rfl := hc rfl
    generalize hq : wE n 0 1000000000000000 = q at *
    refine evE_intro 1 D28 rfl ?_
    unfold c28
    by_cases q0 : q = 0
    · simp (maxSteps := 100000000) [kLo, kHi, kC, mE, uM, w5, hq, q0]
    · simp (maxSteps := 100000000) [kLo, kHi, kC, mE, uM, w5, hq, q0]
end Go.Proofs.YtidkdiooempkpaaDoor
