/- event: kinds, their fields. -/
-- LATT
import Derived.Test.YtidkdiooempkpaaDoorNm
namespace Go.Proofs.YtidkdiooempkpaaDoor
open Go Go.RowKit
attribute [local simp] evCode evOps evOne evOp evPur evEff evPur.chunks fillP AOp.isEff AO.ev putP PV.cells PV.leaf getB getM mapE iterE keyC mapRows mfind eq1 eqL scal binP unP minP maxP foldP PV.lt PV.lt.ltL endP expoAll expoG expo expo.expoL frIds frIds.frIdsL nodupN kill cls clsFuel resO RV.get loadP evC_p evC_s endS endT rowsOf callP thinL unfr unfr.unfrL PV.noMem PV.noMem.noMemL optI mapO norm trimT trimB forget hasN blksLt List.set softChk softGo softRd effTg tgOf chgN sameB PV.same PV.same.sameL PV.same.sameLL rdP
set_option linter.unusedVariables false
set_option linter.unusedSimpArgs false
set_option maxHeartbeats 4000000

structure Ev where
  at_ : Int
  k : Int
  name : List UInt8
  n : Int
  m : Int
  st : List (List UInt8)
def eC (e : Ev) : List PV := [.int .i64 e.at_, .int .i64 e.k, .str e.name, .int .i64 e.n, .int .i64 e.m, eTx e.st]
def eE (e : Ev) : PV := .agg (eC e)
def kA (k : Int) : Bool := decide (k = 1) || decide (k = 3) || decide (k = 4)
def kB (k : Int) : Bool := decide (4 ≤ k)
def kC (k : Int) : Bool := decide (k = 9) || decide (k = 11)
def kD (k : Int) : Bool := decide (k = 5) || decide (k = 11)
def kLo (k : Int) : Int := if k = 4 then -1000000000000000 else if k = 5 then 1 else 0
def kHi (k : Int) : Int := if k = 4 ∨ k = 6 ∨ k = 7 ∨ k = 10 ∨ k = 11 ∨ k = 12 then 1000000000000000 else if k = 5 then 1000000000000 else if k = 8 then 63 else if k = 9 then 3 else 0
theorem kinds {k : Int} (h1 : ¬ k < 1) (h2 : ¬ 12 < k) : k = 1 ∨ k = 2 ∨ k = 3 ∨ k = 4 ∨ k = 5 ∨ k = 6 ∨ k = 7 ∨ k = 8 ∨ k = 9 ∨ k = 10 ∨ k = 11 ∨ k = 12 := by omega
/-- within -/
def wE (n lo hi : Int) : Int := if n < lo then 2 else if hi < n then 2 else 0
theorem f44 (n lo hi : Int) : evE Dg 44 [.int .i64 n, .int .i64 lo, .int .i64 hi] = some (.int .i64 (wE n lo hi)) := by
  unfold wE
  refine evE_intro 1 D44 rfl ?_
  unfold c44
  by_cases h1 : n < lo
  · simp [h1]
  · by_cases h2 : hi < n
    · simp [h1, h2]
    · simp [h1, h2]
theorem f25 (k : Int) : evE Dg 25 [.int .i64 k] = some (.tup [.bool (kA k), .bool (kB k), .bool (kC k), .bool (kD k)]) := by
  have e1 : ∀ j : Int, (k == j) = decide (k = j) := fun j => by by_cases h : k = j <;> simp [h]
  unfold kA kB kC kD
  refine evE_intro 1 D25 rfl ?_
  unfold c25
  by_cases h1 : k = 1
  · subst h1; simp
  · by_cases h3 : k = 3
    · subst h3; simp
    · by_cases h9 : k = 9
      · subst h9; simp
      · by_cases h5 : k = 5
        · subst h5; simp
        · simp [h1, h3, h9, h5, e1]
theorem f21_no (k : Int) (h : k < 1 ∨ 12 < k) : evE Dg 21 [.int .i64 k] = some (.tup [.agg [.str [], .bool false, .bool false, .bool false, .bool false, .int .i64 0, .int .i64 0], .bool false]) := by
  refine evE_intro 1 D21 rfl ?_
  unfold c21
  by_cases h1 : k < 1
  · simp [h1]
  · have h2 : 12 < k := by omega
    simp [h1, h2]
def kW (k : Int) : List UInt8 :=
  if k = 1 then [98, 101, 103, 105, 110] else if k = 2 then [101, 110, 100] else if k = 3 then [109, 97, 114, 107] else if k = 4 then [99, 111, 117, 110, 116] else if k = 5 then [115, 97, 109, 112, 108, 101] else if k = 6 then [115, 101, 110, 100] else if k = 7 then [114, 101, 99, 118] else if k = 8 then [114, 117, 110] else if k = 9 then [115, 116, 111, 112] else if k = 10 then [119, 97, 107, 101] else if k = 11 then [97, 108, 108, 111, 99] else [102, 114, 101, 101]
theorem f21 (k : Int) (h1 : ¬ k < 1) (h2 : ¬ 12 < k) : evE Dg 21 [.int .i64 k] = some (.tup [.agg [.str (kW k), .bool (kA k), .bool (kB k), .bool (kC k), .bool (kD k), .int .i64 (kLo k), .int .i64 (kHi k)], .bool true]) := by
  rcases kinds h1 h2 with rfl | rfl | rfl | rfl | rfl | rfl | rfl | rfl | rfl | rfl | rfl | rfl <;> exact evE_of (n := 10) (by kernel_rfl)
/-- M of a kind -/
def uM (c : Bool) (k n : Int) : Bool := c && (!decide (k = 9) || decide (n = 2))
def mE (c : Bool) (k n m : Int) : Int := if uM c k n = true then (if k = 11 then wE m 1 1000000000000 else wE m 0 1000000000000000) else if m = 0 then 0 else 1
theorem f30 (w : List UInt8) (a b c d : Bool) (lo hi : Int) (e : Ev) : evE Dg 30 [.agg [.str w, .bool a, .bool b, .bool c, .bool d, .int .i64 lo, .int .i64 hi], eE e] = some (.bool (uM c e.k e.n)) := by
  unfold uM
  refine evE_intro 1 D30 rfl ?_
  unfold c30
  cases c with
  | false => simp [eE, eC, eTx]
  | true =>
    by_cases h : e.k = 9
    · by_cases h2 : e.n = 2
      · simp [eE, eC, eTx, h, h2]
      · have : (e.n == 2) = false := by simpa using h2
        simp [eE, eC, eTx, h, h2, this]
    · simp [eE, eC, eTx, h]
theorem f24 (w : List UInt8) (a b c d : Bool) (lo hi : Int) (e : Ev) : evE Dg 24 [.agg [.str w, .bool a, .bool b, .bool c, .bool d, .int .i64 lo, .int .i64 hi], eE e] = some (.int .i64 (mE c e.k e.n e.m)) := by
  have h30 := f30 w a b c d lo hi e
  simp only [eE, eC, eTx] at h30
  unfold mE wE
  refine evE_intro 1 D24 rfl ?_
  unfold c24
  cases hu : uM c e.k e.n with
  | false =>
    rw [hu] at h30
    by_cases hm : e.m = 0
    · simp [eE, eC, eTx, h30, eq_true hm]
    · simp [eE, eC, eTx, h30, hm]
  | true =>
    rw [hu] at h30
    by_cases hk : e.k = 11
    · by_cases h1 : e.m < 1
      · simp [eE, eC, eTx, h30, eq_true hk, h1]
      · by_cases h2 : 1000000000000 < e.m
        · simp [eE, eC, eTx, h30, eq_true hk, h1, h2]
        · simp [eE, eC, eTx, h30, eq_true hk, h1, h2]
    · by_cases h1 : e.m < 0
      · simp [eE, eC, eTx, h30, hk, h1]
      · by_cases h2 : 1000000000000000 < e.m
        · simp [eE, eC, eTx, h30, hk, h1, h2]
        · simp [eE, eC, eTx, h30, hk, h1, h2]
/-- N and M of a kind -/
def numV (e : Ev) : Int := if wE e.n (kLo e.k) (kHi e.k) = 0 then mE (kC e.k) e.k e.n e.m else wE e.n (kLo e.k) (kHi e.k)
theorem wE_02 (n lo hi : Int) : wE n lo hi = 0 ∨ wE n lo hi = 2 := by
  unfold wE; split
  · exact .inr rfl
  · split
    · exact .inr rfl
    · exact .inl rfl
end Go.Proofs.YtidkdiooempkpaaDoor
