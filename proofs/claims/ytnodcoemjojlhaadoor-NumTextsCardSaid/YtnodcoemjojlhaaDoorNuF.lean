/- num: Floor, Ceil, Mul, Add. -/
import Derived.Test.YtnodcoemjojlhaaDoorNuE
namespace Go.Proofs.YtnodcoemjojlhaaDoor
open Go Go.RowKit
set_option linter.unusedVariables false
set_option linter.unusedSimpArgs false
set_option maxHeartbeats 4000000

def inB (n : Int) : Bool := decide (-1000000000000000 ≤ n) && decide (n ≤ 1000000000000000)
theorem inB_iff (n : Int) : inB n = true ↔ -1000000000000000 ≤ n ∧ n ≤ 1000000000000000 := by simp [inB]

theorem f14 (n : Int) : evE Dg 14 [.int .i64 n] = some (.bool (inB n)) := by
  refine evE_intro 1 D14 rfl ?_
  unfold c14
  by_cases h1 : -1000000000000000 ≤ n
  · by_cases h2 : n ≤ 1000000000000000 <;> simp [evCode, evOps, evOne, evOp, evPur, evEff, evPur.chunks, fillP, AOp.isEff, AO.ev, putP, PV.cells, PV.leaf, getB, getM, mapE, keyC, mapRows, mfind, eq1, eqL, scal, binP, unP, minP, maxP, foldP, PV.lt, PV.lt.ltL, endP, expoAll, expo, expo.expoL, frIds, frIds.frIdsL, nodupN, kill, cls, clsFuel, resO, RV.get, loadP, evC_p, evC_s, endS, endT, rowsOf, callP, thinL, unfr, unfr.unfrL, PV.noMem, PV.noMem.noMemL, optI, mapO, norm, trimT, trimB, forget, hasN, blksLt, List.set, inB, h1, h2]
  · simp [evCode, evOps, evOne, evOp, evPur, evEff, evPur.chunks, fillP, AOp.isEff, AO.ev, putP, PV.cells, PV.leaf, getB, getM, mapE, keyC, mapRows, mfind, eq1, eqL, scal, binP, unP, minP, maxP, foldP, PV.lt, PV.lt.ltL, endP, expoAll, expo, expo.expoL, frIds, frIds.frIdsL, nodupN, kill, cls, clsFuel, resO, RV.get, loadP, evC_p, evC_s, endS, endT, rowsOf, callP, thinL, unfr, unfr.unfrL, PV.noMem, PV.noMem.noMemL, optI, mapO, norm, trimT, trimB, forget, hasN, blksLt, List.set, inB, h1]
theorem f15 (n : Int) : evE Dg 15 [.int .i64 n] = some (.bool (inB n)) := by
  refine evE_intro 1 D15 rfl ?_
  unfold c15
  by_cases h1 : -1000000000000000 ≤ n
  · by_cases h2 : n ≤ 1000000000000000 <;> simp [evCode, evOps, evOne, evOp, evPur, evEff, evPur.chunks, fillP, AOp.isEff, AO.ev, putP, PV.cells, PV.leaf, getB, getM, mapE, keyC, mapRows, mfind, eq1, eqL, scal, binP, unP, minP, maxP, foldP, PV.lt, PV.lt.ltL, endP, expoAll, expo, expo.expoL, frIds, frIds.frIdsL, nodupN, kill, cls, clsFuel, resO, RV.get, loadP, evC_p, evC_s, endS, endT, rowsOf, callP, thinL, unfr, unfr.unfrL, PV.noMem, PV.noMem.noMemL, optI, mapO, norm, trimT, trimB, forget, hasN, blksLt, List.set, inB, h1, h2]
  · simp [evCode, evOps, evOne, evOp, evPur, evEff, evPur.chunks, fillP, AOp.isEff, AO.ev, putP, PV.cells, PV.leaf, getB, getM, mapE, keyC, mapRows, mfind, eq1, eqL, scal, binP, unP, minP, maxP, foldP, PV.lt, PV.lt.ltL, endP, expoAll, expo, expo.expoL, frIds, frIds.frIdsL, nodupN, kill, cls, clsFuel, resO, RV.get, loadP, evC_p, evC_s, endS, endT, rowsOf, callP, thinL, unfr, unfr.unfrL, PV.noMem, PV.noMem.noMemL, optI, mapO, norm, trimT, trimB, forget, hasN, blksLt, List.set, inB, h1]
def bnd (n : Int) : PV := if inB n then .tup [.int .i64 n, .bool true] else .tup [.int .i64 0, .bool false]
theorem f27 (n : Int) : evE Dg 27 [.int .i64 n] = some (bnd n) := by
  have h14 := f14 n
  refine evE_intro 1 D27 rfl ?_
  unfold c27
  cases h : inB n <;> rw [h] at h14 <;> simp [evCode, evOps, evOne, evOp, evPur, evEff, evPur.chunks, fillP, AOp.isEff, AO.ev, putP, PV.cells, PV.leaf, getB, getM, mapE, keyC, mapRows, mfind, eq1, eqL, scal, binP, unP, minP, maxP, foldP, PV.lt, PV.lt.ltL, endP, expoAll, expo, expo.expoL, frIds, frIds.frIdsL, nodupN, kill, cls, clsFuel, resO, RV.get, loadP, evC_p, evC_s, endS, endT, rowsOf, callP, thinL, unfr, unfr.unfrL, PV.noMem, PV.noMem.noMemL, optI, mapO, norm, trimT, trimB, forget, hasN, blksLt, List.set, bnd, h, h14]
theorem f29 (n : Int) (h : inB n = true) : evE Dg 29 [.int .i64 n] = some (.int .u64 (n.natAbs : Int)) := by
  rw [inB_iff] at h
  refine evE_intro 1 D29 rfl ?_
  unfold c29
  by_cases h0 : n < 0
  · have w1 := wrap_i64 (-n) (by omega) (by omega)
    have w2 : IntKind.u64.wrap (-n) = (n.natAbs : Int) := by rw [wrap_u64 _ (by omega) (by omega)]; omega
    simp [evCode, evOps, evOne, evOp, evPur, evEff, evPur.chunks, fillP, AOp.isEff, AO.ev, putP, PV.cells, PV.leaf, getB, getM, mapE, keyC, mapRows, mfind, eq1, eqL, scal, binP, unP, minP, maxP, foldP, PV.lt, PV.lt.ltL, endP, expoAll, expo, expo.expoL, frIds, frIds.frIdsL, nodupN, kill, cls, clsFuel, resO, RV.get, loadP, evC_p, evC_s, endS, endT, rowsOf, callP, thinL, unfr, unfr.unfrL, PV.noMem, PV.noMem.noMemL, optI, mapO, norm, trimT, trimB, forget, hasN, blksLt, List.set, h0, w1, w2]
  · have w2 : IntKind.u64.wrap n = (n.natAbs : Int) := by rw [wrap_u64 _ (by omega) (by omega)]; omega
    simp [evCode, evOps, evOne, evOp, evPur, evEff, evPur.chunks, fillP, AOp.isEff, AO.ev, putP, PV.cells, PV.leaf, getB, getM, mapE, keyC, mapRows, mfind, eq1, eqL, scal, binP, unP, minP, maxP, foldP, PV.lt, PV.lt.ltL, endP, expoAll, expo, expo.expoL, frIds, frIds.frIdsL, nodupN, kill, cls, clsFuel, resO, RV.get, loadP, evC_p, evC_s, endS, endT, rowsOf, callP, thinL, unfr, unfr.unfrL, PV.noMem, PV.noMem.noMemL, optI, mapO, norm, trimT, trimB, forget, hasN, blksLt, List.set, h0, w2]
theorem f38 (n : Int) (h : inB n = true) : evE Dg 38 [.int .i64 n] = some (.int .u64 (n.natAbs : Int)) := by
  rw [inB_iff] at h
  refine evE_intro 1 D38 rfl ?_
  unfold c38
  by_cases h0 : n < 0
  · have w1 := wrap_i64 (-n) (by omega) (by omega)
    have w2 : IntKind.u64.wrap (-n) = (n.natAbs : Int) := by rw [wrap_u64 _ (by omega) (by omega)]; omega
    simp [evCode, evOps, evOne, evOp, evPur, evEff, evPur.chunks, fillP, AOp.isEff, AO.ev, putP, PV.cells, PV.leaf, getB, getM, mapE, keyC, mapRows, mfind, eq1, eqL, scal, binP, unP, minP, maxP, foldP, PV.lt, PV.lt.ltL, endP, expoAll, expo, expo.expoL, frIds, frIds.frIdsL, nodupN, kill, cls, clsFuel, resO, RV.get, loadP, evC_p, evC_s, endS, endT, rowsOf, callP, thinL, unfr, unfr.unfrL, PV.noMem, PV.noMem.noMemL, optI, mapO, norm, trimT, trimB, forget, hasN, blksLt, List.set, h0, w1, w2]
  · have w2 : IntKind.u64.wrap n = (n.natAbs : Int) := by rw [wrap_u64 _ (by omega) (by omega)]; omega
    simp [evCode, evOps, evOne, evOp, evPur, evEff, evPur.chunks, fillP, AOp.isEff, AO.ev, putP, PV.cells, PV.leaf, getB, getM, mapE, keyC, mapRows, mfind, eq1, eqL, scal, binP, unP, minP, maxP, foldP, PV.lt, PV.lt.ltL, endP, expoAll, expo, expo.expoL, frIds, frIds.frIdsL, nodupN, kill, cls, clsFuel, resO, RV.get, loadP, evC_p, evC_s, endS, endT, rowsOf, callP, thinL, unfr, unfr.unfrL, PV.noMem, PV.noMem.noMemL, optI, mapO, norm, trimT, trimB, forget, hasN, blksLt, List.set, h0, w2]

/-- a pair of a number and whether there is one -/
def pr (o : Option Int) : PV := match o with | some n => .tup [.int .i64 n, .bool true] | none => .tup [.int .i64 0, .bool false]
def addS (a b : Int) : Option Int := if inB a && inB b && inB (a + b) then some (a + b) else none
theorem f10 (a b : Int) : evE Dg 10 [.int .i64 a, .int .i64 b] = some (pr (addS a b)) := by
  have ha := f14 a
  have hb := f14 b
  refine evE_intro 1 D10 rfl ?_
  unfold c10
  cases h1 : inB a
  · rw [h1] at ha; simp [evCode, evOps, evOne, evOp, evPur, evEff, evPur.chunks, fillP, AOp.isEff, AO.ev, putP, PV.cells, PV.leaf, getB, getM, mapE, keyC, mapRows, mfind, eq1, eqL, scal, binP, unP, minP, maxP, foldP, PV.lt, PV.lt.ltL, endP, expoAll, expo, expo.expoL, frIds, frIds.frIdsL, nodupN, kill, cls, clsFuel, resO, RV.get, loadP, evC_p, evC_s, endS, endT, rowsOf, callP, thinL, unfr, unfr.unfrL, PV.noMem, PV.noMem.noMemL, optI, mapO, norm, trimT, trimB, forget, hasN, blksLt, List.set, addS, pr, h1, ha]
  · cases h2 : inB b
    · rw [h1] at ha; rw [h2] at hb; simp [evCode, evOps, evOne, evOp, evPur, evEff, evPur.chunks, fillP, AOp.isEff, AO.ev, putP, PV.cells, PV.leaf, getB, getM, mapE, keyC, mapRows, mfind, eq1, eqL, scal, binP, unP, minP, maxP, foldP, PV.lt, PV.lt.ltL, endP, expoAll, expo, expo.expoL, frIds, frIds.frIdsL, nodupN, kill, cls, clsFuel, resO, RV.get, loadP, evC_p, evC_s, endS, endT, rowsOf, callP, thinL, unfr, unfr.unfrL, PV.noMem, PV.noMem.noMemL, optI, mapO, norm, trimT, trimB, forget, hasN, blksLt, List.set, addS, pr, h1, h2, ha, hb]
    · rw [h1] at ha; rw [h2] at hb
      rw [inB_iff] at h1 h2
      have w := wrap_i64 (a + b) (by omega) (by omega)
      rw [← inB_iff] at h1 h2
      have h27 := f27 (a + b)
      cases h3 : inB (a + b)
      · simp only [bnd, h3] at h27
        simp [evCode, evOps, evOne, evOp, evPur, evEff, evPur.chunks, fillP, AOp.isEff, AO.ev, putP, PV.cells, PV.leaf, getB, getM, mapE, keyC, mapRows, mfind, eq1, eqL, scal, binP, unP, minP, maxP, foldP, PV.lt, PV.lt.ltL, endP, expoAll, expo, expo.expoL, frIds, frIds.frIdsL, nodupN, kill, cls, clsFuel, resO, RV.get, loadP, evC_p, evC_s, endS, endT, rowsOf, callP, thinL, unfr, unfr.unfrL, PV.noMem, PV.noMem.noMemL, optI, mapO, norm, trimT, trimB, forget, hasN, blksLt, List.set, addS, pr, h1, h2, h3, ha, hb, w, h27]
      · simp only [bnd, h3] at h27
        simp [evCode, evOps, evOne, evOp, evPur, evEff, evPur.chunks, fillP, AOp.isEff, AO.ev, putP, PV.cells, PV.leaf, getB, getM, mapE, keyC, mapRows, mfind, eq1, eqL, scal, binP, unP, minP, maxP, foldP, PV.lt, PV.lt.ltL, endP, expoAll, expo, expo.expoL, frIds, frIds.frIdsL, nodupN, kill, cls, clsFuel, resO, RV.get, loadP, evC_p, evC_s, endS, endT, rowsOf, callP, thinL, unfr, unfr.unfrL, PV.noMem, PV.noMem.noMemL, optI, mapO, norm, trimT, trimB, forget, hasN, blksLt, List.set, addS, pr, h1, h2, h3, ha, hb, w, h27]
theorem f12 (a b : Int) : evE Dg 12 [.int .i64 a, .int .i64 b] = some (pr (addS a b)) := by
  have ha := f15 a
  have hb := f15 b
  refine evE_intro 1 D12 rfl ?_
  unfold c12
  cases h1 : inB a
  · rw [h1] at ha; simp [evCode, evOps, evOne, evOp, evPur, evEff, evPur.chunks, fillP, AOp.isEff, AO.ev, putP, PV.cells, PV.leaf, getB, getM, mapE, keyC, mapRows, mfind, eq1, eqL, scal, binP, unP, minP, maxP, foldP, PV.lt, PV.lt.ltL, endP, expoAll, expo, expo.expoL, frIds, frIds.frIdsL, nodupN, kill, cls, clsFuel, resO, RV.get, loadP, evC_p, evC_s, endS, endT, rowsOf, callP, thinL, unfr, unfr.unfrL, PV.noMem, PV.noMem.noMemL, optI, mapO, norm, trimT, trimB, forget, hasN, blksLt, List.set, addS, pr, h1, ha]
  · cases h2 : inB b
    · rw [h1] at ha; rw [h2] at hb; simp [evCode, evOps, evOne, evOp, evPur, evEff, evPur.chunks, fillP, AOp.isEff, AO.ev, putP, PV.cells, PV.leaf, getB, getM, mapE, keyC, mapRows, mfind, eq1, eqL, scal, binP, unP, minP, maxP, foldP, PV.lt, PV.lt.ltL, endP, expoAll, expo, expo.expoL, frIds, frIds.frIdsL, nodupN, kill, cls, clsFuel, resO, RV.get, loadP, evC_p, evC_s, endS, endT, rowsOf, callP, thinL, unfr, unfr.unfrL, PV.noMem, PV.noMem.noMemL, optI, mapO, norm, trimT, trimB, forget, hasN, blksLt, List.set, addS, pr, h1, h2, ha, hb]
    · rw [h1] at ha; rw [h2] at hb
      rw [inB_iff] at h1 h2
      have w := wrap_i64 (a + b) (by omega) (by omega)
      rw [← inB_iff] at h1 h2
      have h27 := f15 (a + b)
      cases h3 : inB (a + b)
      · rw [h3] at h27
        simp [evCode, evOps, evOne, evOp, evPur, evEff, evPur.chunks, fillP, AOp.isEff, AO.ev, putP, PV.cells, PV.leaf, getB, getM, mapE, keyC, mapRows, mfind, eq1, eqL, scal, binP, unP, minP, maxP, foldP, PV.lt, PV.lt.ltL, endP, expoAll, expo, expo.expoL, frIds, frIds.frIdsL, nodupN, kill, cls, clsFuel, resO, RV.get, loadP, evC_p, evC_s, endS, endT, rowsOf, callP, thinL, unfr, unfr.unfrL, PV.noMem, PV.noMem.noMemL, optI, mapO, norm, trimT, trimB, forget, hasN, blksLt, List.set, addS, pr, h1, h2, h3, ha, hb, w, h27]
      · rw [h3] at h27
        simp [evCode, evOps, evOne, evOp, evPur, evEff, evPur.chunks, fillP, AOp.isEff, AO.ev, putP, PV.cells, PV.leaf, getB, getM, mapE, keyC, mapRows, mfind, eq1, eqL, scal, binP, unP, minP, maxP, foldP, PV.lt, PV.lt.ltL, endP, expoAll, expo, expo.expoL, frIds, frIds.frIdsL, nodupN, kill, cls, clsFuel, resO, RV.get, loadP, evC_p, evC_s, endS, endT, rowsOf, callP, thinL, unfr, unfr.unfrL, PV.noMem, PV.noMem.noMemL, optI, mapO, norm, trimT, trimB, forget, hasN, blksLt, List.set, addS, pr, h1, h2, h3, ha, hb, w, h27]

/-- a b / c rounded down -/
def flr (a b c : Int) : Option Int := if inB a && inB b && decide (1 ≤ c) && decide (c ≤ 1000000000000000) && inB (a * b / c) then some (a * b / c) else none
def cel (a b c : Int) : Option Int := if inB a && inB b && decide (1 ≤ c) && decide (c ≤ 1000000000000000) && inB (-(-(a * b) / c)) then some (-(-(a * b) / c)) else none

/-- the absolute value of a product, divided: what the signed quotient is -/
theorem quot_pos {a b c : Int} (hc : 1 ≤ c) (h : (a < 0) = (b < 0)) : a * b / c = ((a.natAbs * b.natAbs / c.toNat : Nat) : Int) := by
  have e : a * b = ((a.natAbs * b.natAbs : Nat) : Int) := by
    rw [Int.natCast_mul]
    by_cases h0 : a < 0
    · have h1 : b < 0 := by rw [← h]; exact h0
      rw [show (a.natAbs : Int) = -a by omega, show (b.natAbs : Int) = -b by omega, Int.neg_mul_neg]
    · have h1 : ¬ b < 0 := by rw [← h]; exact h0
      rw [show (a.natAbs : Int) = a by omega, show (b.natAbs : Int) = b by omega]
  rw [e, Int.natCast_ediv, Int.toNat_of_nonneg (by omega)]
theorem quot_neg {a b c : Int} (hc : 1 ≤ c) (h : ¬ (a < 0) = (b < 0)) : a * b / c = -(((a.natAbs * b.natAbs / c.toNat : Nat) : Int)) - (if a.natAbs * b.natAbs % c.toNat = 0 then 0 else 1) := by
  have e : a * b = -((a.natAbs * b.natAbs : Nat) : Int) := by
    rw [Int.natCast_mul]
    by_cases h0 : a < 0
    · have h1 : ¬ b < 0 := fun hb => h (by simp [h0, hb])
      rw [show (a.natAbs : Int) = -a by omega, show (b.natAbs : Int) = b by omega, Int.neg_mul, Int.neg_neg]
    · have h1 : b < 0 := Decidable.byContradiction fun hb => h (by simp [h0, hb])
      rw [show (a.natAbs : Int) = a by omega, show (b.natAbs : Int) = -b by omega, Int.mul_neg, Int.neg_neg]
  obtain ⟨N, hN⟩ := ex_eq (a.natAbs * b.natAbs)
  rw [e, hN]
  obtain ⟨k, rfl⟩ : ∃ k : Nat, c = k := ⟨c.toNat, by omega⟩
  rw [Int.toNat_natCast]
  have hk : 0 < k := by omega
  have hd := Nat.div_add_mod N k
  have hm := Nat.mod_lt N hk
  obtain ⟨Q, hQ⟩ := ex_eq (N / k)
  obtain ⟨R, hR⟩ := ex_eq (N % k)
  rw [hQ, hR] at hd
  rw [hR] at hm
  rw [hQ, hR]
  have hdi : (k : Int) * Q + R = N := by rw [← Int.natCast_mul, ← Int.natCast_add, hd]
  by_cases h0 : R = 0
  · rw [if_pos h0]
    have : -(N : Int) = (k : Int) * -(Q : Int) := by rw [Int.mul_neg]; omega
    rw [this, Int.mul_ediv_cancel_left _ (by omega)]; omega
  · rw [if_neg h0]
    have : -(N : Int) = ((k : Int) - R) + (k : Int) * (-(Q : Int) - 1) := by
      rw [Int.mul_sub, Int.mul_neg, Int.mul_one]; omega
    rw [this, Int.add_mul_ediv_left _ _ (by omega), Int.ediv_eq_zero_of_lt (by omega) (by omega)]
    omega
end Go.Proofs.YtnodcoemjojlhaaDoor
