/- num: the reference's Floor, Ceil, Mul; the laws NumSums, NumUndoes, NumQuotients. -/
import Derived.Test.YtnodcoemjojlhaaDoorNuG
import Derived.Test.YtnodcoemjojlhaaDoorNuH
import Derived.Test.YtnodcoemjojlhaaDoorAw
namespace Go.Proofs.YtnodcoemjojlhaaDoor
open Go Go.RowKit
set_option linter.unusedVariables false
set_option linter.unusedSimpArgs false
set_option maxHeartbeats 8000000

def rnd (a b c : Int) (up : Bool) : Option Int := if up then cel a b c else flr a b c
theorem Ops.ceil {a b c : Int} {A B k Q R : Nat} (o : Ops a b c A B k Q R) : -(-(a * b) / c) = if (a < 0) = (b < 0) then (Q : Int) + (if R = 0 then 0 else 1) else -(Q : Int) := by
  have hc : 1 ≤ c := by have := o.k1; have := o.hc; omega
  have hk : c.toNat = k := by have := o.hc; omega
  by_cases ha0 : a = 0
  · subst ha0
    have hA := o.hA
    simp only [Int.natAbs_zero] at hA
    subst hA
    have hQ := o.hQ; have hR := o.hR
    simp only [Nat.zero_mul, Nat.zero_div, Nat.zero_mod] at hQ hR
    subst hQ; subst hR
    simp
  · have e : -(a * b) = (-a) * b := by rw [Int.neg_mul]
    have hna : (-a).natAbs = A := by rw [Int.natAbs_neg, o.hA]
    rw [e]
    split
    · rename_i h
      have h' : ¬ (-a < 0) = (b < 0) := by
        intro hh
        rw [← h] at hh
        have : (-a < 0) ↔ (a < 0) := by rw [hh]
        omega
      rw [quot_neg hc h', hna, o.hB, hk, o.hQ, o.hR]
      omega
    · rename_i h
      have h' : (-a < 0) = (b < 0) := by
        apply propext
        by_cases hb : b < 0
        · have : ¬ a < 0 := fun ha => h (by simp [ha, hb])
          constructor <;> intro _ <;> omega
        · have : a < 0 := Decidable.byContradiction fun ha => h (by simp [ha, hb])
          constructor <;> intro _ <;> omega
      rw [quot_pos hc h', hna, o.hB, hk, o.hQ]
def rndZ (a b c : Int) (up : Bool) : Int := if up then -(-(a * b) / c) else a * b / c
theorem pr_rnd {a b c : Int} {A B k Q R : Nat} (o : Ops a b c A B k Q R) (up : Bool) : pr (rnd a b c up) = bnd (rndZ a b c up) := by
  have hc : 1 ≤ c ∧ c ≤ 1000000000000000 := by have := o.k1; have := o.k2; have := o.hc; omega
  unfold rnd rndZ cel flr bnd
  rw [o.ha, o.hb, decide_eq_true hc.1, decide_eq_true hc.2]
  cases up <;> simp only [Bool.and_self, Bool.true_and, Bool.false_eq_true, if_false, if_true] <;> split <;> rfl
theorem rnd_none {a b c : Int} {up : Bool} (h : inB a = false ∨ inB b = false ∨ c < 1 ∨ 1000000000000000 < c) : rnd a b c up = none := by
  unfold rnd cel flr
  have : (inB a && inB b && decide (1 ≤ c) && decide (c ≤ 1000000000000000)) = false := by
    rcases h with h | h | h | h
    · simp [h]
    · simp [h]
    · simp; intro _ _ _; omega
    · simp; intro _ _ _; omega
  rw [this]
  cases up <;> simp


theorem wr1 (q : Nat) (h : ¬ (1000000000000000 : Int) < (q : Int) + 1) : IntKind.i64.wrap (-1 + -(q : Int)) = -1 + -(q : Int) := wrap_i64 _ (by omega) (by omega)
theorem wr2 (q : Nat) (h : ¬ (1000000000000000 : Int) < (q : Int) + 1) : IntKind.i64.wrap (-((q : Int) + 1)) = -((q : Int) + 1) := wrap_i64 _ (by omega) (by omega)
theorem wr3 (q : Nat) (h : ¬ (1000000000000000 : Int) < (q : Int) + 1) : IntKind.i64.wrap ((q : Int) + 1) = (q : Int) + 1 := wrap_i64 _ (by omega) (by omega)
theorem wr4 (q : Nat) (h : ¬ (1000000000000000 : Int) < (q : Int)) : IntKind.i64.wrap (-(q : Int)) = -(q : Int) := wrap_i64 _ (by omega) (by omega)
theorem wr5 (q : Nat) (h : ¬ (1000000000000000 : Int) < (q : Int)) : IntKind.i64.wrap (q : Int) = (q : Int) := wrap_i64 _ (by omega) (by omega)
theorem wr6 (q : Nat) (h : q ≤ 4000000000000001) : IntKind.u64.wrap ((q : Int) + 1) = (q : Int) + 1 := wrap_u64 _ (by omega) (by omega)
def inc31 (up neg rest : Bool) : Nat := if (up != neg) && rest then 1 else 0
def res31 (neg : Bool) (q : Nat) : PV := if 1000000000000000 < q then .tup [.int .i64 0, .bool false] else .tup [.int .i64 (if neg then -(q : Int) else q), .bool true]
structure L31 (a b c : Int) (A B k q R : Nat) : Prop where
  ha : evE Dg 15 [.int .i64 a] = some (.bool true)
  hb : evE Dg 15 [.int .i64 b] = some (.bool true)
  h3 : ¬ c < 1
  h4 : ¬ 1000000000000000 < c
  h38a : evE Dg 38 [.int .i64 a] = some (.int .u64 (A : Int))
  h38b : evE Dg 38 [.int .i64 b] = some (.int .u64 (B : Int))
  h37 : evE Dg 37 [.int .u64 (A : Int), .int .u64 (B : Int), .int .u64 (k : Int)] = some (.tup [.int .u64 (q : Int), .bool (decide (0 < R))])
  wc : IntKind.u64.wrap c = (k : Int)
  q1 : q ≤ 4000000000000001

set_option maxRecDepth 100000 in
theorem l31_0000 {a b c : Int} {A B k q R : Nat} (l : L31 a b c A B k q R) (s1 : ¬ a < 0) (s2 : ¬ b < 0) (r0 : ¬ 0 < R) :
    evE Dg 31 [.int .i64 a, .int .i64 b, .int .i64 c, .bool false] = some (res31 false (q + 0)) := by
  obtain ⟨ha, hb, h3, h4, h38a, h38b, h37, wc, q1⟩ := l
  have w1 := wr6 q q1
  unfold res31
  by_cases hq : 1000000000000000 < q + 0
  · have e1 : (1000000000000000 : Int) < (q : Int) := by omega
    rw [if_pos hq]
    refine evE_intro 1 D31 rfl ?_
    unfold c31
    simp [evCode, evOps, evOne, evOp, evPur, evEff, evPur.chunks, fillP, AOp.isEff, AO.ev, putP, PV.cells, PV.leaf, getB, getM, mapE, keyC, mapRows, mfind, eq1, eqL, scal, binP, unP, minP, maxP, foldP, PV.lt, PV.lt.ltL, endP, expoAll, expo, expo.expoL, frIds, frIds.frIdsL, nodupN, kill, cls, clsFuel, resO, RV.get, loadP, evC_p, evC_s, endS, endT, rowsOf, callP, thinL, unfr, unfr.unfrL, PV.noMem, PV.noMem.noMemL, optI, mapO, norm, trimT, trimB, forget, hasN, blksLt, List.set, ha, hb, h3, h4, h38a, h38b, h37, wc, s1, s2, r0, w1, e1]
  · have e1 : ¬ (1000000000000000 : Int) < (q : Int) := by omega
    have v1 := wr5 q e1
    have v2 := wr4 q e1
    rw [if_neg hq]
    refine evE_intro 1 D31 rfl ?_
    unfold c31
    simp [evCode, evOps, evOne, evOp, evPur, evEff, evPur.chunks, fillP, AOp.isEff, AO.ev, putP, PV.cells, PV.leaf, getB, getM, mapE, keyC, mapRows, mfind, eq1, eqL, scal, binP, unP, minP, maxP, foldP, PV.lt, PV.lt.ltL, endP, expoAll, expo, expo.expoL, frIds, frIds.frIdsL, nodupN, kill, cls, clsFuel, resO, RV.get, loadP, evC_p, evC_s, endS, endT, rowsOf, callP, thinL, unfr, unfr.unfrL, PV.noMem, PV.noMem.noMemL, optI, mapO, norm, trimT, trimB, forget, hasN, blksLt, List.set, ha, hb, h3, h4, h38a, h38b, h37, wc, s1, s2, r0, w1, e1, v1, v2]

set_option maxRecDepth 100000 in
theorem l31_0001 {a b c : Int} {A B k q R : Nat} (l : L31 a b c A B k q R) (s1 : ¬ a < 0) (s2 : ¬ b < 0) (r0 : 0 < R) :
    evE Dg 31 [.int .i64 a, .int .i64 b, .int .i64 c, .bool false] = some (res31 false (q + 0)) := by
  obtain ⟨ha, hb, h3, h4, h38a, h38b, h37, wc, q1⟩ := l
  have w1 := wr6 q q1
  unfold res31
  by_cases hq : 1000000000000000 < q + 0
  · have e1 : (1000000000000000 : Int) < (q : Int) := by omega
    rw [if_pos hq]
    refine evE_intro 1 D31 rfl ?_
    unfold c31
    simp [evCode, evOps, evOne, evOp, evPur, evEff, evPur.chunks, fillP, AOp.isEff, AO.ev, putP, PV.cells, PV.leaf, getB, getM, mapE, keyC, mapRows, mfind, eq1, eqL, scal, binP, unP, minP, maxP, foldP, PV.lt, PV.lt.ltL, endP, expoAll, expo, expo.expoL, frIds, frIds.frIdsL, nodupN, kill, cls, clsFuel, resO, RV.get, loadP, evC_p, evC_s, endS, endT, rowsOf, callP, thinL, unfr, unfr.unfrL, PV.noMem, PV.noMem.noMemL, optI, mapO, norm, trimT, trimB, forget, hasN, blksLt, List.set, ha, hb, h3, h4, h38a, h38b, h37, wc, s1, s2, r0, w1, e1]
  · have e1 : ¬ (1000000000000000 : Int) < (q : Int) := by omega
    have v1 := wr5 q e1
    have v2 := wr4 q e1
    rw [if_neg hq]
    refine evE_intro 1 D31 rfl ?_
    unfold c31
    simp [evCode, evOps, evOne, evOp, evPur, evEff, evPur.chunks, fillP, AOp.isEff, AO.ev, putP, PV.cells, PV.leaf, getB, getM, mapE, keyC, mapRows, mfind, eq1, eqL, scal, binP, unP, minP, maxP, foldP, PV.lt, PV.lt.ltL, endP, expoAll, expo, expo.expoL, frIds, frIds.frIdsL, nodupN, kill, cls, clsFuel, resO, RV.get, loadP, evC_p, evC_s, endS, endT, rowsOf, callP, thinL, unfr, unfr.unfrL, PV.noMem, PV.noMem.noMemL, optI, mapO, norm, trimT, trimB, forget, hasN, blksLt, List.set, ha, hb, h3, h4, h38a, h38b, h37, wc, s1, s2, r0, w1, e1, v1, v2]

set_option maxRecDepth 100000 in
theorem l31_0010 {a b c : Int} {A B k q R : Nat} (l : L31 a b c A B k q R) (s1 : ¬ a < 0) (s2 : b < 0) (r0 : ¬ 0 < R) :
    evE Dg 31 [.int .i64 a, .int .i64 b, .int .i64 c, .bool false] = some (res31 true (q + 0)) := by
  obtain ⟨ha, hb, h3, h4, h38a, h38b, h37, wc, q1⟩ := l
  have w1 := wr6 q q1
  unfold res31
  by_cases hq : 1000000000000000 < q + 0
  · have e1 : (1000000000000000 : Int) < (q : Int) := by omega
    rw [if_pos hq]
    refine evE_intro 1 D31 rfl ?_
    unfold c31
    simp [evCode, evOps, evOne, evOp, evPur, evEff, evPur.chunks, fillP, AOp.isEff, AO.ev, putP, PV.cells, PV.leaf, getB, getM, mapE, keyC, mapRows, mfind, eq1, eqL, scal, binP, unP, minP, maxP, foldP, PV.lt, PV.lt.ltL, endP, expoAll, expo, expo.expoL, frIds, frIds.frIdsL, nodupN, kill, cls, clsFuel, resO, RV.get, loadP, evC_p, evC_s, endS, endT, rowsOf, callP, thinL, unfr, unfr.unfrL, PV.noMem, PV.noMem.noMemL, optI, mapO, norm, trimT, trimB, forget, hasN, blksLt, List.set, ha, hb, h3, h4, h38a, h38b, h37, wc, s1, s2, r0, w1, e1]
  · have e1 : ¬ (1000000000000000 : Int) < (q : Int) := by omega
    have v1 := wr5 q e1
    have v2 := wr4 q e1
    rw [if_neg hq]
    refine evE_intro 1 D31 rfl ?_
    unfold c31
    simp [evCode, evOps, evOne, evOp, evPur, evEff, evPur.chunks, fillP, AOp.isEff, AO.ev, putP, PV.cells, PV.leaf, getB, getM, mapE, keyC, mapRows, mfind, eq1, eqL, scal, binP, unP, minP, maxP, foldP, PV.lt, PV.lt.ltL, endP, expoAll, expo, expo.expoL, frIds, frIds.frIdsL, nodupN, kill, cls, clsFuel, resO, RV.get, loadP, evC_p, evC_s, endS, endT, rowsOf, callP, thinL, unfr, unfr.unfrL, PV.noMem, PV.noMem.noMemL, optI, mapO, norm, trimT, trimB, forget, hasN, blksLt, List.set, ha, hb, h3, h4, h38a, h38b, h37, wc, s1, s2, r0, w1, e1, v1, v2]

set_option maxRecDepth 100000 in
theorem l31_0011 {a b c : Int} {A B k q R : Nat} (l : L31 a b c A B k q R) (s1 : ¬ a < 0) (s2 : b < 0) (r0 : 0 < R) :
    evE Dg 31 [.int .i64 a, .int .i64 b, .int .i64 c, .bool false] = some (res31 true (q + 1)) := by
  obtain ⟨ha, hb, h3, h4, h38a, h38b, h37, wc, q1⟩ := l
  have w1 := wr6 q q1
  unfold res31
  by_cases hq : 1000000000000000 < q + 1
  · have e1 : (1000000000000000 : Int) < (q : Int) + 1 := by omega
    rw [if_pos hq]
    refine evE_intro 1 D31 rfl ?_
    unfold c31
    simp [evCode, evOps, evOne, evOp, evPur, evEff, evPur.chunks, fillP, AOp.isEff, AO.ev, putP, PV.cells, PV.leaf, getB, getM, mapE, keyC, mapRows, mfind, eq1, eqL, scal, binP, unP, minP, maxP, foldP, PV.lt, PV.lt.ltL, endP, expoAll, expo, expo.expoL, frIds, frIds.frIdsL, nodupN, kill, cls, clsFuel, resO, RV.get, loadP, evC_p, evC_s, endS, endT, rowsOf, callP, thinL, unfr, unfr.unfrL, PV.noMem, PV.noMem.noMemL, optI, mapO, norm, trimT, trimB, forget, hasN, blksLt, List.set, ha, hb, h3, h4, h38a, h38b, h37, wc, s1, s2, r0, w1, e1]
  · have e1 : ¬ (1000000000000000 : Int) < (q : Int) + 1 := by omega
    have v1 := wr3 q e1
    have v2 := wr2 q e1
    have v3 := wr1 q e1
    rw [if_neg hq]
    refine evE_intro 1 D31 rfl ?_
    unfold c31
    simp [evCode, evOps, evOne, evOp, evPur, evEff, evPur.chunks, fillP, AOp.isEff, AO.ev, putP, PV.cells, PV.leaf, getB, getM, mapE, keyC, mapRows, mfind, eq1, eqL, scal, binP, unP, minP, maxP, foldP, PV.lt, PV.lt.ltL, endP, expoAll, expo, expo.expoL, frIds, frIds.frIdsL, nodupN, kill, cls, clsFuel, resO, RV.get, loadP, evC_p, evC_s, endS, endT, rowsOf, callP, thinL, unfr, unfr.unfrL, PV.noMem, PV.noMem.noMemL, optI, mapO, norm, trimT, trimB, forget, hasN, blksLt, List.set, ha, hb, h3, h4, h38a, h38b, h37, wc, s1, s2, r0, w1, e1, v1, v2, v3]

set_option maxRecDepth 100000 in
theorem l31_0100 {a b c : Int} {A B k q R : Nat} (l : L31 a b c A B k q R) (s1 : a < 0) (s2 : ¬ b < 0) (r0 : ¬ 0 < R) :
    evE Dg 31 [.int .i64 a, .int .i64 b, .int .i64 c, .bool false] = some (res31 true (q + 0)) := by
  obtain ⟨ha, hb, h3, h4, h38a, h38b, h37, wc, q1⟩ := l
  have w1 := wr6 q q1
  unfold res31
  by_cases hq : 1000000000000000 < q + 0
  · have e1 : (1000000000000000 : Int) < (q : Int) := by omega
    rw [if_pos hq]
    refine evE_intro 1 D31 rfl ?_
    unfold c31
    simp [evCode, evOps, evOne, evOp, evPur, evEff, evPur.chunks, fillP, AOp.isEff, AO.ev, putP, PV.cells, PV.leaf, getB, getM, mapE, keyC, mapRows, mfind, eq1, eqL, scal, binP, unP, minP, maxP, foldP, PV.lt, PV.lt.ltL, endP, expoAll, expo, expo.expoL, frIds, frIds.frIdsL, nodupN, kill, cls, clsFuel, resO, RV.get, loadP, evC_p, evC_s, endS, endT, rowsOf, callP, thinL, unfr, unfr.unfrL, PV.noMem, PV.noMem.noMemL, optI, mapO, norm, trimT, trimB, forget, hasN, blksLt, List.set, ha, hb, h3, h4, h38a, h38b, h37, wc, s1, s2, r0, w1, e1]
  · have e1 : ¬ (1000000000000000 : Int) < (q : Int) := by omega
    have v1 := wr5 q e1
    have v2 := wr4 q e1
    rw [if_neg hq]
    refine evE_intro 1 D31 rfl ?_
    unfold c31
    simp [evCode, evOps, evOne, evOp, evPur, evEff, evPur.chunks, fillP, AOp.isEff, AO.ev, putP, PV.cells, PV.leaf, getB, getM, mapE, keyC, mapRows, mfind, eq1, eqL, scal, binP, unP, minP, maxP, foldP, PV.lt, PV.lt.ltL, endP, expoAll, expo, expo.expoL, frIds, frIds.frIdsL, nodupN, kill, cls, clsFuel, resO, RV.get, loadP, evC_p, evC_s, endS, endT, rowsOf, callP, thinL, unfr, unfr.unfrL, PV.noMem, PV.noMem.noMemL, optI, mapO, norm, trimT, trimB, forget, hasN, blksLt, List.set, ha, hb, h3, h4, h38a, h38b, h37, wc, s1, s2, r0, w1, e1, v1, v2]

set_option maxRecDepth 100000 in
theorem l31_0101 {a b c : Int} {A B k q R : Nat} (l : L31 a b c A B k q R) (s1 : a < 0) (s2 : ¬ b < 0) (r0 : 0 < R) :
    evE Dg 31 [.int .i64 a, .int .i64 b, .int .i64 c, .bool false] = some (res31 true (q + 1)) := by
  obtain ⟨ha, hb, h3, h4, h38a, h38b, h37, wc, q1⟩ := l
  have w1 := wr6 q q1
  unfold res31
  by_cases hq : 1000000000000000 < q + 1
  · have e1 : (1000000000000000 : Int) < (q : Int) + 1 := by omega
    rw [if_pos hq]
    refine evE_intro 1 D31 rfl ?_
    unfold c31
    simp [evCode, evOps, evOne, evOp, evPur, evEff, evPur.chunks, fillP, AOp.isEff, AO.ev, putP, PV.cells, PV.leaf, getB, getM, mapE, keyC, mapRows, mfind, eq1, eqL, scal, binP, unP, minP, maxP, foldP, PV.lt, PV.lt.ltL, endP, expoAll, expo, expo.expoL, frIds, frIds.frIdsL, nodupN, kill, cls, clsFuel, resO, RV.get, loadP, evC_p, evC_s, endS, endT, rowsOf, callP, thinL, unfr, unfr.unfrL, PV.noMem, PV.noMem.noMemL, optI, mapO, norm, trimT, trimB, forget, hasN, blksLt, List.set, ha, hb, h3, h4, h38a, h38b, h37, wc, s1, s2, r0, w1, e1]
  · have e1 : ¬ (1000000000000000 : Int) < (q : Int) + 1 := by omega
    have v1 := wr3 q e1
    have v2 := wr2 q e1
    have v3 := wr1 q e1
    rw [if_neg hq]
    refine evE_intro 1 D31 rfl ?_
    unfold c31
    simp [evCode, evOps, evOne, evOp, evPur, evEff, evPur.chunks, fillP, AOp.isEff, AO.ev, putP, PV.cells, PV.leaf, getB, getM, mapE, keyC, mapRows, mfind, eq1, eqL, scal, binP, unP, minP, maxP, foldP, PV.lt, PV.lt.ltL, endP, expoAll, expo, expo.expoL, frIds, frIds.frIdsL, nodupN, kill, cls, clsFuel, resO, RV.get, loadP, evC_p, evC_s, endS, endT, rowsOf, callP, thinL, unfr, unfr.unfrL, PV.noMem, PV.noMem.noMemL, optI, mapO, norm, trimT, trimB, forget, hasN, blksLt, List.set, ha, hb, h3, h4, h38a, h38b, h37, wc, s1, s2, r0, w1, e1, v1, v2, v3]

set_option maxRecDepth 100000 in
theorem l31_0110 {a b c : Int} {A B k q R : Nat} (l : L31 a b c A B k q R) (s1 : a < 0) (s2 : b < 0) (r0 : ¬ 0 < R) :
    evE Dg 31 [.int .i64 a, .int .i64 b, .int .i64 c, .bool false] = some (res31 false (q + 0)) := by
  obtain ⟨ha, hb, h3, h4, h38a, h38b, h37, wc, q1⟩ := l
  have w1 := wr6 q q1
  unfold res31
  by_cases hq : 1000000000000000 < q + 0
  · have e1 : (1000000000000000 : Int) < (q : Int) := by omega
    rw [if_pos hq]
    refine evE_intro 1 D31 rfl ?_
    unfold c31
    simp [evCode, evOps, evOne, evOp, evPur, evEff, evPur.chunks, fillP, AOp.isEff, AO.ev, putP, PV.cells, PV.leaf, getB, getM, mapE, keyC, mapRows, mfind, eq1, eqL, scal, binP, unP, minP, maxP, foldP, PV.lt, PV.lt.ltL, endP, expoAll, expo, expo.expoL, frIds, frIds.frIdsL, nodupN, kill, cls, clsFuel, resO, RV.get, loadP, evC_p, evC_s, endS, endT, rowsOf, callP, thinL, unfr, unfr.unfrL, PV.noMem, PV.noMem.noMemL, optI, mapO, norm, trimT, trimB, forget, hasN, blksLt, List.set, ha, hb, h3, h4, h38a, h38b, h37, wc, s1, s2, r0, w1, e1]
  · have e1 : ¬ (1000000000000000 : Int) < (q : Int) := by omega
    have v1 := wr5 q e1
    have v2 := wr4 q e1
    rw [if_neg hq]
    refine evE_intro 1 D31 rfl ?_
    unfold c31
    simp [evCode, evOps, evOne, evOp, evPur, evEff, evPur.chunks, fillP, AOp.isEff, AO.ev, putP, PV.cells, PV.leaf, getB, getM, mapE, keyC, mapRows, mfind, eq1, eqL, scal, binP, unP, minP, maxP, foldP, PV.lt, PV.lt.ltL, endP, expoAll, expo, expo.expoL, frIds, frIds.frIdsL, nodupN, kill, cls, clsFuel, resO, RV.get, loadP, evC_p, evC_s, endS, endT, rowsOf, callP, thinL, unfr, unfr.unfrL, PV.noMem, PV.noMem.noMemL, optI, mapO, norm, trimT, trimB, forget, hasN, blksLt, List.set, ha, hb, h3, h4, h38a, h38b, h37, wc, s1, s2, r0, w1, e1, v1, v2]

set_option maxRecDepth 100000 in
theorem l31_0111 {a b c : Int} {A B k q R : Nat} (l : L31 a b c A B k q R) (s1 : a < 0) (s2 : b < 0) (r0 : 0 < R) :
    evE Dg 31 [.int .i64 a, .int .i64 b, .int .i64 c, .bool false] = some (res31 false (q + 0)) := by
  obtain ⟨ha, hb, h3, h4, h38a, h38b, h37, wc, q1⟩ := l
  have w1 := wr6 q q1
  unfold res31
  by_cases hq : 1000000000000000 < q + 0
  · have e1 : (1000000000000000 : Int) < (q : Int) := by omega
    rw [if_pos hq]
    refine evE_intro 1 D31 rfl ?_
    unfold c31
    simp [evCode, evOps, evOne, evOp, evPur, evEff, evPur.chunks, fillP, AOp.isEff, AO.ev, putP, PV.cells, PV.leaf, getB, getM, mapE, keyC, mapRows, mfind, eq1, eqL, scal, binP, unP, minP, maxP, foldP, PV.lt, PV.lt.ltL, endP, expoAll, expo, expo.expoL, frIds, frIds.frIdsL, nodupN, kill, cls, clsFuel, resO, RV.get, loadP, evC_p, evC_s, endS, endT, rowsOf, callP, thinL, unfr, unfr.unfrL, PV.noMem, PV.noMem.noMemL, optI, mapO, norm, trimT, trimB, forget, hasN, blksLt, List.set, ha, hb, h3, h4, h38a, h38b, h37, wc, s1, s2, r0, w1, e1]
  · have e1 : ¬ (1000000000000000 : Int) < (q : Int) := by omega
    have v1 := wr5 q e1
    have v2 := wr4 q e1
    rw [if_neg hq]
    refine evE_intro 1 D31 rfl ?_
    unfold c31
    simp [evCode, evOps, evOne, evOp, evPur, evEff, evPur.chunks, fillP, AOp.isEff, AO.ev, putP, PV.cells, PV.leaf, getB, getM, mapE, keyC, mapRows, mfind, eq1, eqL, scal, binP, unP, minP, maxP, foldP, PV.lt, PV.lt.ltL, endP, expoAll, expo, expo.expoL, frIds, frIds.frIdsL, nodupN, kill, cls, clsFuel, resO, RV.get, loadP, evC_p, evC_s, endS, endT, rowsOf, callP, thinL, unfr, unfr.unfrL, PV.noMem, PV.noMem.noMemL, optI, mapO, norm, trimT, trimB, forget, hasN, blksLt, List.set, ha, hb, h3, h4, h38a, h38b, h37, wc, s1, s2, r0, w1, e1, v1, v2]

set_option maxRecDepth 100000 in
theorem l31_1000 {a b c : Int} {A B k q R : Nat} (l : L31 a b c A B k q R) (s1 : ¬ a < 0) (s2 : ¬ b < 0) (r0 : ¬ 0 < R) :
    evE Dg 31 [.int .i64 a, .int .i64 b, .int .i64 c, .bool true] = some (res31 false (q + 0)) := by
  obtain ⟨ha, hb, h3, h4, h38a, h38b, h37, wc, q1⟩ := l
  have w1 := wr6 q q1
  unfold res31
  by_cases hq : 1000000000000000 < q + 0
  · have e1 : (1000000000000000 : Int) < (q : Int) := by omega
    rw [if_pos hq]
    refine evE_intro 1 D31 rfl ?_
    unfold c31
    simp [evCode, evOps, evOne, evOp, evPur, evEff, evPur.chunks, fillP, AOp.isEff, AO.ev, putP, PV.cells, PV.leaf, getB, getM, mapE, keyC, mapRows, mfind, eq1, eqL, scal, binP, unP, minP, maxP, foldP, PV.lt, PV.lt.ltL, endP, expoAll, expo, expo.expoL, frIds, frIds.frIdsL, nodupN, kill, cls, clsFuel, resO, RV.get, loadP, evC_p, evC_s, endS, endT, rowsOf, callP, thinL, unfr, unfr.unfrL, PV.noMem, PV.noMem.noMemL, optI, mapO, norm, trimT, trimB, forget, hasN, blksLt, List.set, ha, hb, h3, h4, h38a, h38b, h37, wc, s1, s2, r0, w1, e1]
  · have e1 : ¬ (1000000000000000 : Int) < (q : Int) := by omega
    have v1 := wr5 q e1
    have v2 := wr4 q e1
    rw [if_neg hq]
    refine evE_intro 1 D31 rfl ?_
    unfold c31
    simp [evCode, evOps, evOne, evOp, evPur, evEff, evPur.chunks, fillP, AOp.isEff, AO.ev, putP, PV.cells, PV.leaf, getB, getM, mapE, keyC, mapRows, mfind, eq1, eqL, scal, binP, unP, minP, maxP, foldP, PV.lt, PV.lt.ltL, endP, expoAll, expo, expo.expoL, frIds, frIds.frIdsL, nodupN, kill, cls, clsFuel, resO, RV.get, loadP, evC_p, evC_s, endS, endT, rowsOf, callP, thinL, unfr, unfr.unfrL, PV.noMem, PV.noMem.noMemL, optI, mapO, norm, trimT, trimB, forget, hasN, blksLt, List.set, ha, hb, h3, h4, h38a, h38b, h37, wc, s1, s2, r0, w1, e1, v1, v2]

set_option maxRecDepth 100000 in
theorem l31_1001 {a b c : Int} {A B k q R : Nat} (l : L31 a b c A B k q R) (s1 : ¬ a < 0) (s2 : ¬ b < 0) (r0 : 0 < R) :
    evE Dg 31 [.int .i64 a, .int .i64 b, .int .i64 c, .bool true] = some (res31 false (q + 1)) := by
  obtain ⟨ha, hb, h3, h4, h38a, h38b, h37, wc, q1⟩ := l
  have w1 := wr6 q q1
  unfold res31
  by_cases hq : 1000000000000000 < q + 1
  · have e1 : (1000000000000000 : Int) < (q : Int) + 1 := by omega
    rw [if_pos hq]
    refine evE_intro 1 D31 rfl ?_
    unfold c31
    simp [evCode, evOps, evOne, evOp, evPur, evEff, evPur.chunks, fillP, AOp.isEff, AO.ev, putP, PV.cells, PV.leaf, getB, getM, mapE, keyC, mapRows, mfind, eq1, eqL, scal, binP, unP, minP, maxP, foldP, PV.lt, PV.lt.ltL, endP, expoAll, expo, expo.expoL, frIds, frIds.frIdsL, nodupN, kill, cls, clsFuel, resO, RV.get, loadP, evC_p, evC_s, endS, endT, rowsOf, callP, thinL, unfr, unfr.unfrL, PV.noMem, PV.noMem.noMemL, optI, mapO, norm, trimT, trimB, forget, hasN, blksLt, List.set, ha, hb, h3, h4, h38a, h38b, h37, wc, s1, s2, r0, w1, e1]
  · have e1 : ¬ (1000000000000000 : Int) < (q : Int) + 1 := by omega
    have v1 := wr3 q e1
    have v2 := wr2 q e1
    have v3 := wr1 q e1
    rw [if_neg hq]
    refine evE_intro 1 D31 rfl ?_
    unfold c31
    simp [evCode, evOps, evOne, evOp, evPur, evEff, evPur.chunks, fillP, AOp.isEff, AO.ev, putP, PV.cells, PV.leaf, getB, getM, mapE, keyC, mapRows, mfind, eq1, eqL, scal, binP, unP, minP, maxP, foldP, PV.lt, PV.lt.ltL, endP, expoAll, expo, expo.expoL, frIds, frIds.frIdsL, nodupN, kill, cls, clsFuel, resO, RV.get, loadP, evC_p, evC_s, endS, endT, rowsOf, callP, thinL, unfr, unfr.unfrL, PV.noMem, PV.noMem.noMemL, optI, mapO, norm, trimT, trimB, forget, hasN, blksLt, List.set, ha, hb, h3, h4, h38a, h38b, h37, wc, s1, s2, r0, w1, e1, v1, v2, v3]

set_option maxRecDepth 100000 in
theorem l31_1010 {a b c : Int} {A B k q R : Nat} (l : L31 a b c A B k q R) (s1 : ¬ a < 0) (s2 : b < 0) (r0 : ¬ 0 < R) :
    evE Dg 31 [.int .i64 a, .int .i64 b, .int .i64 c, .bool true] = some (res31 true (q + 0)) := by
  obtain ⟨ha, hb, h3, h4, h38a, h38b, h37, wc, q1⟩ := l
  have w1 := wr6 q q1
  unfold res31
  by_cases hq : 1000000000000000 < q + 0
  · have e1 : (1000000000000000 : Int) < (q : Int) := by omega
    rw [if_pos hq]
    refine evE_intro 1 D31 rfl ?_
    unfold c31
    simp [evCode, evOps, evOne, evOp, evPur, evEff, evPur.chunks, fillP, AOp.isEff, AO.ev, putP, PV.cells, PV.leaf, getB, getM, mapE, keyC, mapRows, mfind, eq1, eqL, scal, binP, unP, minP, maxP, foldP, PV.lt, PV.lt.ltL, endP, expoAll, expo, expo.expoL, frIds, frIds.frIdsL, nodupN, kill, cls, clsFuel, resO, RV.get, loadP, evC_p, evC_s, endS, endT, rowsOf, callP, thinL, unfr, unfr.unfrL, PV.noMem, PV.noMem.noMemL, optI, mapO, norm, trimT, trimB, forget, hasN, blksLt, List.set, ha, hb, h3, h4, h38a, h38b, h37, wc, s1, s2, r0, w1, e1]
  · have e1 : ¬ (1000000000000000 : Int) < (q : Int) := by omega
    have v1 := wr5 q e1
    have v2 := wr4 q e1
    rw [if_neg hq]
    refine evE_intro 1 D31 rfl ?_
    unfold c31
    simp [evCode, evOps, evOne, evOp, evPur, evEff, evPur.chunks, fillP, AOp.isEff, AO.ev, putP, PV.cells, PV.leaf, getB, getM, mapE, keyC, mapRows, mfind, eq1, eqL, scal, binP, unP, minP, maxP, foldP, PV.lt, PV.lt.ltL, endP, expoAll, expo, expo.expoL, frIds, frIds.frIdsL, nodupN, kill, cls, clsFuel, resO, RV.get, loadP, evC_p, evC_s, endS, endT, rowsOf, callP, thinL, unfr, unfr.unfrL, PV.noMem, PV.noMem.noMemL, optI, mapO, norm, trimT, trimB, forget, hasN, blksLt, List.set, ha, hb, h3, h4, h38a, h38b, h37, wc, s1, s2, r0, w1, e1, v1, v2]

set_option maxRecDepth 100000 in
theorem l31_1011 {a b c : Int} {A B k q R : Nat} (l : L31 a b c A B k q R) (s1 : ¬ a < 0) (s2 : b < 0) (r0 : 0 < R) :
    evE Dg 31 [.int .i64 a, .int .i64 b, .int .i64 c, .bool true] = some (res31 true (q + 0)) := by
  obtain ⟨ha, hb, h3, h4, h38a, h38b, h37, wc, q1⟩ := l
  have w1 := wr6 q q1
  unfold res31
  by_cases hq : 1000000000000000 < q + 0
  · have e1 : (1000000000000000 : Int) < (q : Int) := by omega
    rw [if_pos hq]
    refine evE_intro 1 D31 rfl ?_
    unfold c31
    simp [evCode, evOps, evOne, evOp, evPur, evEff, evPur.chunks, fillP, AOp.isEff, AO.ev, putP, PV.cells, PV.leaf, getB, getM, mapE, keyC, mapRows, mfind, eq1, eqL, scal, binP, unP, minP, maxP, foldP, PV.lt, PV.lt.ltL, endP, expoAll, expo, expo.expoL, frIds, frIds.frIdsL, nodupN, kill, cls, clsFuel, resO, RV.get, loadP, evC_p, evC_s, endS, endT, rowsOf, callP, thinL, unfr, unfr.unfrL, PV.noMem, PV.noMem.noMemL, optI, mapO, norm, trimT, trimB, forget, hasN, blksLt, List.set, ha, hb, h3, h4, h38a, h38b, h37, wc, s1, s2, r0, w1, e1]
  · have e1 : ¬ (1000000000000000 : Int) < (q : Int) := by omega
    have v1 := wr5 q e1
    have v2 := wr4 q e1
    rw [if_neg hq]
    refine evE_intro 1 D31 rfl ?_
    unfold c31
    simp [evCode, evOps, evOne, evOp, evPur, evEff, evPur.chunks, fillP, AOp.isEff, AO.ev, putP, PV.cells, PV.leaf, getB, getM, mapE, keyC, mapRows, mfind, eq1, eqL, scal, binP, unP, minP, maxP, foldP, PV.lt, PV.lt.ltL, endP, expoAll, expo, expo.expoL, frIds, frIds.frIdsL, nodupN, kill, cls, clsFuel, resO, RV.get, loadP, evC_p, evC_s, endS, endT, rowsOf, callP, thinL, unfr, unfr.unfrL, PV.noMem, PV.noMem.noMemL, optI, mapO, norm, trimT, trimB, forget, hasN, blksLt, List.set, ha, hb, h3, h4, h38a, h38b, h37, wc, s1, s2, r0, w1, e1, v1, v2]

set_option maxRecDepth 100000 in
theorem l31_1100 {a b c : Int} {A B k q R : Nat} (l : L31 a b c A B k q R) (s1 : a < 0) (s2 : ¬ b < 0) (r0 : ¬ 0 < R) :
    evE Dg 31 [.int .i64 a, .int .i64 b, .int .i64 c, .bool true] = some (res31 true (q + 0)) := by
  obtain ⟨ha, hb, h3, h4, h38a, h38b, h37, wc, q1⟩ := l
  have w1 := wr6 q q1
  unfold res31
  by_cases hq : 1000000000000000 < q + 0
  · have e1 : (1000000000000000 : Int) < (q : Int) := by omega
    rw [if_pos hq]
    refine evE_intro 1 D31 rfl ?_
    unfold c31
    simp [evCode, evOps, evOne, evOp, evPur, evEff, evPur.chunks, fillP, AOp.isEff, AO.ev, putP, PV.cells, PV.leaf, getB, getM, mapE, keyC, mapRows, mfind, eq1, eqL, scal, binP, unP, minP, maxP, foldP, PV.lt, PV.lt.ltL, endP, expoAll, expo, expo.expoL, frIds, frIds.frIdsL, nodupN, kill, cls, clsFuel, resO, RV.get, loadP, evC_p, evC_s, endS, endT, rowsOf, callP, thinL, unfr, unfr.unfrL, PV.noMem, PV.noMem.noMemL, optI, mapO, norm, trimT, trimB, forget, hasN, blksLt, List.set, ha, hb, h3, h4, h38a, h38b, h37, wc, s1, s2, r0, w1, e1]
  · have e1 : ¬ (1000000000000000 : Int) < (q : Int) := by omega
    have v1 := wr5 q e1
    have v2 := wr4 q e1
    rw [if_neg hq]
    refine evE_intro 1 D31 rfl ?_
    unfold c31
    simp [evCode, evOps, evOne, evOp, evPur, evEff, evPur.chunks, fillP, AOp.isEff, AO.ev, putP, PV.cells, PV.leaf, getB, getM, mapE, keyC, mapRows, mfind, eq1, eqL, scal, binP, unP, minP, maxP, foldP, PV.lt, PV.lt.ltL, endP, expoAll, expo, expo.expoL, frIds, frIds.frIdsL, nodupN, kill, cls, clsFuel, resO, RV.get, loadP, evC_p, evC_s, endS, endT, rowsOf, callP, thinL, unfr, unfr.unfrL, PV.noMem, PV.noMem.noMemL, optI, mapO, norm, trimT, trimB, forget, hasN, blksLt, List.set, ha, hb, h3, h4, h38a, h38b, h37, wc, s1, s2, r0, w1, e1, v1, v2]

set_option maxRecDepth 100000 in
theorem l31_1101 {a b c : Int} {A B k q R : Nat} (l : L31 a b c A B k q R) (s1 : a < 0) (s2 : ¬ b < 0) (r0 : 0 < R) :
    evE Dg 31 [.int .i64 a, .int .i64 b, .int .i64 c, .bool true] = some (res31 true (q + 0)) := by
  obtain ⟨ha, hb, h3, h4, h38a, h38b, h37, wc, q1⟩ := l
  have w1 := wr6 q q1
  unfold res31
  by_cases hq : 1000000000000000 < q + 0
  · have e1 : (1000000000000000 : Int) < (q : Int) := by omega
    rw [if_pos hq]
    refine evE_intro 1 D31 rfl ?_
    unfold c31
    simp [evCode, evOps, evOne, evOp, evPur, evEff, evPur.chunks, fillP, AOp.isEff, AO.ev, putP, PV.cells, PV.leaf, getB, getM, mapE, keyC, mapRows, mfind, eq1, eqL, scal, binP, unP, minP, maxP, foldP, PV.lt, PV.lt.ltL, endP, expoAll, expo, expo.expoL, frIds, frIds.frIdsL, nodupN, kill, cls, clsFuel, resO, RV.get, loadP, evC_p, evC_s, endS, endT, rowsOf, callP, thinL, unfr, unfr.unfrL, PV.noMem, PV.noMem.noMemL, optI, mapO, norm, trimT, trimB, forget, hasN, blksLt, List.set, ha, hb, h3, h4, h38a, h38b, h37, wc, s1, s2, r0, w1, e1]
  · have e1 : ¬ (1000000000000000 : Int) < (q : Int) := by omega
    have v1 := wr5 q e1
    have v2 := wr4 q e1
    rw [if_neg hq]
    refine evE_intro 1 D31 rfl ?_
    unfold c31
    simp [evCode, evOps, evOne, evOp, evPur, evEff, evPur.chunks, fillP, AOp.isEff, AO.ev, putP, PV.cells, PV.leaf, getB, getM, mapE, keyC, mapRows, mfind, eq1, eqL, scal, binP, unP, minP, maxP, foldP, PV.lt, PV.lt.ltL, endP, expoAll, expo, expo.expoL, frIds, frIds.frIdsL, nodupN, kill, cls, clsFuel, resO, RV.get, loadP, evC_p, evC_s, endS, endT, rowsOf, callP, thinL, unfr, unfr.unfrL, PV.noMem, PV.noMem.noMemL, optI, mapO, norm, trimT, trimB, forget, hasN, blksLt, List.set, ha, hb, h3, h4, h38a, h38b, h37, wc, s1, s2, r0, w1, e1, v1, v2]

set_option maxRecDepth 100000 in
theorem l31_1110 {a b c : Int} {A B k q R : Nat} (l : L31 a b c A B k q R) (s1 : a < 0) (s2 : b < 0) (r0 : ¬ 0 < R) :
    evE Dg 31 [.int .i64 a, .int .i64 b, .int .i64 c, .bool true] = some (res31 false (q + 0)) := by
  obtain ⟨ha, hb, h3, h4, h38a, h38b, h37, wc, q1⟩ := l
  have w1 := wr6 q q1
  unfold res31
  by_cases hq : 1000000000000000 < q + 0
  · have e1 : (1000000000000000 : Int) < (q : Int) := by omega
    rw [if_pos hq]
    refine evE_intro 1 D31 rfl ?_
    unfold c31
    simp [evCode, evOps, evOne, evOp, evPur, evEff, evPur.chunks, fillP, AOp.isEff, AO.ev, putP, PV.cells, PV.leaf, getB, getM, mapE, keyC, mapRows, mfind, eq1, eqL, scal, binP, unP, minP, maxP, foldP, PV.lt, PV.lt.ltL, endP, expoAll, expo, expo.expoL, frIds, frIds.frIdsL, nodupN, kill, cls, clsFuel, resO, RV.get, loadP, evC_p, evC_s, endS, endT, rowsOf, callP, thinL, unfr, unfr.unfrL, PV.noMem, PV.noMem.noMemL, optI, mapO, norm, trimT, trimB, forget, hasN, blksLt, List.set, ha, hb, h3, h4, h38a, h38b, h37, wc, s1, s2, r0, w1, e1]
  · have e1 : ¬ (1000000000000000 : Int) < (q : Int) := by omega
    have v1 := wr5 q e1
    have v2 := wr4 q e1
    rw [if_neg hq]
    refine evE_intro 1 D31 rfl ?_
    unfold c31
    simp [evCode, evOps, evOne, evOp, evPur, evEff, evPur.chunks, fillP, AOp.isEff, AO.ev, putP, PV.cells, PV.leaf, getB, getM, mapE, keyC, mapRows, mfind, eq1, eqL, scal, binP, unP, minP, maxP, foldP, PV.lt, PV.lt.ltL, endP, expoAll, expo, expo.expoL, frIds, frIds.frIdsL, nodupN, kill, cls, clsFuel, resO, RV.get, loadP, evC_p, evC_s, endS, endT, rowsOf, callP, thinL, unfr, unfr.unfrL, PV.noMem, PV.noMem.noMemL, optI, mapO, norm, trimT, trimB, forget, hasN, blksLt, List.set, ha, hb, h3, h4, h38a, h38b, h37, wc, s1, s2, r0, w1, e1, v1, v2]

set_option maxRecDepth 100000 in
theorem l31_1111 {a b c : Int} {A B k q R : Nat} (l : L31 a b c A B k q R) (s1 : a < 0) (s2 : b < 0) (r0 : 0 < R) :
    evE Dg 31 [.int .i64 a, .int .i64 b, .int .i64 c, .bool true] = some (res31 false (q + 1)) := by
  obtain ⟨ha, hb, h3, h4, h38a, h38b, h37, wc, q1⟩ := l
  have w1 := wr6 q q1
  unfold res31
  by_cases hq : 1000000000000000 < q + 1
  · have e1 : (1000000000000000 : Int) < (q : Int) + 1 := by omega
    rw [if_pos hq]
    refine evE_intro 1 D31 rfl ?_
    unfold c31
    simp [evCode, evOps, evOne, evOp, evPur, evEff, evPur.chunks, fillP, AOp.isEff, AO.ev, putP, PV.cells, PV.leaf, getB, getM, mapE, keyC, mapRows, mfind, eq1, eqL, scal, binP, unP, minP, maxP, foldP, PV.lt, PV.lt.ltL, endP, expoAll, expo, expo.expoL, frIds, frIds.frIdsL, nodupN, kill, cls, clsFuel, resO, RV.get, loadP, evC_p, evC_s, endS, endT, rowsOf, callP, thinL, unfr, unfr.unfrL, PV.noMem, PV.noMem.noMemL, optI, mapO, norm, trimT, trimB, forget, hasN, blksLt, List.set, ha, hb, h3, h4, h38a, h38b, h37, wc, s1, s2, r0, w1, e1]
  · have e1 : ¬ (1000000000000000 : Int) < (q : Int) + 1 := by omega
    have v1 := wr3 q e1
    have v2 := wr2 q e1
    have v3 := wr1 q e1
    rw [if_neg hq]
    refine evE_intro 1 D31 rfl ?_
    unfold c31
    simp [evCode, evOps, evOne, evOp, evPur, evEff, evPur.chunks, fillP, AOp.isEff, AO.ev, putP, PV.cells, PV.leaf, getB, getM, mapE, keyC, mapRows, mfind, eq1, eqL, scal, binP, unP, minP, maxP, foldP, PV.lt, PV.lt.ltL, endP, expoAll, expo, expo.expoL, frIds, frIds.frIdsL, nodupN, kill, cls, clsFuel, resO, RV.get, loadP, evC_p, evC_s, endS, endT, rowsOf, callP, thinL, unfr, unfr.unfrL, PV.noMem, PV.noMem.noMemL, optI, mapO, norm, trimT, trimB, forget, hasN, blksLt, List.set, ha, hb, h3, h4, h38a, h38b, h37, wc, s1, s2, r0, w1, e1, v1, v2, v3]

theorem l31 {a b c : Int} {A B k q R : Nat} (l : L31 a b c A B k q R) (up : Bool) :
    evE Dg 31 [.int .i64 a, .int .i64 b, .int .i64 c, .bool up] = some (res31 (decide (a < 0) != decide (b < 0)) (q + inc31 up (decide (a < 0) != decide (b < 0)) (decide (0 < R)))) := by
  by_cases s1 : a < 0 <;> by_cases s2 : b < 0 <;> by_cases r0 : 0 < R <;> cases up <;> simp only [s1, s2, r0, decide_true, decide_false]
  · exact l31_0111 l s1 s2 r0
  · exact l31_1111 l s1 s2 r0
  · exact l31_0110 l s1 s2 r0
  · exact l31_1110 l s1 s2 r0
  · exact l31_0101 l s1 s2 r0
  · exact l31_1101 l s1 s2 r0
  · exact l31_0100 l s1 s2 r0
  · exact l31_1100 l s1 s2 r0
  · exact l31_0011 l s1 s2 r0
  · exact l31_1011 l s1 s2 r0
  · exact l31_0010 l s1 s2 r0
  · exact l31_1010 l s1 s2 r0
  · exact l31_0001 l s1 s2 r0
  · exact l31_1001 l s1 s2 r0
  · exact l31_0000 l s1 s2 r0
  · exact l31_1000 l s1 s2 r0
set_option maxRecDepth 100000 in
theorem f31 (a b c : Int) (up : Bool) : evE Dg 31 [.int .i64 a, .int .i64 b, .int .i64 c, .bool up] = some (pr (rnd a b c up)) := by
  have ha := f15 a
  have hb := f15 b
  cases h1 : inB a
  · rw [h1] at ha
    rw [rnd_none (.inl h1)]
    refine evE_intro 1 D31 rfl ?_
    unfold c31
    simp [evCode, evOps, evOne, evOp, evPur, evEff, evPur.chunks, fillP, AOp.isEff, AO.ev, putP, PV.cells, PV.leaf, getB, getM, mapE, keyC, mapRows, mfind, eq1, eqL, scal, binP, unP, minP, maxP, foldP, PV.lt, PV.lt.ltL, endP, expoAll, expo, expo.expoL, frIds, frIds.frIdsL, nodupN, kill, cls, clsFuel, resO, RV.get, loadP, evC_p, evC_s, endS, endT, rowsOf, callP, thinL, unfr, unfr.unfrL, PV.noMem, PV.noMem.noMemL, optI, mapO, norm, trimT, trimB, forget, hasN, blksLt, List.set, pr, ha]
  · cases h2 : inB b
    · rw [h1] at ha; rw [h2] at hb
      rw [rnd_none (.inr (.inl h2))]
      refine evE_intro 1 D31 rfl ?_
      unfold c31
      simp [evCode, evOps, evOne, evOp, evPur, evEff, evPur.chunks, fillP, AOp.isEff, AO.ev, putP, PV.cells, PV.leaf, getB, getM, mapE, keyC, mapRows, mfind, eq1, eqL, scal, binP, unP, minP, maxP, foldP, PV.lt, PV.lt.ltL, endP, expoAll, expo, expo.expoL, frIds, frIds.frIdsL, nodupN, kill, cls, clsFuel, resO, RV.get, loadP, evC_p, evC_s, endS, endT, rowsOf, callP, thinL, unfr, unfr.unfrL, PV.noMem, PV.noMem.noMemL, optI, mapO, norm, trimT, trimB, forget, hasN, blksLt, List.set, pr, ha, hb]
    · rw [h1] at ha; rw [h2] at hb
      by_cases h3 : c < 1
      · rw [rnd_none (.inr (.inr (.inl h3)))]
        refine evE_intro 1 D31 rfl ?_
        unfold c31
        simp [evCode, evOps, evOne, evOp, evPur, evEff, evPur.chunks, fillP, AOp.isEff, AO.ev, putP, PV.cells, PV.leaf, getB, getM, mapE, keyC, mapRows, mfind, eq1, eqL, scal, binP, unP, minP, maxP, foldP, PV.lt, PV.lt.ltL, endP, expoAll, expo, expo.expoL, frIds, frIds.frIdsL, nodupN, kill, cls, clsFuel, resO, RV.get, loadP, evC_p, evC_s, endS, endT, rowsOf, callP, thinL, unfr, unfr.unfrL, PV.noMem, PV.noMem.noMemL, optI, mapO, norm, trimT, trimB, forget, hasN, blksLt, List.set, pr, ha, hb, h3]
      · by_cases h4 : 1000000000000000 < c
        · rw [rnd_none (.inr (.inr (.inr h4)))]
          refine evE_intro 1 D31 rfl ?_
          unfold c31
          simp [evCode, evOps, evOne, evOp, evPur, evEff, evPur.chunks, fillP, AOp.isEff, AO.ev, putP, PV.cells, PV.leaf, getB, getM, mapE, keyC, mapRows, mfind, eq1, eqL, scal, binP, unP, minP, maxP, foldP, PV.lt, PV.lt.ltL, endP, expoAll, expo, expo.expoL, frIds, frIds.frIdsL, nodupN, kill, cls, clsFuel, resO, RV.get, loadP, evC_p, evC_s, endS, endT, rowsOf, callP, thinL, unfr, unfr.unfrL, PV.noMem, PV.noMem.noMemL, optI, mapO, norm, trimT, trimB, forget, hasN, blksLt, List.set, pr, ha, hb, h3, h4]
        · obtain ⟨A, B, k, Q, R, o⟩ := Ops.mk' h1 h2 (by omega : 1 ≤ c) (by omega)
          have h38a := f38 a h1
          have h38b := f38 b h2
          rw [o.hA] at h38a
          rw [o.hB] at h38b
          obtain ⟨lA, lB⟩ := o.lA
          obtain ⟨q, h37, hsat⟩ := f37 A B k lA lB o.k1 o.k2
          rw [o.hQ] at hsat
          rw [o.hR] at h37
          have wc : IntKind.u64.wrap c = (k : Int) := by
            have := o.hc; have := o.k2; have := o.k1
            rw [wrap_u64 _ (by omega) (by omega)]; omega
          rw [pr_rnd o]
          -- the size of the answer
          have hz : rndZ a b c up = if (a < 0) = (b < 0) then (Q : Int) + (if up = true ∧ ¬ R = 0 then 1 else 0) else -((Q : Int) + (if up = false ∧ ¬ R = 0 then 1 else 0)) := by
            unfold rndZ
            cases up
            · simp only [Bool.false_eq_true, if_false, false_and, true_and]
              rw [o.quot]
              split
              · simp
              · by_cases r0 : R = 0
                · rw [if_pos r0, if_neg (by omega)]; omega
                · rw [if_neg r0, if_pos r0]; omega
            · simp only [if_true, true_and]
              rw [o.ceil]
              split
              · by_cases r0 : R = 0
                · rw [if_pos r0, if_neg (by omega)]
                · rw [if_neg r0, if_pos r0]
              · simp
          have L : L31 a b c A B k q R := ⟨ha, hb, h3, h4, h38a, h38b, h37, wc, hsat.1⟩
          rw [l31 L up]
          congr 1
          obtain ⟨neg, hneg⟩ := ex_eq (decide (a < 0) != decide (b < 0))
          obtain ⟨inc, hinc⟩ := ex_eq (inc31 up neg (decide (0 < R)))
          rw [hneg, hinc]
          have hi : inc ≤ 1 := by rw [← hinc]; unfold inc31; split <;> omega
          have hz2 : rndZ a b c up = (if neg then -((Q + inc : Nat) : Int) else ((Q + inc : Nat) : Int)) := by
            rw [hz, ← hinc, ← hneg]
            unfold inc31
            by_cases s1 : a < 0 <;> by_cases s2 : b < 0 <;> by_cases r0 : R = 0 <;> cases up <;> simp [s1, s2, r0, Nat.pos_of_ne_zero]
          unfold res31 bnd
          by_cases hbig : 1000000000000000 < Q + inc
          · rw [if_pos (by rcases hsat.2 with h | h <;> omega)]
            have : inB (rndZ a b c up) = false := by
              rw [inB_false, hz2]
              cases neg <;> simp <;> omega
            rw [this]; rfl
          · have hqQ : q = Q := by rcases hsat.2 with h | h <;> omega
            rw [if_neg (by omega)]
            have : inB (rndZ a b c up) = true := by
              rw [inB_iff, hz2]
              cases neg <;> simp <;> omega
            rw [this, hz2, hqQ]; rfl
end Go.Proofs.YtnodcoemjojlhaaDoor
