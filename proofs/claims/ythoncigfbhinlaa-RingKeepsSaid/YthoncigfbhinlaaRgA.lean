/- ring: new buffers. -/
import Derived.Test.YthoncigfbhinlaaEvP
namespace Go.Proofs.Ythoncigfbhinlaa
open Go Go.RowKit
set_option linter.unusedVariables false
set_option linter.unusedSimpArgs false
set_option maxHeartbeats 8000000

/-- a ring buffer with bytes -/
def eR (p : Int) (d : PV) (s e f n : Int) : PV := .agg [.int .i64 p, d, .int .i64 s, .int .i64 e, .int .i64 f, .int .i64 n]
def zer (n : Nat) : List (List PV) := List.replicate n [.int .u8 0]
theorem zer_len (n : Nat) : (zer n).length = n := by simp [zer]
def okS (z : Int) : Prop := 16 ≤ z ∧ z ≤ 65536
def okP (p : Int) : Prop := p = 1 ∨ p = 2
instance (p : Int) : Decidable (okP p) := by unfold okP; infer_instance
theorem f26 (p : Int) : evE Dg 26 [.int .i64 p] = some (.bool (decide (okP p))) := by
  refine evE_intro 3 D26 rfl ?_
  unfold c26
  by_cases h1 : p = 1
  · subst h1
    simp [evCode, evOps, evOne, evOp, evPur, evEff, evPur.chunks, fillP, AOp.isEff, AO.ev, putP, PV.cells, PV.leaf, getB, getM, mapE, keyC, mapRows, mfind, eq1, eqL, scal, binP, unP, minP, maxP, foldP, PV.lt, PV.lt.ltL, endP, expoAll, expo, expo.expoL, frIds, frIds.frIdsL, nodupN, kill, cls, clsFuel, resO, RV.get, loadP, evC_p, evC_s, endS, endT, rowsOf, callP, thinL, unfr, unfr.unfrL, PV.noMem, PV.noMem.noMemL, optI, mapO, norm, trimT, trimB, forget, hasN, blksLt, List.set, okP]
  · by_cases h2 : p = 2
    · subst h2
      simp [evCode, evOps, evOne, evOp, evPur, evEff, evPur.chunks, fillP, AOp.isEff, AO.ev, putP, PV.cells, PV.leaf, getB, getM, mapE, keyC, mapRows, mfind, eq1, eqL, scal, binP, unP, minP, maxP, foldP, PV.lt, PV.lt.ltL, endP, expoAll, expo, expo.expoL, frIds, frIds.frIdsL, nodupN, kill, cls, clsFuel, resO, RV.get, loadP, evC_p, evC_s, endS, endT, rowsOf, callP, thinL, unfr, unfr.unfrL, PV.noMem, PV.noMem.noMemL, optI, mapO, norm, trimT, trimB, forget, hasN, blksLt, List.set, okP]
    · have h : ¬ okP p := fun h => h.elim h1 h2
      simp [evCode, evOps, evOne, evOp, evPur, evEff, evPur.chunks, fillP, AOp.isEff, AO.ev, putP, PV.cells, PV.leaf, getB, getM, mapE, keyC, mapRows, mfind, eq1, eqL, scal, binP, unP, minP, maxP, foldP, PV.lt, PV.lt.ltL, endP, expoAll, expo, expo.expoL, frIds, frIds.frIdsL, nodupN, kill, cls, clsFuel, resO, RV.get, loadP, evC_p, evC_s, endS, endT, rowsOf, callP, thinL, unfr, unfr.unfrL, PV.noMem, PV.noMem.noMemL, optI, mapO, norm, trimT, trimB, forget, hasN, blksLt, List.set, h1, h2, h]
/-- what New answers -/
def newR (z p : Int) : PV × Int :=
  if z < 16 then (eR 0 .nilS 0 0 0 0, 2)
  else if 65536 < z then (eR 0 .nilS 0 0 0 0, 2)
  else if p = 1 then (eR p (.sl true 1 (zer z.toNat)) 0 0 0 0, 0)
  else if p = 2 then (eR p (.sl true 1 (zer z.toNat)) 0 0 0 0, 0)
  else (eR 0 .nilS 0 0 0 0, 1)
set_option maxRecDepth 100000 in
theorem f9 (z p : Int) : evE Dg 9 [.int .i64 z, .int .i64 p] = some (.tup [(newR z p).1, .int .i64 (newR z p).2]) := by
  have hp := f26 p
  refine evE_intro 3 D9 rfl ?_
  unfold c9
  unfold newR
  by_cases h1 : z < 16
  · simp [evCode, evOps, evOne, evOp, evPur, evEff, evPur.chunks, fillP, AOp.isEff, AO.ev, putP, PV.cells, PV.leaf, getB, getM, mapE, keyC, mapRows, mfind, eq1, eqL, scal, binP, unP, minP, maxP, foldP, PV.lt, PV.lt.ltL, endP, expoAll, expo, expo.expoL, frIds, frIds.frIdsL, nodupN, kill, cls, clsFuel, resO, RV.get, loadP, evC_p, evC_s, endS, endT, rowsOf, callP, thinL, unfr, unfr.unfrL, PV.noMem, PV.noMem.noMemL, optI, mapO, norm, trimT, trimB, forget, hasN, blksLt, List.set, h1, eR]
  · by_cases h2 : 65536 < z
    · simp [evCode, evOps, evOne, evOp, evPur, evEff, evPur.chunks, fillP, AOp.isEff, AO.ev, putP, PV.cells, PV.leaf, getB, getM, mapE, keyC, mapRows, mfind, eq1, eqL, scal, binP, unP, minP, maxP, foldP, PV.lt, PV.lt.ltL, endP, expoAll, expo, expo.expoL, frIds, frIds.frIdsL, nodupN, kill, cls, clsFuel, resO, RV.get, loadP, evC_p, evC_s, endS, endT, rowsOf, callP, thinL, unfr, unfr.unfrL, PV.noMem, PV.noMem.noMemL, optI, mapO, norm, trimT, trimB, forget, hasN, blksLt, List.set, h1, h2, eR]
    · have m0 : 0 ≤ z := by omega
      have m1 : z ≤ 140737488355328 := by omega
      have m2 : z * 1 ≤ 140737488355328 := by omega
      by_cases h3 : p = 1
      · have ho : okP p := .inl h3
        subst h3
        simp [evCode, evOps, evOne, evOp, evPur, evEff, evPur.chunks, fillP, AOp.isEff, AO.ev, putP, PV.cells, PV.leaf, getB, getM, mapE, keyC, mapRows, mfind, eq1, eqL, scal, binP, unP, minP, maxP, foldP, PV.lt, PV.lt.ltL, endP, expoAll, expo, expo.expoL, frIds, frIds.frIdsL, nodupN, kill, cls, clsFuel, resO, RV.get, loadP, evC_p, evC_s, endS, endT, rowsOf, callP, thinL, unfr, unfr.unfrL, PV.noMem, PV.noMem.noMemL, optI, mapO, norm, trimT, trimB, forget, hasN, blksLt, List.set, h1, h2, hp, ho, m0, m1, m2, eR, zer]
      · by_cases h4 : p = 2
        · have ho : okP p := .inr h4
          subst h4
          simp [evCode, evOps, evOne, evOp, evPur, evEff, evPur.chunks, fillP, AOp.isEff, AO.ev, putP, PV.cells, PV.leaf, getB, getM, mapE, keyC, mapRows, mfind, eq1, eqL, scal, binP, unP, minP, maxP, foldP, PV.lt, PV.lt.ltL, endP, expoAll, expo, expo.expoL, frIds, frIds.frIdsL, nodupN, kill, cls, clsFuel, resO, RV.get, loadP, evC_p, evC_s, endS, endT, rowsOf, callP, thinL, unfr, unfr.unfrL, PV.noMem, PV.noMem.noMemL, optI, mapO, norm, trimT, trimB, forget, hasN, blksLt, List.set, h1, h2, hp, ho, m0, m1, m2, eR, zer]
        · have ho : ¬ okP p := fun h => h.elim h3 h4
          simp [evCode, evOps, evOne, evOp, evPur, evEff, evPur.chunks, fillP, AOp.isEff, AO.ev, putP, PV.cells, PV.leaf, getB, getM, mapE, keyC, mapRows, mfind, eq1, eqL, scal, binP, unP, minP, maxP, foldP, PV.lt, PV.lt.ltL, endP, expoAll, expo, expo.expoL, frIds, frIds.frIdsL, nodupN, kill, cls, clsFuel, resO, RV.get, loadP, evC_p, evC_s, endS, endT, rowsOf, callP, thinL, unfr, unfr.unfrL, PV.noMem, PV.noMem.noMemL, optI, mapO, norm, trimT, trimB, forget, hasN, blksLt, List.set, h1, h2, h3, h4, hp, ho, eR]
set_option maxRecDepth 100000 in
theorem f10 (z p : Int) : evE Dg 10 [.int .i64 z, .int .i64 p] = some (.tup [(newR z p).1, .int .i64 (newR z p).2]) := by
  refine evE_intro 3 D10 rfl ?_
  unfold c10
  unfold newR
  by_cases h1 : z < 16
  · simp [evCode, evOps, evOne, evOp, evPur, evEff, evPur.chunks, fillP, AOp.isEff, AO.ev, putP, PV.cells, PV.leaf, getB, getM, mapE, keyC, mapRows, mfind, eq1, eqL, scal, binP, unP, minP, maxP, foldP, PV.lt, PV.lt.ltL, endP, expoAll, expo, expo.expoL, frIds, frIds.frIdsL, nodupN, kill, cls, clsFuel, resO, RV.get, loadP, evC_p, evC_s, endS, endT, rowsOf, callP, thinL, unfr, unfr.unfrL, PV.noMem, PV.noMem.noMemL, optI, mapO, norm, trimT, trimB, forget, hasN, blksLt, List.set, h1, eR]
  · by_cases h2 : 65536 < z
    · simp [evCode, evOps, evOne, evOp, evPur, evEff, evPur.chunks, fillP, AOp.isEff, AO.ev, putP, PV.cells, PV.leaf, getB, getM, mapE, keyC, mapRows, mfind, eq1, eqL, scal, binP, unP, minP, maxP, foldP, PV.lt, PV.lt.ltL, endP, expoAll, expo, expo.expoL, frIds, frIds.frIdsL, nodupN, kill, cls, clsFuel, resO, RV.get, loadP, evC_p, evC_s, endS, endT, rowsOf, callP, thinL, unfr, unfr.unfrL, PV.noMem, PV.noMem.noMemL, optI, mapO, norm, trimT, trimB, forget, hasN, blksLt, List.set, h1, h2, eR]
    · have m0 : 0 ≤ z := by omega
      have m1 : z ≤ 140737488355328 := by omega
      have m2 : z * 1 ≤ 140737488355328 := by omega
      by_cases h3 : p = 1
      · subst h3
        simp [evCode, evOps, evOne, evOp, evPur, evEff, evPur.chunks, fillP, AOp.isEff, AO.ev, putP, PV.cells, PV.leaf, getB, getM, mapE, keyC, mapRows, mfind, eq1, eqL, scal, binP, unP, minP, maxP, foldP, PV.lt, PV.lt.ltL, endP, expoAll, expo, expo.expoL, frIds, frIds.frIdsL, nodupN, kill, cls, clsFuel, resO, RV.get, loadP, evC_p, evC_s, endS, endT, rowsOf, callP, thinL, unfr, unfr.unfrL, PV.noMem, PV.noMem.noMemL, optI, mapO, norm, trimT, trimB, forget, hasN, blksLt, List.set, h1, h2, m0, m1, m2, eR, zer]
      · by_cases h4 : p = 2
        · subst h4
          simp [evCode, evOps, evOne, evOp, evPur, evEff, evPur.chunks, fillP, AOp.isEff, AO.ev, putP, PV.cells, PV.leaf, getB, getM, mapE, keyC, mapRows, mfind, eq1, eqL, scal, binP, unP, minP, maxP, foldP, PV.lt, PV.lt.ltL, endP, expoAll, expo, expo.expoL, frIds, frIds.frIdsL, nodupN, kill, cls, clsFuel, resO, RV.get, loadP, evC_p, evC_s, endS, endT, rowsOf, callP, thinL, unfr, unfr.unfrL, PV.noMem, PV.noMem.noMemL, optI, mapO, norm, trimT, trimB, forget, hasN, blksLt, List.set, h1, h2, m0, m1, m2, eR, zer]
        · simp [evCode, evOps, evOne, evOp, evPur, evEff, evPur.chunks, fillP, AOp.isEff, AO.ev, putP, PV.cells, PV.leaf, getB, getM, mapE, keyC, mapRows, mfind, eq1, eqL, scal, binP, unP, minP, maxP, foldP, PV.lt, PV.lt.ltL, endP, expoAll, expo, expo.expoL, frIds, frIds.frIdsL, nodupN, kill, cls, clsFuel, resO, RV.get, loadP, evC_p, evC_s, endS, endT, rowsOf, callP, thinL, unfr, unfr.unfrL, PV.noMem, PV.noMem.noMemL, optI, mapO, norm, trimT, trimB, forget, hasN, blksLt, List.set, h1, h2, h3, h4, eR]
set_option maxRecDepth 100000 in
theorem f36e (x : Bool) (p : Int) (n : Nat) (h1 : 16 ≤ n) (h2 : n ≤ 65536) : evE Dg 36 [eR p (.sl x 1 (zer n)) 0 0 0 0] = some (.fr 1 []) := by
  have hz := zer_len n
  have w0 : IntKind.i64.wrap 0 = 0 := rfl
  have n0 : ¬ n = 0 := by omega
  have n0' : ¬ (n : Int) = 0 := by omega
  have tm : Int.tmod 0 (n : Int) = 0 := Int.zero_tmod _
  have k1 : List.take n (zer n) = zer n := List.take_of_length_le (by rw [hz]; exact Nat.le_refl _)
  refine evE_intro 3 D36 rfl ?_
  unfold c36
  simp [evCode, evOps, evOne, evOp, evPur, evEff, evPur.chunks, fillP, AOp.isEff, AO.ev, putP, PV.cells, PV.leaf, getB, getM, mapE, keyC, mapRows, mfind, eq1, eqL, scal, binP, unP, minP, maxP, foldP, PV.lt, PV.lt.ltL, endP, expoAll, expo, expo.expoL, frIds, frIds.frIdsL, nodupN, kill, cls, clsFuel, resO, RV.get, loadP, evC_p, evC_s, endS, endT, rowsOf, callP, thinL, unfr, unfr.unfrL, PV.noMem, PV.noMem.noMemL, optI, mapO, norm, trimT, trimB, forget, hasN, blksLt, List.set, eR, hz, w0, n0, n0', tm, k1]
set_option maxRecDepth 100000 in
theorem f27e (x : Bool) (p : Int) (n : Nat) (h1 : 16 ≤ n) (h2 : n ≤ 65536) (hp : okP p) : evE Dg 27 [eR p (.sl x 1 (zer n)) 0 0 0 0] = some (.tup [.fr 1 [], .int .i64 0]) := by
  have hz := zer_len n
  have hc := f36e x p n h1 h2
  have h26 := f26 p
  simp only [eR] at hc
  have w0 : IntKind.i64.wrap 0 = 0 := rfl
  have n1 : ¬ ((n : Int) < 16) := by omega
  have n2 : ¬ (65536 < (n : Int)) := by omega
  have n3 : ¬ ((n : Int) < 0) := by omega
  have n4 : ¬ n < 16 := by omega
  have n5 : ¬ 65536 < n := by omega
  refine evE_intro 3 D27 rfl ?_
  unfold c27 c27b0
  simp [evCode, evOps, evOne, evOp, evPur, evEff, evPur.chunks, fillP, AOp.isEff, AO.ev, putP, PV.cells, PV.leaf, getB, getM, mapE, keyC, mapRows, mfind, eq1, eqL, scal, binP, unP, minP, maxP, foldP, PV.lt, PV.lt.ltL, endP, expoAll, expo, expo.expoL, frIds, frIds.frIdsL, nodupN, kill, cls, clsFuel, resO, RV.get, loadP, evC_p, evC_s, endS, endT, rowsOf, callP, thinL, unfr, unfr.unfrL, PV.noMem, PV.noMem.noMemL, optI, mapO, norm, trimT, trimB, forget, hasN, blksLt, List.set, evLoop, eR, hz, hc, h26, hp, w0, n1, n2, n3, n4, n5]
theorem f11e (x : Bool) (p : Int) (n : Nat) (h1 : 16 ≤ n) (h2 : n ≤ 65536) (hp : okP p) : evE Dg 11 [eR p (.sl x 1 (zer n)) 0 0 0 0] = some (.int .i64 0) := by
  have hc := f27e x p n h1 h2 hp
  simp only [eR] at hc
  refine evE_intro 3 D11 rfl ?_
  unfold c11
  simp [evCode, evOps, evOne, evOp, evPur, evEff, evPur.chunks, fillP, AOp.isEff, AO.ev, putP, PV.cells, PV.leaf, getB, getM, mapE, keyC, mapRows, mfind, eq1, eqL, scal, binP, unP, minP, maxP, foldP, PV.lt, PV.lt.ltL, endP, expoAll, expo, expo.expoL, frIds, frIds.frIdsL, nodupN, kill, cls, clsFuel, resO, RV.get, loadP, evC_p, evC_s, endS, endT, rowsOf, callP, thinL, unfr, unfr.unfrL, PV.noMem, PV.noMem.noMemL, optI, mapO, norm, trimT, trimB, forget, hasN, blksLt, List.set, eR, hc]
theorem f12e (x : Bool) (p : Int) (n : Nat) (h1 : 16 ≤ n) (h2 : n ≤ 65536) (hp : okP p) : evE Dg 12 [eR p (.sl x 1 (zer n)) 0 0 0 0] = some (.int .i64 0) := by
  have hc := f11e x p n h1 h2 hp
  simp only [eR] at hc
  have w0 : IntKind.i64.wrap 0 = 0 := rfl
  refine evE_intro 3 D12 rfl ?_
  unfold c12
  simp [evCode, evOps, evOne, evOp, evPur, evEff, evPur.chunks, fillP, AOp.isEff, AO.ev, putP, PV.cells, PV.leaf, getB, getM, mapE, keyC, mapRows, mfind, eq1, eqL, scal, binP, unP, minP, maxP, foldP, PV.lt, PV.lt.ltL, endP, expoAll, expo, expo.expoL, frIds, frIds.frIdsL, nodupN, kill, cls, clsFuel, resO, RV.get, loadP, evC_p, evC_s, endS, endT, rowsOf, callP, thinL, unfr, unfr.unfrL, PV.noMem, PV.noMem.noMemL, optI, mapO, norm, trimT, trimB, forget, hasN, blksLt, List.set, eR, hc, w0]
theorem f28e (x : Bool) (p : Int) (n : Nat) (h1 : 16 ≤ n) (h2 : n ≤ 65536) : evE Dg 28 [eR p (.sl x 1 (zer n)) 0 0 0 0] = some (.int .i64 n) := by
  have hz := zer_len n
  have w0 : IntKind.i64.wrap 0 = 0 := rfl
  have w1 : IntKind.i64.wrap (n : Int) = n := wrap_i64 _ (by omega) (by omega)
  refine evE_intro 3 D28 rfl ?_
  unfold c28
  simp [evCode, evOps, evOne, evOp, evPur, evEff, evPur.chunks, fillP, AOp.isEff, AO.ev, putP, PV.cells, PV.leaf, getB, getM, mapE, keyC, mapRows, mfind, eq1, eqL, scal, binP, unP, minP, maxP, foldP, PV.lt, PV.lt.ltL, endP, expoAll, expo, expo.expoL, frIds, frIds.frIdsL, nodupN, kill, cls, clsFuel, resO, RV.get, loadP, evC_p, evC_s, endS, endT, rowsOf, callP, thinL, unfr, unfr.unfrL, PV.noMem, PV.noMem.noMemL, optI, mapO, norm, trimT, trimB, forget, hasN, blksLt, List.set, eR, hz, w0, w1]
theorem f13e (x : Bool) (p : Int) (n : Nat) (h1 : 16 ≤ n) (h2 : n ≤ 65536) (hp : okP p) : evE Dg 13 [eR p (.sl x 1 (zer n)) 0 0 0 0] = some (.int .i64 n) := by
  have hc := f11e x p n h1 h2 hp
  have hr := f28e x p n h1 h2
  simp only [eR] at hc hr
  refine evE_intro 3 D13 rfl ?_
  unfold c13
  simp [evCode, evOps, evOne, evOp, evPur, evEff, evPur.chunks, fillP, AOp.isEff, AO.ev, putP, PV.cells, PV.leaf, getB, getM, mapE, keyC, mapRows, mfind, eq1, eqL, scal, binP, unP, minP, maxP, foldP, PV.lt, PV.lt.ltL, endP, expoAll, expo, expo.expoL, frIds, frIds.frIdsL, nodupN, kill, cls, clsFuel, resO, RV.get, loadP, evC_p, evC_s, endS, endT, rowsOf, callP, thinL, unfr, unfr.unfrL, PV.noMem, PV.noMem.noMemL, optI, mapO, norm, trimT, trimB, forget, hasN, blksLt, List.set, eR, hc, hr]
end Go.Proofs.Ythoncigfbhinlaa
