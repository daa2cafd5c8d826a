/- ring: Concat of two, and a record's room. -/
import Derived.Test.YthoncigfbhinlaaRgQ
namespace Go.Proofs.Ythoncigfbhinlaa
open Go Go.RowKit
set_option linter.unusedVariables false
set_option linter.unusedSimpArgs false
set_option maxHeartbeats 8000000

set_option maxRecDepth 100000 in
theorem f25 (x : Bool) (b : List Nat) (h : b.length ≤ 8000) : evE Dg 25 [eB x b] = some (.int .i64 ((putF b.length).length + b.length : Nat)) := by
  have h32 := f32s b.length (by omega)
  have e1 := bR_len b
  have e2 := bR_len (putF b.length)
  have l2 := putF_len b.length
  generalize putF b.length = P at *
  have w : IntKind.i64.wrap ((P.length : Int) + b.length) = ((P.length + b.length : Nat) : Int) := by rw [wrap_i64 _ (by omega) (by omega)]; omega
  have w' : (P.length : Int) + b.length = ((P.length + b.length : Nat) : Int) := by omega
  refine evE_intro 3 D25 rfl ?_
  unfold c25
  simp [evCode, evOps, evOne, evOp, evPur, evEff, evPur.chunks, fillP, AOp.isEff, AO.ev, putP, PV.cells, PV.leaf, getB, getM, mapE, keyC, mapRows, mfind, eq1, eqL, scal, binP, unP, minP, maxP, foldP, PV.lt, PV.lt.ltL, endP, expoAll, expo, expo.expoL, frIds, frIds.frIdsL, nodupN, kill, cls, clsFuel, resO, RV.get, loadP, evC_p, evC_s, endS, endT, rowsOf, callP, thinL, unfr, unfr.unfrL, PV.noMem, PV.noMem.noMemL, optI, mapO, norm, trimT, trimB, forget, hasN, blksLt, List.set, eB, e1, h32, e2, w]
set_option maxRecDepth 100000 in
theorem f39s (k : Nat) (h0 : 0 < k) (h : k ≤ 100000) : evE Dg 39 [.nilS, .int .i64 k] = some (.fr 1 []) := by
  have c : ¬ (k : Int) < 0 := by omega
  have c1 : (0 : Int) < k := by omega
  have w : IntKind.i64.wrap (k : Int) = k := wrap_i64 _ (by omega) (by omega)
  have w0 : IntKind.i64.wrap 0 = 0 := rfl
  have m1 : k * 1 ≤ 140737488355328 := by omega
  have m2 : k ≤ 140737488355328 := by omega
  have m3 : (k : Int) ≤ 140737488355328 := by omega
  refine evE_intro 3 D39 rfl ?_
  unfold c39
  simp [evCode, evOps, evOne, evOp, evPur, evEff, evPur.chunks, fillP, AOp.isEff, AO.ev, putP, PV.cells, PV.leaf, getB, getM, mapE, keyC, mapRows, mfind, eq1, eqL, scal, binP, unP, minP, maxP, foldP, PV.lt, PV.lt.ltL, endP, expoAll, expo, expo.expoL, frIds, frIds.frIdsL, nodupN, kill, cls, clsFuel, resO, RV.get, loadP, evC_p, evC_s, endS, endT, rowsOf, callP, thinL, unfr, unfr.unfrL, PV.noMem, PV.noMem.noMemL, optI, mapO, norm, trimT, trimB, forget, hasN, blksLt, List.set, c, c1, w, w0, h0, m1, m2, m3]
  exact fun h => h.symm
set_option maxRecDepth 100000 in
theorem f31 (x : Bool) (a b : List Nat) (ha : 1 ≤ a.length) (ha2 : a.length ≤ 10) (hb : b.length ≤ 8000) : evE Dg 31 [.sl x 1 [[.sl false 1 (bR a)], [.sl false 1 (bR b)]]] = some (.fr 1 (bR (a ++ b))) := by
  have e1 := bR_len a
  have e2 := bR_len b
  have e3 := bR_app a b
  have w : IntKind.i64.wrap ((a.length : Int) + b.length) = ((a.length + b.length : Nat) : Int) := by rw [wrap_i64 _ (by omega) (by omega)]; omega
  have w1 : IntKind.i64.wrap (a.length : Int) = a.length := wrap_i64 _ (by omega) (by omega)
  have c1 : ¬ (a.length : Int) < 0 := by omega
  have c2 : ¬ ((a.length + b.length : Nat) : Int) < 0 := by omega
  have i1 : IntKind.i64.wrap 1 = 1 := rfl
  have i2 : IntKind.i64.wrap 2 = 2 := rfl
  have h39 := f39s (a.length + b.length) (by omega) (by omega)
  have m1 : a.length * 1 ≤ 140737488355328 := by omega
  have m2 : a.length ≤ 140737488355328 := by omega
  have m3 : (a.length + b.length) * 1 ≤ 140737488355328 := by omega
  have m4 : a.length + b.length ≤ 140737488355328 := by omega
  have k1 : List.take a.length (bR a) = bR a := List.take_of_length_le (by rw [e1]; exact Nat.le_refl _)
  have k2 : List.take b.length (bR b) = bR b := List.take_of_length_le (by rw [e2]; exact Nat.le_refl _)
  obtain ⟨T, hT⟩ := ex_eq (a.length + b.length)
  rw [hT] at w c2 h39 m3 m4
  refine evE_intro 4 D31 rfl ?_
  unfold c31 c31b1 c31r0 c31b0
  simp [evCode, evOps, evOne, evOp, evPur, evEff, evPur.chunks, fillP, AOp.isEff, AO.ev, putP, PV.cells, PV.leaf, getB, getM, mapE, keyC, mapRows, mfind, eq1, eqL, scal, binP, unP, minP, maxP, foldP, PV.lt, PV.lt.ltL, endP, expoAll, expo, expo.expoL, frIds, frIds.frIdsL, nodupN, kill, cls, clsFuel, resO, RV.get, loadP, evC_p, evC_s, endS, endT, rowsOf, callP, thinL, unfr, unfr.unfrL, PV.noMem, PV.noMem.noMemL, optI, mapO, norm, trimT, trimB, forget, hasN, blksLt, List.set, e1, e2, e3, w, w1, c1, c2, i1, i2, h39, hT, m1, m2, m3, m4, k1, k2, impV, impB, bR_lt, evLoop]
end Go.Proofs.Ythoncigfbhinlaa
