/- ring: PutInt of small numbers, behind nothing. -/
import Derived.Test.YthoncigfbhinlaaRgO
namespace Go.Proofs.Ythoncigfbhinlaa
open Go Go.RowKit
set_option linter.unusedVariables false
set_option linter.unusedSimpArgs false
set_option maxHeartbeats 8000000

/-- the bytes of a number below 8192 -/
def putF (n : Nat) : List Nat := if n < 64 then [2 * n] else [2 * n % 128 + 128, 2 * n / 128]
theorem f43s (n : Nat) (h : n < 8192) : evE Dg 43 [.int .i64 n] = some (.int .u64 ((2 * n : Nat) : Int)) := by
  have c : ¬ (n : Int) < 0 := by omega
  have w1 : IntKind.u64.wrap (n : Int) = n := by simp [IntKind.wrap, IntKind.signed, IntKind.bits]; omega
  have w2 : IntKind.u64.wrap (2 * (n : Int)) = ((2 * n : Nat) : Int) := by simp [IntKind.wrap, IntKind.signed, IntKind.bits]; omega
  refine evE_intro 3 D43 rfl ?_
  unfold c43
  simp [evCode, evOps, evOne, evOp, evPur, evEff, evPur.chunks, fillP, AOp.isEff, AO.ev, putP, PV.cells, PV.leaf, getB, getM, mapE, keyC, mapRows, mfind, eq1, eqL, scal, binP, unP, minP, maxP, foldP, PV.lt, PV.lt.ltL, endP, expoAll, expo, expo.expoL, frIds, frIds.frIdsL, nodupN, kill, cls, clsFuel, resO, RV.get, loadP, evC_p, evC_s, endS, endT, rowsOf, callP, thinL, unfr, unfr.unfrL, PV.noMem, PV.noMem.noMemL, optI, mapO, norm, trimT, trimB, forget, hasN, blksLt, List.set, c, w1, w2]
set_option maxRecDepth 100000 in
theorem f40s (n : Nat) (h : n < 8192) : evE Dg 40 [.nilS, .int .i64 n] = some (.fr 1 (bR (putF n))) := by
  have h43 := f43s n h
  by_cases c : n < 64
  · have c1 : ¬ (128 : Int) ≤ ((2 * n : Nat) : Int) := by omega
    have c1' : ((2 * n : Nat) : Int) < 128 := by omega
    have w : IntKind.u8.wrap ((2 * n : Nat) : Int) = ((2 * n : Nat) : Int) := by simp [IntKind.wrap, IntKind.signed, IntKind.bits]; omega
    have e : bR (putF n) = [[PV.int .u8 ((2 * n : Nat) : Int)]] := by unfold putF; rw [if_pos c]; rfl
    obtain ⟨u, hu⟩ := ex_eq (2 * n)
    rw [hu] at h43 c1 c1' w e
    refine evE_intro 4 D40 rfl ?_
    unfold c40 c40b0
    simp [evCode, evOps, evOne, evOp, evPur, evEff, evPur.chunks, fillP, AOp.isEff, AO.ev, putP, PV.cells, PV.leaf, getB, getM, mapE, keyC, mapRows, mfind, eq1, eqL, scal, binP, unP, minP, maxP, foldP, PV.lt, PV.lt.ltL, endP, expoAll, expo, expo.expoL, frIds, frIds.frIdsL, nodupN, kill, cls, clsFuel, resO, RV.get, loadP, evC_p, evC_s, endS, endT, rowsOf, callP, thinL, unfr, unfr.unfrL, PV.noMem, PV.noMem.noMemL, optI, mapO, norm, trimT, trimB, forget, hasN, blksLt, List.set, h43, c1, c1', w, e, evLoop]
  · have c1 : (128 : Int) ≤ ((2 * n : Nat) : Int) := by omega
    have c2 : ¬ (128 : Int) ≤ ((2 * n / 128 : Nat) : Int) := by omega
    have r1 : Int.tmod ((2 * n : Nat) : Int) 128 = ((2 * n % 128 : Nat) : Int) := by rw [Int.tmod_eq_emod_of_nonneg (by omega)]; omega
    have r2 : Int.tdiv ((2 * n : Nat) : Int) 128 = ((2 * n / 128 : Nat) : Int) := by rw [Int.tdiv_eq_ediv_of_nonneg (by omega)]; omega
    have w1 : IntKind.u8.wrap ((2 * n % 128 : Nat) : Int) = ((2 * n % 128 : Nat) : Int) := by simp [IntKind.wrap, IntKind.signed, IntKind.bits]; omega
    have w2 : IntKind.u8.wrap (((2 * n % 128 : Nat) : Int) + 128) = ((2 * n % 128 + 128 : Nat) : Int) := by simp [IntKind.wrap, IntKind.signed, IntKind.bits]; omega
    have w3 : IntKind.u8.wrap ((2 * n / 128 : Nat) : Int) = ((2 * n / 128 : Nat) : Int) := by simp [IntKind.wrap, IntKind.signed, IntKind.bits]; omega
    have w4 : IntKind.u64.wrap ((2 * n % 128 : Nat) : Int) = ((2 * n % 128 : Nat) : Int) := by simp [IntKind.wrap, IntKind.signed, IntKind.bits]; omega
    have w5 : IntKind.u64.wrap ((2 * n / 128 : Nat) : Int) = ((2 * n / 128 : Nat) : Int) := by simp [IntKind.wrap, IntKind.signed, IntKind.bits]; omega
    have e : bR (putF n) = [[PV.int .u8 ((2 * n % 128 + 128 : Nat) : Int)], [PV.int .u8 ((2 * n / 128 : Nat) : Int)]] := by unfold putF; rw [if_neg c]; rfl
    obtain ⟨t, ht⟩ := ex_eq (2 * n % 128 + 128)
    rw [ht] at w2 e
    obtain ⟨b, hb⟩ := ex_eq (2 * n % 128)
    rw [hb] at r1 w1 w2 w4
    obtain ⟨q, hq⟩ := ex_eq (2 * n / 128)
    rw [hq] at c2 r2 w3 w5 e
    obtain ⟨u, hu⟩ := ex_eq (2 * n)
    rw [hu] at h43 c1 r1 r2
    refine evE_intro 4 D40 rfl ?_
    unfold c40 c40b0
    simp [evCode, evOps, evOne, evOp, evPur, evEff, evPur.chunks, fillP, AOp.isEff, AO.ev, putP, PV.cells, PV.leaf, getB, getM, mapE, keyC, mapRows, mfind, eq1, eqL, scal, binP, unP, minP, maxP, foldP, PV.lt, PV.lt.ltL, endP, expoAll, expo, expo.expoL, frIds, frIds.frIdsL, nodupN, kill, cls, clsFuel, resO, RV.get, loadP, evC_p, evC_s, endS, endT, rowsOf, callP, thinL, unfr, unfr.unfrL, PV.noMem, PV.noMem.noMemL, optI, mapO, norm, trimT, trimB, forget, hasN, blksLt, List.set, h43, c1, c2, r1, r2, w1, w2, w3, w4, w5, e, evLoop]
end Go.Proofs.Ythoncigfbhinlaa
