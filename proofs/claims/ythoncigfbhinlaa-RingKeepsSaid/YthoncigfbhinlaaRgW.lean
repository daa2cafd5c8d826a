/- ring: a frame of the reference for long records. -/
import Derived.Test.YthoncigfbhinlaaRgV
namespace Go.Proofs.Ythoncigfbhinlaa
open Go Go.RowKit
set_option linter.unusedVariables false
set_option linter.unusedSimpArgs false
set_option maxHeartbeats 8000000

def putL (n : Nat) : List Nat := [2 * n % 128 + 128, 2 * n / 128 % 128 + 128, 2 * n / 16384]
theorem u64small (n : Nat) (h : n < 1000000000) : IntKind.u64.wrap (n : Int) = n := by simp [IntKind.wrap, IntKind.signed, IntKind.bits]; omega
theorem u8small (n : Nat) (h : n < 256) : IntKind.u8.wrap (n : Int) = n := by simp [IntKind.wrap, IntKind.signed, IntKind.bits]; omega
set_option maxRecDepth 100000 in
theorem f40l (n : Nat) (h0 : 8192 ≤ n) (h : n < 1000000) : evE Dg 40 [.nilS, .int .i64 n] = some (.fr 1 (bR (putL n))) := by
  have h43 : evE Dg 43 [.int .i64 n] = some (.int .u64 ((2 * n : Nat) : Int)) := by
    have c : ¬ (n : Int) < 0 := by omega
    have w1 := u64small n (by omega)
    have w2 : IntKind.u64.wrap (2 * (n : Int)) = ((2 * n : Nat) : Int) := u64small (2 * n) (by omega)
    refine evE_intro 3 D43 rfl ?_
    unfold c43
    simp [evCode, evOps, evOne, evOp, evPur, evEff, evPur.chunks, fillP, AOp.isEff, AO.ev, putP, PV.cells, PV.leaf, getB, getM, mapE, keyC, mapRows, mfind, eq1, eqL, scal, binP, unP, minP, maxP, foldP, PV.lt, PV.lt.ltL, endP, expoAll, expo, expo.expoL, frIds, frIds.frIdsL, nodupN, kill, cls, clsFuel, resO, RV.get, loadP, evC_p, evC_s, endS, endT, rowsOf, callP, thinL, unfr, unfr.unfrL, PV.noMem, PV.noMem.noMemL, optI, mapO, norm, trimT, trimB, forget, hasN, blksLt, List.set, c, w1, w2]
  have c1 : (128 : Int) ≤ ((2 * n : Nat) : Int) := by omega
  have c2 : (128 : Int) ≤ ((2 * n / 128 : Nat) : Int) := by omega
  have c3 : ¬ (128 : Int) ≤ ((2 * n / 16384 : Nat) : Int) := by omega
  have r1 : Int.tmod ((2 * n : Nat) : Int) 128 = ((2 * n % 128 : Nat) : Int) := by rw [Int.tmod_eq_emod_of_nonneg (by omega)]; omega
  have r2 : Int.tdiv ((2 * n : Nat) : Int) 128 = ((2 * n / 128 : Nat) : Int) := by rw [Int.tdiv_eq_ediv_of_nonneg (by omega)]; omega
  have r3 : Int.tmod ((2 * n / 128 : Nat) : Int) 128 = ((2 * n / 128 % 128 : Nat) : Int) := by rw [Int.tmod_eq_emod_of_nonneg (by omega)]; omega
  have r4 : Int.tdiv ((2 * n / 128 : Nat) : Int) 128 = ((2 * n / 16384 : Nat) : Int) := by rw [Int.tdiv_eq_ediv_of_nonneg (by omega)]; omega
  have w1 := u8small (2 * n % 128) (by omega)
  have w2 : IntKind.u8.wrap (((2 * n % 128 : Nat) : Int) + 128) = ((2 * n % 128 + 128 : Nat) : Int) := u8small (2 * n % 128 + 128) (by omega)
  have w3 := u8small (2 * n / 128 % 128) (by omega)
  have w4 : IntKind.u8.wrap (((2 * n / 128 % 128 : Nat) : Int) + 128) = ((2 * n / 128 % 128 + 128 : Nat) : Int) := u8small (2 * n / 128 % 128 + 128) (by omega)
  have w5 := u8small (2 * n / 16384) (by omega)
  have v1 := u64small (2 * n % 128) (by omega)
  have v2 := u64small (2 * n / 128 % 128) (by omega)
  have v3 := u64small (2 * n / 128) (by omega)
  have v4 := u64small (2 * n / 16384) (by omega)
  have e : bR (putL n) = [[PV.int .u8 ((2 * n % 128 + 128 : Nat) : Int)], [PV.int .u8 ((2 * n / 128 % 128 + 128 : Nat) : Int)], [PV.int .u8 ((2 * n / 16384 : Nat) : Int)]] := rfl
  obtain ⟨t, ht⟩ := ex_eq (2 * n % 128 + 128)
  rw [ht] at w2 e
  obtain ⟨t2, ht2⟩ := ex_eq (2 * n / 128 % 128 + 128)
  rw [ht2] at w4 e
  obtain ⟨b, hb⟩ := ex_eq (2 * n % 128)
  rw [hb] at r1 w1 w2 v1
  obtain ⟨b2, hb2⟩ := ex_eq (2 * n / 128 % 128)
  rw [hb2] at r3 w3 w4 v2
  obtain ⟨q, hq⟩ := ex_eq (2 * n / 128)
  rw [hq] at c2 r2 r3 r4 v3
  obtain ⟨q2, hq2⟩ := ex_eq (2 * n / 16384)
  rw [hq2] at c3 r4 w5 v4 e
  obtain ⟨u, hu⟩ := ex_eq (2 * n)
  rw [hu] at h43 c1 r1 r2
  refine evE_intro 5 D40 rfl ?_
  unfold c40 c40b0
  simp [evCode, evOps, evOne, evOp, evPur, evEff, evPur.chunks, fillP, AOp.isEff, AO.ev, putP, PV.cells, PV.leaf, getB, getM, mapE, keyC, mapRows, mfind, eq1, eqL, scal, binP, unP, minP, maxP, foldP, PV.lt, PV.lt.ltL, endP, expoAll, expo, expo.expoL, frIds, frIds.frIdsL, nodupN, kill, cls, clsFuel, resO, RV.get, loadP, evC_p, evC_s, endS, endT, rowsOf, callP, thinL, unfr, unfr.unfrL, PV.noMem, PV.noMem.noMemL, optI, mapO, norm, trimT, trimB, forget, hasN, blksLt, List.set, h43, c1, c2, c3, r1, r2, r3, r4, w1, w2, w3, w4, w5, v1, v2, v3, v4, e, evLoop]

set_option maxRecDepth 100000 in
theorem f34l (x : Bool) (b : List Nat) (h0 : 8192 ≤ b.length) (h : b.length ≤ 100000) : evE Dg 34 [eB x b] = some (.fr 1 (bR (putL b.length ++ b))) := by
  have h40 := f40l b.length h0 (by omega)
  have e1 := bR_len b
  obtain ⟨z, Q, hP⟩ : ∃ z Q, putL b.length = z :: Q := ⟨_, _, rfl⟩
  have l2 : (putL b.length).length = 3 := rfl
  rw [hP] at h40 l2 ⊢
  have e2 := bR_len Q
  have e3 := bR_app Q b
  have e4 : bR (z :: Q) = [PV.int .u8 (z : Int)] :: bR Q := rfl
  have e5 : bR (z :: Q ++ b) = [PV.int .u8 (z : Int)] :: (bR Q ++ bR b) := by rw [← e3]; rfl
  have k1 : List.take b.length (bR b) = bR b := List.take_of_length_le (by rw [e1]; exact Nat.le_refl _)
  simp only [List.length_cons] at l2
  rw [e4] at h40
  rw [e5]
  have m1 : (Q.length + 1 + b.length) * 1 ≤ 140737488355328 := by omega
  have m2 : Q.length + 1 + b.length ≤ 140737488355328 := by omega
  have m4 : Q.length + b.length ≤ 140737488355327 := by omega
  have m3 : Q.length + 1 + b.length = Q.length + b.length + 1 := by omega
  refine evE_intro 3 D34 rfl ?_
  unfold c34
  simp [evCode, evOps, evOne, evOp, evPur, evEff, evPur.chunks, fillP, AOp.isEff, AO.ev, putP, PV.cells, PV.leaf, getB, getM, mapE, keyC, mapRows, mfind, eq1, eqL, scal, binP, unP, minP, maxP, foldP, PV.lt, PV.lt.ltL, endP, expoAll, expo, expo.expoL, frIds, frIds.frIdsL, nodupN, kill, cls, clsFuel, resO, RV.get, loadP, evC_p, evC_s, endS, endT, rowsOf, callP, thinL, unfr, unfr.unfrL, PV.noMem, PV.noMem.noMemL, optI, mapO, norm, trimT, trimB, forget, hasN, blksLt, List.set, eB, e1, h40, e2, m1, m2, m3, m4, k1, impV, impB, bR_lt]
end Go.Proofs.Ythoncigfbhinlaa
