/- ring: a record's frame of the reference, Clone, PutInt of the program. -/
import Derived.Test.YthoncigfbhinlaaRgP
namespace Go.Proofs.Ythoncigfbhinlaa
open Go Go.RowKit
set_option linter.unusedVariables false
set_option linter.unusedSimpArgs false
set_option maxHeartbeats 8000000

theorem putF_len (n : Nat) : (putF n).length ≤ 2 := by unfold putF; split <;> simp
theorem putF_cons (n : Nat) : ∃ z Q, putF n = z :: Q := by unfold putF; split <;> exact ⟨_, _, rfl⟩
set_option maxRecDepth 100000 in
theorem f34 (x : Bool) (b : List Nat) (h : b.length ≤ 8191) : evE Dg 34 [eB x b] = some (.fr 1 (bR (putF b.length ++ b))) := by
  have h40 := f40s b.length (by omega)
  have e1 := bR_len b
  have l2 := putF_len b.length
  obtain ⟨z, Q, hP⟩ := putF_cons b.length
  rw [hP] at h40 l2 ⊢
  have e2 := bR_len Q
  have e3 := bR_app Q b
  have e4 : bR (z :: Q) = [PV.int .u8 (z : Int)] :: bR Q := rfl
  have e5 : bR (z :: Q ++ b) = [PV.int .u8 (z : Int)] :: (bR Q ++ bR b) := by rw [← e3]; rfl
  have k1 : List.take b.length (bR b) = bR b := List.take_of_length_le (by rw [e1]; exact Nat.le_refl _)
  simp only [List.length_cons] at l2
  rw [e4] at h40
  rw [e5]
  have m1 : (Q.length + 1 + b.length) * 1 ≤ 140737488355328 := by omega
  have m2 : Q.length + 1 + b.length ≤ 140737488355328 := by omega
  have m4 : Q.length + b.length ≤ 140737488355327 := by omega
  have m3 : Q.length + 1 + b.length = Q.length + b.length + 1 := by omega
  refine evE_intro 3 D34 rfl ?_
  unfold c34
  simp [evCode, evOps, evOne, evOp, evPur, evEff, evPur.chunks, fillP, AOp.isEff, AO.ev, putP, PV.cells, PV.leaf, getB, getM, mapE, keyC, mapRows, mfind, eq1, eqL, scal, binP, unP, minP, maxP, foldP, PV.lt, PV.lt.ltL, endP, expoAll, expo, expo.expoL, frIds, frIds.frIdsL, nodupN, kill, cls, clsFuel, resO, RV.get, loadP, evC_p, evC_s, endS, endT, rowsOf, callP, thinL, unfr, unfr.unfrL, PV.noMem, PV.noMem.noMemL, optI, mapO, norm, trimT, trimB, forget, hasN, blksLt, List.set, eB, e1, h40, e2, m1, m2, m3, m4, k1, impV, impB, bR_lt]
set_option maxRecDepth 100000 in
theorem f33 (x : Bool) (b : List Nat) (h : b.length ≤ 100000) (h0 : 1 ≤ b.length) : evE Dg 33 [eB x b] = some (.fr 1 (bR b)) := by
  obtain ⟨z, Q, rfl⟩ : ∃ z Q, b = z :: Q := by
    cases b with
    | nil => simp at h0
    | cons z Q => exact ⟨z, Q, rfl⟩
  have e1 := bR_len Q
  have e4 : bR (z :: Q) = [PV.int .u8 (z : Int)] :: bR Q := rfl
  have k1 : List.take Q.length (bR Q) = bR Q := List.take_of_length_le (by rw [e1]; exact Nat.le_refl _)
  simp only [List.length_cons] at h
  have m1 : (Q.length + 1) * 1 ≤ 140737488355328 := by omega
  have m2 : Q.length + 1 ≤ 140737488355328 := by omega
  rw [e4]
  refine evE_intro 3 D33 rfl ?_
  unfold c33
  simp [evCode, evOps, evOne, evOp, evPur, evEff, evPur.chunks, fillP, AOp.isEff, AO.ev, putP, PV.cells, PV.leaf, getB, getM, mapE, keyC, mapRows, mfind, eq1, eqL, scal, binP, unP, minP, maxP, foldP, PV.lt, PV.lt.ltL, endP, expoAll, expo, expo.expoL, frIds, frIds.frIdsL, nodupN, kill, cls, clsFuel, resO, RV.get, loadP, evC_p, evC_s, endS, endT, rowsOf, callP, thinL, unfr, unfr.unfrL, PV.noMem, PV.noMem.noMemL, optI, mapO, norm, trimT, trimB, forget, hasN, blksLt, List.set, eB, e1, e4, m1, m2, k1, bR_lt]
theorem or128 : ∀ r : Nat, r < 256 → r ||| 128 = r % 128 + 128 := by decide +kernel
set_option maxRecDepth 100000 in
theorem f32s (n : Nat) (h : n < 8192) : evE Dg 32 [.nilS, .int .i64 n] = some (.fr 1 (bR (putF n))) := by
  have s1 : IntKind.u64.wrap (n : Int) = n := by simp [IntKind.wrap, IntKind.signed, IntKind.bits]; omega
  have s2 : IntKind.u64.wrap ((n : Int) * 2 ^ Nat.min 1 IntKind.u64.bits) = ((2 * n : Nat) : Int) := by
    show IntKind.u64.wrap ((n : Int) * 2) = _
    simp [IntKind.wrap, IntKind.signed, IntKind.bits]; omega
  have s3 : (n : Int).fdiv (2 ^ Nat.min 63 IntKind.i64.bits) = 0 := by
    show (n : Int).fdiv 9223372036854775808 = 0
    rw [Int.fdiv_eq_ediv_of_nonneg _ (by omega)]; omega
  have s3' : IntKind.u64.wrap 0 = 0 := rfl
  have s4 : (((2 * n : Nat) : Int) % 2 ^ IntKind.u64.bits).toNat = 2 * n := by
    show (((2 * n : Nat) : Int) % 18446744073709551616).toNat = 2 * n
    omega
  have s6 : IntKind.u64.wrap (((2 * n : Nat) : Int) % 2 ^ IntKind.u64.bits) = ((2 * n : Nat) : Int) := by
    show IntKind.u64.wrap (((2 * n : Nat) : Int) % 18446744073709551616) = _
    simp [IntKind.wrap, IntKind.signed, IntKind.bits]; omega
  have s5 : IntKind.u64.wrap ((2 * n : Nat) : Int) = ((2 * n : Nat) : Int) := by simp [IntKind.wrap, IntKind.signed, IntKind.bits]; omega
  have z10 : List.replicate 10 [PV.int .u8 0] = [[PV.int .u8 0], [PV.int .u8 0], [PV.int .u8 0], [PV.int .u8 0], [PV.int .u8 0], [PV.int .u8 0], [PV.int .u8 0], [PV.int .u8 0], [PV.int .u8 0], [PV.int .u8 0]] := rfl
  have i1 : IntKind.i64.wrap 1 = 1 := rfl
  have i2 : IntKind.i64.wrap 2 = 2 := rfl
  by_cases c : n < 64
  · have c1 : ¬ (128 : Int) ≤ ((2 * n : Nat) : Int) := by omega
    have c1' : ((2 * n : Nat) : Int) < 128 := by omega
    have w : IntKind.u8.wrap ((2 * n : Nat) : Int) = ((2 * n : Nat) : Int) := by simp [IntKind.wrap, IntKind.signed, IntKind.bits]; omega
    have e : bR (putF n) = [[PV.int .u8 ((2 * n : Nat) : Int)]] := by unfold putF; rw [if_pos c]; rfl
    obtain ⟨u, hu⟩ := ex_eq (2 * n)
    rw [hu] at c1 c1' w e s2 s4 s5 s6
    refine evE_intro 4 D32 rfl ?_
    unfold c32 c32b0
    simp [evCode, evOps, evOne, evOp, evPur, evEff, evPur.chunks, fillP, AOp.isEff, AO.ev, putP, PV.cells, PV.leaf, getB, getM, mapE, keyC, mapRows, mfind, eq1, eqL, scal, binP, unP, minP, maxP, foldP, PV.lt, PV.lt.ltL, endP, expoAll, expo, expo.expoL, frIds, frIds.frIdsL, nodupN, kill, cls, clsFuel, resO, RV.get, loadP, evC_p, evC_s, endS, endT, rowsOf, callP, thinL, unfr, unfr.unfrL, PV.noMem, PV.noMem.noMemL, optI, mapO, norm, trimT, trimB, forget, hasN, blksLt, List.set, i1, i2, s1, s2, s3, s3', s4, s5, s6, c1, c1', w, e, evLoop]
  · have c1 : (128 : Int) ≤ ((2 * n : Nat) : Int) := by omega
    have c2 : ¬ (128 : Int) ≤ ((2 * n / 128 : Nat) : Int) := by omega
    have w1 : IntKind.u8.wrap ((2 * n : Nat) : Int) = ((2 * n % 256 : Nat) : Int) := by simp [IntKind.wrap, IntKind.signed, IntKind.bits]
    have w2 : (((2 * n % 256 : Nat) : Int) % 2 ^ IntKind.u8.bits).toNat = 2 * n % 256 := by
      show (((2 * n % 256 : Nat) : Int) % 256).toNat = 2 * n % 256
      omega
    have w3 : (2 * n % 256) ||| 128 = 2 * n % 128 + 128 := by rw [or128 _ (by omega)]; omega
    have w7 : IntKind.u8.wrap ((((2 * n % 256) % 2 ^ IntKind.u8.bits) ||| (128 % 2 ^ IntKind.u8.bits) : Nat) : Int) = ((2 * n % 128 + 128 : Nat) : Int) := by
      show IntKind.u8.wrap ((((2 * n % 256) % 256) ||| 128 : Nat) : Int) = _
      rw [Nat.mod_eq_of_lt (by omega : 2 * n % 256 < 256), w3]
      simp [IntKind.wrap, IntKind.signed, IntKind.bits]; omega
    have w4 : IntKind.u8.wrap ((2 * n % 128 + 128 : Nat) : Int) = ((2 * n % 128 + 128 : Nat) : Int) := by simp [IntKind.wrap, IntKind.signed, IntKind.bits]; omega
    have w5 : ((2 * n : Nat) : Int).fdiv (2 ^ Nat.min 7 IntKind.u64.bits) = ((2 * n / 128 : Nat) : Int) := by
      show ((2 * n : Nat) : Int).fdiv 128 = _
      rw [Int.fdiv_eq_ediv_of_nonneg _ (by omega)]; omega
    have w6 : IntKind.u8.wrap ((2 * n / 128 : Nat) : Int) = ((2 * n / 128 : Nat) : Int) := by simp [IntKind.wrap, IntKind.signed, IntKind.bits]; omega
    have e : bR (putF n) = [[PV.int .u8 ((2 * n % 128 + 128 : Nat) : Int)], [PV.int .u8 ((2 * n / 128 : Nat) : Int)]] := by unfold putF; rw [if_neg c]; rfl
    obtain ⟨t, ht⟩ := ex_eq (2 * n % 128 + 128)
    rw [ht] at w3 w4 w7 e
    obtain ⟨b, hb⟩ := ex_eq (2 * n % 256)
    rw [hb] at w1 w2 w3 w7
    obtain ⟨q, hq⟩ := ex_eq (2 * n / 128)
    rw [hq] at c2 w5 w6 e
    obtain ⟨u, hu⟩ := ex_eq (2 * n)
    rw [hu] at c1 s2 s4 s5 s6 w1 w5
    refine evE_intro 4 D32 rfl ?_
    unfold c32 c32b0
    simp [evCode, evOps, evOne, evOp, evPur, evEff, evPur.chunks, fillP, AOp.isEff, AO.ev, putP, PV.cells, PV.leaf, getB, getM, mapE, keyC, mapRows, mfind, eq1, eqL, scal, binP, unP, minP, maxP, foldP, PV.lt, PV.lt.ltL, endP, expoAll, expo, expo.expoL, frIds, frIds.frIdsL, nodupN, kill, cls, clsFuel, resO, RV.get, loadP, evC_p, evC_s, endS, endT, rowsOf, callP, thinL, unfr, unfr.unfrL, PV.noMem, PV.noMem.noMemL, optI, mapO, norm, trimT, trimB, forget, hasN, blksLt, List.set, i1, i2, s1, s2, s3, s3', s4, s5, s6, c1, c2, w1, w2, w3, w4, w5, w6, w7, e, evLoop]
end Go.Proofs.Ythoncigfbhinlaa
