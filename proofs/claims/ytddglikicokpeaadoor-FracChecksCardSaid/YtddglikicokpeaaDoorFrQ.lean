/- frac: wide numbers of the program, Valid, Of. -/
import Derived.Test.YtddglikicokpeaaDoorFrP
namespace Go.Proofs.YtddglikicokpeaaDoor
open Go Go.RowKit
set_option linter.unusedVariables false
set_option linter.unusedSimpArgs false
set_option maxHeartbeats 4000000

theorem wrapN (n : Nat) (h : n < 18446744073709551616) : IntKind.u64.wrap (n : Int) = n := wrap_u64 _ (by omega) (by omega)
theorem eZ0 : eZ 0 = .agg [.int .u64 0, .int .u64 0] := rfl
theorem f41 (z : Int) (h1 : -170141183460469231731687303715884105728 ≤ z) (h2 : z < 170141183460469231731687303715884105728) : evE Dg 41 [eZ z] = some (.int .i64 (sgI z)) := by
  have a1 := hi_rng z
  have a2 := lo_rng z
  refine evE_intro 1 D41 rfl ?_
  unfold c41 sgI
  by_cases h : z < 0
  · have hq : Int.fdiv (hiZ z) 9223372036854775808 = 1 := by
      rw [Int.fdiv_eq_ediv_of_nonneg _ (by omega)]
      unfold hiZ
      omega
    have w1 : IntKind.u64.wrap 1 = 1 := by rw [wrap_u64']; rfl
    have hmin : Nat.min 63 IntKind.u64.bits = 63 := rfl
    simp [evCode, evOps, evOne, evOp, evPur, evEff, evPur.chunks, fillP, AOp.isEff, AO.ev, putP, PV.cells, PV.leaf, getB, getM, mapE, iterE, keyC, mapRows, mfind, eq1, eqL, scal, binP, unP, minP, maxP, foldP, PV.lt, PV.lt.ltL, endP, expoAll, expoG, expo, expo.expoL, frIds, frIds.frIdsL, nodupN, kill, cls, clsFuel, resO, RV.get, loadP, evC_p, evC_s, endS, endT, rowsOf, callP, thinL, unfr, unfr.unfrL, PV.noMem, PV.noMem.noMemL, optI, mapO, norm, trimT, trimB, forget, hasN, blksLt, List.set, softChk, softGo, softRd, effTg, rdP, eZ, h, hq, w1, hmin]
  · have hq : Int.fdiv (hiZ z) 9223372036854775808 = 0 := by
      rw [Int.fdiv_eq_ediv_of_nonneg _ (by omega)]
      unfold hiZ
      omega
    have w1 : IntKind.u64.wrap 0 = 0 := by rw [wrap_u64']; rfl
    have hmin : Nat.min 63 IntKind.u64.bits = 63 := rfl
    by_cases h0 : z = 0
    · subst h0
      have e1 : hiZ 0 = 0 := rfl
      have e2 : loZ 0 = 0 := rfl
      rw [e1] at hq
      simp [evCode, evOps, evOne, evOp, evPur, evEff, evPur.chunks, fillP, AOp.isEff, AO.ev, putP, PV.cells, PV.leaf, getB, getM, mapE, iterE, keyC, mapRows, mfind, eq1, eqL, scal, binP, unP, minP, maxP, foldP, PV.lt, PV.lt.ltL, endP, expoAll, expoG, expo, expo.expoL, frIds, frIds.frIdsL, nodupN, kill, cls, clsFuel, resO, RV.get, loadP, evC_p, evC_s, endS, endT, rowsOf, callP, thinL, unfr, unfr.unfrL, PV.noMem, PV.noMem.noMemL, optI, mapO, norm, trimT, trimB, forget, hasN, blksLt, List.set, softChk, softGo, softRd, effTg, rdP, eZ, e1, e2, hq, w1, hmin]
    · have hne : ¬ (hiZ z = 0 ∧ loZ z = 0) := by unfold hiZ loZ; omega
      by_cases e1 : hiZ z = 0
      · have e2 : ¬ loZ z = 0 := fun e => hne ⟨e1, e⟩
        rw [e1] at hq
        simp [evCode, evOps, evOne, evOp, evPur, evEff, evPur.chunks, fillP, AOp.isEff, AO.ev, putP, PV.cells, PV.leaf, getB, getM, mapE, iterE, keyC, mapRows, mfind, eq1, eqL, scal, binP, unP, minP, maxP, foldP, PV.lt, PV.lt.ltL, endP, expoAll, expoG, expo, expo.expoL, frIds, frIds.frIdsL, nodupN, kill, cls, clsFuel, resO, RV.get, loadP, evC_p, evC_s, endS, endT, rowsOf, callP, thinL, unfr, unfr.unfrL, PV.noMem, PV.noMem.noMemL, optI, mapO, norm, trimT, trimB, forget, hasN, blksLt, List.set, softChk, softGo, softRd, effTg, rdP, eZ, h, h0, e1, e2, hq, w1, hmin]
      · simp [evCode, evOps, evOne, evOp, evPur, evEff, evPur.chunks, fillP, AOp.isEff, AO.ev, putP, PV.cells, PV.leaf, getB, getM, mapE, iterE, keyC, mapRows, mfind, eq1, eqL, scal, binP, unP, minP, maxP, foldP, PV.lt, PV.lt.ltL, endP, expoAll, expoG, expo, expo.expoL, frIds, frIds.frIdsL, nodupN, kill, cls, clsFuel, resO, RV.get, loadP, evC_p, evC_s, endS, endT, rowsOf, callP, thinL, unfr, unfr.unfrL, PV.noMem, PV.noMem.noMemL, optI, mapO, norm, trimT, trimB, forget, hasN, blksLt, List.set, softChk, softGo, softRd, effTg, rdP, eZ, h, h0, e1, hq, w1, hmin]
theorem natZ (n : Nat) (h : n < 340282366920938463463374607431768211456) : hiZ (n : Int) = ((n / 18446744073709551616 : Nat) : Int) ∧ loZ (n : Int) = ((n % 18446744073709551616 : Nat) : Int) := by
  unfold hiZ loZ
  omega
set_option maxRecDepth 100000 in
theorem f39 (a b : Int) (ha : i64 a) (hb : i64 b) (hb0 : 0 ≤ b) : evE Dg 39 [.int .i64 a, .int .i64 b] = some (eZ (a * b)) := by
  have q1 := f31 a ha
  obtain ⟨a1, a2⟩ := ha
  obtain ⟨b1, b2⟩ := hb
  obtain ⟨c, rfl⟩ := Int.eq_ofNat_of_zero_le hb0
  have w1 : IntKind.u64.wrap (c : Int) = c := by rw [wrap_u64']; omega
  have q2 := f56 a.natAbs c (by omega) (by omega)
  have hlt : a.natAbs * c < 340282366920938463463374607431768211456 := by
    have : a.natAbs * c ≤ 9223372036854775808 * 9223372036854775808 := Nat.mul_le_mul (by omega) (by omega)
    omega
  obtain ⟨z1, z2⟩ := natZ (a.natAbs * c) hlt
  rw [← z1, ← z2] at q2
  have q3 := f42 0 ((a.natAbs * c : Nat) : Int)
  rw [eZ0] at q3
  refine evE_intro 1 D39 rfl ?_
  unfold c39
  by_cases h : a < 0
  · have e : 0 - ((a.natAbs * c : Nat) : Int) = a * c := by
      rw [Int.natCast_mul, show ((a.natAbs : Nat) : Int) = -a by omega, Int.neg_mul]; omega
    rw [e] at q3
    unfold eZ at q3 ⊢
    generalize hiZ ((a.natAbs * c : Nat) : Int) = x at *
    generalize loZ ((a.natAbs * c : Nat) : Int) = y at *
    simp [evCode, evOps, evOne, evOp, evPur, evEff, evPur.chunks, fillP, AOp.isEff, AO.ev, putP, PV.cells, PV.leaf, getB, getM, mapE, iterE, keyC, mapRows, mfind, eq1, eqL, scal, binP, unP, minP, maxP, foldP, PV.lt, PV.lt.ltL, endP, expoAll, expoG, expo, expo.expoL, frIds, frIds.frIdsL, nodupN, kill, cls, clsFuel, resO, RV.get, loadP, evC_p, evC_s, endS, endT, rowsOf, callP, thinL, unfr, unfr.unfrL, PV.noMem, PV.noMem.noMemL, optI, mapO, norm, trimT, trimB, forget, hasN, blksLt, List.set, softChk, softGo, softRd, effTg, rdP, h, q1, w1, q2, q3]
  · have e : ((a.natAbs * c : Nat) : Int) = a * c := by
      rw [Int.natCast_mul, show ((a.natAbs : Nat) : Int) = a by omega]
    rw [e] at q2
    unfold eZ
    generalize hiZ (a * c) = x at *
    generalize loZ (a * c) = y at *
    simp [evCode, evOps, evOne, evOp, evPur, evEff, evPur.chunks, fillP, AOp.isEff, AO.ev, putP, PV.cells, PV.leaf, getB, getM, mapE, iterE, keyC, mapRows, mfind, eq1, eqL, scal, binP, unP, minP, maxP, foldP, PV.lt, PV.lt.ltL, endP, expoAll, expoG, expo, expo.expoL, frIds, frIds.frIdsL, nodupN, kill, cls, clsFuel, resO, RV.get, loadP, evC_p, evC_s, endS, endT, rowsOf, callP, thinL, unfr, unfr.unfrL, PV.noMem, PV.noMem.noMemL, optI, mapO, norm, trimT, trimB, forget, hasN, blksLt, List.set, softChk, softGo, softRd, effTg, rdP, h, q1, w1, q2]
set_option maxRecDepth 100000 in
theorem f59 (hi lo y : Nat) (h1 : hi < 18446744073709551616) (h2 : lo < 18446744073709551616) (h3 : y < 18446744073709551616) (h0 : 0 < y) : evE Dg 59 [.int .u64 hi, .int .u64 lo, .int .u64 y] = some (.int .u64 (((hi * 18446744073709551616 + lo) % y : Nat) : Int)) := by
  have hm : ((hi : Int).tmod (y : Int)) = ((hi % y : Nat) : Int) := by rw [Int.tmod_eq_emod_of_nonneg (by omega)]; simp
  have q := f60 (hi % y) lo y (Nat.mod_lt _ h0) h2 h3
  have e : (hi % y * 18446744073709551616 + lo) % y = (hi * 18446744073709551616 + lo) % y := by
    rw [Nat.add_mod, Nat.mul_mod, Nat.mod_mod, ← Nat.mul_mod, ← Nat.add_mod]
  rw [e] at q
  have hy : ¬ (y : Int) = 0 := by omega
  have hy2 : ¬ y = 0 := by omega
  refine evE_intro 1 D59 rfl ?_
  unfold c59
  obtain ⟨r, hr⟩ := ex_eq ((hi * 18446744073709551616 + lo) % y)
  obtain ⟨s, hs⟩ := ex_eq ((hi % y * 18446744073709551616 + lo) / y)
  obtain ⟨u, hu⟩ := ex_eq (hi % y)
  rw [hr, hs, hu] at q
  rw [hu] at hm
  rw [hr]
  clear e hr hs hu
  simp [evCode, evOps, evOne, evOp, evPur, evEff, evPur.chunks, fillP, AOp.isEff, AO.ev, putP, PV.cells, PV.leaf, getB, getM, mapE, iterE, keyC, mapRows, mfind, eq1, eqL, scal, binP, unP, minP, maxP, foldP, PV.lt, PV.lt.ltL, endP, expoAll, expoG, expo, expo.expoL, frIds, frIds.frIdsL, nodupN, kill, cls, clsFuel, resO, RV.get, loadP, evC_p, evC_s, endS, endT, rowsOf, callP, thinL, unfr, unfr.unfrL, PV.noMem, PV.noMem.noMemL, optI, mapO, norm, trimT, trimB, forget, hasN, blksLt, List.set, softChk, softGo, softRd, effTg, rdP, hm, q, hy, hy2]
set_option maxRecDepth 100000 in
theorem f43 (z d : Nat) (hz : z < 340282366920938463463374607431768211456) (hd : d < 18446744073709551616) (h0 : 0 < d) : evE Dg 43 [eZ (z : Int), .int .u64 d] = some (.int .u64 ((z % d : Nat) : Int)) := by
  obtain ⟨z1, z2⟩ := natZ z hz
  have q := f59 (z / 18446744073709551616) (z % 18446744073709551616) d (by omega) (by omega) hd h0
  have e : z / 18446744073709551616 * 18446744073709551616 + z % 18446744073709551616 = z := by omega
  rw [e] at q
  unfold eZ
  rw [z1, z2]
  refine evE_intro 1 D43 rfl ?_
  unfold c43
  generalize z / 18446744073709551616 = x at *
  generalize z % 18446744073709551616 = y at *
  simp [evCode, evOps, evOne, evOp, evPur, evEff, evPur.chunks, fillP, AOp.isEff, AO.ev, putP, PV.cells, PV.leaf, getB, getM, mapE, iterE, keyC, mapRows, mfind, eq1, eqL, scal, binP, unP, minP, maxP, foldP, PV.lt, PV.lt.ltL, endP, expoAll, expoG, expo, expo.expoL, frIds, frIds.frIdsL, nodupN, kill, cls, clsFuel, resO, RV.get, loadP, evC_p, evC_s, endS, endT, rowsOf, callP, thinL, unfr, unfr.unfrL, PV.noMem, PV.noMem.noMemL, optI, mapO, norm, trimT, trimB, forget, hasN, blksLt, List.set, softChk, softGo, softRd, effTg, rdP, q]
def divR (z d : Nat) : PV := if z / d < 18446744073709551616 then .tup [.int .u64 ((z / d : Nat) : Int), .bool true] else .tup [.int .u64 0, .bool false]
theorem f44 (z d : Nat) (hz : z < 340282366920938463463374607431768211456) (hd : d < 18446744073709551616) (h0 : 0 < d) : evE Dg 44 [eZ (z : Int), .int .u64 d] = some (divR z d) := by
  obtain ⟨z1, z2⟩ := natZ z hz
  have e : z / 18446744073709551616 * 18446744073709551616 + z % 18446744073709551616 = z := by omega
  have hiff : z / d < 18446744073709551616 ↔ z / 18446744073709551616 < d := by
    rw [Nat.div_lt_iff_lt_mul h0, Nat.div_lt_iff_lt_mul (by omega), Nat.mul_comm]
  unfold eZ divR
  rw [z1, z2]
  refine evE_intro 1 D44 rfl ?_
  unfold c44
  by_cases h : z / 18446744073709551616 < d
  · have q := f60 (z / 18446744073709551616) (z % 18446744073709551616) d h (by omega) hd
    rw [e] at q
    rw [if_pos (hiff.2 h)]
    have h' : ¬ (d : Int) ≤ ((z / 18446744073709551616 : Nat) : Int) := by omega
    generalize z / 18446744073709551616 = x at *
    generalize z % 18446744073709551616 = y at *
    generalize z / d = s at *
    generalize z % d = r at *
    simp [evCode, evOps, evOne, evOp, evPur, evEff, evPur.chunks, fillP, AOp.isEff, AO.ev, putP, PV.cells, PV.leaf, getB, getM, mapE, iterE, keyC, mapRows, mfind, eq1, eqL, scal, binP, unP, minP, maxP, foldP, PV.lt, PV.lt.ltL, endP, expoAll, expoG, expo, expo.expoL, frIds, frIds.frIdsL, nodupN, kill, cls, clsFuel, resO, RV.get, loadP, evC_p, evC_s, endS, endT, rowsOf, callP, thinL, unfr, unfr.unfrL, PV.noMem, PV.noMem.noMemL, optI, mapO, norm, trimT, trimB, forget, hasN, blksLt, List.set, softChk, softGo, softRd, effTg, rdP, q, h']
    try omega
  · rw [if_neg (fun k => h (hiff.1 k))]
    have h' : (d : Int) ≤ ((z / 18446744073709551616 : Nat) : Int) := by omega
    generalize z / 18446744073709551616 = x at *
    generalize z % 18446744073709551616 = y at *
    simp [evCode, evOps, evOne, evOp, evPur, evEff, evPur.chunks, fillP, AOp.isEff, AO.ev, putP, PV.cells, PV.leaf, getB, getM, mapE, iterE, keyC, mapRows, mfind, eq1, eqL, scal, binP, unP, minP, maxP, foldP, PV.lt, PV.lt.ltL, endP, expoAll, expoG, expo, expo.expoL, frIds, frIds.frIdsL, nodupN, kill, cls, clsFuel, resO, RV.get, loadP, evC_p, evC_s, endS, endT, rowsOf, callP, thinL, unfr, unfr.unfrL, PV.noMem, PV.noMem.noMemL, optI, mapO, norm, trimT, trimB, forget, hasN, blksLt, List.set, softChk, softGo, softRd, effTg, rdP, h']
    try omega
theorem f45 (a b : Nat) (ha : a < 18446744073709551616) (hb : b < 18446744073709551616) : evE Dg 45 [.int .u64 a, .int .u64 b] = some (.tup [.int .u64 ((a * b % 18446744073709551616 : Nat) : Int), .bool (decide (a * b < 18446744073709551616))]) := by
  have q := f56 a b ha hb
  refine evE_intro 1 D45 rfl ?_
  unfold c45
  generalize hn : a * b = n at *
  by_cases h : n < 18446744073709551616
  · have e : n / 18446744073709551616 = 0 := by omega
    rw [e] at q
    generalize n % 18446744073709551616 = r at *
    simp [evCode, evOps, evOne, evOp, evPur, evEff, evPur.chunks, fillP, AOp.isEff, AO.ev, putP, PV.cells, PV.leaf, getB, getM, mapE, iterE, keyC, mapRows, mfind, eq1, eqL, scal, binP, unP, minP, maxP, foldP, PV.lt, PV.lt.ltL, endP, expoAll, expoG, expo, expo.expoL, frIds, frIds.frIdsL, nodupN, kill, cls, clsFuel, resO, RV.get, loadP, evC_p, evC_s, endS, endT, rowsOf, callP, thinL, unfr, unfr.unfrL, PV.noMem, PV.noMem.noMemL, optI, mapO, norm, trimT, trimB, forget, hasN, blksLt, List.set, softChk, softGo, softRd, effTg, rdP, q, h]
  · have e : ¬ n / 18446744073709551616 = 0 := by omega
    have e' : ¬ ((n / 18446744073709551616 : Nat) : Int) = 0 := by omega
    generalize n / 18446744073709551616 = s at *
    generalize n % 18446744073709551616 = r at *
    simp [evCode, evOps, evOne, evOp, evPur, evEff, evPur.chunks, fillP, AOp.isEff, AO.ev, putP, PV.cells, PV.leaf, getB, getM, mapE, iterE, keyC, mapRows, mfind, eq1, eqL, scal, binP, unP, minP, maxP, foldP, PV.lt, PV.lt.ltL, endP, expoAll, expoG, expo, expo.expoL, frIds, frIds.frIdsL, nodupN, kill, cls, clsFuel, resO, RV.get, loadP, evC_p, evC_s, endS, endT, rowsOf, callP, thinL, unfr, unfr.unfrL, PV.noMem, PV.noMem.noMemL, optI, mapO, norm, trimT, trimB, forget, hasN, blksLt, List.set, softChk, softGo, softRd, effTg, rdP, q, h, e, e']

def i64F (a : Fr) : Prop := i64 a.1 ∧ i64 a.2
theorem f13 (a : Fr) (h : i64F a) : evE Dg 13 [eF a] = some (.bool (decide (validF a))) := by
  obtain ⟨n, d⟩ := a
  obtain ⟨hn, hd⟩ := h
  simp only at hn hd
  have q1 := f31 n hn
  obtain ⟨n1, n2⟩ := hn
  obtain ⟨d1, d2⟩ := hd
  refine evE_intro 1 D13 rfl ?_
  unfold c13
  by_cases h1 : 1 ≤ d
  · by_cases h2 : d ≤ 1000000000000000
    · by_cases h3 : -4611686018427387904 ≤ n
      · by_cases h4 : n ≤ 4611686018427387904
        · have w1 : IntKind.u64.wrap d = ((d.natAbs : Nat) : Int) := by rw [wrap_u64']; omega
          have q2 := f32 n.natAbs d.natAbs (by omega) (by omega)
          by_cases hg : Nat.gcd n.natAbs d.natAbs = 1
          · have hv : validF (n, d) := ⟨h1, h2, h3, h4, hg⟩
            rw [hg] at q2
            simp [evCode, evOps, evOne, evOp, evPur, evEff, evPur.chunks, fillP, AOp.isEff, AO.ev, putP, PV.cells, PV.leaf, getB, getM, mapE, iterE, keyC, mapRows, mfind, eq1, eqL, scal, binP, unP, minP, maxP, foldP, PV.lt, PV.lt.ltL, endP, expoAll, expoG, expo, expo.expoL, frIds, frIds.frIdsL, nodupN, kill, cls, clsFuel, resO, RV.get, loadP, evC_p, evC_s, endS, endT, rowsOf, callP, thinL, unfr, unfr.unfrL, PV.noMem, PV.noMem.noMemL, optI, mapO, norm, trimT, trimB, forget, hasN, blksLt, List.set, softChk, softGo, softRd, effTg, rdP, eF, h1, h2, h3, h4, q1, w1, q2, hv]
          · have hv : ¬ validF (n, d) := fun h => hg h.2.2.2.2
            have hg' : ¬ ((Nat.gcd n.natAbs d.natAbs : Nat) : Int) = 1 := by omega
            generalize Nat.gcd n.natAbs d.natAbs = g at *
            simp [evCode, evOps, evOne, evOp, evPur, evEff, evPur.chunks, fillP, AOp.isEff, AO.ev, putP, PV.cells, PV.leaf, getB, getM, mapE, iterE, keyC, mapRows, mfind, eq1, eqL, scal, binP, unP, minP, maxP, foldP, PV.lt, PV.lt.ltL, endP, expoAll, expoG, expo, expo.expoL, frIds, frIds.frIdsL, nodupN, kill, cls, clsFuel, resO, RV.get, loadP, evC_p, evC_s, endS, endT, rowsOf, callP, thinL, unfr, unfr.unfrL, PV.noMem, PV.noMem.noMemL, optI, mapO, norm, trimT, trimB, forget, hasN, blksLt, List.set, softChk, softGo, softRd, effTg, rdP, eF, h1, h2, h3, h4, q1, w1, q2, hv, hg']
            try omega
        · have hv : ¬ validF (n, d) := fun h => h4 h.2.2.2.1
          simp [evCode, evOps, evOne, evOp, evPur, evEff, evPur.chunks, fillP, AOp.isEff, AO.ev, putP, PV.cells, PV.leaf, getB, getM, mapE, iterE, keyC, mapRows, mfind, eq1, eqL, scal, binP, unP, minP, maxP, foldP, PV.lt, PV.lt.ltL, endP, expoAll, expoG, expo, expo.expoL, frIds, frIds.frIdsL, nodupN, kill, cls, clsFuel, resO, RV.get, loadP, evC_p, evC_s, endS, endT, rowsOf, callP, thinL, unfr, unfr.unfrL, PV.noMem, PV.noMem.noMemL, optI, mapO, norm, trimT, trimB, forget, hasN, blksLt, List.set, softChk, softGo, softRd, effTg, rdP, eF, h1, h2, h3, h4, hv]
      · have hv : ¬ validF (n, d) := fun h => h3 h.2.2.1
        simp [evCode, evOps, evOne, evOp, evPur, evEff, evPur.chunks, fillP, AOp.isEff, AO.ev, putP, PV.cells, PV.leaf, getB, getM, mapE, iterE, keyC, mapRows, mfind, eq1, eqL, scal, binP, unP, minP, maxP, foldP, PV.lt, PV.lt.ltL, endP, expoAll, expoG, expo, expo.expoL, frIds, frIds.frIdsL, nodupN, kill, cls, clsFuel, resO, RV.get, loadP, evC_p, evC_s, endS, endT, rowsOf, callP, thinL, unfr, unfr.unfrL, PV.noMem, PV.noMem.noMemL, optI, mapO, norm, trimT, trimB, forget, hasN, blksLt, List.set, softChk, softGo, softRd, effTg, rdP, eF, h1, h2, h3, hv]
    · have hv : ¬ validF (n, d) := fun h => h2 h.2.1
      simp [evCode, evOps, evOne, evOp, evPur, evEff, evPur.chunks, fillP, AOp.isEff, AO.ev, putP, PV.cells, PV.leaf, getB, getM, mapE, iterE, keyC, mapRows, mfind, eq1, eqL, scal, binP, unP, minP, maxP, foldP, PV.lt, PV.lt.ltL, endP, expoAll, expoG, expo, expo.expoL, frIds, frIds.frIdsL, nodupN, kill, cls, clsFuel, resO, RV.get, loadP, evC_p, evC_s, endS, endT, rowsOf, callP, thinL, unfr, unfr.unfrL, PV.noMem, PV.noMem.noMemL, optI, mapO, norm, trimT, trimB, forget, hasN, blksLt, List.set, softChk, softGo, softRd, effTg, rdP, eF, h1, h2, hv]
  · have hv : ¬ validF (n, d) := fun h => h1 h.1
    simp [evCode, evOps, evOne, evOp, evPur, evEff, evPur.chunks, fillP, AOp.isEff, AO.ev, putP, PV.cells, PV.leaf, getB, getM, mapE, iterE, keyC, mapRows, mfind, eq1, eqL, scal, binP, unP, minP, maxP, foldP, PV.lt, PV.lt.ltL, endP, expoAll, expoG, expo, expo.expoL, frIds, frIds.frIdsL, nodupN, kill, cls, clsFuel, resO, RV.get, loadP, evC_p, evC_s, endS, endT, rowsOf, callP, thinL, unfr, unfr.unfrL, PV.noMem, PV.noMem.noMemL, optI, mapO, norm, trimT, trimB, forget, hasN, blksLt, List.set, softChk, softGo, softRd, effTg, rdP, eF, h1, hv]
/-- Of -/
def ofS (n d : Int) : Fr × Bool := if d = 0 then ((0, 0), false) else made (decide (n < 0) != decide (d < 0)) n.natAbs d.natAbs
theorem f11 (n d : Int) (hn : i64 n) (hd : i64 d) : evE Dg 11 [.int .i64 n, .int .i64 d] = some (eR (ofS n d)) := by
  have q1 := f31 n hn
  have q2 := f31 d hd
  obtain ⟨n1, n2⟩ := hn
  obtain ⟨d1, d2⟩ := hd
  refine evE_intro 1 D11 rfl ?_
  unfold c11 ofS
  by_cases h0 : d = 0
  · subst h0
    simp [evCode, evOps, evOne, evOp, evPur, evEff, evPur.chunks, fillP, AOp.isEff, AO.ev, putP, PV.cells, PV.leaf, getB, getM, mapE, iterE, keyC, mapRows, mfind, eq1, eqL, scal, binP, unP, minP, maxP, foldP, PV.lt, PV.lt.ltL, endP, expoAll, expoG, expo, expo.expoL, frIds, frIds.frIdsL, nodupN, kill, cls, clsFuel, resO, RV.get, loadP, evC_p, evC_s, endS, endT, rowsOf, callP, thinL, unfr, unfr.unfrL, PV.noMem, PV.noMem.noMemL, optI, mapO, norm, trimT, trimB, forget, hasN, blksLt, List.set, softChk, softGo, softRd, effTg, rdP, eR, eF]
  · have q3 := f32 n.natAbs d.natAbs (by omega) (by omega)
    have hp : 0 < Nat.gcd n.natAbs d.natAbs := Nat.gcd_pos_of_pos_right _ (by omega)
    have l1 : n.natAbs / Nat.gcd n.natAbs d.natAbs ≤ n.natAbs := Nat.div_le_self _ _
    have l2 : d.natAbs / Nat.gcd n.natAbs d.natAbs ≤ d.natAbs := Nat.div_le_self _ _
    have q4 := fun b => f33 b (n.natAbs / Nat.gcd n.natAbs d.natAbs) (d.natAbs / Nat.gcd n.natAbs d.natAbs) (by omega) (by omega)
    have t1 : ((n.natAbs : Nat) : Int).tdiv ((Nat.gcd n.natAbs d.natAbs : Nat) : Int) = ((n.natAbs / Nat.gcd n.natAbs d.natAbs : Nat) : Int) := by rw [Int.tdiv_eq_ediv_of_nonneg (by omega)]; simp
    have t2 : ((d.natAbs : Nat) : Int).tdiv ((Nat.gcd n.natAbs d.natAbs : Nat) : Int) = ((d.natAbs / Nat.gcd n.natAbs d.natAbs : Nat) : Int) := by rw [Int.tdiv_eq_ediv_of_nonneg (by omega)]; simp
    have w1 : IntKind.u64.wrap ((n.natAbs / Nat.gcd n.natAbs d.natAbs : Nat) : Int) = ((n.natAbs / Nat.gcd n.natAbs d.natAbs : Nat) : Int) := wrapN _ (by omega)
    have w2 : IntKind.u64.wrap ((d.natAbs / Nat.gcd n.natAbs d.natAbs : Nat) : Int) = ((d.natAbs / Nat.gcd n.natAbs d.natAbs : Nat) : Int) := wrapN _ (by omega)
    rw [if_neg h0]
    unfold made
    generalize n.natAbs / Nat.gcd n.natAbs d.natAbs = x at *
    generalize d.natAbs / Nat.gcd n.natAbs d.natAbs = y at *
    generalize Nat.gcd n.natAbs d.natAbs = g at *
    have hg0 : ¬ g = 0 := by omega
    have q5 := q4 true
    have q6 := q4 false
    by_cases s1 : n < 0 <;> by_cases s2 : d < 0 <;> simp only [s1, s2, decide_true, decide_false, bne_self_eq_false, Bool.true_bne, Bool.false_bne, Bool.not_true, Bool.not_false]
    all_goals
      generalize outF true x y = r at *
      generalize outF false x y = r' at *
      obtain ⟨⟨r1, r2⟩, r3⟩ := r
      obtain ⟨⟨r4, r5⟩, r6⟩ := r'
      simp only [eR, eF] at q5 q6 ⊢
      simp [evCode, evOps, evOne, evOp, evPur, evEff, evPur.chunks, fillP, AOp.isEff, AO.ev, putP, PV.cells, PV.leaf, getB, getM, mapE, iterE, keyC, mapRows, mfind, eq1, eqL, scal, binP, unP, minP, maxP, foldP, PV.lt, PV.lt.ltL, endP, expoAll, expoG, expo, expo.expoL, frIds, frIds.frIdsL, nodupN, kill, cls, clsFuel, resO, RV.get, loadP, evC_p, evC_s, endS, endT, rowsOf, callP, thinL, unfr, unfr.unfrL, PV.noMem, PV.noMem.noMemL, optI, mapO, norm, trimT, trimB, forget, hasN, blksLt, List.set, softChk, softGo, softRd, effTg, rdP, h0, s1, s2, q1, q2, q3, q5, q6, t1, t2, w1, w2, hg0]
end Go.Proofs.YtddglikicokpeaaDoor
