/- FracMakes, FracExact. -/
import Derived.Test.YtddglikicokpeaaDoorFuC
namespace Go.Proofs.YtddglikicokpeaaDoor
open Go Go.RowKit
set_option linter.unusedVariables false
set_option linter.unusedSimpArgs false
set_option maxHeartbeats 40000000

theorem xor_mk (a : Fr) : a = (a.1, a.2) := rfl
theorem ofS_mk {n d : Int} (h : d ≠ 0) : ∃ q : Rat, ofS n d = toF q ∧ q * mkRat d 1 = mkRat n 1 := by
  unfold ofS
  rw [if_neg h, made_toF (by omega)]
  refine ⟨_, rfl, ?_⟩
  have e : mkRat (sgn (decide (n < 0) != decide (d < 0)) n.natAbs) d.natAbs * mkRat d 1 = mkRat (sgn (decide (n < 0) != decide (d < 0)) n.natAbs * d) (d.natAbs * 1) := by
    rw [Rat.mkRat_mul_mkRat]
  rw [e]
  have e2 : sgn (decide (n < 0) != decide (d < 0)) n.natAbs * d = n * (d.natAbs : Int) := by
    unfold sgn
    by_cases h1 : n < 0 <;> by_cases h2 : d < 0
    · have e1 : ((n.natAbs : Nat) : Int) = -n := by omega
      have e2 : ((d.natAbs : Nat) : Int) = -d := by omega
      simp only [h1, h2, decide_true, bne_self_eq_false, Bool.false_eq_true, if_false]
      rw [e1, e2, Int.neg_mul, Int.mul_neg]
    · have e1 : ((n.natAbs : Nat) : Int) = -n := by omega
      have e2 : ((d.natAbs : Nat) : Int) = d := by omega
      simp only [h1, h2, decide_true, decide_false, Bool.true_bne, Bool.not_false, if_true]
      rw [e1, e2, Int.neg_neg]
    · have e1 : ((n.natAbs : Nat) : Int) = n := by omega
      have e2 : ((d.natAbs : Nat) : Int) = -d := by omega
      simp only [h1, h2, decide_true, decide_false, Bool.false_bne, if_true]
      rw [e1, e2, Int.neg_mul, Int.mul_neg]
    · have e1 : ((n.natAbs : Nat) : Int) = n := by omega
      have e2 : ((d.natAbs : Nat) : Int) = d := by omega
      simp only [h1, h2, decide_false, bne_self_eq_false, Bool.false_eq_true, if_false]
      rw [e1, e2]
  rw [e2, Nat.mul_one, Rat.mkRat_eq_iff (by omega) (by decide)]
  omega
theorem ofS_ok {n d : Int} (h : (ofS n d).2 = true) : validF (ofS n d).1 ∧ (ofS n d).1.1 * d = n * (ofS n d).1.2 := by
  by_cases h0 : d = 0
  · unfold ofS at h
    rw [if_pos h0] at h
    cases h
  · obtain ⟨q, e, hq⟩ := ofS_mk (n := n) h0
    rw [e] at h ⊢
    obtain ⟨hv, hR, e2⟩ := toF_ok h
    refine ⟨hv, ?_⟩
    rw [← hR] at hq
    obtain ⟨v1, v2, v3, v4, v5⟩ := hv
    unfold R at hq
    rw [Rat.mkRat_mul_mkRat, Rat.mkRat_eq_iff (by omega) (by decide), Nat.mul_one] at hq
    rw [show (((toF q).1.2.toNat : Nat) : Int) = (toF q).1.2 by omega] at hq
    omega
theorem ofS64 (n d : Int) : i64F (ofS n d).1 := by
  cases h : (ofS n d).2 with
  | true => exact ⟨(valid64 (ofS_ok h).1).1, (valid64 (ofS_ok h).1).2⟩
  | false =>
    by_cases h0 : d = 0
    · unfold ofS; rw [if_pos h0]; exact zero64
    · obtain ⟨q, e, hq⟩ := ofS_mk (n := n) h0
      rw [e]
      exact toF64 q
theorem f3 (n d : Int) (hn : i64 n) (hd : i64 d) : evE Dg 3 [.int .i64 n, .int .i64 d] = some (.bool true) := by
  have h14 := f14
  have q1 := f11 n d hn hd
  have q2 := f12 n d hn hd
  have q3 := f13 (ofS n d).1 (ofS64 n d)
  have hok := @ofS_ok n d
  generalize ofS n d = r at *
  obtain ⟨⟨r1, r2⟩, k⟩ := r
  simp only [eR, eF] at *
  cases k with
  | false =>
    clear hok
    refine evE_intro 1 D3 rfl ?_
    unfold c3
    by_cases s1 : -2147483648 < n
    · by_cases s2 : n < 2147483648
      · by_cases s3 : -2147483648 < d
        · simp [evCode, evOps, evOne, evOp, evPur, evEff, evPur.chunks, fillP, AOp.isEff, AO.ev, putP, PV.cells, PV.leaf, getB, getM, mapE, iterE, keyC, mapRows, mfind, eq1, eqL, scal, binP, unP, minP, maxP, foldP, PV.lt, PV.lt.ltL, endP, expoAll, expoG, expo, expo.expoL, frIds, frIds.frIdsL, nodupN, kill, cls, clsFuel, resO, RV.get, loadP, evC_p, evC_s, endS, endT, rowsOf, callP, thinL, unfr, unfr.unfrL, PV.noMem, PV.noMem.noMemL, optI, mapO, norm, trimT, trimB, forget, hasN, blksLt, List.set, softChk, softGo, softRd, effTg, rdP, h14, q1, q2, s1, s2, s3]
        · simp [evCode, evOps, evOne, evOp, evPur, evEff, evPur.chunks, fillP, AOp.isEff, AO.ev, putP, PV.cells, PV.leaf, getB, getM, mapE, iterE, keyC, mapRows, mfind, eq1, eqL, scal, binP, unP, minP, maxP, foldP, PV.lt, PV.lt.ltL, endP, expoAll, expoG, expo, expo.expoL, frIds, frIds.frIdsL, nodupN, kill, cls, clsFuel, resO, RV.get, loadP, evC_p, evC_s, endS, endT, rowsOf, callP, thinL, unfr, unfr.unfrL, PV.noMem, PV.noMem.noMemL, optI, mapO, norm, trimT, trimB, forget, hasN, blksLt, List.set, softChk, softGo, softRd, effTg, rdP, h14, q1, q2, s1, s2, s3]
      · simp [evCode, evOps, evOne, evOp, evPur, evEff, evPur.chunks, fillP, AOp.isEff, AO.ev, putP, PV.cells, PV.leaf, getB, getM, mapE, iterE, keyC, mapRows, mfind, eq1, eqL, scal, binP, unP, minP, maxP, foldP, PV.lt, PV.lt.ltL, endP, expoAll, expoG, expo, expo.expoL, frIds, frIds.frIdsL, nodupN, kill, cls, clsFuel, resO, RV.get, loadP, evC_p, evC_s, endS, endT, rowsOf, callP, thinL, unfr, unfr.unfrL, PV.noMem, PV.noMem.noMemL, optI, mapO, norm, trimT, trimB, forget, hasN, blksLt, List.set, softChk, softGo, softRd, effTg, rdP, h14, q1, q2, s1, s2]
    · simp [evCode, evOps, evOne, evOp, evPur, evEff, evPur.chunks, fillP, AOp.isEff, AO.ev, putP, PV.cells, PV.leaf, getB, getM, mapE, iterE, keyC, mapRows, mfind, eq1, eqL, scal, binP, unP, minP, maxP, foldP, PV.lt, PV.lt.ltL, endP, expoAll, expoG, expo, expo.expoL, frIds, frIds.frIdsL, nodupN, kill, cls, clsFuel, resO, RV.get, loadP, evC_p, evC_s, endS, endT, rowsOf, callP, thinL, unfr, unfr.unfrL, PV.noMem, PV.noMem.noMemL, optI, mapO, norm, trimT, trimB, forget, hasN, blksLt, List.set, softChk, softGo, softRd, effTg, rdP, h14, q1, q2, s1]
  | true =>
    obtain ⟨hv, he⟩ := hok rfl
    simp only [hv, decide_true] at q3
    clear hok
    refine evE_intro 1 D3 rfl ?_
    unfold c3
    by_cases s1 : -2147483648 < n
    · by_cases s2 : n < 2147483648
      · by_cases s3 : -2147483648 < d
        · by_cases s4 : d < 2147483648
          · simp [evCode, evOps, evOne, evOp, evPur, evEff, evPur.chunks, fillP, AOp.isEff, AO.ev, putP, PV.cells, PV.leaf, getB, getM, mapE, iterE, keyC, mapRows, mfind, eq1, eqL, scal, binP, unP, minP, maxP, foldP, PV.lt, PV.lt.ltL, endP, expoAll, expoG, expo, expo.expoL, frIds, frIds.frIdsL, nodupN, kill, cls, clsFuel, resO, RV.get, loadP, evC_p, evC_s, endS, endT, rowsOf, callP, thinL, unfr, unfr.unfrL, PV.noMem, PV.noMem.noMemL, optI, mapO, norm, trimT, trimB, forget, hasN, blksLt, List.set, softChk, softGo, softRd, effTg, rdP, h14, q1, q2, q3, s1, s2, s3, s4, he]
          · simp [evCode, evOps, evOne, evOp, evPur, evEff, evPur.chunks, fillP, AOp.isEff, AO.ev, putP, PV.cells, PV.leaf, getB, getM, mapE, iterE, keyC, mapRows, mfind, eq1, eqL, scal, binP, unP, minP, maxP, foldP, PV.lt, PV.lt.ltL, endP, expoAll, expoG, expo, expo.expoL, frIds, frIds.frIdsL, nodupN, kill, cls, clsFuel, resO, RV.get, loadP, evC_p, evC_s, endS, endT, rowsOf, callP, thinL, unfr, unfr.unfrL, PV.noMem, PV.noMem.noMemL, optI, mapO, norm, trimT, trimB, forget, hasN, blksLt, List.set, softChk, softGo, softRd, effTg, rdP, h14, q1, q2, q3, s1, s2, s3, s4]
        · simp [evCode, evOps, evOne, evOp, evPur, evEff, evPur.chunks, fillP, AOp.isEff, AO.ev, putP, PV.cells, PV.leaf, getB, getM, mapE, iterE, keyC, mapRows, mfind, eq1, eqL, scal, binP, unP, minP, maxP, foldP, PV.lt, PV.lt.ltL, endP, expoAll, expoG, expo, expo.expoL, frIds, frIds.frIdsL, nodupN, kill, cls, clsFuel, resO, RV.get, loadP, evC_p, evC_s, endS, endT, rowsOf, callP, thinL, unfr, unfr.unfrL, PV.noMem, PV.noMem.noMemL, optI, mapO, norm, trimT, trimB, forget, hasN, blksLt, List.set, softChk, softGo, softRd, effTg, rdP, h14, q1, q2, q3, s1, s2, s3]
      · simp [evCode, evOps, evOne, evOp, evPur, evEff, evPur.chunks, fillP, AOp.isEff, AO.ev, putP, PV.cells, PV.leaf, getB, getM, mapE, iterE, keyC, mapRows, mfind, eq1, eqL, scal, binP, unP, minP, maxP, foldP, PV.lt, PV.lt.ltL, endP, expoAll, expoG, expo, expo.expoL, frIds, frIds.frIdsL, nodupN, kill, cls, clsFuel, resO, RV.get, loadP, evC_p, evC_s, endS, endT, rowsOf, callP, thinL, unfr, unfr.unfrL, PV.noMem, PV.noMem.noMemL, optI, mapO, norm, trimT, trimB, forget, hasN, blksLt, List.set, softChk, softGo, softRd, effTg, rdP, h14, q1, q2, q3, s1, s2]
    · simp [evCode, evOps, evOne, evOp, evPur, evEff, evPur.chunks, fillP, AOp.isEff, AO.ev, putP, PV.cells, PV.leaf, getB, getM, mapE, iterE, keyC, mapRows, mfind, eq1, eqL, scal, binP, unP, minP, maxP, foldP, PV.lt, PV.lt.ltL, endP, expoAll, expoG, expo, expo.expoL, frIds, frIds.frIdsL, nodupN, kill, cls, clsFuel, resO, RV.get, loadP, evC_p, evC_s, endS, endT, rowsOf, callP, thinL, unfr, unfr.unfrL, PV.noMem, PV.noMem.noMemL, optI, mapO, norm, trimT, trimB, forget, hasN, blksLt, List.set, softChk, softGo, softRd, effTg, rdP, h14, q1, q2, q3, s1]
theorem law3 (ps : List PV) (h : ArgL Tryd.prog 12 [3, 3] ps) : evE Dg 3 ps = some (.bool true) := by
  obtain ⟨p, q, rfl, h1, h2⟩ := argL2 h
  obtain ⟨n, rfl, w1⟩ := argT_int Tryd.underlying3 h1
  obtain ⟨d, rfl, w2⟩ := argT_int Tryd.underlying3 h2
  exact f3 n d (wf_i64 w1) (wf_i64 w2)
set_option maxRecDepth 100000 in
theorem f5 (a b : Fr) (ha : i64F a) (hb : i64F b) : evE Dg 5 [eF a, eF b] = some (.bool true) := by
  have h14 := f14
  have q1 := f18 a b ha hb
  have q2 := f19 a b ha hb
  have q3 := f20 a b ha hb
  have q4 := f21 a b ha hb
  have q5 := f22 a b ha hb
  have q6 := f23 a b ha hb
  have q7 := f24 a b ha hb
  have q8 := f25 a b ha hb
  generalize addS a b = x at *
  generalize subS a b = y at *
  generalize mulS a b = z at *
  generalize cmpS a b = w at *
  obtain ⟨an, ad⟩ := a
  obtain ⟨bn, bd⟩ := b
  obtain ⟨⟨x1, x2⟩, x3⟩ := x
  obtain ⟨⟨y1, y2⟩, y3⟩ := y
  obtain ⟨⟨z1, z2⟩, z3⟩ := z
  simp only [eR, eF] at *
  clear ha hb
  refine evE_intro 1 D5 rfl ?_
  unfold c5
  simp [evCode, evOps, evOne, evOp, evPur, evEff, evPur.chunks, fillP, AOp.isEff, AO.ev, putP, PV.cells, PV.leaf, getB, getM, mapE, iterE, keyC, mapRows, mfind, eq1, eqL, scal, binP, unP, minP, maxP, foldP, PV.lt, PV.lt.ltL, endP, expoAll, expoG, expo, expo.expoL, frIds, frIds.frIdsL, nodupN, kill, cls, clsFuel, resO, RV.get, loadP, evC_p, evC_s, endS, endT, rowsOf, callP, thinL, unfr, unfr.unfrL, PV.noMem, PV.noMem.noMemL, optI, mapO, norm, trimT, trimB, forget, hasN, blksLt, List.set, softChk, softGo, softRd, effTg, rdP, h14, q1, q2, q3, q4, q5, q6, q7, q8]
theorem law5 (ps : List PV) (h : ArgL Tryd.prog 12 [23, 23] ps) : evE Dg 5 ps = some (.bool true) := by
  obtain ⟨p, q, rfl, h1, h2⟩ := argL2 h
  obtain ⟨a, rfl, ha⟩ := in23 h1
  obtain ⟨b, rfl, hb⟩ := in23 h2
  exact f5 a b ha hb
end Go.Proofs.YtddglikicokpeaaDoor
