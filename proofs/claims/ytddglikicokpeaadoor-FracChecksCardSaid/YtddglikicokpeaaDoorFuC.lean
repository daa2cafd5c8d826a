/- The reference's Add, Sub, Mul, Cmp. -/
import Derived.Test.YtddglikicokpeaaDoorFuB
import Derived.Test.YtddglikicokpeaaDoorFrV
namespace Go.Proofs.YtddglikicokpeaaDoor
open Go Go.RowKit
set_option linter.unusedVariables false
set_option linter.unusedSimpArgs false
set_option maxHeartbeats 4000000

theorem sg_scaled (v d : Int) (hd : 0 ≤ d) : sg (decide (v < 0), v.natAbs * d.natAbs) = v * d := by
  unfold sg
  simp only
  have e2 : ((d.natAbs : Nat) : Int) = d := by omega
  by_cases h : v < 0
  · have e1 : ((v.natAbs : Nat) : Int) = -v := by omega
    simp only [h, decide_true, if_true]
    rw [Int.natCast_mul, e1, e2, Int.neg_mul, Int.neg_neg]
  · have e1 : ((v.natAbs : Nat) : Int) = v := by omega
    simp only [h, decide_false, Bool.false_eq_true, if_false]
    rw [Int.natCast_mul, e1, e2]
theorem sg_sgn (x : Bool × Nat) : sgn x.1 x.2 = sg x := by
  unfold sgn sg
  cases x.1 <;> rfl
theorem sc_le {v d : Int} (hv : v.natAbs ≤ 9223372036854775808) (hd : d.natAbs ≤ 9223372036854775808) : v.natAbs * d.natAbs ≤ 85070591730234615865843651857942052864 := by
  have := Nat.mul_le_mul hv hd
  omega
/-- what the reference's Add makes -/
def addX (a b : Fr) : Bool × Nat := addG (decide (a.1 < 0), a.1.natAbs * b.2.natAbs) (decide (b.1 < 0), b.1.natAbs * a.2.natAbs)
theorem addX_made {a b : Fr} (ha : validF a) (hb : validF b) : made (addX a b).1 (addX a b).2 (a.2.natAbs * b.2.natAbs) = addS a b := by
  obtain ⟨a1, a2, a3, a4, a5⟩ := ha
  obtain ⟨b1, b2, b3, b4, b5⟩ := hb
  rw [made_toF (Nat.mul_pos (by omega) (by omega)), sg_sgn]
  unfold addX
  rw [sg_add, sg_scaled _ _ (by omega), sg_scaled _ _ (by omega), addS_val ⟨a1, a2, a3, a4, a5⟩ ⟨b1, b2, b3, b4, b5⟩, ← mk_add ⟨a1, a2, a3, a4, a5⟩ ⟨b1, b2, b3, b4, b5⟩]
  rw [show a.2.toNat = a.2.natAbs by omega, show b.2.toNat = b.2.natAbs by omega]
set_option maxRecDepth 100000 in
theorem f19 (a b : Fr) (ha : i64F a) (hb : i64F b) : evE Dg 19 [eF a, eF b] = some (eR (addS a b)) := by
  have v1 := f15 a ha
  have v2 := f15 b hb
  by_cases ha' : validF a
  · by_cases hb' : validF b
    · have hm := addX_made ha' hb'
      obtain ⟨⟨an1, an2⟩, ad1, ad2⟩ := ha
      obtain ⟨⟨bn1, bn2⟩, bd1, bd2⟩ := hb
      have q1 := f47 a.1 b.2 an1 an2 bd1 bd2
      have q2 := f47 b.1 a.2 bn1 bn2 ad1 ad2
      have l1 := sc_le (v := a.1) (d := b.2) (by omega) (by omega)
      have l2 := sc_le (v := b.1) (d := a.2) (by omega) (by omega)
      have l3 := sc_le (v := a.2) (d := b.2) (by omega) (by omega)
      have q3 := f46 (decide (a.1 < 0), a.1.natAbs * b.2.natAbs) (decide (b.1 < 0), b.1.natAbs * a.2.natAbs) (by simp only; omega)
      have hle := addG_le (decide (a.1 < 0), a.1.natAbs * b.2.natAbs) (decide (b.1 < 0), b.1.natAbs * a.2.natAbs)
      simp only at q3 hle
      have q4 := f35 a.2 ad1 ad2
      have q5 := f35 b.2 bd1 bd2
      have q6 := f48 a.2.natAbs b.2.natAbs (by omega) (by omega)
      have hx : addX a b = addG (decide (a.1 < 0), a.1.natAbs * b.2.natAbs) (decide (b.1 < 0), b.1.natAbs * a.2.natAbs) := rfl
      rw [← hx] at q3 hle
      have q7 := f34 (addX a b).1 (addX a b).2 (a.2.natAbs * b.2.natAbs) (by omega) (Nat.mul_pos (by have := ha'.1; omega) (by have := hb'.1; omega)) (by omega)
      rw [hm] at q7
      simp only [ha', hb', decide_true] at v1 v2
      obtain ⟨an, ad⟩ := a
      obtain ⟨bn, bd⟩ := b
      simp only at q1 q2 q3 q4 q5 q6 q7 v1 v2
      generalize addX (an, ad) (bn, bd) = X at *
      generalize addS (an, ad) (bn, bd) = r at *
      obtain ⟨X1, X2⟩ := X
      obtain ⟨⟨r1, r2⟩, r3⟩ := r
      simp only [eR, eF, eG_eq, eW_eq] at q1 q2 q3 q6 q7 v1 v2 ⊢
      clear l1 l2 l3 hle hx hm ha' hb' an1 an2 ad1 ad2 bn1 bn2 bd1 bd2
      generalize hW (an.natAbs * bd.natAbs) = x1 at *
      generalize lW (an.natAbs * bd.natAbs) = x2 at *
      generalize hW (bn.natAbs * ad.natAbs) = x3 at *
      generalize lW (bn.natAbs * ad.natAbs) = x4 at *
      generalize hW (ad.natAbs * bd.natAbs) = x5 at *
      generalize lW (ad.natAbs * bd.natAbs) = x6 at *
      generalize hW X2 = x7 at *
      generalize lW X2 = x8 at *
      generalize decide (an < 0) = n1 at *
      generalize decide (bn < 0) = n2 at *
      generalize ad.natAbs = y1 at *
      generalize bd.natAbs = y2 at *
      refine evE_intro 1 D19 rfl ?_
      unfold c19
      simp [evCode, evOps, evOne, evOp, evPur, evEff, evPur.chunks, fillP, AOp.isEff, AO.ev, putP, PV.cells, PV.leaf, getB, getM, mapE, iterE, keyC, mapRows, mfind, eq1, eqL, scal, binP, unP, minP, maxP, foldP, PV.lt, PV.lt.ltL, endP, expoAll, expoG, expo, expo.expoL, frIds, frIds.frIdsL, nodupN, kill, cls, clsFuel, resO, RV.get, loadP, evC_p, evC_s, endS, endT, rowsOf, callP, thinL, unfr, unfr.unfrL, PV.noMem, PV.noMem.noMemL, optI, mapO, norm, trimT, trimB, forget, hasN, blksLt, List.set, softChk, softGo, softRd, effTg, rdP, v1, v2, q1, q2, q3, q4, q5, q6, q7]
    · rw [show addS a b = ((0, 0), false) from if_neg (fun h => hb' h.2)]
      simp only [ha', hb', decide_true, decide_false] at v1 v2
      obtain ⟨an, ad⟩ := a
      obtain ⟨bn, bd⟩ := b
      simp only [eR, eF] at *
      refine evE_intro 1 D19 rfl ?_
      unfold c19
      simp [evCode, evOps, evOne, evOp, evPur, evEff, evPur.chunks, fillP, AOp.isEff, AO.ev, putP, PV.cells, PV.leaf, getB, getM, mapE, iterE, keyC, mapRows, mfind, eq1, eqL, scal, binP, unP, minP, maxP, foldP, PV.lt, PV.lt.ltL, endP, expoAll, expoG, expo, expo.expoL, frIds, frIds.frIdsL, nodupN, kill, cls, clsFuel, resO, RV.get, loadP, evC_p, evC_s, endS, endT, rowsOf, callP, thinL, unfr, unfr.unfrL, PV.noMem, PV.noMem.noMemL, optI, mapO, norm, trimT, trimB, forget, hasN, blksLt, List.set, softChk, softGo, softRd, effTg, rdP, v1, v2]
  · rw [show addS a b = ((0, 0), false) from if_neg (fun h => ha' h.1)]
    simp only [ha', decide_false] at v1
    obtain ⟨an, ad⟩ := a
    obtain ⟨bn, bd⟩ := b
    simp only [eR, eF] at *
    refine evE_intro 1 D19 rfl ?_
    unfold c19
    simp [evCode, evOps, evOne, evOp, evPur, evEff, evPur.chunks, fillP, AOp.isEff, AO.ev, putP, PV.cells, PV.leaf, getB, getM, mapE, iterE, keyC, mapRows, mfind, eq1, eqL, scal, binP, unP, minP, maxP, foldP, PV.lt, PV.lt.ltL, endP, expoAll, expoG, expo, expo.expoL, frIds, frIds.frIdsL, nodupN, kill, cls, clsFuel, resO, RV.get, loadP, evC_p, evC_s, endS, endT, rowsOf, callP, thinL, unfr, unfr.unfrL, PV.noMem, PV.noMem.noMemL, optI, mapO, norm, trimT, trimB, forget, hasN, blksLt, List.set, softChk, softGo, softRd, effTg, rdP, v1]
theorem f49 (b : Fr) (hb : -9223372036854775807 ≤ b.1 ∧ b.1 ≤ 9223372036854775807) : evE Dg 49 [eF b] = some (eF (negS b)) := by
  obtain ⟨n, d⟩ := b
  simp only at hb
  have w1 := wrap_i64 (-n) (by omega) (by omega)
  have w2 := wrap_i64 (0 - n) (by omega) (by omega)
  have w3 : 0 - n = -n := by omega
  refine evE_intro 1 D49 rfl ?_
  unfold c49
  simp [evCode, evOps, evOne, evOp, evPur, evEff, evPur.chunks, fillP, AOp.isEff, AO.ev, putP, PV.cells, PV.leaf, getB, getM, mapE, iterE, keyC, mapRows, mfind, eq1, eqL, scal, binP, unP, minP, maxP, foldP, PV.lt, PV.lt.ltL, endP, expoAll, expoG, expo, expo.expoL, frIds, frIds.frIdsL, nodupN, kill, cls, clsFuel, resO, RV.get, loadP, evC_p, evC_s, endS, endT, rowsOf, callP, thinL, unfr, unfr.unfrL, PV.noMem, PV.noMem.noMemL, optI, mapO, norm, trimT, trimB, forget, hasN, blksLt, List.set, softChk, softGo, softRd, effTg, rdP, eF, negS, w1, w2, w3]
theorem f21 (a b : Fr) (ha : i64F a) (hb : i64F b) : evE Dg 21 [eF a, eF b] = some (eR (subS a b)) := by
  have v2 := f15 b hb
  unfold subS
  by_cases hb' : validF b
  · rw [if_pos hb']
    have hn : i64F (negS b) := ⟨⟨by have := hb'.2.2.2.1; simp only [negS]; omega, by have := hb'.2.2.1; simp only [negS]; omega⟩, hb.2⟩
    have q1 := f49 b ⟨by have := hb'.2.2.1; omega, by have := hb'.2.2.2.1; omega⟩
    have q2 := f19 a (negS b) ha hn
    simp only [hb', decide_true] at v2
    generalize addS a (negS b) = r at *
    generalize negS b = nb at *
    obtain ⟨an, ad⟩ := a
    obtain ⟨bn, bd⟩ := b
    obtain ⟨cn, cd⟩ := nb
    obtain ⟨⟨r1, r2⟩, r3⟩ := r
    simp only [eR, eF] at *
    refine evE_intro 1 D21 rfl ?_
    unfold c21
    simp [evCode, evOps, evOne, evOp, evPur, evEff, evPur.chunks, fillP, AOp.isEff, AO.ev, putP, PV.cells, PV.leaf, getB, getM, mapE, iterE, keyC, mapRows, mfind, eq1, eqL, scal, binP, unP, minP, maxP, foldP, PV.lt, PV.lt.ltL, endP, expoAll, expoG, expo, expo.expoL, frIds, frIds.frIdsL, nodupN, kill, cls, clsFuel, resO, RV.get, loadP, evC_p, evC_s, endS, endT, rowsOf, callP, thinL, unfr, unfr.unfrL, PV.noMem, PV.noMem.noMemL, optI, mapO, norm, trimT, trimB, forget, hasN, blksLt, List.set, softChk, softGo, softRd, effTg, rdP, v2, q1, q2]
  · rw [if_neg hb']
    simp only [hb', decide_false] at v2
    obtain ⟨an, ad⟩ := a
    obtain ⟨bn, bd⟩ := b
    simp only [eR, eF] at *
    refine evE_intro 1 D21 rfl ?_
    unfold c21
    simp [evCode, evOps, evOne, evOp, evPur, evEff, evPur.chunks, fillP, AOp.isEff, AO.ev, putP, PV.cells, PV.leaf, getB, getM, mapE, iterE, keyC, mapRows, mfind, eq1, eqL, scal, binP, unP, minP, maxP, foldP, PV.lt, PV.lt.ltL, endP, expoAll, expoG, expo, expo.expoL, frIds, frIds.frIdsL, nodupN, kill, cls, clsFuel, resO, RV.get, loadP, evC_p, evC_s, endS, endT, rowsOf, callP, thinL, unfr, unfr.unfrL, PV.noMem, PV.noMem.noMemL, optI, mapO, norm, trimT, trimB, forget, hasN, blksLt, List.set, softChk, softGo, softRd, effTg, rdP, v2]
theorem mul_made {a b : Fr} (ha : validF a) (hb : validF b) : made (decide (a.1 < 0) != decide (b.1 < 0)) (a.1.natAbs * b.1.natAbs) (a.2.natAbs * b.2.natAbs) = mulS a b := by
  have hva := ha
  have hvb := hb
  obtain ⟨a1, a2, a3, a4, a5⟩ := ha
  obtain ⟨b1, b2, b3, b4, b5⟩ := hb
  rw [made_toF (Nat.mul_pos (by omega) (by omega)), mulS_val hva hvb, ← mk_mul]
  rw [show a.2.toNat = a.2.natAbs by omega, show b.2.toNat = b.2.natAbs by omega]
  congr 2
  unfold sgn
  by_cases h1 : a.1 < 0 <;> by_cases h2 : b.1 < 0
  · have e1 : ((a.1.natAbs : Nat) : Int) = -a.1 := by omega
    have e2 : ((b.1.natAbs : Nat) : Int) = -b.1 := by omega
    simp only [h1, h2, decide_true, bne_self_eq_false, Bool.false_eq_true, if_false]
    rw [Int.natCast_mul, e1, e2, Int.neg_mul_neg]
  · have e1 : ((a.1.natAbs : Nat) : Int) = -a.1 := by omega
    have e2 : ((b.1.natAbs : Nat) : Int) = b.1 := by omega
    simp only [h1, h2, decide_true, decide_false, Bool.true_bne, Bool.not_false, if_true]
    rw [Int.natCast_mul, e1, e2, Int.neg_mul, Int.neg_neg]
  · have e1 : ((a.1.natAbs : Nat) : Int) = a.1 := by omega
    have e2 : ((b.1.natAbs : Nat) : Int) = -b.1 := by omega
    simp only [h1, h2, decide_true, decide_false, Bool.false_bne, if_true]
    rw [Int.natCast_mul, e1, e2, Int.mul_neg, Int.neg_neg]
  · have e1 : ((a.1.natAbs : Nat) : Int) = a.1 := by omega
    have e2 : ((b.1.natAbs : Nat) : Int) = b.1 := by omega
    simp only [h1, h2, decide_false, bne_self_eq_false, Bool.false_eq_true, if_false]
    rw [Int.natCast_mul, e1, e2]
set_option maxRecDepth 100000 in
theorem f23 (a b : Fr) (ha : i64F a) (hb : i64F b) : evE Dg 23 [eF a, eF b] = some (eR (mulS a b)) := by
  have v1 := f15 a ha
  have v2 := f15 b hb
  by_cases ha' : validF a
  · by_cases hb' : validF b
    · have hm := mul_made ha' hb'
      obtain ⟨⟨an1, an2⟩, ad1, ad2⟩ := ha
      obtain ⟨⟨bn1, bn2⟩, bd1, bd2⟩ := hb
      have l1 := sc_le (v := a.1) (d := b.1) (by omega) (by omega)
      have l3 := sc_le (v := a.2) (d := b.2) (by omega) (by omega)
      have q1 := f35 a.1 an1 an2
      have q2 := f35 b.1 bn1 bn2
      have q3 := f48 a.1.natAbs b.1.natAbs (by omega) (by omega)
      have q4 := f35 a.2 ad1 ad2
      have q5 := f35 b.2 bd1 bd2
      have q6 := f48 a.2.natAbs b.2.natAbs (by omega) (by omega)
      have q7 := f34 (decide (a.1 < 0) != decide (b.1 < 0)) (a.1.natAbs * b.1.natAbs) (a.2.natAbs * b.2.natAbs) (by omega) (Nat.mul_pos (by have := ha'.1; omega) (by have := hb'.1; omega)) (by omega)
      rw [hm] at q7
      simp only [ha', hb', decide_true] at v1 v2
      generalize mulS a b = r at *
      obtain ⟨an, ad⟩ := a
      obtain ⟨bn, bd⟩ := b
      simp only at q1 q2 q3 q4 q5 q6 q7 v1 v2
      obtain ⟨⟨r1, r2⟩, r3⟩ := r
      simp only [eR, eF, eG_eq, eW_eq] at q1 q2 q3 q6 q7 v1 v2 ⊢
      clear l1 l3 hm ha' hb' an1 an2 ad1 ad2 bn1 bn2 bd1 bd2
      generalize hW (an.natAbs * bn.natAbs) = x1 at *
      generalize lW (an.natAbs * bn.natAbs) = x2 at *
      generalize hW (ad.natAbs * bd.natAbs) = x5 at *
      generalize lW (ad.natAbs * bd.natAbs) = x6 at *
      generalize ad.natAbs = y1 at *
      generalize bd.natAbs = y2 at *
      generalize an.natAbs = y3 at *
      generalize bn.natAbs = y4 at *
      refine evE_intro 1 D23 rfl ?_
      unfold c23
      by_cases s1 : an < 0 <;> by_cases s2 : bn < 0 <;> simp only [s1, s2, decide_true, decide_false, bne_self_eq_false, Bool.true_bne, Bool.false_bne, Bool.not_true, Bool.not_false] at q7
      all_goals simp [evCode, evOps, evOne, evOp, evPur, evEff, evPur.chunks, fillP, AOp.isEff, AO.ev, putP, PV.cells, PV.leaf, getB, getM, mapE, iterE, keyC, mapRows, mfind, eq1, eqL, scal, binP, unP, minP, maxP, foldP, PV.lt, PV.lt.ltL, endP, expoAll, expoG, expo, expo.expoL, frIds, frIds.frIdsL, nodupN, kill, cls, clsFuel, resO, RV.get, loadP, evC_p, evC_s, endS, endT, rowsOf, callP, thinL, unfr, unfr.unfrL, PV.noMem, PV.noMem.noMemL, optI, mapO, norm, trimT, trimB, forget, hasN, blksLt, List.set, softChk, softGo, softRd, effTg, rdP, v1, v2, q1, q2, q3, q4, q5, q6, q7, s1, s2]
    · rw [show mulS a b = ((0, 0), false) from if_neg (fun h => hb' h.2)]
      simp only [ha', hb', decide_true, decide_false] at v1 v2
      obtain ⟨an, ad⟩ := a
      obtain ⟨bn, bd⟩ := b
      simp only [eR, eF] at *
      refine evE_intro 1 D23 rfl ?_
      unfold c23
      simp [evCode, evOps, evOne, evOp, evPur, evEff, evPur.chunks, fillP, AOp.isEff, AO.ev, putP, PV.cells, PV.leaf, getB, getM, mapE, iterE, keyC, mapRows, mfind, eq1, eqL, scal, binP, unP, minP, maxP, foldP, PV.lt, PV.lt.ltL, endP, expoAll, expoG, expo, expo.expoL, frIds, frIds.frIdsL, nodupN, kill, cls, clsFuel, resO, RV.get, loadP, evC_p, evC_s, endS, endT, rowsOf, callP, thinL, unfr, unfr.unfrL, PV.noMem, PV.noMem.noMemL, optI, mapO, norm, trimT, trimB, forget, hasN, blksLt, List.set, softChk, softGo, softRd, effTg, rdP, v1, v2]
  · rw [show mulS a b = ((0, 0), false) from if_neg (fun h => ha' h.1)]
    simp only [ha', decide_false] at v1
    obtain ⟨an, ad⟩ := a
    obtain ⟨bn, bd⟩ := b
    simp only [eR, eF] at *
    refine evE_intro 1 D23 rfl ?_
    unfold c23
    simp [evCode, evOps, evOne, evOp, evPur, evEff, evPur.chunks, fillP, AOp.isEff, AO.ev, putP, PV.cells, PV.leaf, getB, getM, mapE, iterE, keyC, mapRows, mfind, eq1, eqL, scal, binP, unP, minP, maxP, foldP, PV.lt, PV.lt.ltL, endP, expoAll, expoG, expo, expo.expoL, frIds, frIds.frIdsL, nodupN, kill, cls, clsFuel, resO, RV.get, loadP, evC_p, evC_s, endS, endT, rowsOf, callP, thinL, unfr, unfr.unfrL, PV.noMem, PV.noMem.noMemL, optI, mapO, norm, trimT, trimB, forget, hasN, blksLt, List.set, softChk, softGo, softRd, effTg, rdP, v1]
theorem f50 (a : Fr) (ha : i64F a) : evE Dg 50 [eF a] = some (eF (usual a)) := by
  have v1 := f15 a ha
  unfold usual
  refine evE_intro 1 D50 rfl ?_
  unfold c50
  by_cases h : validF a
  · rw [if_pos h]
    simp only [h, decide_true] at v1
    obtain ⟨an, ad⟩ := a
    simp only [eF] at *
    simp [evCode, evOps, evOne, evOp, evPur, evEff, evPur.chunks, fillP, AOp.isEff, AO.ev, putP, PV.cells, PV.leaf, getB, getM, mapE, iterE, keyC, mapRows, mfind, eq1, eqL, scal, binP, unP, minP, maxP, foldP, PV.lt, PV.lt.ltL, endP, expoAll, expoG, expo, expo.expoL, frIds, frIds.frIdsL, nodupN, kill, cls, clsFuel, resO, RV.get, loadP, evC_p, evC_s, endS, endT, rowsOf, callP, thinL, unfr, unfr.unfrL, PV.noMem, PV.noMem.noMemL, optI, mapO, norm, trimT, trimB, forget, hasN, blksLt, List.set, softChk, softGo, softRd, effTg, rdP, v1]
  · rw [if_neg h]
    simp only [h, decide_false] at v1
    obtain ⟨an, ad⟩ := a
    simp only [eF] at *
    simp [evCode, evOps, evOne, evOp, evPur, evEff, evPur.chunks, fillP, AOp.isEff, AO.ev, putP, PV.cells, PV.leaf, getB, getM, mapE, iterE, keyC, mapRows, mfind, eq1, eqL, scal, binP, unP, minP, maxP, foldP, PV.lt, PV.lt.ltL, endP, expoAll, expoG, expo, expo.expoL, frIds, frIds.frIdsL, nodupN, kill, cls, clsFuel, resO, RV.get, loadP, evC_p, evC_s, endS, endT, rowsOf, callP, thinL, unfr, unfr.unfrL, PV.noMem, PV.noMem.noMemL, optI, mapO, norm, trimT, trimB, forget, hasN, blksLt, List.set, softChk, softGo, softRd, effTg, rdP, v1]
theorem cmpX (a b : Fr) (ha : validF a) (hb : validF b) : cmpS a b = sgI (sg (addX a (negS b))) := by
  have ua : usual a = a := if_pos ha
  have ub : usual b = b := if_pos hb
  unfold cmpS
  rw [ua, ub]
  obtain ⟨a1, a2, a3, a4, a5⟩ := ha
  obtain ⟨b1, b2, b3, b4, b5⟩ := hb
  unfold addX
  rw [sg_add, sg_scaled _ _ (by simp only [negS]; omega), sg_scaled _ _ (by omega)]
  simp only [negS]
  rw [Int.neg_mul, ← Int.sub_eq_add_neg]
theorem sg_sign (x : Bool × Nat) : sgI (sg x) = if x.2 = 0 then 0 else if x.1 = true then -1 else 1 := by
  obtain ⟨m, n⟩ := x
  unfold sgI sg
  cases m <;> simp only [Bool.false_eq_true, if_false, if_true] <;> by_cases h : n = 0
  · subst h; rfl
  · rw [if_neg (by omega), if_neg (by omega), if_neg h]
  · subst h; rfl
  · rw [if_pos (by omega), if_neg h]
theorem cmp_usual (a b : Fr) : cmpS a b = cmpS (usual a) (usual b) := by
  have e : ∀ a : Fr, usual (usual a) = usual a := fun a => if_pos (valid_usual a)
  unfold cmpS
  rw [e, e]
set_option maxRecDepth 100000 in
theorem f25 (a b : Fr) (ha : i64F a) (hb : i64F b) : evE Dg 25 [eF a, eF b] = some (.int .i64 (cmpS a b)) := by
  have u1 := f50 a ha
  have u2 := f50 b hb
  have va := valid_usual a
  have vb := valid_usual b
  rw [cmp_usual, cmpX _ _ va vb, sg_sign]
  generalize usual a = A at *
  generalize usual b = B at *
  obtain ⟨a1, a2, a3, a4, -⟩ := va
  obtain ⟨b1, b2, b3, b4, -⟩ := vb
  have q0 := f49 B ⟨by omega, by omega⟩
  have q1 := f47 A.1 B.2 (by omega) (by omega) (by omega) (by omega)
  have q2 := f47 (-B.1) A.2 (by omega) (by omega) (by omega) (by omega)
  have l1 := sc_le (v := A.1) (d := B.2) (by omega) (by omega)
  have l2 := sc_le (v := -B.1) (d := A.2) (by omega) (by omega)
  have q3 := f46 (decide (A.1 < 0), A.1.natAbs * B.2.natAbs) (decide (-B.1 < 0), (-B.1).natAbs * A.2.natAbs) (by simp only; omega)
  have hx : addX A (negS B) = addG (decide (A.1 < 0), A.1.natAbs * B.2.natAbs) (decide (-B.1 < 0), (-B.1).natAbs * A.2.natAbs) := rfl
  simp only at q3
  rw [← hx] at q3
  clear hx l1 l2
  generalize addX A (negS B) = X at *
  obtain ⟨an, ad⟩ := a
  obtain ⟨bn, bd⟩ := b
  obtain ⟨An, Ad⟩ := A
  obtain ⟨Bn, Bd⟩ := B
  simp only [negS] at *
  obtain ⟨X1, X2⟩ := X
  have hz := z_of (W := X2)
  simp only [eF, eG_eq] at *
  clear a1 a2 a3 a4 b1 b2 b3 b4 ha hb
  generalize hW (An.natAbs * Bd.natAbs) = x1 at *
  generalize lW (An.natAbs * Bd.natAbs) = x2 at *
  generalize hW ((-Bn).natAbs * Ad.natAbs) = x3 at *
  generalize lW ((-Bn).natAbs * Ad.natAbs) = x4 at *
  generalize hW X2 = x7 at *
  generalize lW X2 = x8 at *
  generalize decide (An < 0) = n1 at *
  generalize decide (-Bn < 0) = n2 at *
  refine evE_intro 1 D25 rfl ?_
  unfold c25
  by_cases h0 : X2 = 0
  · obtain ⟨rfl, rfl⟩ := hz.1 h0
    simp [evCode, evOps, evOne, evOp, evPur, evEff, evPur.chunks, fillP, AOp.isEff, AO.ev, putP, PV.cells, PV.leaf, getB, getM, mapE, iterE, keyC, mapRows, mfind, eq1, eqL, scal, binP, unP, minP, maxP, foldP, PV.lt, PV.lt.ltL, endP, expoAll, expoG, expo, expo.expoL, frIds, frIds.frIdsL, nodupN, kill, cls, clsFuel, resO, RV.get, loadP, evC_p, evC_s, endS, endT, rowsOf, callP, thinL, unfr, unfr.unfrL, PV.noMem, PV.noMem.noMemL, optI, mapO, norm, trimT, trimB, forget, hasN, blksLt, List.set, softChk, softGo, softRd, effTg, rdP, u1, u2, q0, q1, q2, q3, h0]
  · have hz' : ¬ (x7 = 0 ∧ x8 = 0) := fun h => h0 (hz.2 h)
    clear hz
    by_cases h7 : x7 = 0
    · have h8 : ¬ x8 = 0 := fun h => hz' ⟨h7, h⟩
      subst h7
      cases X1 <;> simp [evCode, evOps, evOne, evOp, evPur, evEff, evPur.chunks, fillP, AOp.isEff, AO.ev, putP, PV.cells, PV.leaf, getB, getM, mapE, iterE, keyC, mapRows, mfind, eq1, eqL, scal, binP, unP, minP, maxP, foldP, PV.lt, PV.lt.ltL, endP, expoAll, expoG, expo, expo.expoL, frIds, frIds.frIdsL, nodupN, kill, cls, clsFuel, resO, RV.get, loadP, evC_p, evC_s, endS, endT, rowsOf, callP, thinL, unfr, unfr.unfrL, PV.noMem, PV.noMem.noMemL, optI, mapO, norm, trimT, trimB, forget, hasN, blksLt, List.set, softChk, softGo, softRd, effTg, rdP, u1, u2, q0, q1, q2, q3, h0, h8]
    · cases X1 <;> simp [evCode, evOps, evOne, evOp, evPur, evEff, evPur.chunks, fillP, AOp.isEff, AO.ev, putP, PV.cells, PV.leaf, getB, getM, mapE, iterE, keyC, mapRows, mfind, eq1, eqL, scal, binP, unP, minP, maxP, foldP, PV.lt, PV.lt.ltL, endP, expoAll, expoG, expo, expo.expoL, frIds, frIds.frIdsL, nodupN, kill, cls, clsFuel, resO, RV.get, loadP, evC_p, evC_s, endS, endT, rowsOf, callP, thinL, unfr, unfr.unfrL, PV.noMem, PV.noMem.noMemL, optI, mapO, norm, trimT, trimB, forget, hasN, blksLt, List.set, softChk, softGo, softRd, effTg, rdP, u1, u2, q0, q1, q2, q3, h0, h7]
end Go.Proofs.YtddglikicokpeaaDoor
