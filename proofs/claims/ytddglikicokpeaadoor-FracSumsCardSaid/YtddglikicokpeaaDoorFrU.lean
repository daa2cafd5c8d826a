/- frac: Sub, Mul, Cmp. -/
import Derived.Test.YtddglikicokpeaaDoorFrT
namespace Go.Proofs.YtddglikicokpeaaDoor
open Go Go.RowKit
set_option linter.unusedVariables false
set_option linter.unusedSimpArgs false
set_option maxHeartbeats 4000000

theorem negS64 {b : Fr} (h : validF b) : i64F (negS b) := by
  obtain ⟨a1, a2, a3, a4, a5⟩ := h
  exact ⟨⟨by show _ ≤ -b.1; omega, by show -b.1 ≤ _; omega⟩, ⟨by show _ ≤ b.2; omega, by show b.2 ≤ _; omega⟩⟩
theorem f20 (a b : Fr) (ha : i64F a) (hb : i64F b) : evE Dg 20 [eF a, eF b] = some (eR (subS a b)) := by
  have v2 := f13 b hb
  refine evE_intro 1 D20 rfl ?_
  by_cases hvb : validF b
  rotate_left
  · have e : subS a b = ((0, 0), false) := if_neg hvb
    rw [e]
    simp only [eF, hvb, decide_false] at v2
    unfold c20
    simp [evCode, evOps, evOne, evOp, evPur, evEff, evPur.chunks, fillP, AOp.isEff, AO.ev, putP, PV.cells, PV.leaf, getB, getM, mapE, iterE, keyC, mapRows, mfind, eq1, eqL, scal, binP, unP, minP, maxP, foldP, PV.lt, PV.lt.ltL, endP, expoAll, expoG, expo, expo.expoL, frIds, frIds.frIdsL, nodupN, kill, cls, clsFuel, resO, RV.get, loadP, evC_p, evC_s, endS, endT, rowsOf, callP, thinL, unfr, unfr.unfrL, PV.noMem, PV.noMem.noMemL, optI, mapO, norm, trimT, trimB, forget, hasN, blksLt, List.set, softChk, softGo, softRd, effTg, rdP, eF, eR, v2]
  have e : subS a b = addS a (negS b) := if_pos hvb
  have q := f18 a (negS b) ha (negS64 hvb)
  rw [e]
  simp only [eF, hvb, decide_true] at v2
  obtain ⟨b1, b2, b3, b4, b5⟩ := hvb
  have w1 := wrap_i64 (-b.1) (by omega) (by omega)
  have w2 := wrap_i64 (0 - b.1) (by omega) (by omega)
  have w3 : 0 - b.1 = -b.1 := by omega
  generalize addS a (negS b) = r at *
  obtain ⟨⟨r1, r2⟩, r3⟩ := r
  simp only [eR, eF, negS] at q ⊢
  unfold c20
  simp [evCode, evOps, evOne, evOp, evPur, evEff, evPur.chunks, fillP, AOp.isEff, AO.ev, putP, PV.cells, PV.leaf, getB, getM, mapE, iterE, keyC, mapRows, mfind, eq1, eqL, scal, binP, unP, minP, maxP, foldP, PV.lt, PV.lt.ltL, endP, expoAll, expoG, expo, expo.expoL, frIds, frIds.frIdsL, nodupN, kill, cls, clsFuel, resO, RV.get, loadP, evC_p, evC_s, endS, endT, rowsOf, callP, thinL, unfr, unfr.unfrL, PV.noMem, PV.noMem.noMemL, optI, mapO, norm, trimT, trimB, forget, hasN, blksLt, List.set, softChk, softGo, softRd, effTg, rdP, v2, w1, w2, w3, q]

theorem mulS_out {a b : Fr} (ha : validF a) (hb : validF b) : mulS a b = outF (decide (a.1 < 0) != decide (b.1 < 0)) (a.1.natAbs / Nat.gcd a.1.natAbs b.2.natAbs * (b.1.natAbs / Nat.gcd b.1.natAbs a.2.natAbs)) (a.2.natAbs / Nat.gcd b.1.natAbs a.2.natAbs * (b.2.natAbs / Nat.gcd a.1.natAbs b.2.natAbs)) := by
  rw [mulS_val ha hb, ← mk_mul]
  obtain ⟨a1, a2, a3, a4, a5⟩ := ha
  obtain ⟨b1, b2, b3, b4, b5⟩ := hb
  obtain ⟨k1, k2, k3⟩ := mul_low a.1.natAbs b.1.natAbs a.2.natAbs b.2.natAbs (by omega) (by omega) a5 b5
  have hs : a.1 * b.1 = sgn (decide (a.1 < 0) != decide (b.1 < 0)) (a.1.natAbs * b.1.natAbs) := by
    unfold sgn
    rw [Int.natCast_mul]
    by_cases h1 : a.1 < 0
    · have e1 : ((a.1.natAbs : Nat) : Int) = -a.1 := by omega
      by_cases h2 : b.1 < 0
      · have e2 : ((b.1.natAbs : Nat) : Int) = -b.1 := by omega
        simp [h1, h2, e1, e2, Int.neg_mul, Int.mul_neg]
      · have e2 : ((b.1.natAbs : Nat) : Int) = b.1 := by omega
        simp [h1, h2, e1, e2, Int.neg_mul, Int.mul_neg]
    · have e1 : ((a.1.natAbs : Nat) : Int) = a.1 := by omega
      by_cases h2 : b.1 < 0
      · have e2 : ((b.1.natAbs : Nat) : Int) = -b.1 := by omega
        simp [h1, h2, e1, e2, Int.neg_mul, Int.mul_neg]
      · have e2 : ((b.1.natAbs : Nat) : Int) = b.1 := by omega
        simp [h1, h2, e1, e2, Int.neg_mul, Int.mul_neg]
  have hD : a.2.toNat * b.2.toNat = a.2.natAbs * b.2.natAbs := by rw [show a.2.toNat = a.2.natAbs by omega, show b.2.toNat = b.2.natAbs by omega]
  rw [hD, hs, ← made_toF (Nat.mul_pos (by omega) (by omega))]
  exact made_eq (Nat.mul_pos (by omega) (by omega)) k3 k1 k2
set_option maxRecDepth 100000 in
theorem f22 (a b : Fr) (ha : i64F a) (hb : i64F b) : evE Dg 22 [eF a, eF b] = some (eR (mulS a b)) := by
  have v1 := f13 a ha
  have v2 := f13 b hb
  refine evE_intro 1 D22 rfl ?_
  by_cases hva : validF a
  rotate_left
  · have e : mulS a b = ((0, 0), false) := if_neg (fun h => hva h.1)
    rw [e]
    simp only [eF, hva, decide_false] at v1
    unfold c22
    simp [evCode, evOps, evOne, evOp, evPur, evEff, evPur.chunks, fillP, AOp.isEff, AO.ev, putP, PV.cells, PV.leaf, getB, getM, mapE, iterE, keyC, mapRows, mfind, eq1, eqL, scal, binP, unP, minP, maxP, foldP, PV.lt, PV.lt.ltL, endP, expoAll, expoG, expo, expo.expoL, frIds, frIds.frIdsL, nodupN, kill, cls, clsFuel, resO, RV.get, loadP, evC_p, evC_s, endS, endT, rowsOf, callP, thinL, unfr, unfr.unfrL, PV.noMem, PV.noMem.noMemL, optI, mapO, norm, trimT, trimB, forget, hasN, blksLt, List.set, softChk, softGo, softRd, effTg, rdP, eF, eR, v1]
  by_cases hvb : validF b
  rotate_left
  · have e : mulS a b = ((0, 0), false) := if_neg (fun h => hvb h.2)
    rw [e]
    simp only [eF, hva, hvb, decide_false, decide_true] at v1 v2
    unfold c22
    simp [evCode, evOps, evOne, evOp, evPur, evEff, evPur.chunks, fillP, AOp.isEff, AO.ev, putP, PV.cells, PV.leaf, getB, getM, mapE, iterE, keyC, mapRows, mfind, eq1, eqL, scal, binP, unP, minP, maxP, foldP, PV.lt, PV.lt.ltL, endP, expoAll, expoG, expo, expo.expoL, frIds, frIds.frIdsL, nodupN, kill, cls, clsFuel, resO, RV.get, loadP, evC_p, evC_s, endS, endT, rowsOf, callP, thinL, unfr, unfr.unfrL, PV.noMem, PV.noMem.noMemL, optI, mapO, norm, trimT, trimB, forget, hasN, blksLt, List.set, softChk, softGo, softRd, effTg, rdP, eF, eR, v1, v2]
  have eA := mulS_out hva hvb
  simp only [eF, hva, hvb, decide_true] at v1 v2
  obtain ⟨a1, a2, a3, a4, a5⟩ := hva
  obtain ⟨b1, b2, b3, b4, b5⟩ := hvb
  have s1 := f31 a.1 ⟨by omega, by omega⟩
  have s2 := f31 b.1 ⟨by omega, by omega⟩
  have w1 : IntKind.u64.wrap a.2 = ((a.2.natAbs : Nat) : Int) := by rw [wrap_u64']; omega
  have w2 : IntKind.u64.wrap b.2 = ((b.2.natAbs : Nat) : Int) := by rw [wrap_u64']; omega
  have q1 := f32 a.1.natAbs b.2.natAbs (by omega) (by omega)
  have q2 := f32 b.1.natAbs a.2.natAbs (by omega) (by omega)
  have g1 : 0 < Nat.gcd a.1.natAbs b.2.natAbs := Nat.gcd_pos_of_pos_right _ (by omega)
  have g2 : 0 < Nat.gcd b.1.natAbs a.2.natAbs := Nat.gcd_pos_of_pos_right _ (by omega)
  have t1 := tdivN a.1.natAbs (Nat.gcd a.1.natAbs b.2.natAbs)
  have t2 := tdivN b.1.natAbs (Nat.gcd b.1.natAbs a.2.natAbs)
  have t3 := tdivN a.2.natAbs (Nat.gcd b.1.natAbs a.2.natAbs)
  have t4 := tdivN b.2.natAbs (Nat.gcd a.1.natAbs b.2.natAbs)
  have l1 : a.1.natAbs / Nat.gcd a.1.natAbs b.2.natAbs ≤ a.1.natAbs := Nat.div_le_self _ _
  have l2 : b.1.natAbs / Nat.gcd b.1.natAbs a.2.natAbs ≤ b.1.natAbs := Nat.div_le_self _ _
  have l3 : a.2.natAbs / Nat.gcd b.1.natAbs a.2.natAbs ≤ a.2.natAbs := Nat.div_le_self _ _
  have l4 : b.2.natAbs / Nat.gcd a.1.natAbs b.2.natAbs ≤ b.2.natAbs := Nat.div_le_self _ _
  have u1 := wU _ _ l1 (by omega)
  have u2 := wU _ _ l2 (by omega)
  have u3 := wU _ _ l3 (by omega)
  have u4 := wU _ _ l4 (by omega)
  have q3 := f45 _ _ (lt64 _ _ l1 (by omega)) (lt64 _ _ l2 (by omega))
  have q4 := f45 _ _ (lt64 _ _ l3 (by omega)) (lt64 _ _ l4 (by omega))
  rw [eA]
  clear eA
  generalize a.1.natAbs / Nat.gcd a.1.natAbs b.2.natAbs = X at *
  generalize b.1.natAbs / Nat.gcd b.1.natAbs a.2.natAbs = Y at *
  generalize a.2.natAbs / Nat.gcd b.1.natAbs a.2.natAbs = Z at *
  generalize b.2.natAbs / Nat.gcd a.1.natAbs b.2.natAbs = V at *
  generalize Nat.gcd a.1.natAbs b.2.natAbs = G at *
  generalize Nat.gcd b.1.natAbs a.2.natAbs = H at *
  generalize X * Y = P at *
  generalize Z * V = Q at *
  have gne : ¬ ((G : Nat) : Int) = 0 := by omega
  have gne' : ¬ G = 0 := by omega
  have hne : ¬ ((H : Nat) : Int) = 0 := by omega
  have hne' : ¬ H = 0 := by omega
  generalize a.1.natAbs = A at *
  generalize b.1.natAbs = B at *
  generalize a.2.natAbs = C at *
  generalize b.2.natAbs = D at *
  simp only [eF]
  by_cases hp : P < 18446744073709551616
  · have hm1 : P % 18446744073709551616 = P := Nat.mod_eq_of_lt hp
    rw [hm1] at q3
    simp only [hp, decide_true] at q3
    by_cases hq : Q < 18446744073709551616
    · have hm2 : Q % 18446744073709551616 = Q := Nat.mod_eq_of_lt hq
      rw [hm2] at q4
      simp only [hq, decide_true] at q4
      have q5 := f33 true P Q hp hq
      have q6 := f33 false P Q hp hq
      by_cases s3 : a.1 < 0 <;> by_cases s4 : b.1 < 0 <;> simp only [s3, s4, decide_true, decide_false, bne_self_eq_false, Bool.true_bne, Bool.false_bne, Bool.not_true, Bool.not_false]
      all_goals
        generalize outF true P Q = r at *
        generalize outF false P Q = r' at *
        obtain ⟨⟨r1, r2⟩, r3⟩ := r
        obtain ⟨⟨r4, r5⟩, r6⟩ := r'
        simp only [eR, eF] at q5 q6 ⊢
        unfold c22
        simp [evCode, evOps, evOne, evOp, evPur, evEff, evPur.chunks, fillP, AOp.isEff, AO.ev, putP, PV.cells, PV.leaf, getB, getM, mapE, iterE, keyC, mapRows, mfind, eq1, eqL, scal, binP, unP, minP, maxP, foldP, PV.lt, PV.lt.ltL, endP, expoAll, expoG, expo, expo.expoL, frIds, frIds.frIdsL, nodupN, kill, cls, clsFuel, resO, RV.get, loadP, evC_p, evC_s, endS, endT, rowsOf, callP, thinL, unfr, unfr.unfrL, PV.noMem, PV.noMem.noMemL, optI, mapO, norm, trimT, trimB, forget, hasN, blksLt, List.set, softChk, softGo, softRd, effTg, rdP, v1, v2, s1, s2, w1, w2, q1, q2, q3, q4, q5, q6, t1, t2, t3, t4, u1, u2, u3, u4, gne, gne', hne, hne', s3, s4]
    · rw [outF_big (.inr hq)]
      simp only [hq, decide_false] at q4
      generalize Q % 18446744073709551616 = Q' at *
      simp only [eR, eF]
      unfold c22
      simp [evCode, evOps, evOne, evOp, evPur, evEff, evPur.chunks, fillP, AOp.isEff, AO.ev, putP, PV.cells, PV.leaf, getB, getM, mapE, iterE, keyC, mapRows, mfind, eq1, eqL, scal, binP, unP, minP, maxP, foldP, PV.lt, PV.lt.ltL, endP, expoAll, expoG, expo, expo.expoL, frIds, frIds.frIdsL, nodupN, kill, cls, clsFuel, resO, RV.get, loadP, evC_p, evC_s, endS, endT, rowsOf, callP, thinL, unfr, unfr.unfrL, PV.noMem, PV.noMem.noMemL, optI, mapO, norm, trimT, trimB, forget, hasN, blksLt, List.set, softChk, softGo, softRd, effTg, rdP, v1, v2, s1, s2, w1, w2, q1, q2, q3, q4, t1, t2, t3, t4, u1, u2, u3, u4, gne, gne', hne, hne']
  · rw [outF_big (.inl hp)]
    simp only [hp, decide_false] at q3
    generalize P % 18446744073709551616 = P' at *
    generalize Q % 18446744073709551616 = Q' at *
    generalize decide (Q < 18446744073709551616) = Q2 at *
    simp only [eR, eF]
    unfold c22
    simp [evCode, evOps, evOne, evOp, evPur, evEff, evPur.chunks, fillP, AOp.isEff, AO.ev, putP, PV.cells, PV.leaf, getB, getM, mapE, iterE, keyC, mapRows, mfind, eq1, eqL, scal, binP, unP, minP, maxP, foldP, PV.lt, PV.lt.ltL, endP, expoAll, expoG, expo, expo.expoL, frIds, frIds.frIdsL, nodupN, kill, cls, clsFuel, resO, RV.get, loadP, evC_p, evC_s, endS, endT, rowsOf, callP, thinL, unfr, unfr.unfrL, PV.noMem, PV.noMem.noMemL, optI, mapO, norm, trimT, trimB, forget, hasN, blksLt, List.set, softChk, softGo, softRd, effTg, rdP, v1, v2, s1, s2, w1, w2, q1, q2, q3, q4, t1, t2, t3, t4, u1, u2, u3, u4, gne, gne', hne, hne']

set_option maxRecDepth 100000 in
theorem f24 (a b : Fr) (ha : i64F a) (hb : i64F b) : evE Dg 24 [eF a, eF b] = some (.int .i64 (cmpS a b)) := by
  have v1 := f13 a ha
  have v2 := f13 b hb
  have va := valid_usual a
  have vb := valid_usual b
  have ea : usual a = if validF a then a else (0, 1) := rfl
  have eb : usual b = if validF b then b else (0, 1) := rfl
  refine evE_intro 1 D24 rfl ?_
  unfold cmpS
  have x1 := va
  have x2 := vb
  obtain ⟨a1, a2, a3, a4, a5⟩ := x1
  obtain ⟨b1, b2, b3, b4, b5⟩ := x2
  have q1 := f39 (usual a).1 (usual b).2 ⟨by omega, by omega⟩ ⟨by omega, by omega⟩ (by omega)
  have q2 := f39 (usual b).1 (usual a).2 ⟨by omega, by omega⟩ ⟨by omega, by omega⟩ (by omega)
  have q3 := f42 ((usual a).1 * (usual b).2) ((usual b).1 * (usual a).2)
  have m1 : ((usual a).1 * (usual b).2).natAbs ≤ 4611686018427387904 * 1000000000000000 := by rw [Int.natAbs_mul]; exact Nat.mul_le_mul (by omega) (by omega)
  have m2 : ((usual b).1 * (usual a).2).natAbs ≤ 4611686018427387904 * 1000000000000000 := by rw [Int.natAbs_mul]; exact Nat.mul_le_mul (by omega) (by omega)
  generalize hP : (usual a).1 * (usual b).2 = P at *
  generalize hQ : (usual b).1 * (usual a).2 = Q at *
  have q4 := f41 (P - Q) (by omega) (by omega)
  have hPQ : usual a = (0, 1) → usual b = (0, 1) → P = Q := fun h1 h2 => by rw [← hP, ← hQ, h1, h2]
  generalize hD : P - Q = D at *
  simp only [eZ] at q1 q2 q3 q4
  clear a1 a2 a3 a4 a5 b1 b2 b3 b4 b5 va vb
  obtain ⟨an, ad⟩ := a
  obtain ⟨bn, bd⟩ := b
  by_cases hva : validF (an, ad)
  · by_cases hvb : validF (bn, bd) <;> simp only [eF, hva, hvb, decide_true, decide_false, if_true, if_false] at v1 v2 ea eb <;> rw [ea, eb] at q1 q2 <;> unfold c24 <;> simp [evCode, evOps, evOne, evOp, evPur, evEff, evPur.chunks, fillP, AOp.isEff, AO.ev, putP, PV.cells, PV.leaf, getB, getM, mapE, iterE, keyC, mapRows, mfind, eq1, eqL, scal, binP, unP, minP, maxP, foldP, PV.lt, PV.lt.ltL, endP, expoAll, expoG, expo, expo.expoL, frIds, frIds.frIdsL, nodupN, kill, cls, clsFuel, resO, RV.get, loadP, evC_p, evC_s, endS, endT, rowsOf, callP, thinL, unfr, unfr.unfrL, PV.noMem, PV.noMem.noMemL, optI, mapO, norm, trimT, trimB, forget, hasN, blksLt, List.set, softChk, softGo, softRd, effTg, rdP, eF, v1, v2, q1, q2, q3, q4]
  · by_cases hvb : validF (bn, bd)
    · simp only [eF, hva, hvb, decide_true, decide_false, if_true, if_false] at v1 v2 ea eb
      rw [ea, eb] at q1 q2
      unfold c24
      simp [evCode, evOps, evOne, evOp, evPur, evEff, evPur.chunks, fillP, AOp.isEff, AO.ev, putP, PV.cells, PV.leaf, getB, getM, mapE, iterE, keyC, mapRows, mfind, eq1, eqL, scal, binP, unP, minP, maxP, foldP, PV.lt, PV.lt.ltL, endP, expoAll, expoG, expo, expo.expoL, frIds, frIds.frIdsL, nodupN, kill, cls, clsFuel, resO, RV.get, loadP, evC_p, evC_s, endS, endT, rowsOf, callP, thinL, unfr, unfr.unfrL, PV.noMem, PV.noMem.noMemL, optI, mapO, norm, trimT, trimB, forget, hasN, blksLt, List.set, softChk, softGo, softRd, effTg, rdP, eF, v1, v2, q1, q2, q3, q4]
    · simp only [eF, hva, hvb, decide_true, decide_false, if_true, if_false] at v1 v2 ea eb
      have e := hPQ ea eb
      subst e
      rw [ea, eb] at q1
      clear q2 hPQ hP hQ ea eb
      unfold c24
      simp [evCode, evOps, evOne, evOp, evPur, evEff, evPur.chunks, fillP, AOp.isEff, AO.ev, putP, PV.cells, PV.leaf, getB, getM, mapE, iterE, keyC, mapRows, mfind, eq1, eqL, scal, binP, unP, minP, maxP, foldP, PV.lt, PV.lt.ltL, endP, expoAll, expoG, expo, expo.expoL, frIds, frIds.frIdsL, nodupN, kill, cls, clsFuel, resO, RV.get, loadP, evC_p, evC_s, endS, endT, rowsOf, callP, thinL, unfr, unfr.unfrL, PV.noMem, PV.noMem.noMemL, optI, mapO, norm, trimT, trimB, forget, hasN, blksLt, List.set, softChk, softGo, softRd, effTg, rdP, eF, v1, v2, q1, q3, q4]
end Go.Proofs.YtddglikicokpeaaDoor
