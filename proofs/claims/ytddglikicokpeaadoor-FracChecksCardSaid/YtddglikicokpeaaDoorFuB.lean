/- The reference's made, Valid, Of, Add, Sub, Mul, Cmp. -/
import Derived.Test.YtddglikicokpeaaDoorFuA
import Derived.Test.YtddglikicokpeaaDoorFrX
namespace Go.Proofs.YtddglikicokpeaaDoor
open Go Go.RowKit
set_option linter.unusedVariables false
set_option linter.unusedSimpArgs false
set_option maxHeartbeats 4000000

theorem small_of {W k : Nat} (hk : k < 18446744073709551616) : (W ≤ k → hW W = 0 ∧ lW W = W) ∧ (¬ W ≤ k → ¬ hW W = 0 ∨ (hW W = 0 ∧ ¬ lW W ≤ k ∧ (k : Int) < lW W)) := by
  unfold hW lW; omega
set_option maxRecDepth 100000 in
theorem f34 (m : Bool) (n d : Nat) (hn : n < 340282366920938463463374607431768211456) (hd0 : 0 < d) (hd : d < 170141183460469231731687303715884105728) :
    evE Dg 34 [eG m n, eW d] = some (eR (made m n d)) := by
  have q1 := f36 n d hn hd
  have hg0 : 0 < Nat.gcd n d := Nat.gcd_pos_of_pos_right _ hd0
  have hgd : Nat.gcd n d ≤ d := Nat.gcd_le_right _ hd0
  have q2 := f54 n (Nat.gcd n d) hn hg0 (by omega)
  have q3 := f54 d (Nat.gcd n d) (by omega) hg0 (by omega)
  unfold made outF
  obtain ⟨s1, s2⟩ := small_of (W := n / Nat.gcd n d) (k := 4611686018427387904) (by decide)
  obtain ⟨t1, t2⟩ := small_of (W := d / Nat.gcd n d) (k := 1000000000000000) (by decide)
  generalize n / Nat.gcd n d = X at *
  generalize d / Nat.gcd n d = Y at *
  generalize n % Nat.gcd n d = u at *
  generalize d % Nat.gcd n d = v at *
  generalize Nat.gcd n d = g at *
  clear hn hd0 hd hg0 hgd
  rw [eG_eq]
  simp only [eW_eq] at *
  generalize hW n = n1 at *
  generalize lW n = n2 at *
  generalize hW d = d1 at *
  generalize lW d = d2 at *
  generalize hW g = g1 at *
  generalize lW g = g2 at *
  generalize hW u = u1 at *
  generalize lW u = u2 at *
  generalize hW v = v1 at *
  generalize lW v = v2 at *
  refine evE_intro 1 D34 rfl ?_
  unfold c34
  by_cases hX : X ≤ 4611686018427387904
  · obtain ⟨e1, e2⟩ := s1 hX
    rw [e1, e2] at q2
    have hX' : ¬ (4611686018427387904 : Int) < X := by omega
    by_cases hY : Y ≤ 1000000000000000
    · obtain ⟨e3, e4⟩ := t1 hY
      rw [e3, e4] at q3
      have hY' : ¬ (1000000000000000 : Int) < Y := by omega
      have w1 := wrap_i64 (X : Int) (by omega) (by omega)
      have w2 := wrap_i64 (Y : Int) (by omega) (by omega)
      have w3 := wrap_i64 (-(X : Int)) (by omega) (by omega)
      have w4 := wrap_i64 (0 - (X : Int)) (by omega) (by omega)
      rw [if_pos ⟨hX, hY⟩]
      unfold eR eF sgn
      cases m <;> simp [evCode, evOps, evOne, evOp, evPur, evEff, evPur.chunks, fillP, AOp.isEff, AO.ev, putP, PV.cells, PV.leaf, getB, getM, mapE, iterE, keyC, mapRows, mfind, eq1, eqL, scal, binP, unP, minP, maxP, foldP, PV.lt, PV.lt.ltL, endP, expoAll, expoG, expo, expo.expoL, frIds, frIds.frIdsL, nodupN, kill, cls, clsFuel, resO, RV.get, loadP, evC_p, evC_s, endS, endT, rowsOf, callP, thinL, unfr, unfr.unfrL, PV.noMem, PV.noMem.noMemL, optI, mapO, norm, trimT, trimB, forget, hasN, blksLt, List.set, softChk, softGo, softRd, effTg, rdP, q1, q2, q3, hX', hY', w1, w2, w3, w4]
    · rw [if_neg (fun h => hY h.2)]
      unfold eR eF
      rcases t2 hY with h | ⟨h, h2, h3⟩
      · simp [evCode, evOps, evOne, evOp, evPur, evEff, evPur.chunks, fillP, AOp.isEff, AO.ev, putP, PV.cells, PV.leaf, getB, getM, mapE, iterE, keyC, mapRows, mfind, eq1, eqL, scal, binP, unP, minP, maxP, foldP, PV.lt, PV.lt.ltL, endP, expoAll, expoG, expo, expo.expoL, frIds, frIds.frIdsL, nodupN, kill, cls, clsFuel, resO, RV.get, loadP, evC_p, evC_s, endS, endT, rowsOf, callP, thinL, unfr, unfr.unfrL, PV.noMem, PV.noMem.noMemL, optI, mapO, norm, trimT, trimB, forget, hasN, blksLt, List.set, softChk, softGo, softRd, effTg, rdP, q1, q2, q3, hX', h]
      · have h3' : (1000000000000000 : Int) < lW Y := h3
        rw [h] at q3
        simp [evCode, evOps, evOne, evOp, evPur, evEff, evPur.chunks, fillP, AOp.isEff, AO.ev, putP, PV.cells, PV.leaf, getB, getM, mapE, iterE, keyC, mapRows, mfind, eq1, eqL, scal, binP, unP, minP, maxP, foldP, PV.lt, PV.lt.ltL, endP, expoAll, expoG, expo, expo.expoL, frIds, frIds.frIdsL, nodupN, kill, cls, clsFuel, resO, RV.get, loadP, evC_p, evC_s, endS, endT, rowsOf, callP, thinL, unfr, unfr.unfrL, PV.noMem, PV.noMem.noMemL, optI, mapO, norm, trimT, trimB, forget, hasN, blksLt, List.set, softChk, softGo, softRd, effTg, rdP, q1, q2, q3, hX', h3']
  · rw [if_neg (fun h => hX h.1)]
    unfold eR eF
    rcases s2 hX with h | ⟨h, h2, h3⟩
    · simp [evCode, evOps, evOne, evOp, evPur, evEff, evPur.chunks, fillP, AOp.isEff, AO.ev, putP, PV.cells, PV.leaf, getB, getM, mapE, iterE, keyC, mapRows, mfind, eq1, eqL, scal, binP, unP, minP, maxP, foldP, PV.lt, PV.lt.ltL, endP, expoAll, expoG, expo, expo.expoL, frIds, frIds.frIdsL, nodupN, kill, cls, clsFuel, resO, RV.get, loadP, evC_p, evC_s, endS, endT, rowsOf, callP, thinL, unfr, unfr.unfrL, PV.noMem, PV.noMem.noMemL, optI, mapO, norm, trimT, trimB, forget, hasN, blksLt, List.set, softChk, softGo, softRd, effTg, rdP, q1, q2, q3, h]
    · have h3' : (4611686018427387904 : Int) < lW X := h3
      rw [h] at q2
      simp [evCode, evOps, evOne, evOp, evPur, evEff, evPur.chunks, fillP, AOp.isEff, AO.ev, putP, PV.cells, PV.leaf, getB, getM, mapE, iterE, keyC, mapRows, mfind, eq1, eqL, scal, binP, unP, minP, maxP, foldP, PV.lt, PV.lt.ltL, endP, expoAll, expoG, expo, expo.expoL, frIds, frIds.frIdsL, nodupN, kill, cls, clsFuel, resO, RV.get, loadP, evC_p, evC_s, endS, endT, rowsOf, callP, thinL, unfr, unfr.unfrL, PV.noMem, PV.noMem.noMemL, optI, mapO, norm, trimT, trimB, forget, hasN, blksLt, List.set, softChk, softGo, softRd, effTg, rdP, q1, q2, q3, h3']
theorem f15 (a : Fr) (h : i64F a) : evE Dg 15 [eF a] = some (.bool (decide (validF a))) := by
  obtain ⟨n, d⟩ := a
  obtain ⟨⟨n1, n2⟩, d1, d2⟩ := h
  simp only at n1 n2 d1 d2
  have q1 := f35 n n1 n2
  have q2 := f35 d d1 d2
  refine evE_intro 1 D15 rfl ?_
  unfold c15
  by_cases h1 : 1 ≤ d
  · have h1' : ¬ d < 1 := by omega
    by_cases h2 : d ≤ 1000000000000000
    · have h2' : ¬ 1000000000000000 < d := by omega
      by_cases h3 : -4611686018427387904 ≤ n
      · have h3' : ¬ n < -4611686018427387904 := by omega
        by_cases h4 : n ≤ 4611686018427387904
        · have h4' : ¬ 4611686018427387904 < n := by omega
          have q3 := f36 n.natAbs d.natAbs (by omega) (by omega)
          rw [eW_small (W := n.natAbs) (by omega), eW_small (W := d.natAbs) (by omega)] at q3
          by_cases hg : Nat.gcd n.natAbs d.natAbs = 1
          · have hv : validF (n, d) := ⟨h1, h2, h3, h4, hg⟩
            rw [hg] at q3
            have e1 : eW 1 = .agg [.int .u64 0, .int .u64 1] := rfl
            rw [e1] at q3
            generalize n.natAbs = x at *
            generalize d.natAbs = y at *
            simp [evCode, evOps, evOne, evOp, evPur, evEff, evPur.chunks, fillP, AOp.isEff, AO.ev, putP, PV.cells, PV.leaf, getB, getM, mapE, iterE, keyC, mapRows, mfind, eq1, eqL, scal, binP, unP, minP, maxP, foldP, PV.lt, PV.lt.ltL, endP, expoAll, expoG, expo, expo.expoL, frIds, frIds.frIdsL, nodupN, kill, cls, clsFuel, resO, RV.get, loadP, evC_p, evC_s, endS, endT, rowsOf, callP, thinL, unfr, unfr.unfrL, PV.noMem, PV.noMem.noMemL, optI, mapO, norm, trimT, trimB, forget, hasN, blksLt, List.set, softChk, softGo, softRd, effTg, rdP, eF, h1', h2', h3', h4', q1, q2, q3, hv]
          · have hv : ¬ validF (n, d) := fun h => hg h.2.2.2.2
            have hne : ¬ (hW (Nat.gcd n.natAbs d.natAbs) = 0 ∧ lW (Nat.gcd n.natAbs d.natAbs) = 1) := by unfold hW lW; omega
            rw [eW_eq] at q3
            generalize n.natAbs = x at *
            generalize d.natAbs = y at *
            generalize hW (Nat.gcd x y) = z1 at *
            generalize lW (Nat.gcd x y) = z2 at *
            by_cases k1 : z1 = 0
            · have k2 : ¬ z2 = 1 := fun h => hne ⟨k1, h⟩
              subst k1
              simp [evCode, evOps, evOne, evOp, evPur, evEff, evPur.chunks, fillP, AOp.isEff, AO.ev, putP, PV.cells, PV.leaf, getB, getM, mapE, iterE, keyC, mapRows, mfind, eq1, eqL, scal, binP, unP, minP, maxP, foldP, PV.lt, PV.lt.ltL, endP, expoAll, expoG, expo, expo.expoL, frIds, frIds.frIdsL, nodupN, kill, cls, clsFuel, resO, RV.get, loadP, evC_p, evC_s, endS, endT, rowsOf, callP, thinL, unfr, unfr.unfrL, PV.noMem, PV.noMem.noMemL, optI, mapO, norm, trimT, trimB, forget, hasN, blksLt, List.set, softChk, softGo, softRd, effTg, rdP, eF, h1', h2', h3', h4', q1, q2, q3, hv, k2]
            · simp [evCode, evOps, evOne, evOp, evPur, evEff, evPur.chunks, fillP, AOp.isEff, AO.ev, putP, PV.cells, PV.leaf, getB, getM, mapE, iterE, keyC, mapRows, mfind, eq1, eqL, scal, binP, unP, minP, maxP, foldP, PV.lt, PV.lt.ltL, endP, expoAll, expoG, expo, expo.expoL, frIds, frIds.frIdsL, nodupN, kill, cls, clsFuel, resO, RV.get, loadP, evC_p, evC_s, endS, endT, rowsOf, callP, thinL, unfr, unfr.unfrL, PV.noMem, PV.noMem.noMemL, optI, mapO, norm, trimT, trimB, forget, hasN, blksLt, List.set, softChk, softGo, softRd, effTg, rdP, eF, h1', h2', h3', h4', q1, q2, q3, hv, k1]
        · have hv : ¬ validF (n, d) := fun h => h4 h.2.2.2.1
          have h4' : 4611686018427387904 < n := by omega
          simp [evCode, evOps, evOne, evOp, evPur, evEff, evPur.chunks, fillP, AOp.isEff, AO.ev, putP, PV.cells, PV.leaf, getB, getM, mapE, iterE, keyC, mapRows, mfind, eq1, eqL, scal, binP, unP, minP, maxP, foldP, PV.lt, PV.lt.ltL, endP, expoAll, expoG, expo, expo.expoL, frIds, frIds.frIdsL, nodupN, kill, cls, clsFuel, resO, RV.get, loadP, evC_p, evC_s, endS, endT, rowsOf, callP, thinL, unfr, unfr.unfrL, PV.noMem, PV.noMem.noMemL, optI, mapO, norm, trimT, trimB, forget, hasN, blksLt, List.set, softChk, softGo, softRd, effTg, rdP, eF, h1', h2', h3', h4', hv]
      · have hv : ¬ validF (n, d) := fun h => h3 h.2.2.1
        have h3' : n < -4611686018427387904 := by omega
        simp [evCode, evOps, evOne, evOp, evPur, evEff, evPur.chunks, fillP, AOp.isEff, AO.ev, putP, PV.cells, PV.leaf, getB, getM, mapE, iterE, keyC, mapRows, mfind, eq1, eqL, scal, binP, unP, minP, maxP, foldP, PV.lt, PV.lt.ltL, endP, expoAll, expoG, expo, expo.expoL, frIds, frIds.frIdsL, nodupN, kill, cls, clsFuel, resO, RV.get, loadP, evC_p, evC_s, endS, endT, rowsOf, callP, thinL, unfr, unfr.unfrL, PV.noMem, PV.noMem.noMemL, optI, mapO, norm, trimT, trimB, forget, hasN, blksLt, List.set, softChk, softGo, softRd, effTg, rdP, eF, h1', h2', h3', hv]
    · have hv : ¬ validF (n, d) := fun h => h2 h.2.1
      have h2' : 1000000000000000 < d := by omega
      simp [evCode, evOps, evOne, evOp, evPur, evEff, evPur.chunks, fillP, AOp.isEff, AO.ev, putP, PV.cells, PV.leaf, getB, getM, mapE, iterE, keyC, mapRows, mfind, eq1, eqL, scal, binP, unP, minP, maxP, foldP, PV.lt, PV.lt.ltL, endP, expoAll, expoG, expo, expo.expoL, frIds, frIds.frIdsL, nodupN, kill, cls, clsFuel, resO, RV.get, loadP, evC_p, evC_s, endS, endT, rowsOf, callP, thinL, unfr, unfr.unfrL, PV.noMem, PV.noMem.noMemL, optI, mapO, norm, trimT, trimB, forget, hasN, blksLt, List.set, softChk, softGo, softRd, effTg, rdP, eF, h1', h2', hv]
  · have hv : ¬ validF (n, d) := fun h => h1 h.1
    have h1' : d < 1 := by omega
    simp [evCode, evOps, evOne, evOp, evPur, evEff, evPur.chunks, fillP, AOp.isEff, AO.ev, putP, PV.cells, PV.leaf, getB, getM, mapE, iterE, keyC, mapRows, mfind, eq1, eqL, scal, binP, unP, minP, maxP, foldP, PV.lt, PV.lt.ltL, endP, expoAll, expoG, expo, expo.expoL, frIds, frIds.frIdsL, nodupN, kill, cls, clsFuel, resO, RV.get, loadP, evC_p, evC_s, endS, endT, rowsOf, callP, thinL, unfr, unfr.unfrL, PV.noMem, PV.noMem.noMemL, optI, mapO, norm, trimT, trimB, forget, hasN, blksLt, List.set, softChk, softGo, softRd, effTg, rdP, eF, h1', hv]
theorem f12 (n d : Int) (hn : i64 n) (hd : i64 d) : evE Dg 12 [.int .i64 n, .int .i64 d] = some (eR (ofS n d)) := by
  obtain ⟨n1, n2⟩ := hn
  obtain ⟨d1, d2⟩ := hd
  have q1 := f35 n n1 n2
  have q2 := f35 d d1 d2
  refine evE_intro 1 D12 rfl ?_
  unfold c12 ofS
  by_cases h0 : d = 0
  · subst h0
    simp [evCode, evOps, evOne, evOp, evPur, evEff, evPur.chunks, fillP, AOp.isEff, AO.ev, putP, PV.cells, PV.leaf, getB, getM, mapE, iterE, keyC, mapRows, mfind, eq1, eqL, scal, binP, unP, minP, maxP, foldP, PV.lt, PV.lt.ltL, endP, expoAll, expoG, expo, expo.expoL, frIds, frIds.frIdsL, nodupN, kill, cls, clsFuel, resO, RV.get, loadP, evC_p, evC_s, endS, endT, rowsOf, callP, thinL, unfr, unfr.unfrL, PV.noMem, PV.noMem.noMemL, optI, mapO, norm, trimT, trimB, forget, hasN, blksLt, List.set, softChk, softGo, softRd, effTg, rdP, eR, eF]
  · have q3 := fun b => f34 b n.natAbs d.natAbs (by omega) (by omega) (by omega)
    rw [eW_small (W := d.natAbs) (by omega)] at q3
    simp only [eG_eq, hW_small (W := n.natAbs) (by omega), lW_small (W := n.natAbs) (by omega)] at q3
    rw [if_neg h0]
    generalize n.natAbs = x at *
    generalize d.natAbs = y at *
    have q5 := q3 true
    have q6 := q3 false
    clear q3
    by_cases s1 : n < 0 <;> by_cases s2 : d < 0 <;> simp only [s1, s2, decide_true, decide_false, bne_self_eq_false, Bool.true_bne, Bool.false_bne, Bool.not_true, Bool.not_false]
    all_goals
      generalize made true x y = r at *
      generalize made false x y = r' at *
      obtain ⟨⟨r1, r2⟩, r3⟩ := r
      obtain ⟨⟨r4, r5⟩, r6⟩ := r'
      simp only [eR, eF] at q5 q6 ⊢
      simp [evCode, evOps, evOne, evOp, evPur, evEff, evPur.chunks, fillP, AOp.isEff, AO.ev, putP, PV.cells, PV.leaf, getB, getM, mapE, iterE, keyC, mapRows, mfind, eq1, eqL, scal, binP, unP, minP, maxP, foldP, PV.lt, PV.lt.ltL, endP, expoAll, expoG, expo, expo.expoL, frIds, frIds.frIdsL, nodupN, kill, cls, clsFuel, resO, RV.get, loadP, evC_p, evC_s, endS, endT, rowsOf, callP, thinL, unfr, unfr.unfrL, PV.noMem, PV.noMem.noMemL, optI, mapO, norm, trimT, trimB, forget, hasN, blksLt, List.set, softChk, softGo, softRd, effTg, rdP, h0, s1, s2, q1, q2, q5, q6]
end Go.Proofs.YtddglikicokpeaaDoor
