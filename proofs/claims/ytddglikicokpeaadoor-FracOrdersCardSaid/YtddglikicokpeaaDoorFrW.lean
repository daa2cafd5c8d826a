/- FracOrders. -/
import Derived.Test.YtddglikicokpeaaDoorFrV
namespace Go.Proofs.YtddglikicokpeaaDoor
open Go Go.RowKit
set_option linter.unusedVariables false
set_option linter.unusedSimpArgs false
set_option maxHeartbeats 8000000

theorem f26 (n : Int) : evE Dg 26 [.int .i64 n] = some (.int .i64 (sgI n)) := by
  refine evE_intro 1 D26 rfl ?_
  unfold c26 sgI
  by_cases h : n < 0
  · simp [evCode, evOps, evOne, evOp, evPur, evEff, evPur.chunks, fillP, AOp.isEff, AO.ev, putP, PV.cells, PV.leaf, getB, getM, mapE, iterE, keyC, mapRows, mfind, eq1, eqL, scal, binP, unP, minP, maxP, foldP, PV.lt, PV.lt.ltL, endP, expoAll, expoG, expo, expo.expoL, frIds, frIds.frIdsL, nodupN, kill, cls, clsFuel, resO, RV.get, loadP, evC_p, evC_s, endS, endT, rowsOf, callP, thinL, unfr, unfr.unfrL, PV.noMem, PV.noMem.noMemL, optI, mapO, norm, trimT, trimB, forget, hasN, blksLt, List.set, softChk, softGo, softRd, effTg, rdP, h]
  · by_cases h0 : n = 0
    · subst h0; simp [evCode, evOps, evOne, evOp, evPur, evEff, evPur.chunks, fillP, AOp.isEff, AO.ev, putP, PV.cells, PV.leaf, getB, getM, mapE, iterE, keyC, mapRows, mfind, eq1, eqL, scal, binP, unP, minP, maxP, foldP, PV.lt, PV.lt.ltL, endP, expoAll, expoG, expo, expo.expoL, frIds, frIds.frIdsL, nodupN, kill, cls, clsFuel, resO, RV.get, loadP, evC_p, evC_s, endS, endT, rowsOf, callP, thinL, unfr, unfr.unfrL, PV.noMem, PV.noMem.noMemL, optI, mapO, norm, trimT, trimB, forget, hasN, blksLt, List.set, softChk, softGo, softRd, effTg, rdP]
    · have h1 : 0 < n := by omega
      simp [evCode, evOps, evOne, evOp, evPur, evEff, evPur.chunks, fillP, AOp.isEff, AO.ev, putP, PV.cells, PV.leaf, getB, getM, mapE, iterE, keyC, mapRows, mfind, eq1, eqL, scal, binP, unP, minP, maxP, foldP, PV.lt, PV.lt.ltL, endP, expoAll, expoG, expo, expo.expoL, frIds, frIds.frIdsL, nodupN, kill, cls, clsFuel, resO, RV.get, loadP, evC_p, evC_s, endS, endT, rowsOf, callP, thinL, unfr, unfr.unfrL, PV.noMem, PV.noMem.noMemL, optI, mapO, norm, trimT, trimB, forget, hasN, blksLt, List.set, softChk, softGo, softRd, effTg, rdP, h, h0, h1]
theorem cmp_self (a : Fr) : cmpS a a = 0 := (cmp_rat a a).2.1.2 rfl
theorem cmp_anti (a b : Fr) : cmpS b a = - cmpS a b := by
  obtain ⟨h1, h2, h3, h4⟩ := cmp_rat a b
  obtain ⟨k1, k2, k3, k4⟩ := cmp_rat b a
  rcases h4 with h | h | h
  · rw [h, k3.2 (h1.1 h)]; rfl
  · rw [h, k2.2 (h2.1 h).symm]; rfl
  · rw [h, k1.2 (h3.1 h)]
theorem cmp_trans {a b c : Fr} (h1 : cmpS a b ≤ 0) (h2 : cmpS b c ≤ 0) : ¬ 0 < cmpS a c := by
  have le : ∀ {x y : Fr}, cmpS x y ≤ 0 → R (usual x) ≤ R (usual y) := by
    intro x y h
    obtain ⟨k1, k2, k3, k4⟩ := cmp_rat x y
    have : ¬ R (usual y) < R (usual x) := fun e => by have := k3.2 e; omega
    exact Rat.not_lt.1 this
  have h := Rat.le_trans (le h1) (le h2)
  obtain ⟨k1, k2, k3, k4⟩ := cmp_rat a c
  intro h0
  have : cmpS a c = 1 := by omega
  exact Rat.not_lt.2 h (k3.1 this)
theorem R_inj {a b : Fr} (ha : validF a) (hb : validF b) (h : R a = R b) : a = b := by
  obtain ⟨a1, a2⟩ := R_num ha
  obtain ⟨b1, b2⟩ := R_num hb
  rw [h] at a1 a2
  exact Prod.ext (a1.symm.trans b1) (a2.symm.trans b2)
theorem cmp_eq {a b : Fr} (ha : validF a) (hb : validF b) : cmpS a b = 0 ↔ a = b := by
  have ua : usual a = a := if_pos ha
  have ub : usual b = b := if_pos hb
  have h := (cmp_rat a b).2.1
  rw [ua, ub] at h
  rw [h]
  exact ⟨R_inj ha hb, fun e => by rw [e]⟩
theorem cmp_sub {a b : Fr} (h : (subS a b).2 = true) : cmpS a b = sgI (subS a b).1.1 := by
  have hb : validF b := by
    by_cases hb : validF b
    · exact hb
    · unfold subS at h; rw [if_neg hb] at h; cases h
  have ha : validF a := by
    unfold subS at h
    rw [if_pos hb] at h
    exact (addS_ok h).1
  rw [subS_val ha hb] at h ⊢
  obtain ⟨_, _, e⟩ := toF_ok h
  rw [e]
  have ua : usual a = a := if_pos ha
  have ub : usual b = b := if_pos hb
  obtain ⟨k1, k2, k3, k4⟩ := cmp_rat a b
  rw [ua, ub] at k1 k2 k3
  have hnn : 0 ≤ (R a - R b).num ↔ R b ≤ R a := by rw [Rat.num_nonneg, ← Rat.le_iff_sub_nonneg]
  have hnz : (R a - R b).num = 0 ↔ R a = R b := by
    rw [Rat.num_eq_zero]
    constructor
    · intro h
      have h2 : R a - R b + R b = 0 + R b := by rw [h]
      rwa [Rat.zero_add, Rat.sub_eq_add_neg, Rat.add_assoc, Rat.neg_add_cancel, Rat.add_zero] at h2
    · intro h
      rw [h, Rat.sub_eq_add_neg, Rat.add_neg_cancel]
  simp only
  unfold sgI
  rcases k4 with k | k | k
  · have h1 : ¬ 0 ≤ (R a - R b).num := fun h => Rat.not_le.2 (k1.1 k) (hnn.1 h)
    rw [k, if_pos (by omega)]
  · have h1 := hnz.2 (k2.1 k)
    rw [k, h1]
    rfl
  · have h1 : 0 ≤ (R a - R b).num := hnn.2 (Rat.le_of_lt (k3.1 k))
    have h2 : ¬ (R a - R b).num = 0 := fun h => by
      have := hnz.1 h
      have := k2.2 this
      omega
    rw [k, if_neg (by omega), if_neg h2]
theorem sub64 (a b : Fr) : i64F (subS a b).1 := by
  unfold subS
  split
  · exact add64 _ _
  · exact zero64
end Go.Proofs.YtddglikicokpeaaDoor
