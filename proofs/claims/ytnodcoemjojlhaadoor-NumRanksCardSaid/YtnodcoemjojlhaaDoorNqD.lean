/- num: both Quantiles. -/
import Derived.Test.YtnodcoemjojlhaaDoorNqC
namespace Go.Proofs.YtnodcoemjojlhaaDoor
open Go Go.RowKit
set_option linter.unusedVariables false
set_option linter.unusedSimpArgs false
set_option maxHeartbeats 8000000

theorem pair_get {s : List Int} (h : s.Pairwise (fun a b => decide (a ≤ b) = true)) {i j : Nat} {a b : Int} (hij : i < j) (hi : s[i]? = some a) (hj : s[j]? = some b) : a ≤ b := by
  obtain ⟨h1, e1⟩ := List.getElem?_eq_some_iff.1 hi
  obtain ⟨h2, e2⟩ := List.getElem?_eq_some_iff.1 hj
  have := List.pairwise_iff_getElem.1 h i j h1 h2 hij
  rw [e1, e2] at this
  simpa using this
theorem cnt_perm (zs : List Int) (a : Int) : cnt (sortZ zs) a = cnt zs a := (sortZ_perm zs).countP_eq _
/-- as many as stand before it, and itself -/
theorem cnt_ge {zs : List Int} {k : Nat} {v : Int} (hk : (sortZ zs)[k]? = some v) : k + 1 ≤ cnt zs v := by
  rw [← cnt_perm]
  have hlt := (List.getElem?_eq_some_iff.1 hk).1
  have e : sortZ zs = (sortZ zs).take (k + 1) ++ (sortZ zs).drop (k + 1) := (List.take_append_drop ..).symm
  unfold cnt
  rw [e, List.countP_append]
  have : ((sortZ zs).take (k + 1)).countP (fun z => decide (z ≤ v)) = ((sortZ zs).take (k + 1)).length := by
    rw [List.countP_eq_length]
    intro z hz
    obtain ⟨j, hj⟩ := List.mem_iff_getElem?.1 hz
    have hj2 : j < k + 1 := by
      have := (List.getElem?_eq_some_iff.1 hj).1
      rw [List.length_take] at this; omega
    rw [List.getElem?_take_of_lt hj2] at hj
    rcases Nat.lt_or_ge j k with h | h
    · have := pair_get (sortZ_sorted zs) h hj hk
      simpa using this
    · have : j = k := by omega
      subst this
      rw [hk] at hj
      cases hj
      simp
  rw [this, List.length_take]
  omega
/-- what is smaller has no more than stand before it -/
theorem cnt_lt {zs : List Int} {k : Nat} {v a : Int} (hk : (sortZ zs)[k]? = some v) (ha : a < v) : cnt zs a ≤ k := by
  rw [← cnt_perm]
  have hlt := (List.getElem?_eq_some_iff.1 hk).1
  have e : sortZ zs = (sortZ zs).take k ++ (sortZ zs).drop k := (List.take_append_drop ..).symm
  unfold cnt
  rw [e, List.countP_append]
  have : ((sortZ zs).drop k).countP (fun z => decide (z ≤ a)) = 0 := by
    rw [List.countP_eq_zero]
    intro z hz
    obtain ⟨j, hj⟩ := List.mem_iff_getElem?.1 hz
    rw [List.getElem?_drop] at hj
    have : v ≤ z := by
      cases j with
      | zero => simp only [Nat.add_zero] at hj; rw [hk] at hj; cases hj; omega
      | succ j => exact pair_get (sortZ_sorted zs) (by omega) hk hj
    simp; omega
  rw [this]
  have := List.countP_le_length (p := fun z => decide (z ≤ a)) (l := (sortZ zs).take k)
  rw [List.length_take] at this
  omega
theorem qAt_lt (P N K : Nat) (hN : 1 ≤ N) (hK : 1 ≤ K) (hP : P ≤ K) : qAt P N K < N := by
  have h1 := Nat.div_add_mod (P * N) K
  have h2 := Nat.mod_lt (P * N) (show 0 < K by omega)
  have h3 : P * N ≤ K * N := Nat.mul_le_mul_right _ hP
  unfold qAt
  generalize P * N / K = Q at *
  generalize P * N % K = R at *
  have hQ : Q ≤ N := by
    have : K * Q ≤ K * N := by omega
    exact Nat.le_of_mul_le_mul_left this (by omega)
  by_cases r0 : R = 0
  · rw [if_pos r0]; omega
  · rw [if_neg r0]
    have : Q < N := by
      have : K * Q < K * N := by omega
      exact Nat.lt_of_mul_lt_mul_left this
    omega
/-- the one that stands at its place qualifies -/
theorem qAt_qual {zs : List Int} {P K : Nat} {v : Int} (hK : 1 ≤ K) (hk : (sortZ zs)[qAt P zs.length K]? = some v) : qual zs P K v := by
  have hc := cnt_ge hk
  unfold qual
  have h1 := Nat.div_add_mod (P * zs.length) K
  have h2 := Nat.mod_lt (P * zs.length) (show 0 < K by omega)
  have h3 : K * (qAt P zs.length K + 1) ≤ K * cnt zs v := Nat.mul_le_mul_left _ hc
  refine Nat.le_trans ?_ h3
  unfold qAt
  generalize P * zs.length / K = Q at *
  generalize P * zs.length % K = R at *
  by_cases r0 : R = 0
  · rw [if_pos r0]
    have : K * Q ≤ K * (max (Q + 0) 1 - 1 + 1) := Nat.mul_le_mul_left _ (by omega)
    omega
  · rw [if_neg r0]
    have : K * (Q + 1) ≤ K * (max (Q + 1) 1 - 1 + 1) := Nat.mul_le_mul_left _ (by omega)
    rw [Nat.mul_add] at this
    omega
theorem qAt_min {zs : List Int} {P K : Nat} {v a : Int} (hK : 1 ≤ K) (hk : (sortZ zs)[qAt P zs.length K]? = some v) (ha : a ∈ zs) (hq : qual zs P K a) : v ≤ a := by
  apply Decidable.byContradiction
  intro hlt
  have hc := cnt_lt hk (show a < v by omega)
  have hpos : 1 ≤ cnt zs a := by
    unfold cnt
    exact List.countP_pos_iff.2 ⟨a, ha, by simp⟩
  unfold qual at hq
  have h1 := Nat.div_add_mod (P * zs.length) K
  have h2 := Nat.mod_lt (P * zs.length) (show 0 < K by omega)
  have h3 : K * cnt zs a ≤ K * qAt P zs.length K := Nat.mul_le_mul_left _ hc
  unfold qAt at hc h3
  generalize P * zs.length / K = Q at *
  generalize P * zs.length % K = R at *
  by_cases r0 : R = 0
  · rw [if_pos r0, Nat.add_zero] at hc h3
    have : K * (max Q 1 - 1) + K ≤ K * Q := by
      have : K * (max Q 1 - 1 + 1) ≤ K * Q := Nat.mul_le_mul_left _ (by omega)
      rw [Nat.mul_add] at this
      omega
    omega
  · rw [if_neg r0] at hc h3
    have e : max (Q + 1) 1 - 1 = Q := by omega
    rw [e] at h3
    omega
theorem best_eq {zs : List Int} {P K : Nat} {v b : Int} {f : Bool} (hK : 1 ≤ K) (hk : (sortZ zs)[qAt P zs.length K]? = some v) (h : BestI zs P K zs.length b f) : b = v := by
  have hv := qAt_qual hK hk
  have hm : v ∈ zs := (sortZ_perm zs).mem_iff.1 (List.mem_of_getElem? hk)
  unfold BestI at h
  rw [List.take_length] at h
  rcases h with ⟨_, h2⟩ | ⟨_, h2, h3, h4⟩
  · exact absurd hv (h2 v hm)
  · have e1 := h4 v hm hv
    have e2 := qAt_min hK hk h2 h3
    omega
set_option maxRecDepth 100000 in
theorem f22_good (x : Bool) (zs : List Int) (P K : Nat) (hz : 0 < zs.length) (hN : zs.length ≤ 60) (hK : 1 ≤ K ∧ K ≤ 1000000000000000) (hP : P ≤ K) (a : Int) (ha : (sortZ zs)[qAt P zs.length K]? = some a) :
    evE Dg 22 [eZ x zs, .int .i64 P, .int .i64 K] = some (.tup [.int .i64 a, .bool true]) := by
  have O := outer x zs P K hN hK.2 hP
  obtain ⟨N, hNN⟩ := ex_eq zs.length
  have hlz : (intRows zs).length = N := by simp [intRows, hNN]
  have k1 : ¬ (K : Int) < 1 := by omega
  have k2 : ¬ (1000000000000000 : Int) < K := by omega
  have k3 : ¬ (P : Int) < 0 := by omega
  have k4 : ¬ (K : Int) < P := by omega
  have k5 : ¬ K < P := by omega
  have k6 : ¬ K = 0 := by omega
  have k7 : ¬ 1000000000000000 < K := by omega
  have k8 : ¬ N = 0 := by omega
  have k9 : ¬ (N : Int) = 0 := by omega
  have nN : ¬ N < N := by omega
  refine evE_intro 70 D22 rfl ?_
  unfold c22
  simp [evCode, evOps, evOne, evOp, evPur, evEff, evPur.chunks, fillP, AOp.isEff, AO.ev, putP, PV.cells, PV.leaf, getB, getM, mapE, keyC, mapRows, mfind, eq1, eqL, scal, binP, unP, minP, maxP, foldP, PV.lt, PV.lt.ltL, endP, expoAll, expo, expo.expoL, frIds, frIds.frIdsL, nodupN, kill, cls, clsFuel, resO, RV.get, loadP, evC_p, evC_s, endS, endT, rowsOf, callP, thinL, unfr, unfr.unfrL, PV.noMem, PV.noMem.noMemL, optI, mapO, norm, trimT, trimB, forget, hasN, blksLt, List.set, eZ, hlz, k1, k2, k3, k4, k5, k6, k7, k8, k9]
  generalize hE : evLoop _ _ _ _ _ = E
  obtain ⟨b, f, hb, g⟩ := O _ _ hE (by simp [evCode, evOps, evOne, evOp, evPur, evEff, evPur.chunks, fillP, AOp.isEff, AO.ev, putP, PV.cells, PV.leaf, getB, getM, mapE, keyC, mapRows, mfind, eq1, eqL, scal, binP, unP, minP, maxP, foldP, PV.lt, PV.lt.ltL, endP, expoAll, expo, expo.expoL, frIds, frIds.frIdsL, nodupN, kill, cls, clsFuel, resO, RV.get, loadP, evC_p, evC_s, endS, endT, rowsOf, callP, thinL, unfr, unfr.unfrL, PV.noMem, PV.noMem.noMemL, optI, mapO, norm, trimT, trimB, forget, hasN, blksLt, List.set, To, eZ])
  have hbv := best_eq hK.1 ha hb
  subst hbv
  rw [g, hNN]
  unfold c22b1
  simp [evCode, evOps, evOne, evOp, evPur, evEff, evPur.chunks, fillP, AOp.isEff, AO.ev, putP, PV.cells, PV.leaf, getB, getM, mapE, keyC, mapRows, mfind, eq1, eqL, scal, binP, unP, minP, maxP, foldP, PV.lt, PV.lt.ltL, endP, expoAll, expo, expo.expoL, frIds, frIds.frIdsL, nodupN, kill, cls, clsFuel, resO, RV.get, loadP, evC_p, evC_s, endS, endT, rowsOf, callP, thinL, unfr, unfr.unfrL, PV.noMem, PV.noMem.noMemL, optI, mapO, norm, trimT, trimB, forget, hasN, blksLt, List.set, To, eZ, hlz]
end Go.Proofs.YtnodcoemjojlhaaDoor
