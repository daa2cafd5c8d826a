/- num: Clone, Quantile. -/
import Derived.Test.YtnodcoemjojlhaaDoorNuE
namespace Go.Proofs.YtnodcoemjojlhaaDoor
open Go Go.RowKit
set_option linter.unusedVariables false
set_option linter.unusedSimpArgs false
set_option maxHeartbeats 8000000

def eZ (x : Bool) (zs : List Int) : PV := .sl x 1 (intRows zs)
theorem rows_flat (r : List Int) : r.all (PV.lt.ltL 0 ∘ fun z => [PV.int IntKind.i64 z]) = true := by
  rw [List.all_eq_true]
  intro z _
  simp [PV.lt, PV.lt.ltL]
theorem f32 (x : Bool) (z0 : Int) (r : List Int) (h : r.length ≤ 1000) : evE Dg 32 [eZ x (z0 :: r)] = some (.fr 1 (intRows (z0 :: r))) := by
  refine evE_intro 1 D32 rfl ?_
  unfold c32
  have h1 : (r.length + 1) * 8 ≤ 140737488355328 := by omega
  have h2 : r.length ≤ 140737488355327 := by omega
  have h3 := rows_flat r
  simp [evCode, evOps, evOne, evOp, evPur, evEff, evPur.chunks, fillP, AOp.isEff, AO.ev, putP, PV.cells, PV.leaf, getB, getM, mapE, keyC, mapRows, mfind, eq1, eqL, scal, binP, unP, minP, maxP, foldP, PV.lt, PV.lt.ltL, endP, expoAll, expo, expo.expoL, frIds, frIds.frIdsL, nodupN, kill, cls, clsFuel, resO, RV.get, loadP, evC_p, evC_s, endS, endT, rowsOf, callP, thinL, unfr, unfr.unfrL, PV.noMem, PV.noMem.noMemL, optI, mapO, norm, trimT, trimB, forget, hasN, blksLt, List.set, eZ, intRows, h1, h2, h3]
theorem s33 (zs : List Int) (v : Nat) (fl : Bool) (h0 : 0 < zs.length) (h1 : zs.length < 1000000) : evS Dg 33 [.own 0 v 0 zs.length] [some ⟨v, 1, fl, intRows zs⟩] = some (.tup [], [some ⟨v, 1, fl, intRows (sortZ zs)⟩]) := by
  refine evS_ext D33 rfl ?_
  simp only [xSort, getB, List.getElem?_cons_zero]
  rw [if_pos (by simp [mapE])]
  simp only
  rw [if_pos (by simp [intRows, h1]; omega), intsOf_rows]
  rfl
/-- the place of a quantile -/
def qAt (P N K : Nat) : Nat := max (P * N / K + (if P * N % K = 0 then 0 else 1)) 1 - 1
theorem f32z (x : Bool) (zs : List Int) (h0 : 0 < zs.length) (h : zs.length ≤ 1000) : evE Dg 32 [eZ x zs] = some (.fr 1 (intRows zs)) := by
  cases zs with
  | nil => simp at h0
  | cons z0 r => exact f32 x z0 r (by simp at h; omega)
set_option maxRecDepth 100000 in
theorem f21_good (x : Bool) (zs : List Int) (P K : Nat) (hz : 0 < zs.length) (hN : zs.length ≤ 60) (hK : 1 ≤ K ∧ K ≤ 1000000000000000) (hP : P ≤ K) (a : Int) (ha : (sortZ zs)[qAt P zs.length K]? = some a) :
    evE Dg 21 [eZ x zs, .int .i64 P, .int .i64 K] = some (.tup [.int .i64 a, .bool true]) := by
  have h32 := f32z x zs hz (by omega)
  have hlz : (intRows zs).length = zs.length := by simp [intRows]
  obtain ⟨N, hNN⟩ := ex_eq zs.length
  have hs := s33 zs N true hz (by omega)
  rw [hNN] at ha hs hN
  have hN0 : 1 ≤ N := by omega
  rw [hNN] at hlz
  simp only [eZ] at h32
  have iv : impV 0 (PV.fr 1 (intRows zs)) = .own 0 N 0 N := by simp [impV, hlz]
  have ib : impB (PV.fr 1 (intRows zs)) = [⟨N, 1, true, intRows zs⟩] := by simp [impB, hlz]
  have hPN : P * N ≤ 1000000000000000 * 60 := Nat.mul_le_mul (by omega) hN
  have h28 := f28 P N (by omega) (by omega)
  have d0 : P * N / 18446744073709551616 = 0 := Nat.div_eq_of_lt (by omega)
  have d1 : P * N % 18446744073709551616 = P * N := Nat.mod_eq_of_lt (by omega)
  rw [d0, d1] at h28
  have h30 := f30 0 (P * N) K (by omega) (by omega) (by omega)
  simp only [Nat.zero_mul, Nat.zero_add] at h30
  obtain ⟨M, hM⟩ := ex_eq (P * N)
  have hle : P * N / K ≤ N := by
    have : P * N ≤ N * K := by rw [Nat.mul_comm]; exact Nat.mul_le_mul_left _ hP
    exact Nat.div_le_of_le_mul (by rw [Nat.mul_comm K]; exact this)
  have hdm := Nat.div_add_mod (P * N) K
  unfold qAt at ha
  rw [hM] at h28 h30 hle ha hPN hdm
  obtain ⟨Q, hQ⟩ := ex_eq (M / K)
  obtain ⟨R, hR⟩ := ex_eq (M % K)
  rw [hQ, hR] at h30
  rw [hQ, hR] at ha
  rw [hQ] at hle
  have h30z : evE Dg 30 [.int .u64 0, .int .u64 M, .int .u64 K] = some (.tup [.int .u64 (Q : Nat), .int .u64 (R : Nat)]) := h30
  have wp : IntKind.u64.wrap (P : Int) = P := wrap_u64 _ (by omega) (by omega)
  have wk : IntKind.u64.wrap (K : Int) = K := wrap_u64 _ (by omega) (by omega)
  have wn : IntKind.u64.wrap (N : Int) = N := wrap_u64 _ (by omega) (by omega)
  have k1 : ¬ (K : Int) < 1 := by omega
  have k2 : ¬ (1000000000000000 : Int) < K := by omega
  have k3 : ¬ (P : Int) < 0 := by omega
  have k4 : ¬ (K : Int) < P := by omega
  have k5 : ¬ K < P := by omega
  have k6 : ¬ K = 0 := by omega
  have k8 : ¬ N = 0 := by omega
  have k9 : ¬ (N : Int) = 0 := by omega
  have k7 : ¬ 1000000000000000 < K := by omega
  have wq := wrap_u64 ((Q : Int) + 1) (by omega) (by omega)
  have hls : (intRows (sortZ zs)).length = N := by simp [intRows, sortZ_len, hNN]
  have hgt : ∀ k, (sortZ zs)[k]? = some a → (intRows (sortZ zs))[k]? = some [PV.int .i64 a] := fun k hk => by unfold intRows; rw [List.getElem?_map, hk]; rfl
  have fin : ∀ k, (sortZ zs)[k]? = some a → k < N ∧ (∀ h, (intRows (sortZ zs))[k]'h = [PV.int .i64 a]) := fun k hk => by
    have h1 := hgt k hk
    have h2 := (List.getElem?_eq_some_iff.1 hk).1
    rw [sortZ_len, hNN] at h2
    exact ⟨h2, fun h => by rw [List.getElem?_eq_getElem h] at h1; exact Option.some.inj h1⟩
  by_cases r0 : R = 0
  · subst r0
    rw [if_pos rfl, Nat.add_zero] at ha
    obtain ⟨k, hk⟩ := ex_eq (max Q 1 - 1)
    rw [hk] at ha
    obtain ⟨f1, f2⟩ := fin k ha
    have f3 := hgt k ha
    have hw : IntKind.u64.wrap ((if (Q : Int) < 1 then 1 else (Q : Int)) - 1) = (k : Nat) := by
      rw [wrap_u64 _ (by split <;> omega) (by split <;> omega)]
      split <;> omega
    have f4 : (k : Int) < N := by omega
    refine evE_intro 1 D21 rfl ?_
    unfold c21
    simp [evCode, evOps, evOne, evOp, evPur, evEff, evPur.chunks, fillP, AOp.isEff, AO.ev, putP, PV.cells, PV.leaf, getB, getM, mapE, keyC, mapRows, mfind, eq1, eqL, scal, binP, unP, minP, maxP, foldP, PV.lt, PV.lt.ltL, endP, expoAll, expo, expo.expoL, frIds, frIds.frIdsL, nodupN, kill, cls, clsFuel, resO, RV.get, loadP, evC_p, evC_s, endS, endT, rowsOf, callP, thinL, unfr, unfr.unfrL, PV.noMem, PV.noMem.noMemL, optI, mapO, norm, trimT, trimB, forget, hasN, blksLt, List.set, eZ, hlz, hls, h32, iv, ib, hs, h28, h30z, wp, wk, wn, k1, k2, k3, k4, k5, k6, k7, k8, k9, wq, hw, f1, f2, f3, f4]
  · rw [if_neg r0] at ha
    have r1 : 0 < R := by omega
    obtain ⟨k, hk⟩ := ex_eq (max (Q + 1) 1 - 1)
    rw [hk] at ha
    obtain ⟨f1, f2⟩ := fin k ha
    have f3 := hgt k ha
    have hw : IntKind.u64.wrap ((if (Q : Int) + 1 < 1 then 1 else (Q : Int) + 1) - 1) = (k : Nat) := by
      rw [wrap_u64 _ (by split <;> omega) (by split <;> omega)]
      split <;> omega
    have f4 : (k : Int) < N := by omega
    refine evE_intro 1 D21 rfl ?_
    unfold c21
    simp [evCode, evOps, evOne, evOp, evPur, evEff, evPur.chunks, fillP, AOp.isEff, AO.ev, putP, PV.cells, PV.leaf, getB, getM, mapE, keyC, mapRows, mfind, eq1, eqL, scal, binP, unP, minP, maxP, foldP, PV.lt, PV.lt.ltL, endP, expoAll, expo, expo.expoL, frIds, frIds.frIdsL, nodupN, kill, cls, clsFuel, resO, RV.get, loadP, evC_p, evC_s, endS, endT, rowsOf, callP, thinL, unfr, unfr.unfrL, PV.noMem, PV.noMem.noMemL, optI, mapO, norm, trimT, trimB, forget, hasN, blksLt, List.set, eZ, hlz, hls, h32, iv, ib, hs, h28, h30z, wp, wk, wn, k1, k2, k3, k4, k5, k6, k7, k8, k9, wq, r0, r1, hw, f1, f2, f3, f4]
end Go.Proofs.YtnodcoemjojlhaaDoor
