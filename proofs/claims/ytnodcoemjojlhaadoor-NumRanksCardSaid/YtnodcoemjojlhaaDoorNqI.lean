/- num: NumRanks of pure arguments. -/
import Derived.Test.YtnodcoemjojlhaaDoorNqH
namespace Go.Proofs.YtnodcoemjojlhaaDoor
open Go Go.RowKit
set_option linter.unusedVariables false
set_option linter.unusedSimpArgs false
set_option maxHeartbeats 8000000

set_option maxRecDepth 100000 in
theorem n8_bad (x : Bool) (zs : List Int) (p q : Int) (hN : zs.length ≤ 60) (h : ¬ okQ zs.length p q) : evE Dg 8 [eZ x zs, .int .i64 p, .int .i64 q] = some (.bool true) := by
  have hlz : (intRows zs).length = zs.length := by simp [intRows]
  have hb := f21_bad x zs p q h
  simp only [eZ] at hb
  have h1 : ¬ (60 : Int) < zs.length := by omega
  have h1' : ¬ 60 < zs.length := by omega
  generalize zs.length = N at *
  unfold okQ at h
  by_cases c1 : N = 0
  · subst c1
    refine evE_intro 70 D8 rfl ?_
    unfold c8
    simp [evCode, evOps, evOne, evOp, evPur, evEff, evPur.chunks, fillP, AOp.isEff, AO.ev, putP, PV.cells, PV.leaf, getB, getM, mapE, keyC, mapRows, mfind, eq1, eqL, scal, binP, unP, minP, maxP, foldP, PV.lt, PV.lt.ltL, endP, expoAll, expo, expo.expoL, frIds, frIds.frIdsL, nodupN, kill, cls, clsFuel, resO, RV.get, loadP, evC_p, evC_s, endS, endT, rowsOf, callP, thinL, unfr, unfr.unfrL, PV.noMem, PV.noMem.noMemL, optI, mapO, norm, trimT, trimB, forget, hasN, blksLt, List.set, eZ, hlz, f16, hb]
  have c1' : ¬ (N : Int) = 0 := by omega
  by_cases c2 : q < 1
  · refine evE_intro 70 D8 rfl ?_
    unfold c8
    simp [evCode, evOps, evOne, evOp, evPur, evEff, evPur.chunks, fillP, AOp.isEff, AO.ev, putP, PV.cells, PV.leaf, getB, getM, mapE, keyC, mapRows, mfind, eq1, eqL, scal, binP, unP, minP, maxP, foldP, PV.lt, PV.lt.ltL, endP, expoAll, expo, expo.expoL, frIds, frIds.frIdsL, nodupN, kill, cls, clsFuel, resO, RV.get, loadP, evC_p, evC_s, endS, endT, rowsOf, callP, thinL, unfr, unfr.unfrL, PV.noMem, PV.noMem.noMemL, optI, mapO, norm, trimT, trimB, forget, hasN, blksLt, List.set, eZ, hlz, f16, hb, h1, h1', c1, c1', c2]
  by_cases c3 : 1000000000000000 < q
  · refine evE_intro 70 D8 rfl ?_
    unfold c8
    simp [evCode, evOps, evOne, evOp, evPur, evEff, evPur.chunks, fillP, AOp.isEff, AO.ev, putP, PV.cells, PV.leaf, getB, getM, mapE, keyC, mapRows, mfind, eq1, eqL, scal, binP, unP, minP, maxP, foldP, PV.lt, PV.lt.ltL, endP, expoAll, expo, expo.expoL, frIds, frIds.frIdsL, nodupN, kill, cls, clsFuel, resO, RV.get, loadP, evC_p, evC_s, endS, endT, rowsOf, callP, thinL, unfr, unfr.unfrL, PV.noMem, PV.noMem.noMemL, optI, mapO, norm, trimT, trimB, forget, hasN, blksLt, List.set, eZ, hlz, f16, hb, h1, h1', c1, c1', c2, c3]
  by_cases c4 : p < 0
  · refine evE_intro 70 D8 rfl ?_
    unfold c8
    simp [evCode, evOps, evOne, evOp, evPur, evEff, evPur.chunks, fillP, AOp.isEff, AO.ev, putP, PV.cells, PV.leaf, getB, getM, mapE, keyC, mapRows, mfind, eq1, eqL, scal, binP, unP, minP, maxP, foldP, PV.lt, PV.lt.ltL, endP, expoAll, expo, expo.expoL, frIds, frIds.frIdsL, nodupN, kill, cls, clsFuel, resO, RV.get, loadP, evC_p, evC_s, endS, endT, rowsOf, callP, thinL, unfr, unfr.unfrL, PV.noMem, PV.noMem.noMemL, optI, mapO, norm, trimT, trimB, forget, hasN, blksLt, List.set, eZ, hlz, f16, hb, h1, h1', c1, c1', c2, c3, c4]
  have c5 : q < p := Decidable.byContradiction fun hh => h ⟨by omega, by omega, by omega, by omega, by omega⟩
  refine evE_intro 70 D8 rfl ?_
  unfold c8
  simp [evCode, evOps, evOne, evOp, evPur, evEff, evPur.chunks, fillP, AOp.isEff, AO.ev, putP, PV.cells, PV.leaf, getB, getM, mapE, keyC, mapRows, mfind, eq1, eqL, scal, binP, unP, minP, maxP, foldP, PV.lt, PV.lt.ltL, endP, expoAll, expo, expo.expoL, frIds, frIds.frIdsL, nodupN, kill, cls, clsFuel, resO, RV.get, loadP, evC_p, evC_s, endS, endT, rowsOf, callP, thinL, unfr, unfr.unfrL, PV.noMem, PV.noMem.noMemL, optI, mapO, norm, trimT, trimB, forget, hasN, blksLt, List.set, eZ, hlz, f16, hb, h1, h1', c1, c1', c2, c3, c4, c5]
set_option maxRecDepth 100000 in
theorem n8_good (x : Bool) (zs : List Int) (P K : Nat) (h0 : 0 < zs.length) (hN : zs.length ≤ 60) (hK : 1 ≤ K ∧ K ≤ 1000000000000000) (hP : P ≤ K) : evE Dg 8 [eZ x zs, .int .i64 P, .int .i64 K] = some (.bool true) := by
  have get : ∀ P', P' ≤ K → ∃ a, (sortZ zs)[qAt P' zs.length K]? = some a := fun P' h => ⟨_, List.getElem?_eq_getElem (by rw [sortZ_len]; exact qAt_lt P' zs.length K h0 (by omega) h)⟩
  obtain ⟨v, hv⟩ := get P hP
  obtain ⟨lo, hlo⟩ := get 0 (by omega)
  obtain ⟨hi, hhi⟩ := get K (Nat.le_refl _)
  obtain ⟨P2, hP2⟩ := ex_eq (min K (P + 1))
  obtain ⟨nx, hnx⟩ := get P2 (by omega)
  have a1 := f21_good x zs P K h0 hN hK hP v hv
  have a3 := f21_good x zs 0 K h0 hN hK (by omega) lo hlo
  have a4 := f21_good x zs K K h0 hN hK (by omega) hi hhi
  have a5 := f21_good x zs P2 K h0 hN hK (by omega) nx hnx
  have a2 : ∀ y, evE Dg 21 [eZ y zs.reverse, .int .i64 P, .int .i64 K] = some (.tup [.int .i64 v, .bool true]) := fun y =>
    f21_good y zs.reverse P K (by simpa using h0) (by simpa using hN) hK hP v (by rw [sortZ_congr (List.reverse_perm zs), List.length_reverse]; exact hv)
  have hvm : v ∈ zs := (sortZ_perm zs).mem_iff.1 (List.mem_of_getElem? hv)
  have l1 : v ≤ nx := sort_get_le (qAt_mono zs.length K (show P ≤ P2 by omega)) hv hnx
  have l2 : nx ≤ hi := sort_get_le (qAt_mono zs.length K (show P2 ≤ K by omega)) hnx hhi
  rw [qAt_zero] at hlo
  rw [qAt_one _ _ h0 hK.1] at hhi
  have hb : ∀ z ∈ zs, lo ≤ z ∧ z ≤ hi := fun z hz => sort_ends hz hlo hhi
  obtain ⟨l3, l4⟩ := hb v hvm
  have T := turn8 x zs P K v hN
  have Sk := seek8 x zs (intRows zs.reverse) zs.length v lo hi nx hN hb hvm
  have hlz : (intRows zs).length = zs.length := by simp [intRows]
  have hlr : (intRows zs.reverse).length = zs.length := by simp [intRows]
  obtain ⟨N, hNN⟩ := ex_eq zs.length
  rw [hNN] at hlz hlr T Sk
  have h1 : ¬ (60 : Int) < N := by omega
  have h1' : ¬ 60 < N := by omega
  have w1 : IntKind.i64.wrap ((N : Int) - 1) = (N : Int) - 1 := wrap_i64 _ (by omega) (by omega)
  have w2 : IntKind.i64.wrap ((P : Int) + 1) = (P : Int) + 1 := wrap_i64 _ (by omega) (by omega)
  have wm : (if (P : Int) + 1 < K then (P : Int) + 1 else (K : Int)) = (P2 : Int) := by split <;> omega
  have wm' : (if (K : Int) < (P : Int) + 1 then (K : Int) else (P : Int) + 1) = (P2 : Int) := by split <;> omega
  have a3' : evE Dg 21 [eZ x zs, .int .i64 0, .int .i64 K] = some (.tup [.int .i64 lo, .bool true]) := a3
  simp only [eZ] at a1 a2 a3' a4 a5
  refine evE_intro 70 D8 rfl ?_
  unfold c8
  simp [evCode, evOps, evOne, evOp, evPur, evEff, evPur.chunks, fillP, AOp.isEff, AO.ev, putP, PV.cells, PV.leaf, getB, getM, mapE, keyC, mapRows, mfind, eq1, eqL, scal, binP, unP, minP, maxP, foldP, PV.lt, PV.lt.ltL, endP, expoAll, expo, expo.expoL, frIds, frIds.frIdsL, nodupN, kill, cls, clsFuel, resO, RV.get, loadP, evC_p, evC_s, endS, endT, rowsOf, callP, thinL, unfr, unfr.unfrL, PV.noMem, PV.noMem.noMemL, optI, mapO, norm, trimT, trimB, forget, hasN, blksLt, List.set, eZ, hlz, f16, a1, h1, h1', w1]
  generalize hE : evLoop _ _ _ _ _ = E
  have hdN : List.drop N zs = [] := by rw [← hNN, List.drop_length]
  have hir0 : intRows ([] : List Int) = [] := rfl
  have g := T _ _ hE (by simp [evCode, evOps, evOne, evOp, evPur, evEff, evPur.chunks, fillP, AOp.isEff, AO.ev, putP, PV.cells, PV.leaf, getB, getM, mapE, keyC, mapRows, mfind, eq1, eqL, scal, binP, unP, minP, maxP, foldP, PV.lt, PV.lt.ltL, endP, expoAll, expo, expo.expoL, frIds, frIds.frIdsL, nodupN, kill, cls, clsFuel, resO, RV.get, loadP, evC_p, evC_s, endS, endT, rowsOf, callP, thinL, unfr, unfr.unfrL, PV.noMem, PV.noMem.noMemL, optI, mapO, norm, trimT, trimB, forget, hasN, blksLt, List.set, S8, eZ, hdN, hir0])
  rw [g]
  have hk1 : List.take N (intRows zs.reverse) = intRows zs.reverse := by rw [← hlr, List.take_length]
  unfold c8b1 c8r0
  simp [evCode, evOps, evOne, evOp, evPur, evEff, evPur.chunks, fillP, AOp.isEff, AO.ev, putP, PV.cells, PV.leaf, getB, getM, mapE, keyC, mapRows, mfind, eq1, eqL, scal, binP, unP, minP, maxP, foldP, PV.lt, PV.lt.ltL, endP, expoAll, expo, expo.expoL, frIds, frIds.frIdsL, nodupN, kill, cls, clsFuel, resO, RV.get, loadP, evC_p, evC_s, endS, endT, rowsOf, callP, thinL, unfr, unfr.unfrL, PV.noMem, PV.noMem.noMemL, optI, mapO, norm, trimT, trimB, forget, hasN, blksLt, List.set, S8, eZ, hNN, hk1, hlz, hlr, a1, a2, a3', a4, a5, w2, wm, wm']
  generalize hE2 : evLoop _ _ _ _ _ = E2
  have g2 := Sk _ _ hE2 (by simp [evCode, evOps, evOne, evOp, evPur, evEff, evPur.chunks, fillP, AOp.isEff, AO.ev, putP, PV.cells, PV.leaf, getB, getM, mapE, keyC, mapRows, mfind, eq1, eqL, scal, binP, unP, minP, maxP, foldP, PV.lt, PV.lt.ltL, endP, expoAll, expo, expo.expoL, frIds, frIds.frIdsL, nodupN, kill, cls, clsFuel, resO, RV.get, loadP, evC_p, evC_s, endS, endT, rowsOf, callP, thinL, unfr, unfr.unfrL, PV.noMem, PV.noMem.noMemL, optI, mapO, norm, trimT, trimB, forget, hasN, blksLt, List.set, S9, eZ])
  rw [g2]
  unfold c8b0
  simp [evCode, evOps, evOne, evOp, evPur, evEff, evPur.chunks, fillP, AOp.isEff, AO.ev, putP, PV.cells, PV.leaf, getB, getM, mapE, keyC, mapRows, mfind, eq1, eqL, scal, binP, unP, minP, maxP, foldP, PV.lt, PV.lt.ltL, endP, expoAll, expo, expo.expoL, frIds, frIds.frIdsL, nodupN, kill, cls, clsFuel, resO, RV.get, loadP, evC_p, evC_s, endS, endT, rowsOf, callP, thinL, unfr, unfr.unfrL, PV.noMem, PV.noMem.noMemL, optI, mapO, norm, trimT, trimB, forget, hasN, blksLt, List.set, S9, eZ, hlz, l1, l2, l3, l4]
end Go.Proofs.YtnodcoemjojlhaaDoor
