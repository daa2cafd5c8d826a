/- valid and count of the statements. -/
import Derived.Test.YtalmhggbdfjalaaMmK0
namespace Go.Proofs.Ytalmhggbdfjalaa
open Go Go.RowKit
set_option linter.unusedVariables false
set_option linter.unusedSectionVars false
set_option linter.unusedSimpArgs false
set_option maxHeartbeats 4000000

section
variable (l : List Td) (k : Nat) (t : Td) (ht : l[k]? = some t) (hl : l.length ≤ 1000) (f : Nat)
include ht hl
set_option maxRecDepth 100000 in
theorem w0b (h1 : ¬ t.th < 0) (h2 : ¬ 1000000000000000 < t.th) (h3 : ¬ t.n < 0) (h4 : ¬ 1000000000000000 < t.n) (h5 : ¬ t.kd = 11) (h9 : k = 0) : ∃ s, evCode (evC Dg) f c22b0 (S22 l k) = some (.normal s) ∧ norm [0, 3] 0 s = S22 l (k + 1) := by
  have hk : k < l.length := (List.getElem?_eq_some_iff.1 ht).1
  have hk' : (k : Int) < l.length := by omega
  have w1 := wrap_i64 ((k : Int) + 1) (by omega) (by omega)
  have eL := tRows_len l
  have eg := tRows_get ht
  have eg' := tRows_getE ht
  have h37 := f37 t.st
  simp only [eTx] at h37
  have hk0 : ¬ (0 : Int) < k := by omega
  have hk1 : ¬ 0 < k := by omega
  unfold c22b0
  simp [evCode, evOps, evOne, evOp, evPur, evEff, evPur.chunks, fillP, AOp.isEff, AO.ev, putP, PV.cells, PV.leaf, getB, getM, mapE, iterE, keyC, mapRows, mfind, eq1, eqL, scal, binP, unP, minP, maxP, foldP, PV.lt, PV.lt.ltL, endP, expoAll, expoG, expo, expo.expoL, frIds, frIds.frIdsL, nodupN, kill, cls, clsFuel, resO, RV.get, loadP, evC_p, evC_s, endS, endT, rowsOf, callP, thinL, unfr, unfr.unfrL, PV.noMem, PV.noMem.noMemL, optI, mapO, norm, trimT, trimB, forget, hasN, blksLt, List.set, softChk, softGo, softRd, effTg, rdP, S22, R22, hk, hk', w1, eL, eg, eg', tRow, eTx, h1, h2, h3, h4, h5, hk0, hk1]
set_option maxRecDepth 100000 in
theorem w1b (h1 : ¬ t.th < 0) (h2 : ¬ 1000000000000000 < t.th) (h3 : ¬ t.n < 0) (h4 : ¬ 1000000000000000 < t.n) (h5 : ¬ t.kd = 11) (h9 : 0 < k) (h10 : tm t < tmAt l (k - 1)) : ∃ s, evCode (evC Dg) f c22b0 (S22 l k) = some (.ret s) ∧ R22 s := by
  have hk : k < l.length := (List.getElem?_eq_some_iff.1 ht).1
  have hk' : (k : Int) < l.length := by omega
  have w1 := wrap_i64 ((k : Int) + 1) (by omega) (by omega)
  have eL := tRows_len l
  have eg := tRows_get ht
  have eg' := tRows_getE ht
  have h37 := f37 t.st
  simp only [eTx] at h37
  obtain ⟨u, hu⟩ : ∃ u, l[k - 1]? = some u := ⟨_, List.getElem?_eq_getElem (by omega)⟩
  have hta : tmAt l (k - 1) = tm u := by unfold tmAt; rw [hu]
  rw [hta] at h10
  have w2 : IntKind.i64.wrap ((k : Int) - 1) = ((k - 1 : Nat) : Int) := by rw [wrap_i64 _ (by omega) (by omega)]; omega
  have ug := tRows_get hu
  have ug' := tRows_getE hu
  have hj : k - 1 < l.length := by omega
  have q1 := f25 t
  have q2 := f25 u
  have c0 : (0 : Int) < k := by omega
  obtain ⟨j, hjj⟩ : ∃ j, k - 1 = j := ⟨_, rfl⟩
  have ug2 : ∀ g, (tRows l)[j]'g = tRow u := by rw [← hjj]; exact ug'
  rw [hjj] at w2 ug hj
  have c1 : (0 : Int) ≤ j := by omega
  clear ug' hu hjj
  simp only [tRow, eTx] at q1 q2
  unfold c22b0
  simp [evCode, evOps, evOne, evOp, evPur, evEff, evPur.chunks, fillP, AOp.isEff, AO.ev, putP, PV.cells, PV.leaf, getB, getM, mapE, iterE, keyC, mapRows, mfind, eq1, eqL, scal, binP, unP, minP, maxP, foldP, PV.lt, PV.lt.ltL, endP, expoAll, expoG, expo, expo.expoL, frIds, frIds.frIdsL, nodupN, kill, cls, clsFuel, resO, RV.get, loadP, evC_p, evC_s, endS, endT, rowsOf, callP, thinL, unfr, unfr.unfrL, PV.noMem, PV.noMem.noMemL, optI, mapO, norm, trimT, trimB, forget, hasN, blksLt, List.set, softChk, softGo, softRd, effTg, rdP, S22, R22, hk, hk', w1, eL, eg, eg', tRow, eTx, h1, h2, h3, h4, h5, h9, h10, w2, ug, ug2, hj, q1, q2, c0, c1]
set_option maxRecDepth 100000 in
theorem w2b (h1 : ¬ t.th < 0) (h2 : ¬ 1000000000000000 < t.th) (h3 : ¬ t.n < 0) (h4 : ¬ 1000000000000000 < t.n) (h5 : ¬ t.kd = 11) (h9 : 0 < k) (h10 : ¬ tm t < tmAt l (k - 1)) : ∃ s, evCode (evC Dg) f c22b0 (S22 l k) = some (.normal s) ∧ norm [0, 3] 0 s = S22 l (k + 1) := by
  have hk : k < l.length := (List.getElem?_eq_some_iff.1 ht).1
  have hk' : (k : Int) < l.length := by omega
  have w1 := wrap_i64 ((k : Int) + 1) (by omega) (by omega)
  have eL := tRows_len l
  have eg := tRows_get ht
  have eg' := tRows_getE ht
  have h37 := f37 t.st
  simp only [eTx] at h37
  obtain ⟨u, hu⟩ : ∃ u, l[k - 1]? = some u := ⟨_, List.getElem?_eq_getElem (by omega)⟩
  have hta : tmAt l (k - 1) = tm u := by unfold tmAt; rw [hu]
  rw [hta] at h10
  have w2 : IntKind.i64.wrap ((k : Int) - 1) = ((k - 1 : Nat) : Int) := by rw [wrap_i64 _ (by omega) (by omega)]; omega
  have ug := tRows_get hu
  have ug' := tRows_getE hu
  have hj : k - 1 < l.length := by omega
  have q1 := f25 t
  have q2 := f25 u
  have c0 : (0 : Int) < k := by omega
  obtain ⟨j, hjj⟩ : ∃ j, k - 1 = j := ⟨_, rfl⟩
  have ug2 : ∀ g, (tRows l)[j]'g = tRow u := by rw [← hjj]; exact ug'
  rw [hjj] at w2 ug hj
  have c1 : (0 : Int) ≤ j := by omega
  clear ug' hu hjj
  simp only [tRow, eTx] at q1 q2
  unfold c22b0
  simp [evCode, evOps, evOne, evOp, evPur, evEff, evPur.chunks, fillP, AOp.isEff, AO.ev, putP, PV.cells, PV.leaf, getB, getM, mapE, iterE, keyC, mapRows, mfind, eq1, eqL, scal, binP, unP, minP, maxP, foldP, PV.lt, PV.lt.ltL, endP, expoAll, expoG, expo, expo.expoL, frIds, frIds.frIdsL, nodupN, kill, cls, clsFuel, resO, RV.get, loadP, evC_p, evC_s, endS, endT, rowsOf, callP, thinL, unfr, unfr.unfrL, PV.noMem, PV.noMem.noMemL, optI, mapO, norm, trimT, trimB, forget, hasN, blksLt, List.set, softChk, softGo, softRd, effTg, rdP, S22, R22, hk, hk', w1, eL, eg, eg', tRow, eTx, h1, h2, h3, h4, h5, h9, h10, w2, ug, ug2, hj, q1, q2, c0, c1]
end
end Go.Proofs.Ytalmhggbdfjalaa
