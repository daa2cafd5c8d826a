/- memory.Check: order, repetitions. -/
import Derived.Test.YtalmhggbdfjalaaMmN0
namespace Go.Proofs.Ytalmhggbdfjalaa
open Go Go.RowKit
set_option linter.unusedVariables false
set_option linter.unusedSectionVars false
set_option linter.unusedSimpArgs false
set_option maxHeartbeats 4000000

section
variable (l : List Bk) (k : Nat) (b : Bk) (hb : l[k]? = some b) (hl : l.length ≤ 1000) (ms : List (Int × Int)) (f : Nat)
include hb hl
set_option maxRecDepth 100000 in
theorem c14_fr (h0 : ¬ b.i < 0) (h1 : ¬ 1000000000000000 < b.i) (h2 : ¬ b.t < 0) (h3 : ¬ 1000000000000000 < b.t) (h4 : ¬ b.s < 1) (h5 : ¬ 1000000000000 < b.s) (h6 : ¬ b.f < 0) (h7 : ¬ b.e ≤ b.f) (h8 : ¬ 1000000000000 < b.e) (hf : ¬ framesE b.st = 0) : ∃ s, evCode (evC Dg) f c14b0 (S14 l k ms) = some (.ret s) ∧ R14 (framesE b.st) s := by
  have hk : k < l.length := (List.getElem?_eq_some_iff.1 hb).1
  have hk' : (k : Int) < l.length := by omega
  have w1 := wrap_i64 ((k : Int) + 1) (by omega) (by omega)
  have eL := bRows_len l
  have eg := bRows_get hb
  have eg' := bRows_getE hb
  have h37 := f37 b.st
  simp only [eTx] at h37
  unfold c14b0
  simp [evCode, evOps, evOne, evOp, evPur, evEff, evPur.chunks, fillP, AOp.isEff, AO.ev, putP, PV.cells, PV.leaf, getB, getM, mapE, iterE, keyC, mapRows, mfind, eq1, eqL, scal, binP, unP, minP, maxP, foldP, PV.lt, PV.lt.ltL, endP, expoAll, expoG, expo, expo.expoL, frIds, frIds.frIdsL, nodupN, kill, cls, clsFuel, resO, RV.get, loadP, evC_p, evC_s, endS, endT, rowsOf, callP, thinL, unfr, unfr.unfrL, PV.noMem, PV.noMem.noMemL, optI, mapO, norm, trimT, trimB, forget, hasN, blksLt, List.set, softChk, softGo, softRd, effTg, rdP, S14, R14, hk, hk', w1, eL, eg, eg', bRow, eTx, h0, h1, h2, h3, h4, h5, h6, h7, h8, h37, hf]
set_option maxRecDepth 100000 in
theorem c14_or (h0 : ¬ b.i < 0) (h1 : ¬ 1000000000000000 < b.i) (h2 : ¬ b.t < 0) (h3 : ¬ 1000000000000000 < b.t) (h4 : ¬ b.s < 1) (h5 : ¬ 1000000000000 < b.s) (h6 : ¬ b.f < 0) (h7 : ¬ b.e ≤ b.f) (h8 : ¬ 1000000000000 < b.e) (hf : framesE b.st = 0) (h9 : 0 < k) (h10 : b.f < fAt l (k - 1)) : ∃ s, evCode (evC Dg) f c14b0 (S14 l k ms) = some (.ret s) ∧ R14 11 s := by
  have hk : k < l.length := (List.getElem?_eq_some_iff.1 hb).1
  have hk' : (k : Int) < l.length := by omega
  have w1 := wrap_i64 ((k : Int) + 1) (by omega) (by omega)
  have eL := bRows_len l
  have eg := bRows_get hb
  have eg' := bRows_getE hb
  have h37 := f37 b.st
  simp only [eTx] at h37
  rw [hf] at h37
  obtain ⟨u, hu⟩ : ∃ u, l[k - 1]? = some u := ⟨_, List.getElem?_eq_getElem (by omega)⟩
  have hta : fAt l (k - 1) = u.f := by unfold fAt; rw [hu]
  rw [hta] at h10
  have w2 : IntKind.i64.wrap ((k : Int) - 1) = ((k - 1 : Nat) : Int) := by rw [wrap_i64 _ (by omega) (by omega)]; omega
  have ug := bRows_get hu
  have ug' := bRows_getE hu
  have hj : k - 1 < l.length := by omega
  have d0 : (0 : Int) < k := by omega
  obtain ⟨j, hjj⟩ : ∃ j, k - 1 = j := ⟨_, rfl⟩
  have ug2 : ∀ g, (bRows l)[j]'g = bRow u := by rw [← hjj]; exact ug'
  rw [hjj] at w2 ug hj
  have d1 : (0 : Int) ≤ j := by omega
  clear ug' hu hjj
  unfold c14b0
  simp [evCode, evOps, evOne, evOp, evPur, evEff, evPur.chunks, fillP, AOp.isEff, AO.ev, putP, PV.cells, PV.leaf, getB, getM, mapE, iterE, keyC, mapRows, mfind, eq1, eqL, scal, binP, unP, minP, maxP, foldP, PV.lt, PV.lt.ltL, endP, expoAll, expoG, expo, expo.expoL, frIds, frIds.frIdsL, nodupN, kill, cls, clsFuel, resO, RV.get, loadP, evC_p, evC_s, endS, endT, rowsOf, callP, thinL, unfr, unfr.unfrL, PV.noMem, PV.noMem.noMemL, optI, mapO, norm, trimT, trimB, forget, hasN, blksLt, List.set, softChk, softGo, softRd, effTg, rdP, S14, R14, hk, hk', w1, eL, eg, eg', bRow, eTx, h0, h1, h2, h3, h4, h5, h6, h7, h8, h37, h9, h10, w2, ug, ug2, hj, d0, d1]
set_option maxRecDepth 100000 in
theorem c14_twz (h0 : ¬ b.i < 0) (h1 : ¬ 1000000000000000 < b.i) (h2 : ¬ b.t < 0) (h3 : ¬ 1000000000000000 < b.t) (h4 : ¬ b.s < 1) (h5 : ¬ 1000000000000 < b.s) (h6 : ¬ b.f < 0) (h7 : ¬ b.e ≤ b.f) (h8 : ¬ 1000000000000 < b.e) (hf : framesE b.st = 0) (h9 : k = 0) (v : Int) (hg : nget b.i ms = some v) (h11 : b.f < v) : ∃ s, evCode (evC Dg) f c14b0 (S14 l k ms) = some (.ret s) ∧ R14 4 s := by
  have hk : k < l.length := (List.getElem?_eq_some_iff.1 hb).1
  have hk' : (k : Int) < l.length := by omega
  have w1 := wrap_i64 ((k : Int) + 1) (by omega) (by omega)
  have eL := bRows_len l
  have eg := bRows_get hb
  have eg' := bRows_getE hb
  have h37 := f37 b.st
  simp only [eTx] at h37
  rw [hf] at h37
  have d2 : ¬ (0 : Int) < k := by omega
  have d3 : ¬ 0 < k := by omega
  have f1 := nmfind_in hg
  unfold c14b0
  simp [evCode, evOps, evOne, evOp, evPur, evEff, evPur.chunks, fillP, AOp.isEff, AO.ev, putP, PV.cells, PV.leaf, getB, getM, mapE, iterE, keyC, mapRows, mfind, eq1, eqL, scal, binP, unP, minP, maxP, foldP, PV.lt, PV.lt.ltL, endP, expoAll, expoG, expo, expo.expoL, frIds, frIds.frIdsL, nodupN, kill, cls, clsFuel, resO, RV.get, loadP, evC_p, evC_s, endS, endT, rowsOf, callP, thinL, unfr, unfr.unfrL, PV.noMem, PV.noMem.noMemL, optI, mapO, norm, trimT, trimB, forget, hasN, blksLt, List.set, softChk, softGo, softRd, effTg, rdP, S14, R14, hk, hk', w1, eL, eg, eg', bRow, eTx, h0, h1, h2, h3, h4, h5, h6, h7, h8, h37, d2, d3, f1, h11]
set_option maxRecDepth 100000 in
theorem c14_twp (h0 : ¬ b.i < 0) (h1 : ¬ 1000000000000000 < b.i) (h2 : ¬ b.t < 0) (h3 : ¬ 1000000000000000 < b.t) (h4 : ¬ b.s < 1) (h5 : ¬ 1000000000000 < b.s) (h6 : ¬ b.f < 0) (h7 : ¬ b.e ≤ b.f) (h8 : ¬ 1000000000000 < b.e) (hf : framesE b.st = 0) (h9 : 0 < k) (h10 : ¬ b.f < fAt l (k - 1)) (v : Int) (hg : nget b.i ms = some v) (h11 : b.f < v) : ∃ s, evCode (evC Dg) f c14b0 (S14 l k ms) = some (.ret s) ∧ R14 4 s := by
  have hk : k < l.length := (List.getElem?_eq_some_iff.1 hb).1
  have hk' : (k : Int) < l.length := by omega
  have w1 := wrap_i64 ((k : Int) + 1) (by omega) (by omega)
  have eL := bRows_len l
  have eg := bRows_get hb
  have eg' := bRows_getE hb
  have h37 := f37 b.st
  simp only [eTx] at h37
  rw [hf] at h37
  obtain ⟨u, hu⟩ : ∃ u, l[k - 1]? = some u := ⟨_, List.getElem?_eq_getElem (by omega)⟩
  have hta : fAt l (k - 1) = u.f := by unfold fAt; rw [hu]
  rw [hta] at h10
  have w2 : IntKind.i64.wrap ((k : Int) - 1) = ((k - 1 : Nat) : Int) := by rw [wrap_i64 _ (by omega) (by omega)]; omega
  have ug := bRows_get hu
  have ug' := bRows_getE hu
  have hj : k - 1 < l.length := by omega
  have d0 : (0 : Int) < k := by omega
  obtain ⟨j, hjj⟩ : ∃ j, k - 1 = j := ⟨_, rfl⟩
  have ug2 : ∀ g, (bRows l)[j]'g = bRow u := by rw [← hjj]; exact ug'
  rw [hjj] at w2 ug hj
  have d1 : (0 : Int) ≤ j := by omega
  clear ug' hu hjj
  have f1 := nmfind_in hg
  unfold c14b0
  simp [evCode, evOps, evOne, evOp, evPur, evEff, evPur.chunks, fillP, AOp.isEff, AO.ev, putP, PV.cells, PV.leaf, getB, getM, mapE, iterE, keyC, mapRows, mfind, eq1, eqL, scal, binP, unP, minP, maxP, foldP, PV.lt, PV.lt.ltL, endP, expoAll, expoG, expo, expo.expoL, frIds, frIds.frIdsL, nodupN, kill, cls, clsFuel, resO, RV.get, loadP, evC_p, evC_s, endS, endT, rowsOf, callP, thinL, unfr, unfr.unfrL, PV.noMem, PV.noMem.noMemL, optI, mapO, norm, trimT, trimB, forget, hasN, blksLt, List.set, softChk, softGo, softRd, effTg, rdP, S14, R14, hk, hk', w1, eL, eg, eg', bRow, eTx, h0, h1, h2, h3, h4, h5, h6, h7, h8, h37, h9, h10, w2, ug, ug2, hj, d0, d1, f1, h11]
end
end Go.Proofs.Ytalmhggbdfjalaa
