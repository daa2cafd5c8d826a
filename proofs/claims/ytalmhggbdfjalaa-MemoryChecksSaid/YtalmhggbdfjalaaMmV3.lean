/- The reference's Check: order, repetitions. -/
import Derived.Test.YtalmhggbdfjalaaMmV0
namespace Go.Proofs.Ytalmhggbdfjalaa
open Go Go.RowKit
set_option linter.unusedVariables false
set_option linter.unusedSectionVars false
set_option linter.unusedSimpArgs false
set_option maxHeartbeats 4000000

section
variable (l : List Bk) (k : Nat) (b : Bk) (hb : l[k]? = some b) (hl : l.length ≤ 1000) (f : Nat)
include hb hl
set_option maxRecDepth 100000 in
theorem c15_fr (h0 : ¬ b.i < 0) (h1 : ¬ 1000000000000000 < b.i) (h2 : ¬ b.t < 0) (h3 : ¬ 1000000000000000 < b.t) (h4 : ¬ b.s < 1) (h5 : ¬ 1000000000000 < b.s) (h6 : ¬ b.f < 0) (h7 : ¬ b.e ≤ b.f) (h8 : ¬ 1000000000000 < b.e) (hf : ¬ framesE b.st = 0) : ∃ s, evCode (evC Dg) f c15b1 (S15 l k) = some (.ret s) ∧ R15 (framesE b.st) s := by
  have hk : k < l.length := (List.getElem?_eq_some_iff.1 hb).1
  have hk' : (k : Int) < l.length := by omega
  have w1 := wrap_i64 ((k : Int) + 1) (by omega) (by omega)
  have eL := bRows_len l
  have eg := bRows_get hb
  have eg' := bRows_getE hb
  have h38 := f38 b.st
  simp only [eTx] at h38
  unfold c15b1
  simp [evCode, evOps, evOne, evOp, evPur, evEff, evPur.chunks, fillP, AOp.isEff, AO.ev, putP, PV.cells, PV.leaf, getB, getM, mapE, iterE, keyC, mapRows, mfind, eq1, eqL, scal, binP, unP, minP, maxP, foldP, PV.lt, PV.lt.ltL, endP, expoAll, expoG, expo, expo.expoL, frIds, frIds.frIdsL, nodupN, kill, cls, clsFuel, resO, RV.get, loadP, evC_p, evC_s, endS, endT, rowsOf, callP, thinL, unfr, unfr.unfrL, PV.noMem, PV.noMem.noMemL, optI, mapO, norm, trimT, trimB, forget, hasN, blksLt, List.set, softChk, softGo, softRd, effTg, rdP, S15, R15, hk, hk', w1, eL, eg, eg', bRow, eTx, h0, h1, h2, h3, h4, h5, h6, h7, h8, h38, hf]
set_option maxRecDepth 100000 in
theorem c15_or (h0 : ¬ b.i < 0) (h1 : ¬ 1000000000000000 < b.i) (h2 : ¬ b.t < 0) (h3 : ¬ 1000000000000000 < b.t) (h4 : ¬ b.s < 1) (h5 : ¬ 1000000000000 < b.s) (h6 : ¬ b.f < 0) (h7 : ¬ b.e ≤ b.f) (h8 : ¬ 1000000000000 < b.e) (hf : framesE b.st = 0) (h9 : 0 < k) (h10 : b.f < fAt l (k - 1)) : ∃ s, evCode (evC Dg) f c15b1 (S15 l k) = some (.ret s) ∧ R15 11 s := by
  have hk : k < l.length := (List.getElem?_eq_some_iff.1 hb).1
  have hk' : (k : Int) < l.length := by omega
  have w1 := wrap_i64 ((k : Int) + 1) (by omega) (by omega)
  have eL := bRows_len l
  have eg := bRows_get hb
  have eg' := bRows_getE hb
  have h38 := f38 b.st
  simp only [eTx] at h38
  rw [hf] at h38
  obtain ⟨u, hu⟩ : ∃ u, l[k - 1]? = some u := ⟨_, List.getElem?_eq_getElem (by omega)⟩
  have hta : fAt l (k - 1) = u.f := by unfold fAt; rw [hu]
  rw [hta] at h10
  have w2 : IntKind.i64.wrap ((k : Int) - 1) = ((k - 1 : Nat) : Int) := by rw [wrap_i64 _ (by omega) (by omega)]; omega
  have ug := bRows_get hu
  have ug' := bRows_getE hu
  have hj : k - 1 < l.length := by omega
  have d0 : (0 : Int) < k := by omega
  obtain ⟨j, hjj⟩ : ∃ j, k - 1 = j := ⟨_, rfl⟩
  have ug2 : ∀ g, (bRows l)[j]'g = bRow u := by rw [← hjj]; exact ug'
  rw [hjj] at w2 ug hj
  have d1 : (0 : Int) ≤ j := by omega
  clear ug' hu hjj
  unfold c15b1
  simp [evCode, evOps, evOne, evOp, evPur, evEff, evPur.chunks, fillP, AOp.isEff, AO.ev, putP, PV.cells, PV.leaf, getB, getM, mapE, iterE, keyC, mapRows, mfind, eq1, eqL, scal, binP, unP, minP, maxP, foldP, PV.lt, PV.lt.ltL, endP, expoAll, expoG, expo, expo.expoL, frIds, frIds.frIdsL, nodupN, kill, cls, clsFuel, resO, RV.get, loadP, evC_p, evC_s, endS, endT, rowsOf, callP, thinL, unfr, unfr.unfrL, PV.noMem, PV.noMem.noMemL, optI, mapO, norm, trimT, trimB, forget, hasN, blksLt, List.set, softChk, softGo, softRd, effTg, rdP, S15, R15, hk, hk', w1, eL, eg, eg', bRow, eTx, h0, h1, h2, h3, h4, h5, h6, h7, h8, h38, h9, h10, w2, ug, ug2, hj, d0, d1]
set_option maxRecDepth 100000 in
theorem c15_goz (h0 : ¬ b.i < 0) (h1 : ¬ 1000000000000000 < b.i) (h2 : ¬ b.t < 0) (h3 : ¬ 1000000000000000 < b.t) (h4 : ¬ b.s < 1) (h5 : ¬ 1000000000000 < b.s) (h6 : ¬ b.f < 0) (h7 : ¬ b.e ≤ b.f) (h8 : ¬ 1000000000000 < b.e) (hf : framesE b.st = 0) (h9 : k = 0) (hcb : ∀ j c, j < k → l[j]? = some c → c.f < b.e) (hff : k < f) :
    (twB l k b = true → ∃ s, evCode (evC Dg) f c15b1 (S15 l k) = some (.ret s) ∧ R15 4 s) ∧ (¬ twB l k b = true → ∃ s, evCode (evC Dg) f c15b1 (S15 l k) = some (.normal s) ∧ norm [0, 3] 0 s = S15 l (k + 1)) := by
  have hk : k < l.length := (List.getElem?_eq_some_iff.1 hb).1
  have hk' : (k : Int) < l.length := by omega
  have w1 := wrap_i64 ((k : Int) + 1) (by omega) (by omega)
  have eL := bRows_len l
  have eg := bRows_get hb
  have eg' := bRows_getE hb
  have H := fun (s0 : St) (E : Option Out) => loop_while (body := evCode (evC Dg) f c15b0) (keep := [0, 3, 4, 6]) (n0 := 1) (fuel := f) (S15i l k b) (fun j => k - j) (fun j => j ≤ k ∧ ∀ i c, i < j → l[i]? = some c → ¬ (c.i = b.i ∧ b.f < c.e)) (fun o => (twB l k b = true ∧ ∃ s, o = .ret s ∧ R15 4 s) ∨ (¬ twB l k b = true ∧ o = .exit 2 (X15i l k b))) (by
    rintro j ⟨hj, hI⟩
    by_cases hjk : j < k
    · obtain ⟨c, hc⟩ : ∃ c, l[j]? = some c := ⟨_, List.getElem?_eq_getElem (by omega)⟩
      obtain ⟨q1, q2⟩ := step15i l hl k (by omega) b c j hjk hc (hcb j c hjk hc) f
      by_cases ht : c.i = b.i ∧ b.f < c.e
      · obtain ⟨s, e1, e2⟩ := q1 ht
        refine .inr ⟨_, e1, fun s h => (by cases h), .inl ⟨?_, s, rfl, e2⟩⟩
        unfold twB
        rw [List.any_eq_true]
        refine ⟨c, List.mem_iff_getElem?.2 ⟨j, by rw [List.getElem?_take, if_pos hjk, hc]⟩, by simp [ht.1, ht.2]⟩
      · obtain ⟨s, e1, e2⟩ := q2 ht
        refine .inl ⟨j + 1, s, e1, e2, ⟨by omega, fun i d hi hd => ?_⟩, by omega⟩
        rcases Nat.lt_or_ge i j with h11 | h11
        · exact hI i d h11 hd
        · obtain rfl : i = j := by omega
          rw [hc] at hd; cases hd; exact ht
    · obtain rfl : j = k := by omega
      refine .inr ⟨_, exit15i l j b f, fun s h => (by cases h), .inr ⟨fun h => ?_, rfl⟩⟩
      unfold twB at h
      rw [List.any_eq_true] at h
      obtain ⟨c, hc, h12⟩ := h
      obtain ⟨i, hi⟩ := List.mem_iff_getElem?.1 hc
      rw [List.getElem?_take] at hi
      split at hi
      · rename_i hij
        simp at h12
        exact hI i c hij hi h12
      · cases hi) 0 ⟨Nat.zero_le _, fun i c h => by omega⟩ (by omega) s0 E
  have h38 := f38 b.st
  simp only [eTx] at h38
  rw [hf] at h38
  have d2 : ¬ (0 : Int) < k := by omega
  have d3 : ¬ 0 < k := by omega
  constructor
  · intro ht
    unfold c15b1
    simp [evCode, evOps, evOne, evOp, evPur, evEff, evPur.chunks, fillP, AOp.isEff, AO.ev, putP, PV.cells, PV.leaf, getB, getM, mapE, iterE, keyC, mapRows, mfind, eq1, eqL, scal, binP, unP, minP, maxP, foldP, PV.lt, PV.lt.ltL, endP, expoAll, expoG, expo, expo.expoL, frIds, frIds.frIdsL, nodupN, kill, cls, clsFuel, resO, RV.get, loadP, evC_p, evC_s, endS, endT, rowsOf, callP, thinL, unfr, unfr.unfrL, PV.noMem, PV.noMem.noMemL, optI, mapO, norm, trimT, trimB, forget, hasN, blksLt, List.set, softChk, softGo, softRd, effTg, rdP, S15, R15, hk, hk', w1, eL, eg, eg', bRow, eTx, h0, h1, h2, h3, h4, h5, h6, h7, h8, h38, d2, d3]
    generalize hE : evLoop (evCode (evC Dg) f c15b0) [0, 3, 4, 6] 1 f _ = E
    obtain ⟨o, rfl, ⟨_, s, rfl, hR⟩ | ⟨h, _⟩⟩ := H _ E hE (by simp [evCode, evOps, evOne, evOp, evPur, evEff, evPur.chunks, fillP, AOp.isEff, AO.ev, putP, PV.cells, PV.leaf, getB, getM, mapE, iterE, keyC, mapRows, mfind, eq1, eqL, scal, binP, unP, minP, maxP, foldP, PV.lt, PV.lt.ltL, endP, expoAll, expoG, expo, expo.expoL, frIds, frIds.frIdsL, nodupN, kill, cls, clsFuel, resO, RV.get, loadP, evC_p, evC_s, endS, endT, rowsOf, callP, thinL, unfr, unfr.unfrL, PV.noMem, PV.noMem.noMemL, optI, mapO, norm, trimT, trimB, forget, hasN, blksLt, List.set, softChk, softGo, softRd, effTg, rdP, S15i, bRow, eTx])
    · unfold R15 at hR
      simp [evCode, evOps, evOne, evOp, evPur, evEff, evPur.chunks, fillP, AOp.isEff, AO.ev, putP, PV.cells, PV.leaf, getB, getM, mapE, iterE, keyC, mapRows, mfind, eq1, eqL, scal, binP, unP, minP, maxP, foldP, PV.lt, PV.lt.ltL, endP, expoAll, expoG, expo, expo.expoL, frIds, frIds.frIdsL, nodupN, kill, cls, clsFuel, resO, RV.get, loadP, evC_p, evC_s, endS, endT, rowsOf, callP, thinL, unfr, unfr.unfrL, PV.noMem, PV.noMem.noMemL, optI, mapO, norm, trimT, trimB, forget, hasN, blksLt, List.set, softChk, softGo, softRd, effTg, rdP, hR]
    · exact absurd ht h
  · intro ht
    unfold c15b1
    simp [evCode, evOps, evOne, evOp, evPur, evEff, evPur.chunks, fillP, AOp.isEff, AO.ev, putP, PV.cells, PV.leaf, getB, getM, mapE, iterE, keyC, mapRows, mfind, eq1, eqL, scal, binP, unP, minP, maxP, foldP, PV.lt, PV.lt.ltL, endP, expoAll, expoG, expo, expo.expoL, frIds, frIds.frIdsL, nodupN, kill, cls, clsFuel, resO, RV.get, loadP, evC_p, evC_s, endS, endT, rowsOf, callP, thinL, unfr, unfr.unfrL, PV.noMem, PV.noMem.noMemL, optI, mapO, norm, trimT, trimB, forget, hasN, blksLt, List.set, softChk, softGo, softRd, effTg, rdP, S15, R15, hk, hk', w1, eL, eg, eg', bRow, eTx, h0, h1, h2, h3, h4, h5, h6, h7, h8, h38, d2, d3]
    generalize hE : evLoop (evCode (evC Dg) f c15b0) [0, 3, 4, 6] 1 f _ = E
    obtain ⟨o, rfl, ⟨h, _⟩ | ⟨_, rfl⟩⟩ := H _ E hE (by simp [evCode, evOps, evOne, evOp, evPur, evEff, evPur.chunks, fillP, AOp.isEff, AO.ev, putP, PV.cells, PV.leaf, getB, getM, mapE, iterE, keyC, mapRows, mfind, eq1, eqL, scal, binP, unP, minP, maxP, foldP, PV.lt, PV.lt.ltL, endP, expoAll, expoG, expo, expo.expoL, frIds, frIds.frIdsL, nodupN, kill, cls, clsFuel, resO, RV.get, loadP, evC_p, evC_s, endS, endT, rowsOf, callP, thinL, unfr, unfr.unfrL, PV.noMem, PV.noMem.noMemL, optI, mapO, norm, trimT, trimB, forget, hasN, blksLt, List.set, softChk, softGo, softRd, effTg, rdP, S15i, bRow, eTx])
    · exact absurd h ht
    · unfold X15i
      simp [evCode, evOps, evOne, evOp, evPur, evEff, evPur.chunks, fillP, AOp.isEff, AO.ev, putP, PV.cells, PV.leaf, getB, getM, mapE, iterE, keyC, mapRows, mfind, eq1, eqL, scal, binP, unP, minP, maxP, foldP, PV.lt, PV.lt.ltL, endP, expoAll, expoG, expo, expo.expoL, frIds, frIds.frIdsL, nodupN, kill, cls, clsFuel, resO, RV.get, loadP, evC_p, evC_s, endS, endT, rowsOf, callP, thinL, unfr, unfr.unfrL, PV.noMem, PV.noMem.noMemL, optI, mapO, norm, trimT, trimB, forget, hasN, blksLt, List.set, softChk, softGo, softRd, effTg, rdP, w1, bRow, eTx]
set_option maxRecDepth 100000 in
theorem c15_gop (h0 : ¬ b.i < 0) (h1 : ¬ 1000000000000000 < b.i) (h2 : ¬ b.t < 0) (h3 : ¬ 1000000000000000 < b.t) (h4 : ¬ b.s < 1) (h5 : ¬ 1000000000000 < b.s) (h6 : ¬ b.f < 0) (h7 : ¬ b.e ≤ b.f) (h8 : ¬ 1000000000000 < b.e) (hf : framesE b.st = 0) (h9 : 0 < k) (h10 : ¬ b.f < fAt l (k - 1)) (hcb : ∀ j c, j < k → l[j]? = some c → c.f < b.e) (hff : k < f) :
    (twB l k b = true → ∃ s, evCode (evC Dg) f c15b1 (S15 l k) = some (.ret s) ∧ R15 4 s) ∧ (¬ twB l k b = true → ∃ s, evCode (evC Dg) f c15b1 (S15 l k) = some (.normal s) ∧ norm [0, 3] 0 s = S15 l (k + 1)) := by
  have hk : k < l.length := (List.getElem?_eq_some_iff.1 hb).1
  have hk' : (k : Int) < l.length := by omega
  have w1 := wrap_i64 ((k : Int) + 1) (by omega) (by omega)
  have eL := bRows_len l
  have eg := bRows_get hb
  have eg' := bRows_getE hb
  have H := fun (s0 : St) (E : Option Out) => loop_while (body := evCode (evC Dg) f c15b0) (keep := [0, 3, 4, 6]) (n0 := 1) (fuel := f) (S15i l k b) (fun j => k - j) (fun j => j ≤ k ∧ ∀ i c, i < j → l[i]? = some c → ¬ (c.i = b.i ∧ b.f < c.e)) (fun o => (twB l k b = true ∧ ∃ s, o = .ret s ∧ R15 4 s) ∨ (¬ twB l k b = true ∧ o = .exit 2 (X15i l k b))) (by
    rintro j ⟨hj, hI⟩
    by_cases hjk : j < k
    · obtain ⟨c, hc⟩ : ∃ c, l[j]? = some c := ⟨_, List.getElem?_eq_getElem (by omega)⟩
      obtain ⟨q1, q2⟩ := step15i l hl k (by omega) b c j hjk hc (hcb j c hjk hc) f
      by_cases ht : c.i = b.i ∧ b.f < c.e
      · obtain ⟨s, e1, e2⟩ := q1 ht
        refine .inr ⟨_, e1, fun s h => (by cases h), .inl ⟨?_, s, rfl, e2⟩⟩
        unfold twB
        rw [List.any_eq_true]
        refine ⟨c, List.mem_iff_getElem?.2 ⟨j, by rw [List.getElem?_take, if_pos hjk, hc]⟩, by simp [ht.1, ht.2]⟩
      · obtain ⟨s, e1, e2⟩ := q2 ht
        refine .inl ⟨j + 1, s, e1, e2, ⟨by omega, fun i d hi hd => ?_⟩, by omega⟩
        rcases Nat.lt_or_ge i j with h11 | h11
        · exact hI i d h11 hd
        · obtain rfl : i = j := by omega
          rw [hc] at hd; cases hd; exact ht
    · obtain rfl : j = k := by omega
      refine .inr ⟨_, exit15i l j b f, fun s h => (by cases h), .inr ⟨fun h => ?_, rfl⟩⟩
      unfold twB at h
      rw [List.any_eq_true] at h
      obtain ⟨c, hc, h12⟩ := h
      obtain ⟨i, hi⟩ := List.mem_iff_getElem?.1 hc
      rw [List.getElem?_take] at hi
      split at hi
      · rename_i hij
        simp at h12
        exact hI i c hij hi h12
      · cases hi) 0 ⟨Nat.zero_le _, fun i c h => by omega⟩ (by omega) s0 E
  have h38 := f38 b.st
  simp only [eTx] at h38
  rw [hf] at h38
  obtain ⟨u, hu⟩ : ∃ u, l[k - 1]? = some u := ⟨_, List.getElem?_eq_getElem (by omega)⟩
  have hta : fAt l (k - 1) = u.f := by unfold fAt; rw [hu]
  rw [hta] at h10
  have w2 : IntKind.i64.wrap ((k : Int) - 1) = ((k - 1 : Nat) : Int) := by rw [wrap_i64 _ (by omega) (by omega)]; omega
  have ug := bRows_get hu
  have ug' := bRows_getE hu
  have hj : k - 1 < l.length := by omega
  have d0 : (0 : Int) < k := by omega
  obtain ⟨j, hjj⟩ : ∃ j, k - 1 = j := ⟨_, rfl⟩
  have ug2 : ∀ g, (bRows l)[j]'g = bRow u := by rw [← hjj]; exact ug'
  rw [hjj] at w2 ug hj
  have d1 : (0 : Int) ≤ j := by omega
  clear ug' hu hjj
  constructor
  · intro ht
    unfold c15b1
    simp [evCode, evOps, evOne, evOp, evPur, evEff, evPur.chunks, fillP, AOp.isEff, AO.ev, putP, PV.cells, PV.leaf, getB, getM, mapE, iterE, keyC, mapRows, mfind, eq1, eqL, scal, binP, unP, minP, maxP, foldP, PV.lt, PV.lt.ltL, endP, expoAll, expoG, expo, expo.expoL, frIds, frIds.frIdsL, nodupN, kill, cls, clsFuel, resO, RV.get, loadP, evC_p, evC_s, endS, endT, rowsOf, callP, thinL, unfr, unfr.unfrL, PV.noMem, PV.noMem.noMemL, optI, mapO, norm, trimT, trimB, forget, hasN, blksLt, List.set, softChk, softGo, softRd, effTg, rdP, S15, R15, hk, hk', w1, eL, eg, eg', bRow, eTx, h0, h1, h2, h3, h4, h5, h6, h7, h8, h38, h9, h10, w2, ug, ug2, hj, d0, d1]
    generalize hE : evLoop (evCode (evC Dg) f c15b0) [0, 3, 4, 6] 1 f _ = E
    obtain ⟨o, rfl, ⟨_, s, rfl, hR⟩ | ⟨h, _⟩⟩ := H _ E hE (by simp [evCode, evOps, evOne, evOp, evPur, evEff, evPur.chunks, fillP, AOp.isEff, AO.ev, putP, PV.cells, PV.leaf, getB, getM, mapE, iterE, keyC, mapRows, mfind, eq1, eqL, scal, binP, unP, minP, maxP, foldP, PV.lt, PV.lt.ltL, endP, expoAll, expoG, expo, expo.expoL, frIds, frIds.frIdsL, nodupN, kill, cls, clsFuel, resO, RV.get, loadP, evC_p, evC_s, endS, endT, rowsOf, callP, thinL, unfr, unfr.unfrL, PV.noMem, PV.noMem.noMemL, optI, mapO, norm, trimT, trimB, forget, hasN, blksLt, List.set, softChk, softGo, softRd, effTg, rdP, S15i, bRow, eTx])
    · unfold R15 at hR
      simp [evCode, evOps, evOne, evOp, evPur, evEff, evPur.chunks, fillP, AOp.isEff, AO.ev, putP, PV.cells, PV.leaf, getB, getM, mapE, iterE, keyC, mapRows, mfind, eq1, eqL, scal, binP, unP, minP, maxP, foldP, PV.lt, PV.lt.ltL, endP, expoAll, expoG, expo, expo.expoL, frIds, frIds.frIdsL, nodupN, kill, cls, clsFuel, resO, RV.get, loadP, evC_p, evC_s, endS, endT, rowsOf, callP, thinL, unfr, unfr.unfrL, PV.noMem, PV.noMem.noMemL, optI, mapO, norm, trimT, trimB, forget, hasN, blksLt, List.set, softChk, softGo, softRd, effTg, rdP, hR]
    · exact absurd ht h
  · intro ht
    unfold c15b1
    simp [evCode, evOps, evOne, evOp, evPur, evEff, evPur.chunks, fillP, AOp.isEff, AO.ev, putP, PV.cells, PV.leaf, getB, getM, mapE, iterE, keyC, mapRows, mfind, eq1, eqL, scal, binP, unP, minP, maxP, foldP, PV.lt, PV.lt.ltL, endP, expoAll, expoG, expo, expo.expoL, frIds, frIds.frIdsL, nodupN, kill, cls, clsFuel, resO, RV.get, loadP, evC_p, evC_s, endS, endT, rowsOf, callP, thinL, unfr, unfr.unfrL, PV.noMem, PV.noMem.noMemL, optI, mapO, norm, trimT, trimB, forget, hasN, blksLt, List.set, softChk, softGo, softRd, effTg, rdP, S15, R15, hk, hk', w1, eL, eg, eg', bRow, eTx, h0, h1, h2, h3, h4, h5, h6, h7, h8, h38, h9, h10, w2, ug, ug2, hj, d0, d1]
    generalize hE : evLoop (evCode (evC Dg) f c15b0) [0, 3, 4, 6] 1 f _ = E
    obtain ⟨o, rfl, ⟨h, _⟩ | ⟨_, rfl⟩⟩ := H _ E hE (by simp [evCode, evOps, evOne, evOp, evPur, evEff, evPur.chunks, fillP, AOp.isEff, AO.ev, putP, PV.cells, PV.leaf, getB, getM, mapE, iterE, keyC, mapRows, mfind, eq1, eqL, scal, binP, unP, minP, maxP, foldP, PV.lt, PV.lt.ltL, endP, expoAll, expoG, expo, expo.expoL, frIds, frIds.frIdsL, nodupN, kill, cls, clsFuel, resO, RV.get, loadP, evC_p, evC_s, endS, endT, rowsOf, callP, thinL, unfr, unfr.unfrL, PV.noMem, PV.noMem.noMemL, optI, mapO, norm, trimT, trimB, forget, hasN, blksLt, List.set, softChk, softGo, softRd, effTg, rdP, S15i, bRow, eTx])
    · exact absurd h ht
    · unfold X15i
      simp [evCode, evOps, evOne, evOp, evPur, evEff, evPur.chunks, fillP, AOp.isEff, AO.ev, putP, PV.cells, PV.leaf, getB, getM, mapE, iterE, keyC, mapRows, mfind, eq1, eqL, scal, binP, unP, minP, maxP, foldP, PV.lt, PV.lt.ltL, endP, expoAll, expoG, expo, expo.expoL, frIds, frIds.frIdsL, nodupN, kill, cls, clsFuel, resO, RV.get, loadP, evC_p, evC_s, endS, endT, rowsOf, callP, thinL, unfr, unfr.unfrL, PV.noMem, PV.noMem.noMemL, optI, mapO, norm, trimT, trimB, forget, hasN, blksLt, List.set, softChk, softGo, softRd, effTg, rdP, w1, bRow, eTx]
end
end Go.Proofs.Ytalmhggbdfjalaa
