/- MemoryPeak. -/
import Derived.Test.YtalmhggbdfjalaaMmR
import Derived.Test.YtalmhggbdfjalaaMmS
import Derived.Test.YtalmhggbdfjalaaMmN
import Derived.Test.YtalmhggbdfjalaaMmI
import Derived.Test.YtalmhggbdfjalaaAw
namespace Go.Proofs.Ytalmhggbdfjalaa
open Go Go.RowKit
set_option linter.unusedVariables false
set_option linter.unusedSectionVars false
set_option linter.unusedSimpArgs false
set_option maxHeartbeats 4000000

theorem few_st {l : List Bk} (h : fewB l = true) : l.length ≤ 200 ∧ ∀ t ∈ l, t.st.length ≤ 60 := by
  unfold fewB fewS at h
  simp at h
  exact ⟨h.1, fun t ht => h.2 t ht⟩
theorem chk_rng {l : List Bk} (h : chkL l = 0) : ∀ b ∈ l, ¬ rngBad b := by
  intro b hb hr
  obtain ⟨k, hk⟩ := List.mem_iff_getElem?.1 hb
  have h1 := chkL_all h k (List.getElem?_eq_some_iff.1 hk).1
  unfold errZ at h1
  rw [hk] at h1
  simp only at h1
  unfold errAt at h1
  rw [if_pos hr] at h1
  cases h1
set_option maxRecDepth 100000 in
theorem f5 (l : List Bk) (t : Int) : evE Dg 5 [.sl false 7 (bRows l), .int .i64 t] = some (.bool true) := by
  have h13 := f13 l
  have h9 := f9
  have eL := bRows_len l
  cases hs : fewB l with
  | false =>
    rw [hs] at h13
    refine evE_intro 1 D5 rfl ?_
    unfold c5
    simp [evCode, evOps, evOne, evOp, evPur, evEff, evPur.chunks, fillP, AOp.isEff, AO.ev, putP, PV.cells, PV.leaf, getB, getM, mapE, iterE, keyC, mapRows, mfind, eq1, eqL, scal, binP, unP, minP, maxP, foldP, PV.lt, PV.lt.ltL, endP, expoAll, expoG, expo, expo.expoL, frIds, frIds.frIdsL, nodupN, kill, cls, clsFuel, resO, RV.get, loadP, evC_p, evC_s, endS, endT, rowsOf, callP, thinL, unfr, unfr.unfrL, PV.noMem, PV.noMem.noMemL, optI, mapO, norm, trimT, trimB, forget, hasN, blksLt, List.set, softChk, softGo, softRd, effTg, rdP, h13, h9]
  | true =>
    rw [hs] at h13
    obtain ⟨hl, _⟩ := few_st hs
    have h14 := f14 l (by omega)
    by_cases hc : chkL l = 0
    · rw [hc] at h14
      have hr := chk_rng hc
      have hS : Siz l := ⟨hl, fun b hb => by have := hr b hb; unfold rngBad at this; omega⟩
      have hfe : ∀ b ∈ l, b.f < b.e := fun b hb => by have := hr b hb; unfold rngBad at this; omega
      have h18 := f18 l hS
      have h20 := f20 l t hS
      by_cases hne : l = []
      · subst hne
        have h21 : live [] t = 0 := rfl
        rw [h21] at h20
        have h22 : (runP (Try.srt (chg [])) (chg []).length).1 = 0 := rfl
        have h23 : (runP (Try.srt (chg [])) (chg []).length).2.1 = 0 := rfl
        rw [h22, h23] at h18
        simp only [bRows, List.map_nil] at h13 h14 h18 h20
        refine evE_intro 1 D5 rfl ?_
        unfold c5
        simp [evCode, evOps, evOne, evOp, evPur, evEff, evPur.chunks, fillP, AOp.isEff, AO.ev, putP, PV.cells, PV.leaf, getB, getM, mapE, iterE, keyC, mapRows, mfind, eq1, eqL, scal, binP, unP, minP, maxP, foldP, PV.lt, PV.lt.ltL, endP, expoAll, expoG, expo, expo.expoL, frIds, frIds.frIdsL, nodupN, kill, cls, clsFuel, resO, RV.get, loadP, evC_p, evC_s, endS, endT, rowsOf, callP, thinL, unfr, unfr.unfrL, PV.noMem, PV.noMem.noMemL, optI, mapO, norm, trimT, trimB, forget, hasN, blksLt, List.set, softChk, softGo, softRd, effTg, rdP, bRows, h13, h14, h18, h20, h9]
      · have hP := peak l hne (fun b hb => (hS.2 b hb).1) hfe
        generalize (runP (Try.srt (chg l)) (chg l).length).1 = p at *
        generalize (runP (Try.srt (chg l)) (chg l).length).2.1 = m at *
        have h21 := f20 l p hS
        rw [hP.a] at h21
        have c1 := hP.b t
        have c2 := hP.c t
        have c3 : ¬ (l.length : Int) = 0 := by
          have := List.length_pos_iff.2 hne
          omega
        generalize live l t = n at *
        refine evE_intro 1 D5 rfl ?_
        unfold c5
        by_cases ht : p ≤ t
        · simp [evCode, evOps, evOne, evOp, evPur, evEff, evPur.chunks, fillP, AOp.isEff, AO.ev, putP, PV.cells, PV.leaf, getB, getM, mapE, iterE, keyC, mapRows, mfind, eq1, eqL, scal, binP, unP, minP, maxP, foldP, PV.lt, PV.lt.ltL, endP, expoAll, expoG, expo, expo.expoL, frIds, frIds.frIdsL, nodupN, kill, cls, clsFuel, resO, RV.get, loadP, evC_p, evC_s, endS, endT, rowsOf, callP, thinL, unfr, unfr.unfrL, PV.noMem, PV.noMem.noMemL, optI, mapO, norm, trimT, trimB, forget, hasN, blksLt, List.set, softChk, softGo, softRd, effTg, rdP, h13, h14, h18, h20, h21, h9, eL, c1, c3, hne, ht]
        · have c4 := c2 (by omega)
          simp [evCode, evOps, evOne, evOp, evPur, evEff, evPur.chunks, fillP, AOp.isEff, AO.ev, putP, PV.cells, PV.leaf, getB, getM, mapE, iterE, keyC, mapRows, mfind, eq1, eqL, scal, binP, unP, minP, maxP, foldP, PV.lt, PV.lt.ltL, endP, expoAll, expoG, expo, expo.expoL, frIds, frIds.frIdsL, nodupN, kill, cls, clsFuel, resO, RV.get, loadP, evC_p, evC_s, endS, endT, rowsOf, callP, thinL, unfr, unfr.unfrL, PV.noMem, PV.noMem.noMemL, optI, mapO, norm, trimT, trimB, forget, hasN, blksLt, List.set, softChk, softGo, softRd, effTg, rdP, h13, h14, h18, h20, h21, h9, eL, c1, c3, hne, ht, c4]
    · refine evE_intro 1 D5 rfl ?_
      unfold c5
      simp [evCode, evOps, evOne, evOp, evPur, evEff, evPur.chunks, fillP, AOp.isEff, AO.ev, putP, PV.cells, PV.leaf, getB, getM, mapE, iterE, keyC, mapRows, mfind, eq1, eqL, scal, binP, unP, minP, maxP, foldP, PV.lt, PV.lt.ltL, endP, expoAll, expoG, expo, expo.expoL, frIds, frIds.frIdsL, nodupN, kill, cls, clsFuel, resO, RV.get, loadP, evC_p, evC_s, endS, endT, rowsOf, callP, thinL, unfr, unfr.unfrL, PV.noMem, PV.noMem.noMemL, optI, mapO, norm, trimT, trimB, forget, hasN, blksLt, List.set, softChk, softGo, softRd, effTg, rdP, h13, h14, h9, hc]
theorem law5 (ps : List PV) (h : ArgL Try.prog 12 [26, 3] ps) : evE Dg 5 ps = some (.bool true) := by
  obtain ⟨p, q, rfl, h1, h2⟩ := argL2 h
  obtain ⟨l, rfl⟩ := in_blocks h1
  obtain ⟨i, rfl, hw⟩ := argT_int Try.underlying3 h2
  exact f5 l i
end Go.Proofs.Ytalmhggbdfjalaa
