/- MemoryChecks. -/
import Derived.Test.YtalmhggbdfjalaaMmT
import Derived.Test.YtalmhggbdfjalaaMmU
import Derived.Test.YtalmhggbdfjalaaMmV
namespace Go.Proofs.Ytalmhggbdfjalaa
open Go Go.RowKit
set_option linter.unusedVariables false
set_option linter.unusedSectionVars false
set_option linter.unusedSimpArgs false
set_option maxHeartbeats 4000000

theorem chk_srt {l : List Bk} (h : chkL l = 0) : l.Pairwise (fun a b => a.f ≤ b.f) := by
  have key : ∀ (j i : Nat) (c d : Bk), i ≤ j → l[i]? = some c → l[j]? = some d → c.f ≤ d.f := by
    intro j
    induction j with
    | zero =>
      intro i c d hij hc hd
      obtain rfl : i = 0 := by omega
      rw [hc] at hd; cases hd; omega
    | succ n ih =>
      intro i c d hij hc hd
      rcases Nat.lt_or_ge n i with h1 | h1
      · obtain rfl : i = n + 1 := by omega
        rw [hc] at hd; cases hd; omega
      · obtain ⟨u, hu⟩ : ∃ u, l[n]? = some u := ⟨_, List.getElem?_eq_getElem (by have := (List.getElem?_eq_some_iff.1 hd).1; omega)⟩
        have h2 := ih i c u h1 hc hu
        have h3 : errAt l (n + 1) d = 0 := by
          have h4 := chkL_all h (n + 1) (List.getElem?_eq_some_iff.1 hd).1
          unfold errZ at h4
          rw [hd] at h4
          exact h4
        have h5 : ¬ (0 < n + 1 ∧ d.f < fAt l (n + 1 - 1)) := by
          intro h15
          unfold errAt at h3
          split at h3
          · cases h3
          · split at h3
            · rename_i h17; exact h17 h3
            · first | (cases h3; done) | (rw [if_pos h15] at h3; cases h3)
        have h6 : fAt l (n + 1 - 1) = u.f := by
          unfold fAt
          rw [Nat.add_sub_cancel, hu]
        rw [h6] at h5
        omega
  rw [List.pairwise_iff_getElem]
  intro i j hi hj hij
  exact key j i _ _ (by omega) (List.getElem?_eq_getElem hi) (List.getElem?_eq_getElem hj)
set_option maxRecDepth 100000 in
theorem f4 (l : List Bk) (t : Int) : evE Dg 4 [.sl false 7 (bRows l), .int .i64 t] = some (.bool true) := by
  have h13 := f13 l
  have h9 := f9
  have eL := bRows_len l
  cases hs : fewB l with
  | false =>
    rw [hs] at h13
    refine evE_intro 1 D4 rfl ?_
    unfold c4
    simp [evCode, evOps, evOne, evOp, evPur, evEff, evPur.chunks, fillP, AOp.isEff, AO.ev, putP, PV.cells, PV.leaf, getB, getM, mapE, iterE, keyC, mapRows, mfind, eq1, eqL, scal, binP, unP, minP, maxP, foldP, PV.lt, PV.lt.ltL, endP, expoAll, expoG, expo, expo.expoL, frIds, frIds.frIdsL, nodupN, kill, cls, clsFuel, resO, RV.get, loadP, evC_p, evC_s, endS, endT, rowsOf, callP, thinL, unfr, unfr.unfrL, PV.noMem, PV.noMem.noMemL, optI, mapO, norm, trimT, trimB, forget, hasN, blksLt, List.set, softChk, softGo, softRd, effTg, rdP, h13, h9]
  | true =>
    rw [hs] at h13
    obtain ⟨hl, hst⟩ := few_st hs
    have h14 := f14 l (by omega)
    have h15 := f15 l (by omega)
    obtain ⟨h16, hle⟩ := f16 l (by omega)
    have h17 := f17 l (by omega)
    have h10 := f10 (leaks l) (by omega) (fun b hb => by
      rcases leaks_mem l [] b hb with h | h
      · cases h
      · have := hst b h
        omega)
    generalize leaks l = lk at *
    by_cases hc : chkL l = 0
    · rw [hc] at h14 h15
      have hr := chk_rng hc
      have hS : Siz l := ⟨hl, fun b hb => by have := hr b hb; unfold rngBad at this; omega⟩
      have hfe : ∀ b ∈ l, b.f < b.e := fun b hb => by have := hr b hb; unfold rngBad at this; omega
      have h18 := f18 l hS
      have h19 := f19 l hS
      have h20 := f20 l t hS
      have h21 := f21 l t hS
      have hsame : l.foldl (pkN l) (0, 0) = ((runP (Try.srt (chg l)) (chg l).length).1, (runP (Try.srt (chg l)) (chg l).length).2.1) := by
        by_cases hne : l = []
        · subst hne; rfl
        · have hP := peak l hne (fun b hb => (hS.2 b hb).1) hfe
          refine pk_same l (fun b hb => (hS.2 b hb).1) (chk_srt hc) _ _ ?_ hP
          obtain ⟨b, r, rfl⟩ := List.exists_cons_of_ne_nil hne
          have h1 := hP.b b.f
          have h2 := lvN_ge b.f r (fun c hc => (hS.2 c (List.mem_cons_of_mem _ hc)).1) (lvN b.f 0 b)
          have h3 := (hS.2 b (List.mem_cons_self ..)).1
          have h4 := hfe b (List.mem_cons_self ..)
          have h5 : lvN b.f 0 b = b.s := by
            unfold lvN
            rw [if_pos ⟨Int.le_refl _, h4⟩]; omega
          have h6 : live (b :: r) b.f = r.foldl (lvN b.f) (lvN b.f 0 b) := rfl
          omega
      rw [hsame] at h19
      simp only at h19
      generalize (runP (Try.srt (chg l)) (chg l).length).1 = p at *
      generalize (runP (Try.srt (chg l)) (chg l).length).2.1 = m at *
      refine evE_intro 1 D4 rfl ?_
      unfold c4
      simp [evCode, evOps, evOne, evOp, evPur, evEff, evPur.chunks, fillP, AOp.isEff, AO.ev, putP, PV.cells, PV.leaf, getB, getM, mapE, iterE, keyC, mapRows, mfind, eq1, eqL, scal, binP, unP, minP, maxP, foldP, PV.lt, PV.lt.ltL, endP, expoAll, expoG, expo, expo.expoL, frIds, frIds.frIdsL, nodupN, kill, cls, clsFuel, resO, RV.get, loadP, evC_p, evC_s, endS, endT, rowsOf, callP, thinL, unfr, unfr.unfrL, PV.noMem, PV.noMem.noMemL, optI, mapO, norm, trimT, trimB, forget, hasN, blksLt, List.set, softChk, softGo, softRd, effTg, rdP, h13, h14, h15, h16, h17, h10, h18, h19, h20, h21, h9]
    · refine evE_intro 1 D4 rfl ?_
      unfold c4
      simp [evCode, evOps, evOne, evOp, evPur, evEff, evPur.chunks, fillP, AOp.isEff, AO.ev, putP, PV.cells, PV.leaf, getB, getM, mapE, iterE, keyC, mapRows, mfind, eq1, eqL, scal, binP, unP, minP, maxP, foldP, PV.lt, PV.lt.ltL, endP, expoAll, expoG, expo, expo.expoL, frIds, frIds.frIdsL, nodupN, kill, cls, clsFuel, resO, RV.get, loadP, evC_p, evC_s, endS, endT, rowsOf, callP, thinL, unfr, unfr.unfrL, PV.noMem, PV.noMem.noMemL, optI, mapO, norm, trimT, trimB, forget, hasN, blksLt, List.set, softChk, softGo, softRd, effTg, rdP, h13, h14, h15, h16, h17, h10, h9, hc]
theorem law4 (ps : List PV) (h : ArgL Try.prog 12 [26, 3] ps) : evE Dg 4 ps = some (.bool true) := by
  obtain ⟨p, q, rfl, h1, h2⟩ := argL2 h
  obtain ⟨l, rfl⟩ := in_blocks h1
  obtain ⟨i, rfl, hw⟩ := argT_int Try.underlying3 h2
  exact f4 l i
end Go.Proofs.Ytalmhggbdfjalaa
