/- event: EventSame. -/
import Derived.Test.YtidkdiooempkpaaDoorEtK
namespace Go.Proofs.YtidkdiooempkpaaDoor
open Go Go.RowKit Go.Lib
set_option linter.unusedVariables false
set_option linter.unusedSimpArgs false
set_option maxHeartbeats 4000000
set_option maxRecDepth 100000

theorem sm_st {e : Ev} (h : smB e = true) : e.st.length ≤ 1000000000000 := by
  unfold smB at h
  simp only [Bool.and_eq_true, decide_eq_true_eq] at h
  omega
theorem smE_comm (a b : Ev) : smE b a = smE a b := by
  by_cases h : a = b
  · subst h; rfl
  · have h1 : smE a b = false := by cases hq : smE a b with | false => rfl | true => exact absurd ((smE_iff a b).1 hq) h
    have h2 : smE b a = false := by cases hq : smE b a with | false => rfl | true => exact absurd ((smE_iff b a).1 hq).symm h
    rw [h1, h2]
theorem f6 (a b : Ev) : evE Dg 6 [eE a, eE b] = some (.bool true) := by
  have h10 := f10
  have h9a := f9 a
  have h9b := f9 b
  have ea := f11 a
  have eb := f11 b
  have ta := f13a a
  have tb := f13a b
  rw [eE'] at h9a h9b ea eb ta tb
  rw [eE', eE']
  cases ha : smB a with
  | false =>
    rw [ha] at h9a
    refine evE_intro 1 D6 rfl ?_
    unfold c6
    simp [evCode, evOps, evOne, evOp, evPur, evEff, evPur.chunks, fillP, AOp.isEff, AO.ev, putP, PV.cells, PV.leaf, getB, getM, mapE, iterE, keyC, mapRows, mfind, eq1, eqL, scal, binP, unP, minP, maxP, foldP, PV.lt, PV.lt.ltL, endP, expoAll, expoG, expo, expo.expoL, frIds, frIds.frIdsL, nodupN, kill, cls, clsFuel, resO, RV.get, loadP, evC_p, evC_s, endS, endT, rowsOf, callP, thinL, unfr, unfr.unfrL, PV.noMem, PV.noMem.noMemL, optI, mapO, norm, trimT, trimB, forget, hasN, blksLt, List.set, softChk, softGo, softRd, effTg, tgOf, chgN, sameB, PV.same, PV.same.sameL, PV.same.sameLL, rdP, h10, h9a]
  | true =>
    rw [ha] at h9a
    cases hb : smB b with
    | false =>
      rw [hb] at h9b
      refine evE_intro 1 D6 rfl ?_
      unfold c6
      simp [evCode, evOps, evOne, evOp, evPur, evEff, evPur.chunks, fillP, AOp.isEff, AO.ev, putP, PV.cells, PV.leaf, getB, getM, mapE, iterE, keyC, mapRows, mfind, eq1, eqL, scal, binP, unP, minP, maxP, foldP, PV.lt, PV.lt.ltL, endP, expoAll, expoG, expo, expo.expoL, frIds, frIds.frIdsL, nodupN, kill, cls, clsFuel, resO, RV.get, loadP, evC_p, evC_s, endS, endT, rowsOf, callP, thinL, unfr, unfr.unfrL, PV.noMem, PV.noMem.noMemL, optI, mapO, norm, trimT, trimB, forget, hasN, blksLt, List.set, softChk, softGo, softRd, effTg, tgOf, chgN, sameB, PV.same, PV.same.sameL, PV.same.sameLL, rdP, h10, h9a, h9b]
    | true =>
      rw [hb] at h9b
      have s1 := f18 false false a b (sm_st ha)
      have s2 := f18 false false b a (sm_st hb)
      have s3 := f18 false false a a (sm_st ha)
      have s4 := f16 false false a b (sm_st ha)
      rw [smE_comm] at s2
      rw [(smE_iff a a).2 rfl] at s3
      have key : errV a = 0 → errV b = 0 → (smE a b = true ↔ txE a = txE b) := fun h1 h2 => by
        rw [smE_iff]
        exact ⟨fun h => by rw [h], fun h => tx_inj h1 h2 h⟩
      unfold eX at s1 s2 s3 s4
      generalize errV a = x at *
      generalize errV b = y at *
      generalize txE a = t at *
      generalize txE b = u at *
      generalize smE a b = q at *
      by_cases hx : x = 0
      · by_cases hy : y = 0
        · have key := key hx hy
          subst hx
          subst hy
          cases q with
          | true =>
            have htu : t = u := (key rfl rfl).1 rfl
            subst htu
            refine evE_intro 1 D6 rfl ?_
            unfold c6
            simp [evCode, evOps, evOne, evOp, evPur, evEff, evPur.chunks, fillP, AOp.isEff, AO.ev, putP, PV.cells, PV.leaf, getB, getM, mapE, iterE, keyC, mapRows, mfind, eq1, eqL, scal, binP, unP, minP, maxP, foldP, PV.lt, PV.lt.ltL, endP, expoAll, expoG, expo, expo.expoL, frIds, frIds.frIdsL, nodupN, kill, cls, clsFuel, resO, RV.get, loadP, evC_p, evC_s, endS, endT, rowsOf, callP, thinL, unfr, unfr.unfrL, PV.noMem, PV.noMem.noMemL, optI, mapO, norm, trimT, trimB, forget, hasN, blksLt, List.set, softChk, softGo, softRd, effTg, tgOf, chgN, sameB, PV.same, PV.same.sameL, PV.same.sameLL, rdP, h10, h9a, h9b, s1, s2, s3, s4, ea, eb, ta, tb]
          | false =>
            have htu : ¬ t = u := fun h => by simpa using (key rfl rfl).2 h
            refine evE_intro 1 D6 rfl ?_
            unfold c6
            simp [evCode, evOps, evOne, evOp, evPur, evEff, evPur.chunks, fillP, AOp.isEff, AO.ev, putP, PV.cells, PV.leaf, getB, getM, mapE, iterE, keyC, mapRows, mfind, eq1, eqL, scal, binP, unP, minP, maxP, foldP, PV.lt, PV.lt.ltL, endP, expoAll, expoG, expo, expo.expoL, frIds, frIds.frIdsL, nodupN, kill, cls, clsFuel, resO, RV.get, loadP, evC_p, evC_s, endS, endT, rowsOf, callP, thinL, unfr, unfr.unfrL, PV.noMem, PV.noMem.noMemL, optI, mapO, norm, trimT, trimB, forget, hasN, blksLt, List.set, softChk, softGo, softRd, effTg, tgOf, chgN, sameB, PV.same, PV.same.sameL, PV.same.sameLL, rdP, h10, h9a, h9b, s1, s2, s3, s4, ea, eb, ta, tb, htu]
        · subst hx
          refine evE_intro 1 D6 rfl ?_
          unfold c6
          simp [evCode, evOps, evOne, evOp, evPur, evEff, evPur.chunks, fillP, AOp.isEff, AO.ev, putP, PV.cells, PV.leaf, getB, getM, mapE, iterE, keyC, mapRows, mfind, eq1, eqL, scal, binP, unP, minP, maxP, foldP, PV.lt, PV.lt.ltL, endP, expoAll, expoG, expo, expo.expoL, frIds, frIds.frIdsL, nodupN, kill, cls, clsFuel, resO, RV.get, loadP, evC_p, evC_s, endS, endT, rowsOf, callP, thinL, unfr, unfr.unfrL, PV.noMem, PV.noMem.noMemL, optI, mapO, norm, trimT, trimB, forget, hasN, blksLt, List.set, softChk, softGo, softRd, effTg, tgOf, chgN, sameB, PV.same, PV.same.sameL, PV.same.sameLL, rdP, h10, h9a, h9b, s1, s2, s3, s4, ea, eb, hy]
      · refine evE_intro 1 D6 rfl ?_
        unfold c6
        simp [evCode, evOps, evOne, evOp, evPur, evEff, evPur.chunks, fillP, AOp.isEff, AO.ev, putP, PV.cells, PV.leaf, getB, getM, mapE, iterE, keyC, mapRows, mfind, eq1, eqL, scal, binP, unP, minP, maxP, foldP, PV.lt, PV.lt.ltL, endP, expoAll, expoG, expo, expo.expoL, frIds, frIds.frIdsL, nodupN, kill, cls, clsFuel, resO, RV.get, loadP, evC_p, evC_s, endS, endT, rowsOf, callP, thinL, unfr, unfr.unfrL, PV.noMem, PV.noMem.noMemL, optI, mapO, norm, trimT, trimB, forget, hasN, blksLt, List.set, softChk, softGo, softRd, effTg, tgOf, chgN, sameB, PV.same, PV.same.sameL, PV.same.sameLL, rdP, h10, h9a, h9b, s1, s2, s3, s4, ea, eb, hx]
theorem law6 (ps : List PV) (h : ArgL Tryd.prog 12 [25, 25] ps) : evE Dg 6 ps = some (.bool true) := by
  obtain ⟨p, q, rfl, h1, h2⟩ := argL2 h
  obtain ⟨a, rfl⟩ := in_ev h1
  obtain ⟨b, rfl⟩ := in_ev h2
  exact f6 a b
end Go.Proofs.YtidkdiooempkpaaDoor
