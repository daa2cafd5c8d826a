/- FracCancels. -/
import Derived.Test.YtddglikicokpeaaDoorFrZ
namespace Go.Proofs.YtddglikicokpeaaDoor
open Go Go.RowKit
set_option linter.unusedVariables false
set_option linter.unusedSimpArgs false
set_option maxHeartbeats 4000000
set_option maxRecDepth 100000 in
theorem f9core (ZL ZB ZT : List (List PV)) (x u : Fr) (uk : Bool) (a : Fr) (m q n : Nat) (hm : 0 < m) (hm2 : m ≤ 200)
    (eL : ZL.length = m) (eB : ZB.length = q) (eTl : ZT.length = n) (hmn : m - 1 = n)
    (aB : ZB.take q = ZB) (aL : ZL.take m = ZL) (lt1 : ZL.all (PV.lt.ltL 0) = true) (eD : ZL.tail = ZT)
    (h0 : ZL[0]? = some (rF a)) (h0' : ∀ g, ZL[0]'g = rF a)
    (q1 : evE Dg 27 [.sl false 2 ZL] = some (eR (x, true))) (q2 : evE Dg 27 [.sl false 2 ZB] = some (eR ((0, 1), true)))
    (q3 : evE Dg 27 [.sl false 2 ZT] = some (eR (u, uk))) (q4 : evE Dg 20 [eF x, eF a] = some (eR (u, uk)))
    (q5 : evE Dg 30 [.int .i64 0, .int .i64 1] = some (eF (0, 1)))
    (T1 : ∀ (s0 : St) (E : Option Out), evLoop (evCode (evC Dg) 30000 c9b0) [0, 3, 5, 6] 2 30000 s0 = E → norm [0, 3, 5, 6] 2 s0 =
      ⟨[.sl false 2 ZL, .top, .top, .ptr 0 1 0 0, .top, .own 1 m 0 m, .int .i64 0] ++ List.replicate 84 .top, [some ⟨1, 2, true, [[.int .i64 x.1, .int .i64 x.2]]⟩, some ⟨m, 2, true, ZL⟩]⟩ →
      E = evCode (evC Dg) 30000 c9b0 ⟨[.sl false 2 ZL, .top, .top, .ptr 0 1 0 0, .top, .own 1 q 0 q, .int .i64 m] ++ List.replicate 84 .top, [some ⟨1, 2, true, [[.int .i64 x.1, .int .i64 x.2]]⟩, some ⟨q, 2, true, ZB⟩]⟩) :
    evE Dg 9 [.sl false 2 ZL] = some (.bool true) := by
  have h14 := f14
  have hl' : ¬ (200 : Int) < m := by omega
  have hn0 : ¬ ((m : Int) = 0) := by omega
  have hn1 : ¬ (m = 0) := by omega
  have hm1 : 1 ≤ (m : Int) := by omega
  have hm3 : 1 ≤ m := hm
  have b1 : m * 16 ≤ 140737488355328 := by omega
  have b2 : m ≤ 140737488355328 := by omega
  obtain ⟨x1, x2⟩ := x
  obtain ⟨u1, u2⟩ := u
  obtain ⟨a1, a2⟩ := a
  simp only [eR, eF, rF] at *
  refine evE_intro 30000 D9 rfl ?_
  unfold c9
  simp [evCode, evOps, evOne, evOp, evPur, evEff, evPur.chunks, fillP, AOp.isEff, AO.ev, putP, PV.cells, PV.leaf, getB, getM, mapE, iterE, keyC, mapRows, mfind, eq1, eqL, scal, binP, unP, minP, maxP, foldP, PV.lt, PV.lt.ltL, endP, expoAll, expoG, expo, expo.expoL, frIds, frIds.frIdsL, nodupN, kill, cls, clsFuel, resO, RV.get, loadP, evC_p, evC_s, endS, endT, rowsOf, callP, thinL, unfr, unfr.unfrL, PV.noMem, PV.noMem.noMemL, optI, mapO, norm, trimT, trimB, forget, hasN, blksLt, List.set, softChk, softGo, softRd, effTg, rdP, eL, hl', h14, q1, hn0, hn1, lt1, aL, b1, b2]
  generalize hE : evLoop (evCode (evC Dg) 30000 c9b0) [0, 3, 5, 6] 2 30000 _ = E
  have T2 := T1 _ E hE (by simp [evCode, evOps, evOne, evOp, evPur, evEff, evPur.chunks, fillP, AOp.isEff, AO.ev, putP, PV.cells, PV.leaf, getB, getM, mapE, iterE, keyC, mapRows, mfind, eq1, eqL, scal, binP, unP, minP, maxP, foldP, PV.lt, PV.lt.ltL, endP, expoAll, expoG, expo, expo.expoL, frIds, frIds.frIdsL, nodupN, kill, cls, clsFuel, resO, RV.get, loadP, evC_p, evC_s, endS, endT, rowsOf, callP, thinL, unfr, unfr.unfrL, PV.noMem, PV.noMem.noMemL, optI, mapO, norm, trimT, trimB, forget, hasN, blksLt, List.set, softChk, softGo, softRd, effTg, rdP])
  rw [T2]
  unfold c9b0 c9r0
  simp [evCode, evOps, evOne, evOp, evPur, evEff, evPur.chunks, fillP, AOp.isEff, AO.ev, putP, PV.cells, PV.leaf, getB, getM, mapE, iterE, keyC, mapRows, mfind, eq1, eqL, scal, binP, unP, minP, maxP, foldP, PV.lt, PV.lt.ltL, endP, expoAll, expoG, expo, expo.expoL, frIds, frIds.frIdsL, nodupN, kill, cls, clsFuel, resO, RV.get, loadP, evC_p, evC_s, endS, endT, rowsOf, callP, thinL, unfr, unfr.unfrL, PV.noMem, PV.noMem.noMemL, optI, mapO, norm, trimT, trimB, forget, hasN, blksLt, List.set, softChk, softGo, softRd, effTg, rdP, eL, eB, aB, aL, q2, q3, q4, q5, eD, eTl, hmn, h0, h0', h14, hm, hm1, hm3]
set_option maxRecDepth 100000 in
theorem f9 (l : List Fr) (h64 : ∀ a ∈ l, i64F a) : evE Dg 9 [.sl false 2 (rFs l)] = some (.bool true) := by
  have h14 := f14
  have eL := rFs_len l
  by_cases hl : 200 < l.length
  · have hl' : (200 : Int) < l.length := by omega
    refine evE_intro 1 D9 rfl ?_
    unfold c9
    simp [evCode, evOps, evOne, evOp, evPur, evEff, evPur.chunks, fillP, AOp.isEff, AO.ev, putP, PV.cells, PV.leaf, getB, getM, mapE, iterE, keyC, mapRows, mfind, eq1, eqL, scal, binP, unP, minP, maxP, foldP, PV.lt, PV.lt.ltL, endP, expoAll, expoG, expo, expo.expoL, frIds, frIds.frIdsL, nodupN, kill, cls, clsFuel, resO, RV.get, loadP, evC_p, evC_s, endS, endT, rowsOf, callP, thinL, unfr, unfr.unfrL, PV.noMem, PV.noMem.noMemL, optI, mapO, norm, trimT, trimB, forget, hasN, blksLt, List.set, softChk, softGo, softRd, effTg, rdP, eL, hl, hl', h14]
  · have hl' : ¬ (200 : Int) < l.length := by omega
    have q1 := f27 false l (by omega) h64
    cases hok : (sumS l).2 with
    | false =>
      generalize sumS l = r at *
      obtain ⟨⟨r1, r2⟩, r3⟩ := r
      simp only at hok
      subst hok
      simp only [eR, eF] at q1
      refine evE_intro 1 D9 rfl ?_
      unfold c9
      simp [evCode, evOps, evOne, evOp, evPur, evEff, evPur.chunks, fillP, AOp.isEff, AO.ev, putP, PV.cells, PV.leaf, getB, getM, mapE, iterE, keyC, mapRows, mfind, eq1, eqL, scal, binP, unP, minP, maxP, foldP, PV.lt, PV.lt.ltL, endP, expoAll, expoG, expo, expo.expoL, frIds, frIds.frIdsL, nodupN, kill, cls, clsFuel, resO, RV.get, loadP, evC_p, evC_s, endS, endT, rowsOf, callP, thinL, unfr, unfr.unfrL, PV.noMem, PV.noMem.noMemL, optI, mapO, norm, trimT, trimB, forget, hasN, blksLt, List.set, softChk, softGo, softRd, effTg, rdP, eL, hl, hl', h14, q1]
    | true =>
      have hc : l.length ≤ 20000 ∧ okL l := by
        by_cases hc : l.length ≤ 20000 ∧ okL l
        · exact hc
        · unfold sumS at hok; rw [if_neg hc] at hok; cases hok
      cases l with
      | nil =>
        generalize sumS [] = r at *
        obtain ⟨⟨r1, r2⟩, r3⟩ := r
        simp only at hok
        subst hok
        simp only [eR, eF] at q1
        refine evE_intro 1 D9 rfl ?_
        unfold c9
        have e0 : rFs [] = [] := rfl
        rw [e0] at q1
        simp [evCode, evOps, evOne, evOp, evPur, evEff, evPur.chunks, fillP, AOp.isEff, AO.ev, putP, PV.cells, PV.leaf, getB, getM, mapE, iterE, keyC, mapRows, mfind, eq1, eqL, scal, binP, unP, minP, maxP, foldP, PV.lt, PV.lt.ltL, endP, expoAll, expoG, expo, expo.expoL, frIds, frIds.frIdsL, nodupN, kill, cls, clsFuel, resO, RV.get, loadP, evC_p, evC_s, endS, endT, rowsOf, callP, thinL, unfr, unfr.unfrL, PV.noMem, PV.noMem.noMemL, optI, mapO, norm, trimT, trimB, forget, hasN, blksLt, List.set, softChk, softGo, softRd, effTg, rdP, e0, h14, q1]
      | cons a t =>
        have hcan := sum_cancel (l := a :: t) (by omega) hc.2
        have htl := sum_tail (a := a) (l := t) (by simp at hl; omega) hok
        have hx : i64F (sumS (a :: t)).1 := by
          have e : sumS (a :: t) = toF (sumR (a :: t)) := if_pos hc
          rw [e]
          exact toF64 _
        have q2 := f27 false (a :: t ++ (a :: t).map negS) (by rw [List.length_append, List.length_map]; omega) (fun b hb => by
          rcases List.mem_append.1 hb with hb | hb
          · exact h64 b hb
          · obtain ⟨c, hc', rfl⟩ := List.mem_map.1 hb
            exact negS64 (hc.2.1 c hc'))
        rw [hcan] at q2
        have q3 := f27 false t (by simp at hl; omega) (fun b hb => h64 b (by simp [hb]))
        have q4 := f20 (sumS (a :: t)).1 a hx (h64 a (by simp))
        rw [← htl] at q4
        have hr : sumS (a :: t) = ((sumS (a :: t)).1, true) := by rw [← hok]
        rw [hr] at q1
        have T := turn9 (a :: t) (sumS (a :: t)).1 (by omega) hc.2.1
        unfold S9 at T
        have hr2 : sumS t = ((sumS t).1, (sumS t).2) := rfl
        rw [hr2] at q3 q4
        exact f9core (rFs (a :: t)) _ (rFs t) _ (sumS t).1 (sumS t).2 a _ _ t.length (by simp) (by omega) eL (rFs_len _) (rFs_len t) (by simp) (rFs_all _) (rFs_all _) (rFs_lt _) rfl rfl (fun g => rfl) q1 q2 q3 q4 (f30 0 1) T
theorem law9 (ps : List PV) (h : ArgL Tryd.prog 12 [35] ps) : evE Dg 9 ps = some (.bool true) := by
  obtain ⟨p, rfl, h1⟩ := argL1 h
  obtain ⟨l, rfl, _, h64⟩ := in_fracs h1
  exact f9 l h64
end Go.Proofs.YtddglikicokpeaaDoor
