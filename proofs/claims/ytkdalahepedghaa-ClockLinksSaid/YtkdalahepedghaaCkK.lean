/- The statements about Linked: as the reference, in pairs. -/
import Derived.Test.YtkdalahepedghaaCkJ
namespace Go.Proofs.Ytkdalahepedghaa
open Go Go.RowKit
set_option maxHeartbeats 4000000
set_option linter.unusedVariables false
set_option linter.unusedSimpArgs false

theorem f5 (x y : Bool) (d : List Dm) (l : List Sn) (z : Int) : evE Dg 5 [eDs x d, eNs y l, .int .i64 z] = some (.bool true) := by
  have hw := f10 x y d l
  refine evE_intro 1 D5 rfl ?_
  unfold c5
  cases hf : fewF d l with
  | false =>
    rw [hf] at hw
    simp only [eDs, eNs] at hw
    simp [evCode, evOps, evOne, evOp, evPur, evEff, evPur.chunks, fillP, AOp.isEff, AO.ev, putP, PV.cells, PV.leaf, getB, getM, mapE, keyC, mapRows, mfind, eq1, eqL, scal, binP, unP, minP, maxP, foldP, PV.lt, PV.lt.ltL, endP, expoAll, expo, expo.expoL, frIds, frIds.frIdsL, nodupN, kill, cls, clsFuel, resO, RV.get, loadP, evC_p, evC_s, endS, endT, rowsOf, callP, thinL, unfr, unfr.unfrL, PV.noMem, PV.noMem.noMemL, optI, mapO, norm, trimT, trimB, forget, hasN, blksLt, List.set, softChk, softGo, softRd, effTg, rdP, eDs, eNs, hw, f11]
  | true =>
    rw [hf] at hw
    simp [fewF] at hf
    obtain ⟨b1, h1, q1⟩ := f16 x y d l z (by omega) (by omega)
    obtain ⟨b2, h2, q2⟩ := f17 x y d l z (by omega) (by omega)
    have hb : b1 = b2 := by
      have := q1.trans q2.symm
      cases b1 <;> cases b2 <;> simp at this <;> rfl
    subst hb
    simp only [eDs, eNs] at hw h1 h2
    cases b1 <;> simp [evCode, evOps, evOne, evOp, evPur, evEff, evPur.chunks, fillP, AOp.isEff, AO.ev, putP, PV.cells, PV.leaf, getB, getM, mapE, keyC, mapRows, mfind, eq1, eqL, scal, binP, unP, minP, maxP, foldP, PV.lt, PV.lt.ltL, endP, expoAll, expo, expo.expoL, frIds, frIds.frIdsL, nodupN, kill, cls, clsFuel, resO, RV.get, loadP, evC_p, evC_s, endS, endT, rowsOf, callP, thinL, unfr, unfr.unfrL, PV.noMem, PV.noMem.noMemL, optI, mapO, norm, trimT, trimB, forget, hasN, blksLt, List.set, softChk, softGo, softRd, effTg, rdP, eDs, eNs, hw, f11, h1, h2]

def S6 (x y : Bool) (d : List Dm) (l : List Sn) (k : Nat) : St := ⟨[eDs x d, eNs y l, .top, .top, .top, .int .i64 k] ++ List.replicate 40 .top, []⟩
theorem f6 (x y : Bool) (d : List Dm) (l : List Sn) : evE Dg 6 [eDs x d, eNs y l] = some (.bool true) := by
  have hw := f10 x y d l
  refine evE_intro 300 D6 rfl ?_
  cases hf : fewF d l with
  | false =>
    rw [hf] at hw
    simp only [eDs, eNs] at hw
    unfold c6
    simp [evCode, evOps, evOne, evOp, evPur, evEff, evPur.chunks, fillP, AOp.isEff, AO.ev, putP, PV.cells, PV.leaf, getB, getM, mapE, keyC, mapRows, mfind, eq1, eqL, scal, binP, unP, minP, maxP, foldP, PV.lt, PV.lt.ltL, endP, expoAll, expo, expo.expoL, frIds, frIds.frIdsL, nodupN, kill, cls, clsFuel, resO, RV.get, loadP, evC_p, evC_s, endS, endT, rowsOf, callP, thinL, unfr, unfr.unfrL, PV.noMem, PV.noMem.noMemL, optI, mapO, norm, trimT, trimB, forget, hasN, blksLt, List.set, softChk, softGo, softRd, effTg, rdP, eDs, eNs, hw, f11]
  | true =>
    rw [hf] at hw
    simp [fewF] at hf
    have hk := f13 x y d l (by omega) (by omega)
    by_cases hc : ckF d l = 0
    · obtain ⟨c1, c2, c3, c4⟩ := ck_ids hc
      rw [hc] at hk
      obtain ⟨b0, h0, q0⟩ := f16 x y d l 0 (by omega) (by omega)
      have hb0 : b0 = true := q0.2 ⟨hc, c3, .base⟩
      subst hb0
      have H := loop_all (body := evCode (evC Dg) 300 c6b0) (keep := [0, 1, 5]) (n0 := 0) (fuel := 300) l (S6 x y d l) (fun _ => true) (fun _ => True)
        (by
          intro k s ha hkl hq
          have w1 := wrap_i64 ((k : Int) + 1) (by omega) (by omega)
          have hk' : (k : Int) < l.length := by omega
          have hs := List.mem_of_getElem? ha
          obtain ⟨b1, h1, q1⟩ := f16 x y d l s.a (by omega) (by omega)
          obtain ⟨b2, h2, q2⟩ := f16 x y d l s.b (by omega) (by omega)
          have hb : b1 = b2 := by
            have : Lk d l s.a ↔ Lk d l s.b := ⟨fun h => ⟨hc, (c4 s hs).2, .ab hs h.2.2⟩, fun h => ⟨hc, (c4 s hs).1, .ba hs h.2.2⟩⟩
            have := (q1.trans this).trans q2.symm
            cases b1 <;> cases b2 <;> simp at this <;> rfl
          subst hb
          simp only [eDs, eNs] at h1 h2
          unfold c6b0
          cases b1 <;> simp [evCode, evOps, evOne, evOp, evPur, evEff, evPur.chunks, fillP, AOp.isEff, AO.ev, putP, PV.cells, PV.leaf, getB, getM, mapE, keyC, mapRows, mfind, eq1, eqL, scal, binP, unP, minP, maxP, foldP, PV.lt, PV.lt.ltL, endP, expoAll, expo, expo.expoL, frIds, frIds.frIdsL, nodupN, kill, cls, clsFuel, resO, RV.get, loadP, evC_p, evC_s, endS, endT, rowsOf, callP, thinL, unfr, unfr.unfrL, PV.noMem, PV.noMem.noMemL, optI, mapO, norm, trimT, trimB, forget, hasN, blksLt, List.set, softChk, softGo, softRd, effTg, rdP, S6, eDs, eNs, eN, ha, hk', w1, h1, h2])
        (by intro k a ha hk hq; cases hq)
        (by
          intro s
          unfold c6b0
          simp [evCode, evOps, evOne, evOp, evPur, evEff, evPur.chunks, fillP, AOp.isEff, AO.ev, putP, PV.cells, PV.leaf, getB, getM, mapE, keyC, mapRows, mfind, eq1, eqL, scal, binP, unP, minP, maxP, foldP, PV.lt, PV.lt.ltL, endP, expoAll, expo, expo.expoL, frIds, frIds.frIdsL, nodupN, kill, cls, clsFuel, resO, RV.get, loadP, evC_p, evC_s, endS, endT, rowsOf, callP, thinL, unfr, unfr.unfrL, PV.noMem, PV.noMem.noMemL, optI, mapO, norm, trimT, trimB, forget, hasN, blksLt, List.set, softChk, softGo, softRd, effTg, rdP, S6, eDs, eNs]) (by omega)
      simp only [eDs, eNs] at hw hk h0
      unfold c6
      simp [evCode, evOps, evOne, evOp, evPur, evEff, evPur.chunks, fillP, AOp.isEff, AO.ev, putP, PV.cells, PV.leaf, getB, getM, mapE, keyC, mapRows, mfind, eq1, eqL, scal, binP, unP, minP, maxP, foldP, PV.lt, PV.lt.ltL, endP, expoAll, expo, expo.expoL, frIds, frIds.frIdsL, nodupN, kill, cls, clsFuel, resO, RV.get, loadP, evC_p, evC_s, endS, endT, rowsOf, callP, thinL, unfr, unfr.unfrL, PV.noMem, PV.noMem.noMemL, optI, mapO, norm, trimT, trimB, forget, hasN, blksLt, List.set, softChk, softGo, softRd, effTg, rdP, eDs, eNs, hw, hk]
      generalize hE : evLoop _ _ _ _ _ = E
      rcases H _ _ hE (by simp [evCode, evOps, evOne, evOp, evPur, evEff, evPur.chunks, fillP, AOp.isEff, AO.ev, putP, PV.cells, PV.leaf, getB, getM, mapE, keyC, mapRows, mfind, eq1, eqL, scal, binP, unP, minP, maxP, foldP, PV.lt, PV.lt.ltL, endP, expoAll, expo, expo.expoL, frIds, frIds.frIdsL, nodupN, kill, cls, clsFuel, resO, RV.get, loadP, evC_p, evC_s, endS, endT, rowsOf, callP, thinL, unfr, unfr.unfrL, PV.noMem, PV.noMem.noMemL, optI, mapO, norm, trimT, trimB, forget, hasN, blksLt, List.set, softChk, softGo, softRd, effTg, rdP, S6, eDs, eNs]) with ⟨k1, k2⟩ | ⟨k1, _⟩
      · rw [k2]
        unfold c6b0 c6r0
        simp [evCode, evOps, evOne, evOp, evPur, evEff, evPur.chunks, fillP, AOp.isEff, AO.ev, putP, PV.cells, PV.leaf, getB, getM, mapE, keyC, mapRows, mfind, eq1, eqL, scal, binP, unP, minP, maxP, foldP, PV.lt, PV.lt.ltL, endP, expoAll, expo, expo.expoL, frIds, frIds.frIdsL, nodupN, kill, cls, clsFuel, resO, RV.get, loadP, evC_p, evC_s, endS, endT, rowsOf, callP, thinL, unfr, unfr.unfrL, PV.noMem, PV.noMem.noMemL, optI, mapO, norm, trimT, trimB, forget, hasN, blksLt, List.set, softChk, softGo, softRd, effTg, rdP, S6, eDs, eNs, f11, h0]
      · simp at k1
    · generalize ckF d l = C at *
      simp only [eDs, eNs] at hw hk
      unfold c6
      simp [evCode, evOps, evOne, evOp, evPur, evEff, evPur.chunks, fillP, AOp.isEff, AO.ev, putP, PV.cells, PV.leaf, getB, getM, mapE, keyC, mapRows, mfind, eq1, eqL, scal, binP, unP, minP, maxP, foldP, PV.lt, PV.lt.ltL, endP, expoAll, expo, expo.expoL, frIds, frIds.frIdsL, nodupN, kill, cls, clsFuel, resO, RV.get, loadP, evC_p, evC_s, endS, endT, rowsOf, callP, thinL, unfr, unfr.unfrL, PV.noMem, PV.noMem.noMemL, optI, mapO, norm, trimT, trimB, forget, hasN, blksLt, List.set, softChk, softGo, softRd, effTg, rdP, eDs, eNs, hw, hk, hc, f11]

theorem law5 (ps : List PV) (h : ArgL Try.prog 12 [22, 23, 3] ps) : evE Dg 5 ps = some (.bool true) := by
  obtain ⟨p, q, r, rfl, h1, h2, h3⟩ := argL3 h
  obtain ⟨d, rfl⟩ := in_doms h1
  obtain ⟨l, rfl⟩ := in_snaps h2
  obtain ⟨i, rfl, _⟩ := argT_int Try.underlying3 h3
  exact f5 false false d l i
theorem law6 (ps : List PV) (h : ArgL Try.prog 12 [22, 23] ps) : evE Dg 6 ps = some (.bool true) := by
  obtain ⟨p, q, rfl, h1, h2⟩ := argL2 h
  obtain ⟨d, rfl⟩ := in_doms h1
  obtain ⟨l, rfl⟩ := in_snaps h2
  exact f6 false false d l
end Go.Proofs.Ytkdalahepedghaa
