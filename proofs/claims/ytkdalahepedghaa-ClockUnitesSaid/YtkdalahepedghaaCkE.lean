/- Ppm; the statements about Check and Ppm. -/
import Derived.Test.YtkdalahepedghaaCkD
import Derived.Test.YtkdalahepedghaaEvIn
namespace Go.Proofs.Ytkdalahepedghaa
open Go Go.RowKit
set_option maxHeartbeats 4000000
set_option linter.unusedVariables false
set_option linter.unusedSimpArgs false

def ppF (d : List Dm) (z : Int) : Int × Bool := if ckF d [] = 0 then (match d.findIdx? (isI z) with | some k => ((d[k]?.getD (0, 0)).2, true) | none => (0, false)) else (0, false)
theorem f14 (x : Bool) (d : List Dm) (z : Int) (hd : d.length ≤ 1000) : evE Dg 14 [eDs x d, .int .i64 z] = some (.tup [.int .i64 (ppF d z).1, .bool (ppF d z).2]) := by
  have h1 := f22 x z d hd
  have h2 := f12n x d hd
  refine evE_intro 1 D14 rfl ?_
  unfold c14 ppF
  by_cases hc : ckF d [] = 0
  · rw [hc] at h2
    rw [if_pos hc]
    unfold fnd at h1
    cases hf : d.findIdx? (isI z) with
    | none =>
      rw [hf] at h1
      simp only [eDs] at h1 h2
      simp [evCode, evOps, evOne, evOp, evPur, evEff, evPur.chunks, fillP, AOp.isEff, AO.ev, putP, PV.cells, PV.leaf, getB, getM, mapE, iterE, keyC, mapRows, mfind, eq1, eqL, scal, binP, unP, minP, maxP, foldP, PV.lt, PV.lt.ltL, endP, expoAll, expoG, expo, expo.expoL, frIds, frIds.frIdsL, nodupN, kill, cls, clsFuel, resO, RV.get, loadP, evC_p, evC_s, endS, endT, rowsOf, callP, thinL, unfr, unfr.unfrL, PV.noMem, PV.noMem.noMemL, optI, mapO, norm, trimT, trimB, forget, hasN, blksLt, List.set, softChk, softGo, softRd, effTg, rdP, eDs, h1, h2]
    | some k =>
      rw [hf] at h1
      obtain ⟨hk, _⟩ := List.findIdx?_eq_some_iff_getElem.1 hf
      have ha : d[k]? = some d[k] := List.getElem?_eq_getElem hk
      have g1 : ¬ ((k : Int) < 0) := by omega
      have g2 : (k : Int) < d.length := by omega
      simp only [eDs] at h1 h2
      generalize d[k] = a at *
      simp [evCode, evOps, evOne, evOp, evPur, evEff, evPur.chunks, fillP, AOp.isEff, AO.ev, putP, PV.cells, PV.leaf, getB, getM, mapE, iterE, keyC, mapRows, mfind, eq1, eqL, scal, binP, unP, minP, maxP, foldP, PV.lt, PV.lt.ltL, endP, expoAll, expoG, expo, expo.expoL, frIds, frIds.frIdsL, nodupN, kill, cls, clsFuel, resO, RV.get, loadP, evC_p, evC_s, endS, endT, rowsOf, callP, thinL, unfr, unfr.unfrL, PV.noMem, PV.noMem.noMemL, optI, mapO, norm, trimT, trimB, forget, hasN, blksLt, List.set, softChk, softGo, softRd, effTg, rdP, eDs, eD, h1, h2, g1, g2, ha]
  · rw [if_neg hc]
    generalize ckF d [] = C at *
    generalize fnd z d = F at *
    simp only [eDs] at h1 h2
    simp [evCode, evOps, evOne, evOp, evPur, evEff, evPur.chunks, fillP, AOp.isEff, AO.ev, putP, PV.cells, PV.leaf, getB, getM, mapE, iterE, keyC, mapRows, mfind, eq1, eqL, scal, binP, unP, minP, maxP, foldP, PV.lt, PV.lt.ltL, endP, expoAll, expoG, expo, expo.expoL, frIds, frIds.frIdsL, nodupN, kill, cls, clsFuel, resO, RV.get, loadP, evC_p, evC_s, endS, endT, rowsOf, callP, thinL, unfr, unfr.unfrL, PV.noMem, PV.noMem.noMemL, optI, mapO, norm, trimT, trimB, forget, hasN, blksLt, List.set, softChk, softGo, softRd, effTg, rdP, eDs, h1, h2, hc]
theorem f15 (x : Bool) (d : List Dm) (z : Int) (hd : d.length ≤ 1000) : evE Dg 15 [eDs x d, .int .i64 z] = some (.tup [.int .i64 (ppF d z).1, .bool (ppF d z).2]) := by
  have h1 := f24 x z d hd
  have h2 := f13n x d hd
  refine evE_intro 1 D15 rfl ?_
  unfold c15 ppF
  by_cases hc : ckF d [] = 0
  · rw [hc] at h2
    rw [if_pos hc]
    unfold fnd at h1
    cases hf : d.findIdx? (isI z) with
    | none =>
      rw [hf] at h1
      simp only [eDs] at h1 h2
      simp [evCode, evOps, evOne, evOp, evPur, evEff, evPur.chunks, fillP, AOp.isEff, AO.ev, putP, PV.cells, PV.leaf, getB, getM, mapE, iterE, keyC, mapRows, mfind, eq1, eqL, scal, binP, unP, minP, maxP, foldP, PV.lt, PV.lt.ltL, endP, expoAll, expoG, expo, expo.expoL, frIds, frIds.frIdsL, nodupN, kill, cls, clsFuel, resO, RV.get, loadP, evC_p, evC_s, endS, endT, rowsOf, callP, thinL, unfr, unfr.unfrL, PV.noMem, PV.noMem.noMemL, optI, mapO, norm, trimT, trimB, forget, hasN, blksLt, List.set, softChk, softGo, softRd, effTg, rdP, eDs, h1, h2]
    | some k =>
      rw [hf] at h1
      obtain ⟨hk, _⟩ := List.findIdx?_eq_some_iff_getElem.1 hf
      have ha : d[k]? = some d[k] := List.getElem?_eq_getElem hk
      have g1 : ¬ ((k : Int) < 0) := by omega
      have g2 : (k : Int) < d.length := by omega
      simp only [eDs] at h1 h2
      generalize d[k] = a at *
      simp [evCode, evOps, evOne, evOp, evPur, evEff, evPur.chunks, fillP, AOp.isEff, AO.ev, putP, PV.cells, PV.leaf, getB, getM, mapE, iterE, keyC, mapRows, mfind, eq1, eqL, scal, binP, unP, minP, maxP, foldP, PV.lt, PV.lt.ltL, endP, expoAll, expoG, expo, expo.expoL, frIds, frIds.frIdsL, nodupN, kill, cls, clsFuel, resO, RV.get, loadP, evC_p, evC_s, endS, endT, rowsOf, callP, thinL, unfr, unfr.unfrL, PV.noMem, PV.noMem.noMemL, optI, mapO, norm, trimT, trimB, forget, hasN, blksLt, List.set, softChk, softGo, softRd, effTg, rdP, eDs, eD, h1, h2, g1, g2, ha]
  · rw [if_neg hc]
    generalize ckF d [] = C at *
    generalize fnd z d = F at *
    simp only [eDs] at h1 h2
    simp [evCode, evOps, evOne, evOp, evPur, evEff, evPur.chunks, fillP, AOp.isEff, AO.ev, putP, PV.cells, PV.leaf, getB, getM, mapE, iterE, keyC, mapRows, mfind, eq1, eqL, scal, binP, unP, minP, maxP, foldP, PV.lt, PV.lt.ltL, endP, expoAll, expoG, expo, expo.expoL, frIds, frIds.frIdsL, nodupN, kill, cls, clsFuel, resO, RV.get, loadP, evC_p, evC_s, endS, endT, rowsOf, callP, thinL, unfr, unfr.unfrL, PV.noMem, PV.noMem.noMemL, optI, mapO, norm, trimT, trimB, forget, hasN, blksLt, List.set, softChk, softGo, softRd, effTg, rdP, eDs, h1, h2, hc]

def fewF (d : List Dm) (l : List Sn) : Bool := decide (d.length ≤ 20) && decide (l.length ≤ 250)
theorem f10 (x y : Bool) (d : List Dm) (l : List Sn) : evE Dg 10 [eDs x d, eNs y l] = some (.bool (fewF d l)) := by
  refine evE_intro 1 D10 rfl ?_
  unfold c10 fewF
  by_cases h1 : d.length ≤ 20
  · have h1' : (d.length : Int) ≤ 20 := by omega
    by_cases h2 : l.length ≤ 250
    · have h2' : (l.length : Int) ≤ 250 := by omega
      simp [evCode, evOps, evOne, evOp, evPur, evEff, evPur.chunks, fillP, AOp.isEff, AO.ev, putP, PV.cells, PV.leaf, getB, getM, mapE, iterE, keyC, mapRows, mfind, eq1, eqL, scal, binP, unP, minP, maxP, foldP, PV.lt, PV.lt.ltL, endP, expoAll, expoG, expo, expo.expoL, frIds, frIds.frIdsL, nodupN, kill, cls, clsFuel, resO, RV.get, loadP, evC_p, evC_s, endS, endT, rowsOf, callP, thinL, unfr, unfr.unfrL, PV.noMem, PV.noMem.noMemL, optI, mapO, norm, trimT, trimB, forget, hasN, blksLt, List.set, softChk, softGo, softRd, effTg, rdP, eDs, eNs, h1, h1', h2, h2']
    · have h2' : ¬ (l.length : Int) ≤ 250 := by omega
      simp [evCode, evOps, evOne, evOp, evPur, evEff, evPur.chunks, fillP, AOp.isEff, AO.ev, putP, PV.cells, PV.leaf, getB, getM, mapE, iterE, keyC, mapRows, mfind, eq1, eqL, scal, binP, unP, minP, maxP, foldP, PV.lt, PV.lt.ltL, endP, expoAll, expoG, expo, expo.expoL, frIds, frIds.frIdsL, nodupN, kill, cls, clsFuel, resO, RV.get, loadP, evC_p, evC_s, endS, endT, rowsOf, callP, thinL, unfr, unfr.unfrL, PV.noMem, PV.noMem.noMemL, optI, mapO, norm, trimT, trimB, forget, hasN, blksLt, List.set, softChk, softGo, softRd, effTg, rdP, eDs, eNs, h1, h1', h2, h2']
  · have h1' : ¬ (d.length : Int) ≤ 20 := by omega
    simp [evCode, evOps, evOne, evOp, evPur, evEff, evPur.chunks, fillP, AOp.isEff, AO.ev, putP, PV.cells, PV.leaf, getB, getM, mapE, iterE, keyC, mapRows, mfind, eq1, eqL, scal, binP, unP, minP, maxP, foldP, PV.lt, PV.lt.ltL, endP, expoAll, expoG, expo, expo.expoL, frIds, frIds.frIdsL, nodupN, kill, cls, clsFuel, resO, RV.get, loadP, evC_p, evC_s, endS, endT, rowsOf, callP, thinL, unfr, unfr.unfrL, PV.noMem, PV.noMem.noMemL, optI, mapO, norm, trimT, trimB, forget, hasN, blksLt, List.set, softChk, softGo, softRd, effTg, rdP, eDs, eNs, h1, h1']
theorem f10n (x : Bool) (d : List Dm) : evE Dg 10 [eDs x d, .nilS] = some (.bool (fewF d [])) := by
  refine evE_intro 1 D10 rfl ?_
  unfold c10 fewF
  by_cases h1 : d.length ≤ 20
  · have h1' : (d.length : Int) ≤ 20 := by omega
    simp [evCode, evOps, evOne, evOp, evPur, evEff, evPur.chunks, fillP, AOp.isEff, AO.ev, putP, PV.cells, PV.leaf, getB, getM, mapE, iterE, keyC, mapRows, mfind, eq1, eqL, scal, binP, unP, minP, maxP, foldP, PV.lt, PV.lt.ltL, endP, expoAll, expoG, expo, expo.expoL, frIds, frIds.frIdsL, nodupN, kill, cls, clsFuel, resO, RV.get, loadP, evC_p, evC_s, endS, endT, rowsOf, callP, thinL, unfr, unfr.unfrL, PV.noMem, PV.noMem.noMemL, optI, mapO, norm, trimT, trimB, forget, hasN, blksLt, List.set, softChk, softGo, softRd, effTg, rdP, eDs, eNs, h1, h1']
  · have h1' : ¬ (d.length : Int) ≤ 20 := by omega
    simp [evCode, evOps, evOne, evOp, evPur, evEff, evPur.chunks, fillP, AOp.isEff, AO.ev, putP, PV.cells, PV.leaf, getB, getM, mapE, iterE, keyC, mapRows, mfind, eq1, eqL, scal, binP, unP, minP, maxP, foldP, PV.lt, PV.lt.ltL, endP, expoAll, expoG, expo, expo.expoL, frIds, frIds.frIdsL, nodupN, kill, cls, clsFuel, resO, RV.get, loadP, evC_p, evC_s, endS, endT, rowsOf, callP, thinL, unfr, unfr.unfrL, PV.noMem, PV.noMem.noMemL, optI, mapO, norm, trimT, trimB, forget, hasN, blksLt, List.set, softChk, softGo, softRd, effTg, rdP, eDs, eNs, h1, h1']

theorem f3 (x y : Bool) (d : List Dm) (l : List Sn) : evE Dg 3 [eDs x d, eNs y l] = some (.bool true) := by
  have hw := f10 x y d l
  refine evE_intro 1 D3 rfl ?_
  unfold c3
  cases hf : fewF d l with
  | false =>
    rw [hf] at hw
    simp only [eDs, eNs] at hw
    simp [evCode, evOps, evOne, evOp, evPur, evEff, evPur.chunks, fillP, AOp.isEff, AO.ev, putP, PV.cells, PV.leaf, getB, getM, mapE, iterE, keyC, mapRows, mfind, eq1, eqL, scal, binP, unP, minP, maxP, foldP, PV.lt, PV.lt.ltL, endP, expoAll, expoG, expo, expo.expoL, frIds, frIds.frIdsL, nodupN, kill, cls, clsFuel, resO, RV.get, loadP, evC_p, evC_s, endS, endT, rowsOf, callP, thinL, unfr, unfr.unfrL, PV.noMem, PV.noMem.noMemL, optI, mapO, norm, trimT, trimB, forget, hasN, blksLt, List.set, softChk, softGo, softRd, effTg, rdP, eDs, eNs, hw, f11]
  | true =>
    rw [hf] at hw
    simp [fewF] at hf
    have h1 := f12 x y d l (by omega) (by omega)
    have h2 := f13 x y d l (by omega) (by omega)
    generalize ckF d l = C at *
    simp only [eDs, eNs] at hw h1 h2
    simp [evCode, evOps, evOne, evOp, evPur, evEff, evPur.chunks, fillP, AOp.isEff, AO.ev, putP, PV.cells, PV.leaf, getB, getM, mapE, iterE, keyC, mapRows, mfind, eq1, eqL, scal, binP, unP, minP, maxP, foldP, PV.lt, PV.lt.ltL, endP, expoAll, expoG, expo, expo.expoL, frIds, frIds.frIdsL, nodupN, kill, cls, clsFuel, resO, RV.get, loadP, evC_p, evC_s, endS, endT, rowsOf, callP, thinL, unfr, unfr.unfrL, PV.noMem, PV.noMem.noMemL, optI, mapO, norm, trimT, trimB, forget, hasN, blksLt, List.set, softChk, softGo, softRd, effTg, rdP, eDs, eNs, hw, f11, h1, h2]

/-- of valid domains each has its drift -/
theorem ppF_at {d : List Dm} (h : ckF d [] = 0) {k : Nat} {a : Dm} (ha : d[k]? = some a) : ppF d a.1 = (a.2, true) := by
  have hz : firstF (dF d) d 0 = 0 := by
    cases d with
    | nil => simp at ha
    | cons f r =>
      rw [ckF_cons] at h
      refine Decidable.byContradiction fun hn => ?_
      rw [if_pos hn] at h
      (repeat' split at h) <;> first | omega | exact absurd h hn
  have h1 := (firstF_zero d 0).1 hz k a ha
  rw [Nat.zero_add] at h1
  have h2 : ¬ fnd a.1 d < k := by
    intro hlt
    unfold dF at h1
    repeat' split at h1
    all_goals omega
  unfold ppF
  rw [if_pos h]
  obtain ⟨hk, he⟩ := List.getElem?_eq_some_iff.1 ha
  have hf : d.findIdx? (isI a.1) = some k := by
    unfold fnd at h2
    cases hq : d.findIdx? (isI a.1) with
    | none =>
      have := List.findIdx?_eq_none_iff.1 hq d[k] (List.getElem_mem hk)
      rw [he] at this
      simp [isI] at this
    | some i =>
      rw [hq] at h2
      obtain ⟨hi, _, hi3⟩ := List.findIdx?_eq_some_iff_getElem.1 hq
      have h4 : ¬ k < i := by
        intro hlt
        have := hi3 k hlt
        rw [he] at this
        simp [isI] at this
      have h5 : i = k := by simp only at h2; omega
      rw [h5]
  rw [hf]
  simp only [ha]
  rfl

def S4 (x : Bool) (d : List Dm) (k : Nat) : St := ⟨[eDs x d] ++ List.replicate 8 .top ++ [.int .i64 k] ++ List.replicate 59 .top, []⟩
theorem f4 (x : Bool) (d : List Dm) (z : Int) : evE Dg 4 [eDs x d, .int .i64 z] = some (.bool true) := by
  have hw := f10n x d
  cases hf : fewF d [] with
  | false =>
    rw [hf] at hw
    simp only [eDs] at hw
    refine evE_intro 1 D4 rfl ?_
    unfold c4
    simp [evCode, evOps, evOne, evOp, evPur, evEff, evPur.chunks, fillP, AOp.isEff, AO.ev, putP, PV.cells, PV.leaf, getB, getM, mapE, iterE, keyC, mapRows, mfind, eq1, eqL, scal, binP, unP, minP, maxP, foldP, PV.lt, PV.lt.ltL, endP, expoAll, expoG, expo, expo.expoL, frIds, frIds.frIdsL, nodupN, kill, cls, clsFuel, resO, RV.get, loadP, evC_p, evC_s, endS, endT, rowsOf, callP, thinL, unfr, unfr.unfrL, PV.noMem, PV.noMem.noMemL, optI, mapO, norm, trimT, trimB, forget, hasN, blksLt, List.set, softChk, softGo, softRd, effTg, rdP, eDs, hw, f11]
  | true =>
    rw [hf] at hw
    simp [fewF] at hf
    have h1 := f14 x d z (by omega)
    have h2 := f15 x d z (by omega)
    have h3 := f12n x d (by omega)
    refine evE_intro 30 D4 rfl ?_
    generalize ppF d z = P at *
    obtain ⟨p1, p2⟩ := P
    by_cases hc : ckF d [] = 0
    · have hp := fun k a ha => @ppF_at d hc k a ha
      rw [hc] at h3
      have H := loop_all (body := evCode (evC Dg) 30 c4b0) (keep := [0, 9]) (n0 := 0) (fuel := 30) d (S4 x d) (fun _ => true) (fun _ => True)
        (by
          intro k a ha hk hq
          have w1 := wrap_i64 ((k : Int) + 1) (by omega) (by omega)
          have hk' : (k : Int) < d.length := by omega
          have g1 := f14 x d a.1 (by omega)
          rw [hp k a ha] at g1
          simp only [eDs] at g1 h3
          unfold c4b0
          simp [evCode, evOps, evOne, evOp, evPur, evEff, evPur.chunks, fillP, AOp.isEff, AO.ev, putP, PV.cells, PV.leaf, getB, getM, mapE, iterE, keyC, mapRows, mfind, eq1, eqL, scal, binP, unP, minP, maxP, foldP, PV.lt, PV.lt.ltL, endP, expoAll, expoG, expo, expo.expoL, frIds, frIds.frIdsL, nodupN, kill, cls, clsFuel, resO, RV.get, loadP, evC_p, evC_s, endS, endT, rowsOf, callP, thinL, unfr, unfr.unfrL, PV.noMem, PV.noMem.noMemL, optI, mapO, norm, trimT, trimB, forget, hasN, blksLt, List.set, softChk, softGo, softRd, effTg, rdP, S4, eDs, eD, ha, hk', w1, g1, h3])
        (by intro k a ha hk hq; cases hq)
        (by
          intro s
          unfold c4b0
          simp [evCode, evOps, evOne, evOp, evPur, evEff, evPur.chunks, fillP, AOp.isEff, AO.ev, putP, PV.cells, PV.leaf, getB, getM, mapE, iterE, keyC, mapRows, mfind, eq1, eqL, scal, binP, unP, minP, maxP, foldP, PV.lt, PV.lt.ltL, endP, expoAll, expoG, expo, expo.expoL, frIds, frIds.frIdsL, nodupN, kill, cls, clsFuel, resO, RV.get, loadP, evC_p, evC_s, endS, endT, rowsOf, callP, thinL, unfr, unfr.unfrL, PV.noMem, PV.noMem.noMemL, optI, mapO, norm, trimT, trimB, forget, hasN, blksLt, List.set, softChk, softGo, softRd, effTg, rdP, S4, eDs]) (by omega)
      simp only [eDs] at hw h1 h2 h3
      unfold c4
      cases p2 <;> (
      simp [evCode, evOps, evOne, evOp, evPur, evEff, evPur.chunks, fillP, AOp.isEff, AO.ev, putP, PV.cells, PV.leaf, getB, getM, mapE, iterE, keyC, mapRows, mfind, eq1, eqL, scal, binP, unP, minP, maxP, foldP, PV.lt, PV.lt.ltL, endP, expoAll, expoG, expo, expo.expoL, frIds, frIds.frIdsL, nodupN, kill, cls, clsFuel, resO, RV.get, loadP, evC_p, evC_s, endS, endT, rowsOf, callP, thinL, unfr, unfr.unfrL, PV.noMem, PV.noMem.noMemL, optI, mapO, norm, trimT, trimB, forget, hasN, blksLt, List.set, softChk, softGo, softRd, effTg, rdP, eDs, hw, h1, h2]
      generalize hE : evLoop _ _ _ _ _ = E
      rcases H _ _ hE (by simp [evCode, evOps, evOne, evOp, evPur, evEff, evPur.chunks, fillP, AOp.isEff, AO.ev, putP, PV.cells, PV.leaf, getB, getM, mapE, iterE, keyC, mapRows, mfind, eq1, eqL, scal, binP, unP, minP, maxP, foldP, PV.lt, PV.lt.ltL, endP, expoAll, expoG, expo, expo.expoL, frIds, frIds.frIdsL, nodupN, kill, cls, clsFuel, resO, RV.get, loadP, evC_p, evC_s, endS, endT, rowsOf, callP, thinL, unfr, unfr.unfrL, PV.noMem, PV.noMem.noMemL, optI, mapO, norm, trimT, trimB, forget, hasN, blksLt, List.set, softChk, softGo, softRd, effTg, rdP, S4, eDs]) with ⟨k1, k2⟩ | ⟨k1, _⟩
      · rw [k2]
        unfold c4b0 c4r0
        simp [evCode, evOps, evOne, evOp, evPur, evEff, evPur.chunks, fillP, AOp.isEff, AO.ev, putP, PV.cells, PV.leaf, getB, getM, mapE, iterE, keyC, mapRows, mfind, eq1, eqL, scal, binP, unP, minP, maxP, foldP, PV.lt, PV.lt.ltL, endP, expoAll, expoG, expo, expo.expoL, frIds, frIds.frIdsL, nodupN, kill, cls, clsFuel, resO, RV.get, loadP, evC_p, evC_s, endS, endT, rowsOf, callP, thinL, unfr, unfr.unfrL, PV.noMem, PV.noMem.noMemL, optI, mapO, norm, trimT, trimB, forget, hasN, blksLt, List.set, softChk, softGo, softRd, effTg, rdP, S4, eDs, f11]
      · simp at k1)
    · generalize ckF d [] = C at *
      have hend : ∀ s, evCode (evC Dg) 30 c4b0 (S4 x d 0) ≠ some (.normal s) := by
          intro s
          simp only [eDs] at h3
          unfold c4b0
          cases d with
          | nil => simp [evCode, evOps, evOne, evOp, evPur, evEff, evPur.chunks, fillP, AOp.isEff, AO.ev, putP, PV.cells, PV.leaf, getB, getM, mapE, iterE, keyC, mapRows, mfind, eq1, eqL, scal, binP, unP, minP, maxP, foldP, PV.lt, PV.lt.ltL, endP, expoAll, expoG, expo, expo.expoL, frIds, frIds.frIdsL, nodupN, kill, cls, clsFuel, resO, RV.get, loadP, evC_p, evC_s, endS, endT, rowsOf, callP, thinL, unfr, unfr.unfrL, PV.noMem, PV.noMem.noMemL, optI, mapO, norm, trimT, trimB, forget, hasN, blksLt, List.set, softChk, softGo, softRd, effTg, rdP, S4, eDs]
          | cons f r => 
            have : (0 : Int) < (r.length : Int) + 1 := by omega
            simp only [List.map] at h3
            simp [evCode, evOps, evOne, evOp, evPur, evEff, evPur.chunks, fillP, AOp.isEff, AO.ev, putP, PV.cells, PV.leaf, getB, getM, mapE, iterE, keyC, mapRows, mfind, eq1, eqL, scal, binP, unP, minP, maxP, foldP, PV.lt, PV.lt.ltL, endP, expoAll, expoG, expo, expo.expoL, frIds, frIds.frIdsL, nodupN, kill, cls, clsFuel, resO, RV.get, loadP, evC_p, evC_s, endS, endT, rowsOf, callP, thinL, unfr, unfr.unfrL, PV.noMem, PV.noMem.noMemL, optI, mapO, norm, trimT, trimB, forget, hasN, blksLt, List.set, softChk, softGo, softRd, effTg, rdP, S4, eDs, h3, hc, this]
      have H := loop_all (body := evCode (evC Dg) 30 c4b0) (keep := [0, 9]) (n0 := 0) (fuel := 30) ([] : List Dm) (S4 x d) (fun _ => true) (fun _ => True)
        (by intro k a ha; simp at ha) (by intro k a ha; simp at ha) hend (by decide)
      simp only [eDs] at hw h1 h2 h3
      unfold c4
      cases p2 <;> (
      simp [evCode, evOps, evOne, evOp, evPur, evEff, evPur.chunks, fillP, AOp.isEff, AO.ev, putP, PV.cells, PV.leaf, getB, getM, mapE, iterE, keyC, mapRows, mfind, eq1, eqL, scal, binP, unP, minP, maxP, foldP, PV.lt, PV.lt.ltL, endP, expoAll, expoG, expo, expo.expoL, frIds, frIds.frIdsL, nodupN, kill, cls, clsFuel, resO, RV.get, loadP, evC_p, evC_s, endS, endT, rowsOf, callP, thinL, unfr, unfr.unfrL, PV.noMem, PV.noMem.noMemL, optI, mapO, norm, trimT, trimB, forget, hasN, blksLt, List.set, softChk, softGo, softRd, effTg, rdP, eDs, hw, h1, h2]
      generalize hE : evLoop _ _ _ _ _ = E
      rcases H _ _ hE (by simp [evCode, evOps, evOne, evOp, evPur, evEff, evPur.chunks, fillP, AOp.isEff, AO.ev, putP, PV.cells, PV.leaf, getB, getM, mapE, iterE, keyC, mapRows, mfind, eq1, eqL, scal, binP, unP, minP, maxP, foldP, PV.lt, PV.lt.ltL, endP, expoAll, expoG, expo, expo.expoL, frIds, frIds.frIdsL, nodupN, kill, cls, clsFuel, resO, RV.get, loadP, evC_p, evC_s, endS, endT, rowsOf, callP, thinL, unfr, unfr.unfrL, PV.noMem, PV.noMem.noMemL, optI, mapO, norm, trimT, trimB, forget, hasN, blksLt, List.set, softChk, softGo, softRd, effTg, rdP, S4, eDs]) with ⟨k1, k2⟩ | ⟨k1, _⟩
      · rw [k2]
        unfold c4b0 c4r0
        cases d with
        | nil => simp [evCode, evOps, evOne, evOp, evPur, evEff, evPur.chunks, fillP, AOp.isEff, AO.ev, putP, PV.cells, PV.leaf, getB, getM, mapE, iterE, keyC, mapRows, mfind, eq1, eqL, scal, binP, unP, minP, maxP, foldP, PV.lt, PV.lt.ltL, endP, expoAll, expoG, expo, expo.expoL, frIds, frIds.frIdsL, nodupN, kill, cls, clsFuel, resO, RV.get, loadP, evC_p, evC_s, endS, endT, rowsOf, callP, thinL, unfr, unfr.unfrL, PV.noMem, PV.noMem.noMemL, optI, mapO, norm, trimT, trimB, forget, hasN, blksLt, List.set, softChk, softGo, softRd, effTg, rdP, S4, eDs, f11]
        | cons f r =>
          have : (0 : Int) < (r.length : Int) + 1 := by omega
          simp only [List.map] at h3
          simp [evCode, evOps, evOne, evOp, evPur, evEff, evPur.chunks, fillP, AOp.isEff, AO.ev, putP, PV.cells, PV.leaf, getB, getM, mapE, iterE, keyC, mapRows, mfind, eq1, eqL, scal, binP, unP, minP, maxP, foldP, PV.lt, PV.lt.ltL, endP, expoAll, expoG, expo, expo.expoL, frIds, frIds.frIdsL, nodupN, kill, cls, clsFuel, resO, RV.get, loadP, evC_p, evC_s, endS, endT, rowsOf, callP, thinL, unfr, unfr.unfrL, PV.noMem, PV.noMem.noMemL, optI, mapO, norm, trimT, trimB, forget, hasN, blksLt, List.set, softChk, softGo, softRd, effTg, rdP, S4, eDs, h3, hc, this, f11]
      · simp at k1)

/-- lists of domains and of snapshots as arguments -/
theorem in_doms {d : Nat} {p : PV} (h : ArgT Try.prog (d + 3) 22 p) : ∃ l : List Dm, p = eDs false l := by
  obtain ⟨l, h1, h2, h3⟩ := argT_rows (f := eD) (Q := fun s => True) Try.underlying22 (c := 2) (by kernel_rfl) (fun r hr => by
    obtain ⟨q0, r0, rfl, h0, hr⟩ := htf_cons (ht_struct Try.underlying31 hr)
    obtain ⟨q1, r1, rfl, h1, hr⟩ := htf_cons hr
    obtain rfl := htf_nil hr
    obtain ⟨i0, rfl, w0⟩ := ht_int Try.underlying3 h0
    obtain ⟨i1, rfl, w1⟩ := ht_int Try.underlying3 h1
    exact ⟨(i0, i1), rfl, trivial⟩) (argT_slice Try.underlying22 h)
  exact ⟨l, (List.cons.inj h1).1⟩
theorem law4 (ps : List PV) (h : ArgL Try.prog 12 [22, 3] ps) : evE Dg 4 ps = some (.bool true) := by
  obtain ⟨p, q, rfl, h1, h2⟩ := argL2 h
  obtain ⟨l, rfl⟩ := in_doms h1
  obtain ⟨i, rfl, _⟩ := argT_int Try.underlying3 h2
  exact f4 false l i
end Go.Proofs.Ytkdalahepedghaa
