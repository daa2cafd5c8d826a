/- Same of the reference, small lists, arguments. -/
import Derived.Test.YtalmhggbdfjalaaMmA
import Derived.Test.YtalmhggbdfjalaaGc
namespace Go.Proofs.Ytalmhggbdfjalaa
open Go Go.RowKit
set_option linter.unusedVariables false
set_option linter.unusedSimpArgs false
set_option maxHeartbeats 4000000

def S42 (l : List (List UInt8)) (k : Nat) : St := ⟨[eTx l, eTx l, .top, .top, .top, .int .i64 k] ++ List.replicate 20 .top, []⟩
set_option maxRecDepth 100000 in
theorem f42 (l : List (List UInt8)) (hl : l.length ≤ 140737488355328) : evE Dg 42 [eTx l, eTx l] = some (.bool true) := by
  refine evE_intro (l.length + 1) D42 rfl ?_
  have H := loop_all (body := evCode (evC Dg) (l.length + 1) c42b0) (keep := [0, 1, 5]) (n0 := 0) (fuel := l.length + 1) l (S42 l) (fun _ => true) (fun _ => True)
    (by
      intro k a ha hk hq
      have hk' : (k : Int) < l.length := by omega
      have h1 := wrap_i64 ((k : Int) + 1) (by omega) (by omega)
      unfold c42b0
      simp [evCode, evOps, evOne, evOp, evPur, evEff, evPur.chunks, fillP, AOp.isEff, AO.ev, putP, PV.cells, PV.leaf, getB, getM, mapE, iterE, keyC, mapRows, mfind, eq1, eqL, scal, binP, unP, minP, maxP, foldP, PV.lt, PV.lt.ltL, endP, expoAll, expoG, expo, expo.expoL, frIds, frIds.frIdsL, nodupN, kill, cls, clsFuel, resO, RV.get, loadP, evC_p, evC_s, endS, endT, rowsOf, callP, thinL, unfr, unfr.unfrL, PV.noMem, PV.noMem.noMemL, optI, mapO, norm, trimT, trimB, forget, hasN, blksLt, List.set, softChk, softGo, softRd, effTg, rdP, S42, eTx, ha, hk', h1])
    (by
      intro k a ha hk hq
      simp at hq)
    (by
      intro s
      unfold c42b0
      simp [evCode, evOps, evOne, evOp, evPur, evEff, evPur.chunks, fillP, AOp.isEff, AO.ev, putP, PV.cells, PV.leaf, getB, getM, mapE, iterE, keyC, mapRows, mfind, eq1, eqL, scal, binP, unP, minP, maxP, foldP, PV.lt, PV.lt.ltL, endP, expoAll, expoG, expo, expo.expoL, frIds, frIds.frIdsL, nodupN, kill, cls, clsFuel, resO, RV.get, loadP, evC_p, evC_s, endS, endT, rowsOf, callP, thinL, unfr, unfr.unfrL, PV.noMem, PV.noMem.noMemL, optI, mapO, norm, trimT, trimB, forget, hasN, blksLt, List.set, softChk, softGo, softRd, effTg, rdP, S42, eTx]) (by omega)
  unfold c42
  simp [evCode, evOps, evOne, evOp, evPur, evEff, evPur.chunks, fillP, AOp.isEff, AO.ev, putP, PV.cells, PV.leaf, getB, getM, mapE, iterE, keyC, mapRows, mfind, eq1, eqL, scal, binP, unP, minP, maxP, foldP, PV.lt, PV.lt.ltL, endP, expoAll, expoG, expo, expo.expoL, frIds, frIds.frIdsL, nodupN, kill, cls, clsFuel, resO, RV.get, loadP, evC_p, evC_s, endS, endT, rowsOf, callP, thinL, unfr, unfr.unfrL, PV.noMem, PV.noMem.noMemL, optI, mapO, norm, trimT, trimB, forget, hasN, blksLt, List.set, softChk, softGo, softRd, effTg, rdP, eTx]
  generalize hE : evLoop _ _ _ _ _ = E
  rcases H _ _ hE (by simp [evCode, evOps, evOne, evOp, evPur, evEff, evPur.chunks, fillP, AOp.isEff, AO.ev, putP, PV.cells, PV.leaf, getB, getM, mapE, iterE, keyC, mapRows, mfind, eq1, eqL, scal, binP, unP, minP, maxP, foldP, PV.lt, PV.lt.ltL, endP, expoAll, expoG, expo, expo.expoL, frIds, frIds.frIdsL, nodupN, kill, cls, clsFuel, resO, RV.get, loadP, evC_p, evC_s, endS, endT, rowsOf, callP, thinL, unfr, unfr.unfrL, PV.noMem, PV.noMem.noMemL, optI, mapO, norm, trimT, trimB, forget, hasN, blksLt, List.set, softChk, softGo, softRd, effTg, rdP, S42, eTx]) with ⟨g1, g2⟩ | ⟨g1, t, g2, g3⟩
  · rw [g2]
    unfold c42b0
    simp [evCode, evOps, evOne, evOp, evPur, evEff, evPur.chunks, fillP, AOp.isEff, AO.ev, putP, PV.cells, PV.leaf, getB, getM, mapE, iterE, keyC, mapRows, mfind, eq1, eqL, scal, binP, unP, minP, maxP, foldP, PV.lt, PV.lt.ltL, endP, expoAll, expoG, expo, expo.expoL, frIds, frIds.frIdsL, nodupN, kill, cls, clsFuel, resO, RV.get, loadP, evC_p, evC_s, endS, endT, rowsOf, callP, thinL, unfr, unfr.unfrL, PV.noMem, PV.noMem.noMemL, optI, mapO, norm, trimT, trimB, forget, hasN, blksLt, List.set, softChk, softGo, softRd, effTg, rdP, S42, eTx]
  · simp at g1
set_option maxRecDepth 100000 in
theorem f26 (b : Bk) (hl : b.st.length ≤ 140737488355328) : evE Dg 26 [.agg (bRow b), .agg (bRow b)] = some (.bool true) := by
  have h := f42 b.st hl
  simp only [eTx] at h
  refine evE_intro 1 D26 rfl ?_
  unfold c26
  simp [evCode, evOps, evOne, evOp, evPur, evEff, evPur.chunks, fillP, AOp.isEff, AO.ev, putP, PV.cells, PV.leaf, getB, getM, mapE, iterE, keyC, mapRows, mfind, eq1, eqL, scal, binP, unP, minP, maxP, foldP, PV.lt, PV.lt.ltL, endP, expoAll, expoG, expo, expo.expoL, frIds, frIds.frIdsL, nodupN, kill, cls, clsFuel, resO, RV.get, loadP, evC_p, evC_s, endS, endT, rowsOf, callP, thinL, unfr, unfr.unfrL, PV.noMem, PV.noMem.noMemL, optI, mapO, norm, trimT, trimB, forget, hasN, blksLt, List.set, softChk, softGo, softRd, effTg, rdP, bRow, eTx, h]
def S10 (l : List Bk) (k : Nat) : St := ⟨[.sl false 7 (bRows l), .sl false 7 (bRows l), .top, .top, .top, .int .i64 k] ++ List.replicate 21 .top, []⟩
set_option maxRecDepth 100000 in
theorem f10 (l : List Bk) (hl : l.length ≤ 1000000) (hs : ∀ s ∈ l, s.st.length ≤ 140737488355328) : evE Dg 10 [.sl false 7 (bRows l), .sl false 7 (bRows l)] = some (.bool true) := by
  refine evE_intro (l.length + 1) D10 rfl ?_
  have eL := bRows_len l
  have H := loop_all (body := evCode (evC Dg) (l.length + 1) c10b0) (keep := [0, 1, 5]) (n0 := 0) (fuel := l.length + 1) l (S10 l) (fun _ => true) (fun _ => True)
    (by
      intro k a ha hk hq
      have hk' : (k : Int) < l.length := by omega
      have h1 := wrap_i64 ((k : Int) + 1) (by omega) (by omega)
      have eg := bRows_get ha
      have eg' := bRows_getE ha
      have h26 := f26 a (hs a (List.mem_of_getElem? ha))
      simp only [bRow, eTx] at h26
      unfold c10b0
      simp [evCode, evOps, evOne, evOp, evPur, evEff, evPur.chunks, fillP, AOp.isEff, AO.ev, putP, PV.cells, PV.leaf, getB, getM, mapE, iterE, keyC, mapRows, mfind, eq1, eqL, scal, binP, unP, minP, maxP, foldP, PV.lt, PV.lt.ltL, endP, expoAll, expoG, expo, expo.expoL, frIds, frIds.frIdsL, nodupN, kill, cls, clsFuel, resO, RV.get, loadP, evC_p, evC_s, endS, endT, rowsOf, callP, thinL, unfr, unfr.unfrL, PV.noMem, PV.noMem.noMemL, optI, mapO, norm, trimT, trimB, forget, hasN, blksLt, List.set, softChk, softGo, softRd, effTg, rdP, S10, bRow, eTx, eL, eg, eg', hk, hk', h1, h26])
    (by
      intro k a ha hk hq
      simp at hq)
    (by
      intro s
      unfold c10b0
      simp [evCode, evOps, evOne, evOp, evPur, evEff, evPur.chunks, fillP, AOp.isEff, AO.ev, putP, PV.cells, PV.leaf, getB, getM, mapE, iterE, keyC, mapRows, mfind, eq1, eqL, scal, binP, unP, minP, maxP, foldP, PV.lt, PV.lt.ltL, endP, expoAll, expoG, expo, expo.expoL, frIds, frIds.frIdsL, nodupN, kill, cls, clsFuel, resO, RV.get, loadP, evC_p, evC_s, endS, endT, rowsOf, callP, thinL, unfr, unfr.unfrL, PV.noMem, PV.noMem.noMemL, optI, mapO, norm, trimT, trimB, forget, hasN, blksLt, List.set, softChk, softGo, softRd, effTg, rdP, S10, eL]) (by omega)
  unfold c10
  simp [evCode, evOps, evOne, evOp, evPur, evEff, evPur.chunks, fillP, AOp.isEff, AO.ev, putP, PV.cells, PV.leaf, getB, getM, mapE, iterE, keyC, mapRows, mfind, eq1, eqL, scal, binP, unP, minP, maxP, foldP, PV.lt, PV.lt.ltL, endP, expoAll, expoG, expo, expo.expoL, frIds, frIds.frIdsL, nodupN, kill, cls, clsFuel, resO, RV.get, loadP, evC_p, evC_s, endS, endT, rowsOf, callP, thinL, unfr, unfr.unfrL, PV.noMem, PV.noMem.noMemL, optI, mapO, norm, trimT, trimB, forget, hasN, blksLt, List.set, softChk, softGo, softRd, effTg, rdP]
  generalize hE : evLoop _ _ _ _ _ = E
  rcases H _ _ hE (by simp [evCode, evOps, evOne, evOp, evPur, evEff, evPur.chunks, fillP, AOp.isEff, AO.ev, putP, PV.cells, PV.leaf, getB, getM, mapE, iterE, keyC, mapRows, mfind, eq1, eqL, scal, binP, unP, minP, maxP, foldP, PV.lt, PV.lt.ltL, endP, expoAll, expoG, expo, expo.expoL, frIds, frIds.frIdsL, nodupN, kill, cls, clsFuel, resO, RV.get, loadP, evC_p, evC_s, endS, endT, rowsOf, callP, thinL, unfr, unfr.unfrL, PV.noMem, PV.noMem.noMemL, optI, mapO, norm, trimT, trimB, forget, hasN, blksLt, List.set, softChk, softGo, softRd, effTg, rdP, S10]) with ⟨g1, g2⟩ | ⟨g1, t, g2, g3⟩
  · rw [g2]
    unfold c10b0
    simp [evCode, evOps, evOne, evOp, evPur, evEff, evPur.chunks, fillP, AOp.isEff, AO.ev, putP, PV.cells, PV.leaf, getB, getM, mapE, iterE, keyC, mapRows, mfind, eq1, eqL, scal, binP, unP, minP, maxP, foldP, PV.lt, PV.lt.ltL, endP, expoAll, expoG, expo, expo.expoL, frIds, frIds.frIdsL, nodupN, kill, cls, clsFuel, resO, RV.get, loadP, evC_p, evC_s, endS, endT, rowsOf, callP, thinL, unfr, unfr.unfrL, PV.noMem, PV.noMem.noMemL, optI, mapO, norm, trimT, trimB, forget, hasN, blksLt, List.set, softChk, softGo, softRd, effTg, rdP, S10, eL]
  · simp at g1
def fewS (t : List (List UInt8)) : Bool := decide (t.length ≤ 60)
def smallT (l : List Td) : Bool := decide (l.length ≤ 200) && l.all fun t => fewS t.st
def S8 (l : List Td) (k : Nat) : St := ⟨[.sl false 10 (tRows l), .top, .top, .int .i64 k] ++ List.replicate 17 .top, []⟩
set_option maxRecDepth 100000 in
theorem f8 (l : List Td) : evE Dg 8 [.sl false 10 (tRows l)] = some (.bool (smallT l)) := by
  refine evE_intro (l.length + 1) D8 rfl ?_
  have eL := tRows_len l
  by_cases hl : l.length ≤ 200
  · have hl' : ¬ ((200 : Int) < l.length) := by omega
    have H := loop_all (body := evCode (evC Dg) (l.length + 1) c8b0) (keep := [0, 3]) (n0 := 0) (fuel := l.length + 1) l (S8 l) (fun s => fewS s.st) (fun s => s.sl[2]?.getD .top = .bool false)
      (by
        intro k a ha hk hq
        have hk' : (k : Int) < l.length := by omega
        have h1 := wrap_i64 ((k : Int) + 1) (by omega) (by omega)
        have eg := tRows_get ha
        have eg' := tRows_getE ha
        have hs : ¬ (60 : Int) < a.st.length := by unfold fewS at hq; simp at hq; omega
        unfold c8b0
        simp [evCode, evOps, evOne, evOp, evPur, evEff, evPur.chunks, fillP, AOp.isEff, AO.ev, putP, PV.cells, PV.leaf, getB, getM, mapE, iterE, keyC, mapRows, mfind, eq1, eqL, scal, binP, unP, minP, maxP, foldP, PV.lt, PV.lt.ltL, endP, expoAll, expoG, expo, expo.expoL, frIds, frIds.frIdsL, nodupN, kill, cls, clsFuel, resO, RV.get, loadP, evC_p, evC_s, endS, endT, rowsOf, callP, thinL, unfr, unfr.unfrL, PV.noMem, PV.noMem.noMemL, optI, mapO, norm, trimT, trimB, forget, hasN, blksLt, List.set, softChk, softGo, softRd, effTg, rdP, S8, tRow, eTx, eL, eg, eg', hk, hk', h1, hs])
      (by
        intro k a ha hk hq
        have hk' : (k : Int) < l.length := by omega
        have eg := tRows_get ha
        have eg' := tRows_getE ha
        have hs : (60 : Int) < a.st.length := by unfold fewS at hq; simp at hq; omega
        unfold c8b0
        simp [evCode, evOps, evOne, evOp, evPur, evEff, evPur.chunks, fillP, AOp.isEff, AO.ev, putP, PV.cells, PV.leaf, getB, getM, mapE, iterE, keyC, mapRows, mfind, eq1, eqL, scal, binP, unP, minP, maxP, foldP, PV.lt, PV.lt.ltL, endP, expoAll, expoG, expo, expo.expoL, frIds, frIds.frIdsL, nodupN, kill, cls, clsFuel, resO, RV.get, loadP, evC_p, evC_s, endS, endT, rowsOf, callP, thinL, unfr, unfr.unfrL, PV.noMem, PV.noMem.noMemL, optI, mapO, norm, trimT, trimB, forget, hasN, blksLt, List.set, softChk, softGo, softRd, effTg, rdP, S8, tRow, eTx, eL, eg, eg', hk, hk', hs])
      (by
        intro s
        unfold c8b0
        simp [evCode, evOps, evOne, evOp, evPur, evEff, evPur.chunks, fillP, AOp.isEff, AO.ev, putP, PV.cells, PV.leaf, getB, getM, mapE, iterE, keyC, mapRows, mfind, eq1, eqL, scal, binP, unP, minP, maxP, foldP, PV.lt, PV.lt.ltL, endP, expoAll, expoG, expo, expo.expoL, frIds, frIds.frIdsL, nodupN, kill, cls, clsFuel, resO, RV.get, loadP, evC_p, evC_s, endS, endT, rowsOf, callP, thinL, unfr, unfr.unfrL, PV.noMem, PV.noMem.noMemL, optI, mapO, norm, trimT, trimB, forget, hasN, blksLt, List.set, softChk, softGo, softRd, effTg, rdP, S8, eL]) (by omega)
    unfold c8
    simp [evCode, evOps, evOne, evOp, evPur, evEff, evPur.chunks, fillP, AOp.isEff, AO.ev, putP, PV.cells, PV.leaf, getB, getM, mapE, iterE, keyC, mapRows, mfind, eq1, eqL, scal, binP, unP, minP, maxP, foldP, PV.lt, PV.lt.ltL, endP, expoAll, expoG, expo, expo.expoL, frIds, frIds.frIdsL, nodupN, kill, cls, clsFuel, resO, RV.get, loadP, evC_p, evC_s, endS, endT, rowsOf, callP, thinL, unfr, unfr.unfrL, PV.noMem, PV.noMem.noMemL, optI, mapO, norm, trimT, trimB, forget, hasN, blksLt, List.set, softChk, softGo, softRd, effTg, rdP, hl', smallT, hl, eL]
    generalize hE : evLoop _ _ _ _ _ = E
    rcases H _ _ hE (by simp [evCode, evOps, evOne, evOp, evPur, evEff, evPur.chunks, fillP, AOp.isEff, AO.ev, putP, PV.cells, PV.leaf, getB, getM, mapE, iterE, keyC, mapRows, mfind, eq1, eqL, scal, binP, unP, minP, maxP, foldP, PV.lt, PV.lt.ltL, endP, expoAll, expoG, expo, expo.expoL, frIds, frIds.frIdsL, nodupN, kill, cls, clsFuel, resO, RV.get, loadP, evC_p, evC_s, endS, endT, rowsOf, callP, thinL, unfr, unfr.unfrL, PV.noMem, PV.noMem.noMemL, optI, mapO, norm, trimT, trimB, forget, hasN, blksLt, List.set, softChk, softGo, softRd, effTg, rdP, S8]) with ⟨h1, h2⟩ | ⟨h1, s, h2, h3⟩
    · rw [h2]
      unfold c8b0
      simp [evCode, evOps, evOne, evOp, evPur, evEff, evPur.chunks, fillP, AOp.isEff, AO.ev, putP, PV.cells, PV.leaf, getB, getM, mapE, iterE, keyC, mapRows, mfind, eq1, eqL, scal, binP, unP, minP, maxP, foldP, PV.lt, PV.lt.ltL, endP, expoAll, expoG, expo, expo.expoL, frIds, frIds.frIdsL, nodupN, kill, cls, clsFuel, resO, RV.get, loadP, evC_p, evC_s, endS, endT, rowsOf, callP, thinL, unfr, unfr.unfrL, PV.noMem, PV.noMem.noMemL, optI, mapO, norm, trimT, trimB, forget, hasN, blksLt, List.set, softChk, softGo, softRd, effTg, rdP, S8, eL]
      simpa using h1
    · rw [h2]
      simp [evCode, evOps, evOne, evOp, evPur, evEff, evPur.chunks, fillP, AOp.isEff, AO.ev, putP, PV.cells, PV.leaf, getB, getM, mapE, iterE, keyC, mapRows, mfind, eq1, eqL, scal, binP, unP, minP, maxP, foldP, PV.lt, PV.lt.ltL, endP, expoAll, expoG, expo, expo.expoL, frIds, frIds.frIdsL, nodupN, kill, cls, clsFuel, resO, RV.get, loadP, evC_p, evC_s, endS, endT, rowsOf, callP, thinL, unfr, unfr.unfrL, PV.noMem, PV.noMem.noMemL, optI, mapO, norm, trimT, trimB, forget, hasN, blksLt, List.set, softChk, softGo, softRd, effTg, rdP, h3]
      simpa using h1
  · have hl' : ((200 : Int) < l.length) := by omega
    unfold c8
    simp [evCode, evOps, evOne, evOp, evPur, evEff, evPur.chunks, fillP, AOp.isEff, AO.ev, putP, PV.cells, PV.leaf, getB, getM, mapE, iterE, keyC, mapRows, mfind, eq1, eqL, scal, binP, unP, minP, maxP, foldP, PV.lt, PV.lt.ltL, endP, expoAll, expoG, expo, expo.expoL, frIds, frIds.frIdsL, nodupN, kill, cls, clsFuel, resO, RV.get, loadP, evC_p, evC_s, endS, endT, rowsOf, callP, thinL, unfr, unfr.unfrL, PV.noMem, PV.noMem.noMemL, optI, mapO, norm, trimT, trimB, forget, hasN, blksLt, List.set, softChk, softGo, softRd, effTg, rdP, hl', smallT, hl, eL]
def fewB (l : List Bk) : Bool := decide (l.length ≤ 200) && l.all fun t => fewS t.st
def S13 (l : List Bk) (k : Nat) : St := ⟨[.sl false 7 (bRows l), .top, .top, .int .i64 k] ++ List.replicate 16 .top, []⟩
set_option maxRecDepth 100000 in
theorem f13 (l : List Bk) : evE Dg 13 [.sl false 7 (bRows l)] = some (.bool (fewB l)) := by
  refine evE_intro (l.length + 1) D13 rfl ?_
  have eL := bRows_len l
  by_cases hl : l.length ≤ 200
  · have hl' : ¬ ((200 : Int) < l.length) := by omega
    have H := loop_all (body := evCode (evC Dg) (l.length + 1) c13b0) (keep := [0, 3]) (n0 := 0) (fuel := l.length + 1) l (S13 l) (fun s => fewS s.st) (fun s => s.sl[2]?.getD .top = .bool false)
      (by
        intro k a ha hk hq
        have hk' : (k : Int) < l.length := by omega
        have h1 := wrap_i64 ((k : Int) + 1) (by omega) (by omega)
        have eg := bRows_get ha
        have eg' := bRows_getE ha
        have hs : ¬ (60 : Int) < a.st.length := by unfold fewS at hq; simp at hq; omega
        unfold c13b0
        simp [evCode, evOps, evOne, evOp, evPur, evEff, evPur.chunks, fillP, AOp.isEff, AO.ev, putP, PV.cells, PV.leaf, getB, getM, mapE, iterE, keyC, mapRows, mfind, eq1, eqL, scal, binP, unP, minP, maxP, foldP, PV.lt, PV.lt.ltL, endP, expoAll, expoG, expo, expo.expoL, frIds, frIds.frIdsL, nodupN, kill, cls, clsFuel, resO, RV.get, loadP, evC_p, evC_s, endS, endT, rowsOf, callP, thinL, unfr, unfr.unfrL, PV.noMem, PV.noMem.noMemL, optI, mapO, norm, trimT, trimB, forget, hasN, blksLt, List.set, softChk, softGo, softRd, effTg, rdP, S13, bRow, eTx, eL, eg, eg', hk, hk', h1, hs])
      (by
        intro k a ha hk hq
        have hk' : (k : Int) < l.length := by omega
        have eg := bRows_get ha
        have eg' := bRows_getE ha
        have hs : (60 : Int) < a.st.length := by unfold fewS at hq; simp at hq; omega
        unfold c13b0
        simp [evCode, evOps, evOne, evOp, evPur, evEff, evPur.chunks, fillP, AOp.isEff, AO.ev, putP, PV.cells, PV.leaf, getB, getM, mapE, iterE, keyC, mapRows, mfind, eq1, eqL, scal, binP, unP, minP, maxP, foldP, PV.lt, PV.lt.ltL, endP, expoAll, expoG, expo, expo.expoL, frIds, frIds.frIdsL, nodupN, kill, cls, clsFuel, resO, RV.get, loadP, evC_p, evC_s, endS, endT, rowsOf, callP, thinL, unfr, unfr.unfrL, PV.noMem, PV.noMem.noMemL, optI, mapO, norm, trimT, trimB, forget, hasN, blksLt, List.set, softChk, softGo, softRd, effTg, rdP, S13, bRow, eTx, eL, eg, eg', hk, hk', hs])
      (by
        intro s
        unfold c13b0
        simp [evCode, evOps, evOne, evOp, evPur, evEff, evPur.chunks, fillP, AOp.isEff, AO.ev, putP, PV.cells, PV.leaf, getB, getM, mapE, iterE, keyC, mapRows, mfind, eq1, eqL, scal, binP, unP, minP, maxP, foldP, PV.lt, PV.lt.ltL, endP, expoAll, expoG, expo, expo.expoL, frIds, frIds.frIdsL, nodupN, kill, cls, clsFuel, resO, RV.get, loadP, evC_p, evC_s, endS, endT, rowsOf, callP, thinL, unfr, unfr.unfrL, PV.noMem, PV.noMem.noMemL, optI, mapO, norm, trimT, trimB, forget, hasN, blksLt, List.set, softChk, softGo, softRd, effTg, rdP, S13, eL]) (by omega)
    unfold c13
    simp [evCode, evOps, evOne, evOp, evPur, evEff, evPur.chunks, fillP, AOp.isEff, AO.ev, putP, PV.cells, PV.leaf, getB, getM, mapE, iterE, keyC, mapRows, mfind, eq1, eqL, scal, binP, unP, minP, maxP, foldP, PV.lt, PV.lt.ltL, endP, expoAll, expoG, expo, expo.expoL, frIds, frIds.frIdsL, nodupN, kill, cls, clsFuel, resO, RV.get, loadP, evC_p, evC_s, endS, endT, rowsOf, callP, thinL, unfr, unfr.unfrL, PV.noMem, PV.noMem.noMemL, optI, mapO, norm, trimT, trimB, forget, hasN, blksLt, List.set, softChk, softGo, softRd, effTg, rdP, hl', fewB, hl, eL]
    generalize hE : evLoop _ _ _ _ _ = E
    rcases H _ _ hE (by simp [evCode, evOps, evOne, evOp, evPur, evEff, evPur.chunks, fillP, AOp.isEff, AO.ev, putP, PV.cells, PV.leaf, getB, getM, mapE, iterE, keyC, mapRows, mfind, eq1, eqL, scal, binP, unP, minP, maxP, foldP, PV.lt, PV.lt.ltL, endP, expoAll, expoG, expo, expo.expoL, frIds, frIds.frIdsL, nodupN, kill, cls, clsFuel, resO, RV.get, loadP, evC_p, evC_s, endS, endT, rowsOf, callP, thinL, unfr, unfr.unfrL, PV.noMem, PV.noMem.noMemL, optI, mapO, norm, trimT, trimB, forget, hasN, blksLt, List.set, softChk, softGo, softRd, effTg, rdP, S13]) with ⟨h1, h2⟩ | ⟨h1, s, h2, h3⟩
    · rw [h2]
      unfold c13b0
      simp [evCode, evOps, evOne, evOp, evPur, evEff, evPur.chunks, fillP, AOp.isEff, AO.ev, putP, PV.cells, PV.leaf, getB, getM, mapE, iterE, keyC, mapRows, mfind, eq1, eqL, scal, binP, unP, minP, maxP, foldP, PV.lt, PV.lt.ltL, endP, expoAll, expoG, expo, expo.expoL, frIds, frIds.frIdsL, nodupN, kill, cls, clsFuel, resO, RV.get, loadP, evC_p, evC_s, endS, endT, rowsOf, callP, thinL, unfr, unfr.unfrL, PV.noMem, PV.noMem.noMemL, optI, mapO, norm, trimT, trimB, forget, hasN, blksLt, List.set, softChk, softGo, softRd, effTg, rdP, S13, eL]
      simpa using h1
    · rw [h2]
      simp [evCode, evOps, evOne, evOp, evPur, evEff, evPur.chunks, fillP, AOp.isEff, AO.ev, putP, PV.cells, PV.leaf, getB, getM, mapE, iterE, keyC, mapRows, mfind, eq1, eqL, scal, binP, unP, minP, maxP, foldP, PV.lt, PV.lt.ltL, endP, expoAll, expoG, expo, expo.expoL, frIds, frIds.frIdsL, nodupN, kill, cls, clsFuel, resO, RV.get, loadP, evC_p, evC_s, endS, endT, rowsOf, callP, thinL, unfr, unfr.unfrL, PV.noMem, PV.noMem.noMemL, optI, mapO, norm, trimT, trimB, forget, hasN, blksLt, List.set, softChk, softGo, softRd, effTg, rdP, h3]
      simpa using h1
  · have hl' : ((200 : Int) < l.length) := by omega
    unfold c13
    simp [evCode, evOps, evOne, evOp, evPur, evEff, evPur.chunks, fillP, AOp.isEff, AO.ev, putP, PV.cells, PV.leaf, getB, getM, mapE, iterE, keyC, mapRows, mfind, eq1, eqL, scal, binP, unP, minP, maxP, foldP, PV.lt, PV.lt.ltL, endP, expoAll, expoG, expo, expo.expoL, frIds, frIds.frIdsL, nodupN, kill, cls, clsFuel, resO, RV.get, loadP, evC_p, evC_s, endS, endT, rowsOf, callP, thinL, unfr, unfr.unfrL, PV.noMem, PV.noMem.noMemL, optI, mapO, norm, trimT, trimB, forget, hasN, blksLt, List.set, softChk, softGo, softRd, effTg, rdP, hl', fewB, hl, eL]
set_option maxRecDepth 100000 in
theorem ht_strs {d : Nat} {r : List PV} (h : HT Try.prog (d + 2) 41 r) : ∃ st : List (List UInt8), r = [eTx st] := by
  obtain ⟨rows, rfl, hlen, h3⟩ := ht_slice Try.underlying41 h
  clear hlen
  have hc : Try.prog.cellsOf 9 = 1 := by kernel_rfl
  rw [hc]
  suffices h : ∃ st : List (List UInt8), rows = st.map fun t => [.str t] by
    obtain ⟨st, rfl⟩ := h
    exact ⟨st, rfl⟩
  clear h hc
  induction rows with
  | nil => exact ⟨[], rfl⟩
  | cons x xs ih =>
    obtain ⟨st, rfl⟩ := ih fun r hr => h3 r (List.mem_cons_of_mem _ hr)
    obtain ⟨s, rfl, _⟩ := ht_string Try.underlying9 (h3 x (List.mem_cons_self ..))
    exact ⟨s :: st, rfl⟩
set_option maxRecDepth 100000 in
theorem ht_two {d : Nat} {r : List PV} {t : TypeId} {fs : Array Field} (hu : Try.prog.underlying t = some (.struct fs)) (h : HT Try.prog (d + 2) t r) (hf : ∃ f g : Field, fs.toList = [f, g] ∧ f.type = 3 ∧ g.type = 3) : ∃ a b : Int, r = [.int .i64 a, .int .i64 b] := by
  obtain ⟨f, g, hl, hf1, hg1⟩ := hf
  have h := ht_struct hu h
  rw [hl] at h
  obtain ⟨p0, q0, rfl, h0, h⟩ := htf_cons h
  obtain ⟨p1, q1, rfl, h1, h⟩ := htf_cons h
  obtain rfl := htf_nil h
  rw [hf1] at h0
  rw [hg1] at h1
  obtain ⟨a, rfl, _⟩ := ht_int Try.underlying3 h0
  obtain ⟨b, rfl, _⟩ := ht_int Try.underlying3 h1
  exact ⟨a, b, rfl⟩
set_option maxRecDepth 100000 in
theorem ht_timed {d : Nat} {r : List PV} (h : HT Try.prog (d + 6) 52 r) : ∃ t : Td, r = tRow t := by
  have h := ht_struct Try.underlying52 h
  obtain ⟨p0, q0, rfl, h0, h⟩ := htf_cons h
  obtain ⟨p1, q1, rfl, h1, h⟩ := htf_cons h
  obtain ⟨p2, q2, rfl, h2, h⟩ := htf_cons h
  obtain rfl := htf_nil h
  obtain ⟨a, b, rfl⟩ := ht_two Try.underlying46 h0 ⟨_, _, rfl, rfl, rfl⟩
  obtain ⟨c, e, rfl⟩ := ht_two Try.underlying50 h2 ⟨_, _, rfl, rfl, rfl⟩
  have h1 := ht_struct Try.underlying48 h1
  obtain ⟨x0, y0, rfl, k0, h1⟩ := htf_cons h1
  obtain ⟨x1, y1, rfl, k1, h1⟩ := htf_cons h1
  obtain ⟨x2, y2, rfl, k2, h1⟩ := htf_cons h1
  obtain ⟨x3, y3, rfl, k3, h1⟩ := htf_cons h1
  obtain ⟨x4, y4, rfl, k4, h1⟩ := htf_cons h1
  obtain ⟨x5, y5, rfl, k5, h1⟩ := htf_cons h1
  obtain rfl := htf_nil h1
  obtain ⟨i0, rfl, _⟩ := ht_int Try.underlying3 k0
  obtain ⟨i1, rfl, _⟩ := ht_int Try.underlying38 k1
  obtain ⟨s, rfl, _⟩ := ht_string Try.underlying9 k2
  obtain ⟨i3, rfl, _⟩ := ht_int Try.underlying3 k3
  obtain ⟨i4, rfl, _⟩ := ht_int Try.underlying3 k4
  obtain ⟨st, rfl⟩ := ht_strs k5
  exact ⟨⟨a, b, i0, i1, s, i3, i4, st, c, e⟩, rfl⟩
set_option maxRecDepth 100000 in
theorem ht_block {d : Nat} {r : List PV} (h : HT Try.prog (d + 6) 43 r) : ∃ t : Bk, r = bRow t := by
  have h1 := ht_struct Try.underlying43 h
  obtain ⟨x0, y0, rfl, k0, h1⟩ := htf_cons h1
  obtain ⟨x1, y1, rfl, k1, h1⟩ := htf_cons h1
  obtain ⟨x2, y2, rfl, k2, h1⟩ := htf_cons h1
  obtain ⟨x3, y3, rfl, k3, h1⟩ := htf_cons h1
  obtain ⟨x4, y4, rfl, k4, h1⟩ := htf_cons h1
  obtain ⟨x5, y5, rfl, k5, h1⟩ := htf_cons h1
  obtain rfl := htf_nil h1
  obtain ⟨i0, rfl, _⟩ := ht_int Try.underlying3 k0
  obtain ⟨i1, rfl, _⟩ := ht_int Try.underlying3 k1
  obtain ⟨i2, rfl, _⟩ := ht_int Try.underlying3 k2
  obtain ⟨a, b, rfl⟩ := ht_two Try.underlying40 k3 ⟨_, _, rfl, rfl, rfl⟩
  obtain ⟨st, rfl⟩ := ht_strs k4
  obtain ⟨lv, rfl⟩ := ht_bool Try.underlying4 k5
  exact ⟨⟨i0, i1, i2, a, b, st, lv⟩, rfl⟩
set_option maxRecDepth 100000 in
theorem in_timed {d : Nat} {p : PV} (h : ArgT Try.prog (d + 7) 22 p) : ∃ l : List Td, p = .sl false 10 (tRows l) := by
  obtain ⟨l, h1, h2, h3⟩ := argT_rows (f := tRow) (Q := fun s => True) Try.underlying22 (c := 10) (by kernel_rfl) (fun r hr => by
    obtain ⟨s, rfl⟩ := ht_timed hr
    exact ⟨s, rfl, trivial⟩) (argT_slice Try.underlying22 h)
  exact ⟨l, (List.cons.inj h1).1⟩
set_option maxRecDepth 100000 in
theorem in_blocks {d : Nat} {p : PV} (h : ArgT Try.prog (d + 7) 26 p) : ∃ l : List Bk, p = .sl false 7 (bRows l) := by
  obtain ⟨l, h1, h2, h3⟩ := argT_rows (f := bRow) (Q := fun s => True) Try.underlying26 (c := 7) (by kernel_rfl) (fun r hr => by
    obtain ⟨s, rfl⟩ := ht_block hr
    exact ⟨s, rfl, trivial⟩) (argT_slice Try.underlying26 h)
  exact ⟨l, (List.cons.inj h1).1⟩
end Go.Proofs.Ytalmhggbdfjalaa
