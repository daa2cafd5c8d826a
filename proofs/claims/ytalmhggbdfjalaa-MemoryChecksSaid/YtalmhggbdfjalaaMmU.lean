/- Leaks of both, Live and Peak of the reference. -/
import Derived.Test.YtalmhggbdfjalaaMmS
namespace Go.Proofs.Ytalmhggbdfjalaa
open Go Go.RowKit
set_option linter.unusedVariables false
set_option linter.unusedSectionVars false
set_option linter.unusedSimpArgs false
set_option maxHeartbeats 4000000

def lkN (o : List Bk) (b : Bk) : List Bk := if b.lv = true then o ++ [b] else o
def leaks (l : List Bk) : List Bk := l.foldl lkN []
def S16 (l : List Bk) (k : Nat) (o : List Bk) : St := ⟨[.top, .top, .top, .own 1 o.length 0 o.length, .top, .top, .sl false 7 (bRows l), .int .i64 l.length, .int .i64 k] ++ List.replicate 11 .top, [some ⟨0, 7, true, []⟩, some ⟨o.length, 7, true, bRows o⟩]⟩
def S17 (l : List Bk) (k : Nat) (o : List Bk) : St := ⟨[.sl false 7 (bRows l), .top, .top, .own 1 o.length 0 o.length, .int .i64 k] ++ List.replicate 19 .top, [some ⟨0, 7, true, []⟩, some ⟨o.length, 7, true, bRows o⟩]⟩
set_option maxRecDepth 100000 in
theorem f16 (l : List Bk) (hl : l.length ≤ 1000) : evE Dg 16 [.sl false 7 (bRows l)] = some (.fr 7 (bRows (leaks l))) ∧ (leaks l).length ≤ l.length := by
  have eL := bRows_len l
  have H := fun (s0 : St) (E : Option Out) => loop_foldE (body := evCode (evC Dg) 3000 c16b0) (keep := [3, 6, 7, 8]) (n0 := 2) (fuel := 3000) l (S16 l) lkN (fun k o => o.length ≤ k) (by
    intro k b o hb hk hI
    have hk' : (k : Int) < l.length := by omega
    have w1 := wrap_i64 ((k : Int) + 1) (by omega) (by omega)
    have eg := bRows_get hb
    have eg' := bRows_getE hb
    have eO := bRows_len o
    have a1 : (o.length + 1) * 72 ≤ 140737488355328 := by omega
    have a2 : o.length + 1 ≤ 140737488355328 := by omega
    have er := (bRows_add o b).symm
    obtain ⟨x1, x2, x3, x4, x5, x6, lv⟩ := b
    cases lv with
    | true =>
      refine ⟨by simp [lkN]; omega, ?_⟩
      unfold lkN
      rw [if_pos rfl]
      unfold c16b0
      simp [evCode, evOps, evOne, evOp, evPur, evEff, evPur.chunks, fillP, AOp.isEff, AO.ev, putP, PV.cells, PV.leaf, getB, getM, mapE, iterE, keyC, mapRows, mfind, eq1, eqL, scal, binP, unP, minP, maxP, foldP, PV.lt, PV.lt.ltL, endP, expoAll, expoG, expo, expo.expoL, frIds, frIds.frIdsL, nodupN, kill, cls, clsFuel, resO, RV.get, loadP, evC_p, evC_s, endS, endT, rowsOf, callP, thinL, unfr, unfr.unfrL, PV.noMem, PV.noMem.noMemL, optI, mapO, norm, trimT, trimB, forget, hasN, blksLt, List.set, softChk, softGo, softRd, effTg, rdP, S16, hk, hk', w1, eL, eO, eg, eg', bRow, eTx, a1, a2, er]
      try exact bRows_add o _
    | false =>
      refine ⟨by simp [lkN]; omega, ?_⟩
      unfold lkN
      rw [if_neg Bool.false_ne_true]
      unfold c16b0
      simp [evCode, evOps, evOne, evOp, evPur, evEff, evPur.chunks, fillP, AOp.isEff, AO.ev, putP, PV.cells, PV.leaf, getB, getM, mapE, iterE, keyC, mapRows, mfind, eq1, eqL, scal, binP, unP, minP, maxP, foldP, PV.lt, PV.lt.ltL, endP, expoAll, expoG, expo, expo.expoL, frIds, frIds.frIdsL, nodupN, kill, cls, clsFuel, resO, RV.get, loadP, evC_p, evC_s, endS, endT, rowsOf, callP, thinL, unfr, unfr.unfrL, PV.noMem, PV.noMem.noMemL, optI, mapO, norm, trimT, trimB, forget, hasN, blksLt, List.set, softChk, softGo, softRd, effTg, rdP, S16, hk, hk', w1, eL, eO, eg, eg', bRow, eTx]) (by
    intro o _ s
    unfold c16b0
    simp [evCode, evOps, evOne, evOp, evPur, evEff, evPur.chunks, fillP, AOp.isEff, AO.ev, putP, PV.cells, PV.leaf, getB, getM, mapE, iterE, keyC, mapRows, mfind, eq1, eqL, scal, binP, unP, minP, maxP, foldP, PV.lt, PV.lt.ltL, endP, expoAll, expoG, expo, expo.expoL, frIds, frIds.frIdsL, nodupN, kill, cls, clsFuel, resO, RV.get, loadP, evC_p, evC_s, endS, endT, rowsOf, callP, thinL, unfr, unfr.unfrL, PV.noMem, PV.noMem.noMemL, optI, mapO, norm, trimT, trimB, forget, hasN, blksLt, List.set, softChk, softGo, softRd, effTg, rdP, S16, eL]) (by omega) [] (by simp) s0 E
  have hle : (leaks l).length ≤ l.length := (H (S16 l 0 []) _ rfl (by simp [evCode, evOps, evOne, evOp, evPur, evEff, evPur.chunks, fillP, AOp.isEff, AO.ev, putP, PV.cells, PV.leaf, getB, getM, mapE, iterE, keyC, mapRows, mfind, eq1, eqL, scal, binP, unP, minP, maxP, foldP, PV.lt, PV.lt.ltL, endP, expoAll, expoG, expo, expo.expoL, frIds, frIds.frIdsL, nodupN, kill, cls, clsFuel, resO, RV.get, loadP, evC_p, evC_s, endS, endT, rowsOf, callP, thinL, unfr, unfr.unfrL, PV.noMem, PV.noMem.noMemL, optI, mapO, norm, trimT, trimB, forget, hasN, blksLt, List.set, softChk, softGo, softRd, effTg, rdP, S16, bRows])).2
  refine ⟨?_, hle⟩
  refine evE_intro 3000 D16 rfl ?_
  unfold c16
  simp [evCode, evOps, evOne, evOp, evPur, evEff, evPur.chunks, fillP, AOp.isEff, AO.ev, putP, PV.cells, PV.leaf, getB, getM, mapE, iterE, keyC, mapRows, mfind, eq1, eqL, scal, binP, unP, minP, maxP, foldP, PV.lt, PV.lt.ltL, endP, expoAll, expoG, expo, expo.expoL, frIds, frIds.frIdsL, nodupN, kill, cls, clsFuel, resO, RV.get, loadP, evC_p, evC_s, endS, endT, rowsOf, callP, thinL, unfr, unfr.unfrL, PV.noMem, PV.noMem.noMemL, optI, mapO, norm, trimT, trimB, forget, hasN, blksLt, List.set, softChk, softGo, softRd, effTg, rdP, eL]
  generalize hE : evLoop (evCode (evC Dg) 3000 c16b0) [3, 6, 7, 8] 2 3000 _ = E
  obtain ⟨h, -⟩ := H _ E hE (by simp [evCode, evOps, evOne, evOp, evPur, evEff, evPur.chunks, fillP, AOp.isEff, AO.ev, putP, PV.cells, PV.leaf, getB, getM, mapE, iterE, keyC, mapRows, mfind, eq1, eqL, scal, binP, unP, minP, maxP, foldP, PV.lt, PV.lt.ltL, endP, expoAll, expoG, expo, expo.expoL, frIds, frIds.frIdsL, nodupN, kill, cls, clsFuel, resO, RV.get, loadP, evC_p, evC_s, endS, endT, rowsOf, callP, thinL, unfr, unfr.unfrL, PV.noMem, PV.noMem.noMemL, optI, mapO, norm, trimT, trimB, forget, hasN, blksLt, List.set, softChk, softGo, softRd, effTg, rdP, S16, bRows])
  rw [h]
  have : l.foldl lkN [] = leaks l := rfl
  rw [this]
  generalize leaks l = o at *
  have eO := bRows_len o
  unfold c16b0
  simp [evCode, evOps, evOne, evOp, evPur, evEff, evPur.chunks, fillP, AOp.isEff, AO.ev, putP, PV.cells, PV.leaf, getB, getM, mapE, iterE, keyC, mapRows, mfind, eq1, eqL, scal, binP, unP, minP, maxP, foldP, PV.lt, PV.lt.ltL, endP, expoAll, expoG, expo, expo.expoL, frIds, frIds.frIdsL, nodupN, kill, cls, clsFuel, resO, RV.get, loadP, evC_p, evC_s, endS, endT, rowsOf, callP, thinL, unfr, unfr.unfrL, PV.noMem, PV.noMem.noMemL, optI, mapO, norm, trimT, trimB, forget, hasN, blksLt, List.set, softChk, softGo, softRd, effTg, rdP, S16, eL, eO]
set_option maxRecDepth 100000 in
theorem f17 (l : List Bk) (hl : l.length ≤ 1000) : evE Dg 17 [.sl false 7 (bRows l)] = some (.fr 7 (bRows (leaks l))) := by
  have eL := bRows_len l
  have H := fun (s0 : St) (E : Option Out) => loop_foldE (body := evCode (evC Dg) 3000 c17b0) (keep := [0, 3, 4]) (n0 := 2) (fuel := 3000) l (S17 l) lkN (fun k o => o.length ≤ k) (by
    intro k b o hb hk hI
    have hk' : (k : Int) < l.length := by omega
    have w1 := wrap_i64 ((k : Int) + 1) (by omega) (by omega)
    have eg := bRows_get hb
    have eg' := bRows_getE hb
    have eO := bRows_len o
    have a1 : (o.length + 1) * 72 ≤ 140737488355328 := by omega
    have a2 : o.length + 1 ≤ 140737488355328 := by omega
    have er := (bRows_add o b).symm
    obtain ⟨x1, x2, x3, x4, x5, x6, lv⟩ := b
    cases lv with
    | true =>
      refine ⟨by simp [lkN]; omega, ?_⟩
      unfold lkN
      rw [if_pos rfl]
      unfold c17b0
      simp [evCode, evOps, evOne, evOp, evPur, evEff, evPur.chunks, fillP, AOp.isEff, AO.ev, putP, PV.cells, PV.leaf, getB, getM, mapE, iterE, keyC, mapRows, mfind, eq1, eqL, scal, binP, unP, minP, maxP, foldP, PV.lt, PV.lt.ltL, endP, expoAll, expoG, expo, expo.expoL, frIds, frIds.frIdsL, nodupN, kill, cls, clsFuel, resO, RV.get, loadP, evC_p, evC_s, endS, endT, rowsOf, callP, thinL, unfr, unfr.unfrL, PV.noMem, PV.noMem.noMemL, optI, mapO, norm, trimT, trimB, forget, hasN, blksLt, List.set, softChk, softGo, softRd, effTg, rdP, S17, hk, hk', w1, eL, eO, eg, eg', bRow, eTx, a1, a2, er]
      try exact bRows_add o _
    | false =>
      refine ⟨by simp [lkN]; omega, ?_⟩
      unfold lkN
      rw [if_neg Bool.false_ne_true]
      unfold c17b0
      simp [evCode, evOps, evOne, evOp, evPur, evEff, evPur.chunks, fillP, AOp.isEff, AO.ev, putP, PV.cells, PV.leaf, getB, getM, mapE, iterE, keyC, mapRows, mfind, eq1, eqL, scal, binP, unP, minP, maxP, foldP, PV.lt, PV.lt.ltL, endP, expoAll, expoG, expo, expo.expoL, frIds, frIds.frIdsL, nodupN, kill, cls, clsFuel, resO, RV.get, loadP, evC_p, evC_s, endS, endT, rowsOf, callP, thinL, unfr, unfr.unfrL, PV.noMem, PV.noMem.noMemL, optI, mapO, norm, trimT, trimB, forget, hasN, blksLt, List.set, softChk, softGo, softRd, effTg, rdP, S17, hk, hk', w1, eL, eO, eg, eg', bRow, eTx]) (by
    intro o _ s
    unfold c17b0
    simp [evCode, evOps, evOne, evOp, evPur, evEff, evPur.chunks, fillP, AOp.isEff, AO.ev, putP, PV.cells, PV.leaf, getB, getM, mapE, iterE, keyC, mapRows, mfind, eq1, eqL, scal, binP, unP, minP, maxP, foldP, PV.lt, PV.lt.ltL, endP, expoAll, expoG, expo, expo.expoL, frIds, frIds.frIdsL, nodupN, kill, cls, clsFuel, resO, RV.get, loadP, evC_p, evC_s, endS, endT, rowsOf, callP, thinL, unfr, unfr.unfrL, PV.noMem, PV.noMem.noMemL, optI, mapO, norm, trimT, trimB, forget, hasN, blksLt, List.set, softChk, softGo, softRd, effTg, rdP, S17, eL]) (by omega) [] (by simp) s0 E
  refine evE_intro 3000 D17 rfl ?_
  unfold c17
  simp [evCode, evOps, evOne, evOp, evPur, evEff, evPur.chunks, fillP, AOp.isEff, AO.ev, putP, PV.cells, PV.leaf, getB, getM, mapE, iterE, keyC, mapRows, mfind, eq1, eqL, scal, binP, unP, minP, maxP, foldP, PV.lt, PV.lt.ltL, endP, expoAll, expoG, expo, expo.expoL, frIds, frIds.frIdsL, nodupN, kill, cls, clsFuel, resO, RV.get, loadP, evC_p, evC_s, endS, endT, rowsOf, callP, thinL, unfr, unfr.unfrL, PV.noMem, PV.noMem.noMemL, optI, mapO, norm, trimT, trimB, forget, hasN, blksLt, List.set, softChk, softGo, softRd, effTg, rdP]
  generalize hE : evLoop (evCode (evC Dg) 3000 c17b0) [0, 3, 4] 2 3000 _ = E
  obtain ⟨h, -⟩ := H _ E hE (by simp [evCode, evOps, evOne, evOp, evPur, evEff, evPur.chunks, fillP, AOp.isEff, AO.ev, putP, PV.cells, PV.leaf, getB, getM, mapE, iterE, keyC, mapRows, mfind, eq1, eqL, scal, binP, unP, minP, maxP, foldP, PV.lt, PV.lt.ltL, endP, expoAll, expoG, expo, expo.expoL, frIds, frIds.frIdsL, nodupN, kill, cls, clsFuel, resO, RV.get, loadP, evC_p, evC_s, endS, endT, rowsOf, callP, thinL, unfr, unfr.unfrL, PV.noMem, PV.noMem.noMemL, optI, mapO, norm, trimT, trimB, forget, hasN, blksLt, List.set, softChk, softGo, softRd, effTg, rdP, S17, bRows])
  rw [h]
  have : l.foldl lkN [] = leaks l := rfl
  rw [this]
  generalize leaks l = o at *
  have eO := bRows_len o
  unfold c17b0
  simp [evCode, evOps, evOne, evOp, evPur, evEff, evPur.chunks, fillP, AOp.isEff, AO.ev, putP, PV.cells, PV.leaf, getB, getM, mapE, iterE, keyC, mapRows, mfind, eq1, eqL, scal, binP, unP, minP, maxP, foldP, PV.lt, PV.lt.ltL, endP, expoAll, expoG, expo, expo.expoL, frIds, frIds.frIdsL, nodupN, kill, cls, clsFuel, resO, RV.get, loadP, evC_p, evC_s, endS, endT, rowsOf, callP, thinL, unfr, unfr.unfrL, PV.noMem, PV.noMem.noMemL, optI, mapO, norm, trimT, trimB, forget, hasN, blksLt, List.set, softChk, softGo, softRd, effTg, rdP, S17, eL, eO]
theorem leaks_mem (l : List Bk) : ∀ (o : List Bk) (b : Bk), b ∈ l.foldl lkN o → b ∈ o ∨ b ∈ l := by
  induction l with
  | nil => intro o b h; exact .inl h
  | cons c l ih =>
    intro o b h
    rw [List.foldl_cons] at h
    rcases ih _ b h with h1 | h1
    · unfold lkN at h1
      split at h1
      · rcases List.mem_append.1 h1 with h2 | h2
        · exact .inl h2
        · rw [List.mem_singleton] at h2
          exact .inr (by rw [h2]; exact List.mem_cons_self ..)
      · exact .inl h1
    · exact .inr (List.mem_cons_of_mem _ h1)
def S21 (l : List Bk) (t : Int) (k : Nat) (n : Int) : St := ⟨[.sl false 7 (bRows l), .int .i64 t, .top, .top, .top, .int .i64 n, .int .i64 k] ++ List.replicate 33 .top, []⟩
set_option maxRecDepth 100000 in
theorem f21 (l : List Bk) (t : Int) (hS : Siz l) : evE Dg 21 [.sl false 7 (bRows l), .int .i64 t] = some (.int .i64 (live l t)) := by
  have eL := bRows_len l
  obtain ⟨hl, hs⟩ := hS
  have H := fun (s0 : St) (E : Option Out) => loop_foldE (body := evCode (evC Dg) 3000 c21b0) (keep := [0, 1, 5, 6]) (n0 := 0) (fuel := 3000) l (S21 l t) (lvN t) (fun k n => 0 ≤ n ∧ n ≤ k * 1000000000000) (by
    intro k b n hb hk ⟨h1, h2⟩
    obtain ⟨s1, s2⟩ := hs b (List.mem_of_getElem? hb)
    have hk' : (k : Int) < l.length := by omega
    have w1 := wrap_i64 ((k : Int) + 1) (by omega) (by omega)
    have w2 := wrap_i64 (n + b.s) (by omega) (by omega)
    have c1 : ¬ 1000000000000000 < n + b.s := by omega
    have eg := bRows_get hb
    have eg' := bRows_getE hb
    refine ⟨by unfold lvN; split <;> omega, ?_⟩
    unfold lvN
    by_cases h3 : b.f ≤ t
    · by_cases h4 : t < b.e
      · rw [if_pos ⟨h3, h4⟩]
        unfold c21b0
        simp [evCode, evOps, evOne, evOp, evPur, evEff, evPur.chunks, fillP, AOp.isEff, AO.ev, putP, PV.cells, PV.leaf, getB, getM, mapE, iterE, keyC, mapRows, mfind, eq1, eqL, scal, binP, unP, minP, maxP, foldP, PV.lt, PV.lt.ltL, endP, expoAll, expoG, expo, expo.expoL, frIds, frIds.frIdsL, nodupN, kill, cls, clsFuel, resO, RV.get, loadP, evC_p, evC_s, endS, endT, rowsOf, callP, thinL, unfr, unfr.unfrL, PV.noMem, PV.noMem.noMemL, optI, mapO, norm, trimT, trimB, forget, hasN, blksLt, List.set, softChk, softGo, softRd, effTg, rdP, S21, hk, hk', w1, w2, c1, eL, eg, eg', bRow, eTx, h3, h4]
      · rw [if_neg (fun h => h4 h.2)]
        unfold c21b0
        simp [evCode, evOps, evOne, evOp, evPur, evEff, evPur.chunks, fillP, AOp.isEff, AO.ev, putP, PV.cells, PV.leaf, getB, getM, mapE, iterE, keyC, mapRows, mfind, eq1, eqL, scal, binP, unP, minP, maxP, foldP, PV.lt, PV.lt.ltL, endP, expoAll, expoG, expo, expo.expoL, frIds, frIds.frIdsL, nodupN, kill, cls, clsFuel, resO, RV.get, loadP, evC_p, evC_s, endS, endT, rowsOf, callP, thinL, unfr, unfr.unfrL, PV.noMem, PV.noMem.noMemL, optI, mapO, norm, trimT, trimB, forget, hasN, blksLt, List.set, softChk, softGo, softRd, effTg, rdP, S21, hk, hk', w1, eL, eg, eg', bRow, eTx, h3, h4]
    · rw [if_neg (fun h => h3 h.1)]
      unfold c21b0
      simp [evCode, evOps, evOne, evOp, evPur, evEff, evPur.chunks, fillP, AOp.isEff, AO.ev, putP, PV.cells, PV.leaf, getB, getM, mapE, iterE, keyC, mapRows, mfind, eq1, eqL, scal, binP, unP, minP, maxP, foldP, PV.lt, PV.lt.ltL, endP, expoAll, expoG, expo, expo.expoL, frIds, frIds.frIdsL, nodupN, kill, cls, clsFuel, resO, RV.get, loadP, evC_p, evC_s, endS, endT, rowsOf, callP, thinL, unfr, unfr.unfrL, PV.noMem, PV.noMem.noMemL, optI, mapO, norm, trimT, trimB, forget, hasN, blksLt, List.set, softChk, softGo, softRd, effTg, rdP, S21, hk, hk', w1, eL, eg, eg', bRow, eTx, h3]) (by
    intro n _ s
    unfold c21b0
    simp [evCode, evOps, evOne, evOp, evPur, evEff, evPur.chunks, fillP, AOp.isEff, AO.ev, putP, PV.cells, PV.leaf, getB, getM, mapE, iterE, keyC, mapRows, mfind, eq1, eqL, scal, binP, unP, minP, maxP, foldP, PV.lt, PV.lt.ltL, endP, expoAll, expoG, expo, expo.expoL, frIds, frIds.frIdsL, nodupN, kill, cls, clsFuel, resO, RV.get, loadP, evC_p, evC_s, endS, endT, rowsOf, callP, thinL, unfr, unfr.unfrL, PV.noMem, PV.noMem.noMemL, optI, mapO, norm, trimT, trimB, forget, hasN, blksLt, List.set, softChk, softGo, softRd, effTg, rdP, S21, eL]) (by omega) 0 ⟨by omega, by omega⟩ s0 E
  refine evE_intro 3000 D21 rfl ?_
  unfold c21
  simp [evCode, evOps, evOne, evOp, evPur, evEff, evPur.chunks, fillP, AOp.isEff, AO.ev, putP, PV.cells, PV.leaf, getB, getM, mapE, iterE, keyC, mapRows, mfind, eq1, eqL, scal, binP, unP, minP, maxP, foldP, PV.lt, PV.lt.ltL, endP, expoAll, expoG, expo, expo.expoL, frIds, frIds.frIdsL, nodupN, kill, cls, clsFuel, resO, RV.get, loadP, evC_p, evC_s, endS, endT, rowsOf, callP, thinL, unfr, unfr.unfrL, PV.noMem, PV.noMem.noMemL, optI, mapO, norm, trimT, trimB, forget, hasN, blksLt, List.set, softChk, softGo, softRd, effTg, rdP]
  generalize hE : evLoop (evCode (evC Dg) 3000 c21b0) [0, 1, 5, 6] 0 3000 _ = E
  obtain ⟨h, -⟩ := H _ E hE (by simp [evCode, evOps, evOne, evOp, evPur, evEff, evPur.chunks, fillP, AOp.isEff, AO.ev, putP, PV.cells, PV.leaf, getB, getM, mapE, iterE, keyC, mapRows, mfind, eq1, eqL, scal, binP, unP, minP, maxP, foldP, PV.lt, PV.lt.ltL, endP, expoAll, expoG, expo, expo.expoL, frIds, frIds.frIdsL, nodupN, kill, cls, clsFuel, resO, RV.get, loadP, evC_p, evC_s, endS, endT, rowsOf, callP, thinL, unfr, unfr.unfrL, PV.noMem, PV.noMem.noMemL, optI, mapO, norm, trimT, trimB, forget, hasN, blksLt, List.set, softChk, softGo, softRd, effTg, rdP, S21])
  rw [h]
  have : l.foldl (lvN t) 0 = live l t := rfl
  rw [this]
  generalize live l t = z
  unfold c21b0
  simp [evCode, evOps, evOne, evOp, evPur, evEff, evPur.chunks, fillP, AOp.isEff, AO.ev, putP, PV.cells, PV.leaf, getB, getM, mapE, iterE, keyC, mapRows, mfind, eq1, eqL, scal, binP, unP, minP, maxP, foldP, PV.lt, PV.lt.ltL, endP, expoAll, expoG, expo, expo.expoL, frIds, frIds.frIdsL, nodupN, kill, cls, clsFuel, resO, RV.get, loadP, evC_p, evC_s, endS, endT, rowsOf, callP, thinL, unfr, unfr.unfrL, PV.noMem, PV.noMem.noMemL, optI, mapO, norm, trimT, trimB, forget, hasN, blksLt, List.set, softChk, softGo, softRd, effTg, rdP, S21, eL]
def pkN (l : List Bk) (x : Int × Int) (b : Bk) : Int × Int := if x.2 < live l b.f then (b.f, live l b.f) else x
def S19 (l : List Bk) (k : Nat) (x : Int × Int) : St := ⟨[.sl false 7 (bRows l), .top, .top, .top, .int .i64 x.1, .int .i64 x.2, .int .i64 k] ++ List.replicate 27 .top, []⟩
set_option maxRecDepth 100000 in
theorem f19 (l : List Bk) (hS : Siz l) : evE Dg 19 [.sl false 7 (bRows l)] = some (.tup [.int .i64 (l.foldl (pkN l) (0, 0)).1, .int .i64 (l.foldl (pkN l) (0, 0)).2]) := by
  have eL := bRows_len l
  have hl := hS.1
  have H := fun (s0 : St) (E : Option Out) => loop_foldE (body := evCode (evC Dg) 3000 c19b0) (keep := [0, 4, 5, 6]) (n0 := 0) (fuel := 3000) l (S19 l) (pkN l) (fun _ _ => True) (by
    intro k b x hb hk _
    have hk' : (k : Int) < l.length := by omega
    have w1 := wrap_i64 ((k : Int) + 1) (by omega) (by omega)
    have eg := bRows_get hb
    have eg' := bRows_getE hb
    have h21 := f21 l b.f hS
    refine ⟨trivial, ?_⟩
    unfold pkN
    generalize live l b.f = n at *
    by_cases h3 : x.2 < n
    · rw [if_pos h3]
      unfold c19b0
      simp [evCode, evOps, evOne, evOp, evPur, evEff, evPur.chunks, fillP, AOp.isEff, AO.ev, putP, PV.cells, PV.leaf, getB, getM, mapE, iterE, keyC, mapRows, mfind, eq1, eqL, scal, binP, unP, minP, maxP, foldP, PV.lt, PV.lt.ltL, endP, expoAll, expoG, expo, expo.expoL, frIds, frIds.frIdsL, nodupN, kill, cls, clsFuel, resO, RV.get, loadP, evC_p, evC_s, endS, endT, rowsOf, callP, thinL, unfr, unfr.unfrL, PV.noMem, PV.noMem.noMemL, optI, mapO, norm, trimT, trimB, forget, hasN, blksLt, List.set, softChk, softGo, softRd, effTg, rdP, S19, hk, hk', w1, eL, eg, eg', bRow, eTx, h21, h3]
    · rw [if_neg h3]
      unfold c19b0
      simp [evCode, evOps, evOne, evOp, evPur, evEff, evPur.chunks, fillP, AOp.isEff, AO.ev, putP, PV.cells, PV.leaf, getB, getM, mapE, iterE, keyC, mapRows, mfind, eq1, eqL, scal, binP, unP, minP, maxP, foldP, PV.lt, PV.lt.ltL, endP, expoAll, expoG, expo, expo.expoL, frIds, frIds.frIdsL, nodupN, kill, cls, clsFuel, resO, RV.get, loadP, evC_p, evC_s, endS, endT, rowsOf, callP, thinL, unfr, unfr.unfrL, PV.noMem, PV.noMem.noMemL, optI, mapO, norm, trimT, trimB, forget, hasN, blksLt, List.set, softChk, softGo, softRd, effTg, rdP, S19, hk, hk', w1, eL, eg, eg', bRow, eTx, h21, h3]) (by
    intro n _ s
    unfold c19b0
    simp [evCode, evOps, evOne, evOp, evPur, evEff, evPur.chunks, fillP, AOp.isEff, AO.ev, putP, PV.cells, PV.leaf, getB, getM, mapE, iterE, keyC, mapRows, mfind, eq1, eqL, scal, binP, unP, minP, maxP, foldP, PV.lt, PV.lt.ltL, endP, expoAll, expoG, expo, expo.expoL, frIds, frIds.frIdsL, nodupN, kill, cls, clsFuel, resO, RV.get, loadP, evC_p, evC_s, endS, endT, rowsOf, callP, thinL, unfr, unfr.unfrL, PV.noMem, PV.noMem.noMemL, optI, mapO, norm, trimT, trimB, forget, hasN, blksLt, List.set, softChk, softGo, softRd, effTg, rdP, S19, eL]) (by omega) (0, 0) trivial s0 E
  refine evE_intro 3000 D19 rfl ?_
  unfold c19
  simp [evCode, evOps, evOne, evOp, evPur, evEff, evPur.chunks, fillP, AOp.isEff, AO.ev, putP, PV.cells, PV.leaf, getB, getM, mapE, iterE, keyC, mapRows, mfind, eq1, eqL, scal, binP, unP, minP, maxP, foldP, PV.lt, PV.lt.ltL, endP, expoAll, expoG, expo, expo.expoL, frIds, frIds.frIdsL, nodupN, kill, cls, clsFuel, resO, RV.get, loadP, evC_p, evC_s, endS, endT, rowsOf, callP, thinL, unfr, unfr.unfrL, PV.noMem, PV.noMem.noMemL, optI, mapO, norm, trimT, trimB, forget, hasN, blksLt, List.set, softChk, softGo, softRd, effTg, rdP]
  generalize hE : evLoop (evCode (evC Dg) 3000 c19b0) [0, 4, 5, 6] 0 3000 _ = E
  obtain ⟨h, -⟩ := H _ E hE (by simp [evCode, evOps, evOne, evOp, evPur, evEff, evPur.chunks, fillP, AOp.isEff, AO.ev, putP, PV.cells, PV.leaf, getB, getM, mapE, iterE, keyC, mapRows, mfind, eq1, eqL, scal, binP, unP, minP, maxP, foldP, PV.lt, PV.lt.ltL, endP, expoAll, expoG, expo, expo.expoL, frIds, frIds.frIdsL, nodupN, kill, cls, clsFuel, resO, RV.get, loadP, evC_p, evC_s, endS, endT, rowsOf, callP, thinL, unfr, unfr.unfrL, PV.noMem, PV.noMem.noMemL, optI, mapO, norm, trimT, trimB, forget, hasN, blksLt, List.set, softChk, softGo, softRd, effTg, rdP, S19])
  rw [h]
  generalize l.foldl (pkN l) (0, 0) = x
  unfold c19b0
  simp [evCode, evOps, evOne, evOp, evPur, evEff, evPur.chunks, fillP, AOp.isEff, AO.ev, putP, PV.cells, PV.leaf, getB, getM, mapE, iterE, keyC, mapRows, mfind, eq1, eqL, scal, binP, unP, minP, maxP, foldP, PV.lt, PV.lt.ltL, endP, expoAll, expoG, expo, expo.expoL, frIds, frIds.frIdsL, nodupN, kill, cls, clsFuel, resO, RV.get, loadP, evC_p, evC_s, endS, endT, rowsOf, callP, thinL, unfr, unfr.unfrL, PV.noMem, PV.noMem.noMemL, optI, mapO, norm, trimT, trimB, forget, hasN, blksLt, List.set, softChk, softGo, softRd, effTg, rdP, S19, eL]
/-- the reference finds the same peak -/
theorem live_down (p : Int) : ∀ (l : List Bk), (∀ b ∈ l, b.f ≠ p) → ∀ m n : Int, m ≤ n → l.foldl (lvN p) m ≤ l.foldl (lvN (p - 1)) n ∨ ∃ b ∈ l, b.s < 0
  | [], _, m, n, h => .inl h
  | b :: l, hp, m, n, h => by
    rw [List.foldl_cons, List.foldl_cons]
    have hb := hp b (List.mem_cons_self ..)
    by_cases hs : b.s < 0
    · exact .inr ⟨b, List.mem_cons_self .., hs⟩
    · have h2 : lvN p m b ≤ lvN (p - 1) n b := by
        unfold lvN
        split
        · rw [if_pos (by omega)]; omega
        · split <;> omega
      rcases live_down p l (fun c hc => hp c (List.mem_cons_of_mem _ hc)) _ _ h2 with h3 | ⟨c, h3, h4⟩
      · exact .inl h3
      · exact .inr ⟨c, List.mem_cons_of_mem _ h3, h4⟩
theorem pk_same (l : List Bk) (hs : ∀ b ∈ l, 1 ≤ b.s) (hsrt : l.Pairwise (fun a b => a.f ≤ b.f)) (p m : Int) (hm : 1 ≤ m) (hP : Pk l p m) : l.foldl (pkN l) (0, 0) = (p, m) := by
  have hex : ∃ b ∈ l, b.f = p := by
    by_cases h : ∃ b ∈ l, b.f = p
    · exact h
    · exfalso
      have h1 := live_down p l (fun b hb e => h ⟨b, hb, e⟩) 0 0 (Int.le_refl _)
      rcases h1 with h1 | ⟨b, hb, h2⟩
      · have h3 := hP.c (p - 1) (by omega)
        have h4 := hP.a
        unfold live at h3 h4
        omega
      · have := hs b hb
        omega
  -- the first that begins then
  have key : ∀ (r : List Bk), (∀ b ∈ r, b ∈ l) → r.Pairwise (fun a b => a.f ≤ b.f) → (∃ b ∈ r, b.f = p) → ∀ x : Int × Int, x.2 < m → r.foldl (pkN l) x = (p, m) := by
    intro r
    induction r with
    | nil => intro _ _ h; obtain ⟨b, hb, _⟩ := h; cases hb
    | cons b r ih =>
      intro hin hso hx x hxm
      rw [List.foldl_cons]
      have hso' := List.pairwise_cons.1 hso
      by_cases hb : b.f = p
      · have e1 : pkN l x b = (p, m) := by
          unfold pkN
          rw [hb, hP.a, if_pos hxm]
        rw [e1]
        clear ih hx hso hso' hin
        induction r with
        | nil => rfl
        | cons c r ih2 =>
          rw [List.foldl_cons]
          have e2 : pkN l (p, m) c = (p, m) := by
            unfold pkN
            rw [if_neg]
            have := hP.b c.f
            simp only; omega
          rw [e2]
          exact ih2
      · obtain ⟨c, hc, hcp⟩ := hx
        rcases List.mem_cons.1 hc with rfl | hc
        · exact absurd hcp hb
        · have h1 := hso'.1 c hc
          have h2 := hP.c b.f (by omega)
          refine ih (fun d hd => hin d (List.mem_cons_of_mem _ hd)) hso'.2 ⟨c, hc, hcp⟩ _ ?_
          unfold pkN
          split
          · exact h2
          · exact hxm
  exact key l (fun b hb => hb) hsrt hex (0, 0) (by simp only; omega)
end Go.Proofs.Ytalmhggbdfjalaa
