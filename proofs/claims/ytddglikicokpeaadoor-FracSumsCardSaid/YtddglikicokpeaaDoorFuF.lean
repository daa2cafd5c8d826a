/- FracSums. -/
import Derived.Test.YtddglikicokpeaaDoorFuE
namespace Go.Proofs.YtddglikicokpeaaDoor
open Go Go.RowKit
set_option linter.unusedVariables false
set_option linter.unusedSimpArgs false
set_option maxHeartbeats 4000000

def S29 (l : List Fr) (k : Nat) (o : List Fr) : St := ⟨[.sl false 2 (rFs l), .top, .top, .own 1 o.length 0 o.length, .int .i64 ((l.length : Int) - 1 - k)] ++ List.replicate 15 .top, [some ⟨0, 2, true, []⟩, some ⟨o.length, 2, true, rFs o⟩]⟩
set_option maxRecDepth 100000 in
theorem turn29 (l : List Fr) (hl : l.length ≤ 200) (s0 : St) (E : Option Out) (hE : evLoop (evCode (evC Dg) 30000 c29b0) [0, 3, 4] 2 30000 s0 = E) (h0 : norm [0, 3, 4] 2 s0 = S29 l 0 []) :
    E = evCode (evC Dg) 30000 c29b0 (S29 l l.length l.reverse) := by
  have hlen : l.reverse.length = l.length := List.length_reverse
  have H := loop_foldE (body := evCode (evC Dg) 30000 c29b0) (keep := [0, 3, 4]) (n0 := 2) (fuel := 30000) l.reverse (S29 l) (fun o a => o ++ [a]) (fun k o => o.length = k) ?_ ?_ (by omega) [] rfl s0 E hE h0
  · rw [fold_snoc, List.nil_append, hlen] at H
    exact H.1
  · intro k a o ha hk hI
    refine ⟨by simp [hI], ?_⟩
    rw [hlen] at hk
    rw [List.getElem?_reverse hk] at ha
    have hi : (l.length : Int) - 1 - k = ((l.length - 1 - k : Nat) : Int) := by omega
    have hi' : (l.length : Int) - 1 - ((k + 1 : Nat) : Int) = ((l.length - 1 - k : Nat) : Int) - 1 := by omega
    have hb : l.length - 1 - k < l.length := by omega
    have eg := rFs_get ha
    have eg' := rFs_getE ha
    have er := rFs_add o a
    have eO := rFs_len o
    have eL := rFs_len l
    have b1 : (o.length + 1) * 16 ≤ 140737488355328 := by omega
    have b2 : o.length + 1 ≤ 140737488355328 := by omega
    simp only [rF] at er eg eg'
    unfold S29
    rw [hi', hi]
    generalize l.length - 1 - k = i at *
    have w1 := wrap_i64 ((i : Int) - 1) (by omega) (by omega)
    have hi0 : (0 : Int) ≤ i := by omega
    have hb' : (i : Int) < l.length := by omega
    unfold c29b0
    simp [evCode, evOps, evOne, evOp, evPur, evEff, evPur.chunks, fillP, AOp.isEff, AO.ev, putP, PV.cells, PV.leaf, getB, getM, mapE, iterE, keyC, mapRows, mfind, eq1, eqL, scal, binP, unP, minP, maxP, foldP, PV.lt, PV.lt.ltL, endP, expoAll, expoG, expo, expo.expoL, frIds, frIds.frIdsL, nodupN, kill, cls, clsFuel, resO, RV.get, loadP, evC_p, evC_s, endS, endT, rowsOf, callP, thinL, unfr, unfr.unfrL, PV.noMem, PV.noMem.noMemL, optI, mapO, norm, trimT, trimB, forget, hasN, blksLt, List.set, softChk, softGo, softRd, effTg, rdP, hi0, hb, hb', eL, eg, eg', w1, er, eO, b1, b2]
  · intro o _ s
    have hi : (l.length : Int) - 1 - (l.reverse.length : Nat) = -1 := by rw [hlen]; omega
    unfold S29
    rw [hi]
    unfold c29b0
    simp [evCode, evOps, evOne, evOp, evPur, evEff, evPur.chunks, fillP, AOp.isEff, AO.ev, putP, PV.cells, PV.leaf, getB, getM, mapE, iterE, keyC, mapRows, mfind, eq1, eqL, scal, binP, unP, minP, maxP, foldP, PV.lt, PV.lt.ltL, endP, expoAll, expoG, expo, expo.expoL, frIds, frIds.frIdsL, nodupN, kill, cls, clsFuel, resO, RV.get, loadP, evC_p, evC_s, endS, endT, rowsOf, callP, thinL, unfr, unfr.unfrL, PV.noMem, PV.noMem.noMemL, optI, mapO, norm, trimT, trimB, forget, hasN, blksLt, List.set, softChk, softGo, softRd, effTg, rdP]
set_option maxRecDepth 100000 in
theorem f29 (l : List Fr) (hl : l.length ≤ 200) : evE Dg 29 [.sl false 2 (rFs l)] = some (.fr 2 (rFs l.reverse)) := by
  have eL := rFs_len l
  have T := fun s0 E => turn29 l hl s0 E
  have w1 := wrap_i64 ((l.length : Int) - 1) (by omega) (by omega)
  have ea : (rFs l.reverse).take l.length = rFs l.reverse := by
    rw [List.take_of_length_le (by rw [rFs_len, List.length_reverse]; exact Nat.le_refl _)]
  have eR := rFs_len l.reverse
  rw [List.length_reverse] at eR
  refine evE_intro 30000 D29 rfl ?_
  unfold c29
  simp [evCode, evOps, evOne, evOp, evPur, evEff, evPur.chunks, fillP, AOp.isEff, AO.ev, putP, PV.cells, PV.leaf, getB, getM, mapE, iterE, keyC, mapRows, mfind, eq1, eqL, scal, binP, unP, minP, maxP, foldP, PV.lt, PV.lt.ltL, endP, expoAll, expoG, expo, expo.expoL, frIds, frIds.frIdsL, nodupN, kill, cls, clsFuel, resO, RV.get, loadP, evC_p, evC_s, endS, endT, rowsOf, callP, thinL, unfr, unfr.unfrL, PV.noMem, PV.noMem.noMemL, optI, mapO, norm, trimT, trimB, forget, hasN, blksLt, List.set, softChk, softGo, softRd, effTg, rdP, eL, w1]
  generalize hE : evLoop (evCode (evC Dg) 30000 c29b0) [0, 3, 4] 2 30000 _ = E
  have T2 := T _ E hE (by simp [evCode, evOps, evOne, evOp, evPur, evEff, evPur.chunks, fillP, AOp.isEff, AO.ev, putP, PV.cells, PV.leaf, getB, getM, mapE, iterE, keyC, mapRows, mfind, eq1, eqL, scal, binP, unP, minP, maxP, foldP, PV.lt, PV.lt.ltL, endP, expoAll, expoG, expo, expo.expoL, frIds, frIds.frIdsL, nodupN, kill, cls, clsFuel, resO, RV.get, loadP, evC_p, evC_s, endS, endT, rowsOf, callP, thinL, unfr, unfr.unfrL, PV.noMem, PV.noMem.noMemL, optI, mapO, norm, trimT, trimB, forget, hasN, blksLt, List.set, softChk, softGo, softRd, effTg, rdP, S29, rFs])
  rw [T2]
  have hi : (l.length : Int) - 1 - (l.length : Nat) = -1 := by omega
  have hlen : l.reverse.length = l.length := List.length_reverse
  unfold S29
  rw [hi, hlen]
  generalize rFs l.reverse = Z at *
  generalize rFs l = Y at *
  generalize l.length = n at *
  unfold c29b0
  simp [evCode, evOps, evOne, evOp, evPur, evEff, evPur.chunks, fillP, AOp.isEff, AO.ev, putP, PV.cells, PV.leaf, getB, getM, mapE, iterE, keyC, mapRows, mfind, eq1, eqL, scal, binP, unP, minP, maxP, foldP, PV.lt, PV.lt.ltL, endP, expoAll, expoG, expo, expo.expoL, frIds, frIds.frIdsL, nodupN, kill, cls, clsFuel, resO, RV.get, loadP, evC_p, evC_s, endS, endT, rowsOf, callP, thinL, unfr, unfr.unfrL, PV.noMem, PV.noMem.noMemL, optI, mapO, norm, trimT, trimB, forget, hasN, blksLt, List.set, softChk, softGo, softRd, effTg, rdP, ea, eR]
set_option maxRecDepth 100000 in
theorem f8core (ZL ZR : List (List PV)) (n : Nat) (hn : n ≤ 200) (r : Fr × Bool) (eL : ZL.length = n) (eR' : ZR.length = n) (aR : ZR.take n = ZR) (lt1 : ZR.all (PV.lt.ltL 0) = true)
    (q1 : evE Dg 27 [.sl false 2 ZL] = some (eR r)) (q2 : evE Dg 28 [.sl false 2 ZL] = some (eR r)) (q3 : evE Dg 29 [.sl false 2 ZL] = some (.fr 2 ZR)) (q4 : ∀ ex, evE Dg 27 [.sl ex 2 ZR] = some (eR r)) :
    evE Dg 8 [.sl false 2 ZL] = some (.bool true) := by
  have h14 := f14
  have hl' : ¬ (200 : Int) < n := by omega
  have q5 := q4 true
  have q6 := q4 false
  obtain ⟨⟨r1, r2⟩, r3⟩ := r
  simp only [eR, eF] at q1 q2 q5 q6
  refine evE_intro 1 D8 rfl ?_
  unfold c8
  simp [evCode, evOps, evOne, evOp, evPur, evEff, evPur.chunks, fillP, AOp.isEff, AO.ev, putP, PV.cells, PV.leaf, getB, getM, mapE, iterE, keyC, mapRows, mfind, eq1, eqL, scal, binP, unP, minP, maxP, foldP, PV.lt, PV.lt.ltL, endP, expoAll, expoG, expo, expo.expoL, frIds, frIds.frIdsL, nodupN, kill, cls, clsFuel, resO, RV.get, loadP, evC_p, evC_s, endS, endT, rowsOf, callP, thinL, unfr, unfr.unfrL, PV.noMem, PV.noMem.noMemL, optI, mapO, norm, trimT, trimB, forget, hasN, blksLt, List.set, softChk, softGo, softRd, effTg, rdP, eL, eR', aR, hl', h14, q1, q2, q3, q5, q6, lt1]
theorem f8 (l : List Fr) (h64 : ∀ a ∈ l, i64F a) : evE Dg 8 [.sl false 2 (rFs l)] = some (.bool true) := by
  have eL := rFs_len l
  by_cases hl : 200 < l.length
  · have hl' : (200 : Int) < l.length := by omega
    have h14 := f14
    refine evE_intro 1 D8 rfl ?_
    unfold c8
    simp [evCode, evOps, evOne, evOp, evPur, evEff, evPur.chunks, fillP, AOp.isEff, AO.ev, putP, PV.cells, PV.leaf, getB, getM, mapE, iterE, keyC, mapRows, mfind, eq1, eqL, scal, binP, unP, minP, maxP, foldP, PV.lt, PV.lt.ltL, endP, expoAll, expoG, expo, expo.expoL, frIds, frIds.frIdsL, nodupN, kill, cls, clsFuel, resO, RV.get, loadP, evC_p, evC_s, endS, endT, rowsOf, callP, thinL, unfr, unfr.unfrL, PV.noMem, PV.noMem.noMemL, optI, mapO, norm, trimT, trimB, forget, hasN, blksLt, List.set, softChk, softGo, softRd, effTg, rdP, eL, hl, hl', h14]
  · have eR := rFs_len l.reverse
    rw [List.length_reverse] at eR
    refine f8core (rFs l) (rFs l.reverse) l.length (by omega) (sumS l) eL eR (by rw [List.take_of_length_le (by rw [eR]; exact Nat.le_refl _)]) (rFs_lt _) (f27 false l (by omega) h64) (f28 l h64) (f29 l (by omega)) (fun ex => ?_)
    rw [sumS_perm (List.reverse_perm l).symm]
    exact f27 ex l.reverse (by rw [List.length_reverse]; omega) (fun a ha => h64 a (List.mem_reverse.1 ha))
theorem law8 (ps : List PV) (h : ArgL Tryd.prog 12 [35] ps) : evE Dg 8 ps = some (.bool true) := by
  obtain ⟨p, rfl, h1⟩ := argL1 h
  obtain ⟨l, rfl, _, h64⟩ := in_fracs h1
  exact f8 l h64
end Go.Proofs.YtddglikicokpeaaDoor
