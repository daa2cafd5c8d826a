/- Check of both. -/
import Derived.Test.YtkdalahepedghaaCkA
namespace Go.Proofs.Ytkdalahepedghaa
open Go Go.RowKit
set_option maxHeartbeats 4000000
set_option linter.unusedVariables false
set_option linter.unusedSimpArgs false

theorem fnd_take {l : List Dm} {k : Nat} {d : Dm} (h : l[k]? = some d) : (0 ≤ fnd d.1 (l.take k)) ↔ fnd d.1 l < k := by
  obtain ⟨hk, he⟩ := List.getElem?_eq_some_iff.1 h
  have e : l = l.take k ++ d :: l.drop (k + 1) := by
    conv => lhs; rw [← List.take_append_drop k l, List.drop_eq_getElem_cons hk, he]
  have e2 : l.findIdx? (isI d.1) = ((l.take k).findIdx? (isI d.1)).or (some k) := by
    conv => lhs; rw [e]
    rw [List.findIdx?_append]
    have : isI d.1 d = true := by simp [isI]
    simp [List.findIdx?_cons, this, List.length_take, Nat.min_eq_left (Nat.le_of_lt hk)]
  unfold fnd
  rw [e2]
  cases hf : (l.take k).findIdx? (isI d.1) with
  | none => simp
  | some i =>
    obtain ⟨hi, _⟩ := List.findIdx?_eq_some_iff_getElem.1 hf
    simp only [Option.or_some, Option.some_or, Option.getD_some]
    have := List.length_take_le k l
    constructor <;> intro _ <;> omega

/-- the check of a domain -/
def dF (l : List Dm) (k : Nat) (d : Dm) : Int :=
  if d.1 < 0 then 2 else if 8 ≤ d.1 then 2 else if d.2 < 0 then 2 else if 10000 < d.2 then 2 else if fnd d.1 l < k then 4 else 0
def ckF (d : List Dm) (l : List Sn) : Int := match d with
  | [] => 8
  | f :: _ => if 8 < d.length then 7 else if 200 < l.length then 7 else if f.1 ≠ 0 then 10 else if f.2 ≠ 0 then 10
    else if firstF (dF d) d 0 ≠ 0 then firstF (dF d) d 0 else firstF (fun _ s => sF d s) l 0

def S12a (x : Bool) (p : PV) (d : List Dm) (k : Nat) : St := ⟨[eDs x d, p] ++ List.replicate 24 .top ++ [eDs x d, .int .i64 d.length, .int .i64 k] ++ List.replicate 43 .top, []⟩
def S12b (x : Bool) (p : PV) (d : List Dm) (n k : Nat) : St := ⟨[eDs x d] ++ List.replicate 58 .top ++ [p, .int .i64 n, .int .i64 k] ++ List.replicate 10 .top, []⟩
theorem turn12a (x : Bool) (p : PV) (hp : PV.lt 0 p = true) (d : List Dm) (hd : d.length ≤ 1000) (E : Option Out) (s0 : St)
    (hE : evLoop (evCode (evC Dg) 1100 c12b1) [0, 1, 26, 27, 28] 0 1100 s0 = E) (h0 : norm [0, 1, 26, 27, 28] 0 s0 = S12a x p d 0) :
    (firstF (dF d) d 0 = 0 ∧ E = evCode (evC Dg) 1100 c12b1 (S12a x p d d.length)) ∨ (firstF (dF d) d 0 ≠ 0 ∧ ∃ s, E = some (.ret s) ∧ s.sl[4]?.getD .top = .int .i64 (firstF (dF d) d 0)) := by
  refine loop_first (body := evCode (evC Dg) 1100 c12b1) (keep := [0, 1, 26, 27, 28]) (n0 := 0) (fuel := 1100) d (S12a x p d) (dF d) (fun z t => t.sl[4]?.getD .top = .int .i64 z) ?_ ?_ ?_ (by omega) s0 E hE h0
  · intro k a ha hk hq
    have h1 := wrap_i64 ((k : Int) + 1) (by omega) (by omega)
    have hk' : (k : Int) < d.length := by omega
    have ht := fnd_take ha
    have h3 := f22 (x && (k : Int) == (d.length : Int)) a.1 (d.take k) (by rw [List.length_take]; omega)
    have g1 : ¬ a.1 < 0 := fun h => by simp [dF, h] at hq
    have g2 : ¬ 8 ≤ a.1 := fun h => by simp [dF, g1, h] at hq
    have g3 : ¬ a.2 < 0 := fun h => by simp [dF, g1, g2, h] at hq
    have g4 : ¬ 10000 < a.2 := fun h => by simp [dF, g1, g2, g3, h] at hq
    have g5 : ¬ fnd a.1 d < k := fun h => by simp [dF, g1, g2, g3, g4, h] at hq
    rw [← ht] at g5
    generalize fnd a.1 (d.take k) = F at *
    simp only [eDs, List.map_take] at h3
    have hk2 : (k : Int) ≤ d.length := by omega
    unfold c12b1
    simp [evCode, evOps, evOne, evOp, evPur, evEff, evPur.chunks, fillP, AOp.isEff, AO.ev, putP, PV.cells, PV.leaf, getB, getM, mapE, iterE, keyC, mapRows, mfind, eq1, eqL, scal, binP, unP, minP, maxP, foldP, PV.lt, PV.lt.ltL, endP, expoAll, expoG, expo, expo.expoL, frIds, frIds.frIdsL, nodupN, kill, cls, clsFuel, resO, RV.get, loadP, evC_p, evC_s, endS, endT, rowsOf, callP, thinL, unfr, unfr.unfrL, PV.noMem, PV.noMem.noMemL, optI, mapO, norm, trimT, trimB, forget, hasN, blksLt, List.set, softChk, softGo, softRd, effTg, rdP, S12a, hp, eDs, eD, ha, hk', hk2, h1, g1, g2, g3, g4, h3, g5]
  · intro k a ha hk hq
    have h1 := wrap_i64 ((k : Int) + 1) (by omega) (by omega)
    have hk' : (k : Int) < d.length := by omega
    have ht := fnd_take ha
    have h3 := f22 (x && (k : Int) == (d.length : Int)) a.1 (d.take k) (by rw [List.length_take]; omega)
    have hk2 : (k : Int) ≤ d.length := by omega
    unfold c12b1
    by_cases g1 : a.1 < 0
    · simp [evCode, evOps, evOne, evOp, evPur, evEff, evPur.chunks, fillP, AOp.isEff, AO.ev, putP, PV.cells, PV.leaf, getB, getM, mapE, iterE, keyC, mapRows, mfind, eq1, eqL, scal, binP, unP, minP, maxP, foldP, PV.lt, PV.lt.ltL, endP, expoAll, expoG, expo, expo.expoL, frIds, frIds.frIdsL, nodupN, kill, cls, clsFuel, resO, RV.get, loadP, evC_p, evC_s, endS, endT, rowsOf, callP, thinL, unfr, unfr.unfrL, PV.noMem, PV.noMem.noMemL, optI, mapO, norm, trimT, trimB, forget, hasN, blksLt, List.set, softChk, softGo, softRd, effTg, rdP, S12a, hp, eDs, eD, ha, hk', hk2, dF, g1]
    by_cases g2 : 8 ≤ a.1
    · simp [evCode, evOps, evOne, evOp, evPur, evEff, evPur.chunks, fillP, AOp.isEff, AO.ev, putP, PV.cells, PV.leaf, getB, getM, mapE, iterE, keyC, mapRows, mfind, eq1, eqL, scal, binP, unP, minP, maxP, foldP, PV.lt, PV.lt.ltL, endP, expoAll, expoG, expo, expo.expoL, frIds, frIds.frIdsL, nodupN, kill, cls, clsFuel, resO, RV.get, loadP, evC_p, evC_s, endS, endT, rowsOf, callP, thinL, unfr, unfr.unfrL, PV.noMem, PV.noMem.noMemL, optI, mapO, norm, trimT, trimB, forget, hasN, blksLt, List.set, softChk, softGo, softRd, effTg, rdP, S12a, hp, eDs, eD, ha, hk', hk2, dF, g1, g2]
    by_cases g3 : a.2 < 0
    · simp [evCode, evOps, evOne, evOp, evPur, evEff, evPur.chunks, fillP, AOp.isEff, AO.ev, putP, PV.cells, PV.leaf, getB, getM, mapE, iterE, keyC, mapRows, mfind, eq1, eqL, scal, binP, unP, minP, maxP, foldP, PV.lt, PV.lt.ltL, endP, expoAll, expoG, expo, expo.expoL, frIds, frIds.frIdsL, nodupN, kill, cls, clsFuel, resO, RV.get, loadP, evC_p, evC_s, endS, endT, rowsOf, callP, thinL, unfr, unfr.unfrL, PV.noMem, PV.noMem.noMemL, optI, mapO, norm, trimT, trimB, forget, hasN, blksLt, List.set, softChk, softGo, softRd, effTg, rdP, S12a, hp, eDs, eD, ha, hk', hk2, dF, g1, g2, g3]
    by_cases g4 : 10000 < a.2
    · simp [evCode, evOps, evOne, evOp, evPur, evEff, evPur.chunks, fillP, AOp.isEff, AO.ev, putP, PV.cells, PV.leaf, getB, getM, mapE, iterE, keyC, mapRows, mfind, eq1, eqL, scal, binP, unP, minP, maxP, foldP, PV.lt, PV.lt.ltL, endP, expoAll, expoG, expo, expo.expoL, frIds, frIds.frIdsL, nodupN, kill, cls, clsFuel, resO, RV.get, loadP, evC_p, evC_s, endS, endT, rowsOf, callP, thinL, unfr, unfr.unfrL, PV.noMem, PV.noMem.noMemL, optI, mapO, norm, trimT, trimB, forget, hasN, blksLt, List.set, softChk, softGo, softRd, effTg, rdP, S12a, hp, eDs, eD, ha, hk', hk2, dF, g1, g2, g3, g4]
    have g5 : fnd a.1 d < k := by
      apply Decidable.byContradiction
      intro h
      simp [dF, g1, g2, g3, g4, h] at hq
    have g6 := ht.2 g5
    generalize fnd a.1 (d.take k) = F at *
    simp only [eDs, List.map_take] at h3
    simp [evCode, evOps, evOne, evOp, evPur, evEff, evPur.chunks, fillP, AOp.isEff, AO.ev, putP, PV.cells, PV.leaf, getB, getM, mapE, iterE, keyC, mapRows, mfind, eq1, eqL, scal, binP, unP, minP, maxP, foldP, PV.lt, PV.lt.ltL, endP, expoAll, expoG, expo, expo.expoL, frIds, frIds.frIdsL, nodupN, kill, cls, clsFuel, resO, RV.get, loadP, evC_p, evC_s, endS, endT, rowsOf, callP, thinL, unfr, unfr.unfrL, PV.noMem, PV.noMem.noMemL, optI, mapO, norm, trimT, trimB, forget, hasN, blksLt, List.set, softChk, softGo, softRd, effTg, rdP, S12a, hp, eDs, eD, ha, hk', hk2, dF, g1, g2, g3, g4, g5, h3, g6]
  · intro s
    unfold c12b1
    simp [evCode, evOps, evOne, evOp, evPur, evEff, evPur.chunks, fillP, AOp.isEff, AO.ev, putP, PV.cells, PV.leaf, getB, getM, mapE, iterE, keyC, mapRows, mfind, eq1, eqL, scal, binP, unP, minP, maxP, foldP, PV.lt, PV.lt.ltL, endP, expoAll, expoG, expo, expo.expoL, frIds, frIds.frIdsL, nodupN, kill, cls, clsFuel, resO, RV.get, loadP, evC_p, evC_s, endS, endT, rowsOf, callP, thinL, unfr, unfr.unfrL, PV.noMem, PV.noMem.noMemL, optI, mapO, norm, trimT, trimB, forget, hasN, blksLt, List.set, softChk, softGo, softRd, effTg, rdP, S12a, hp, eDs]
theorem turn12b (x y : Bool) (d : List Dm) (l : List Sn) (hd : d.length ≤ 1000) (hl : l.length ≤ 1000) (E : Option Out) (s0 : St)
    (hE : evLoop (evCode (evC Dg) 1100 c12b0) [0, 59, 60, 61] 0 1100 s0 = E) (h0 : norm [0, 59, 60, 61] 0 s0 = S12b x (eNs y l) d l.length 0) :
    (firstF (fun _ s => sF d s) l 0 = 0 ∧ E = evCode (evC Dg) 1100 c12b0 (S12b x (eNs y l) d l.length l.length)) ∨ (firstF (fun _ s => sF d s) l 0 ≠ 0 ∧ ∃ s, E = some (.ret s) ∧ s.sl[4]?.getD .top = .int .i64 (firstF (fun _ s => sF d s) l 0)) := by
  refine loop_first (body := evCode (evC Dg) 1100 c12b0) (keep := [0, 59, 60, 61]) (n0 := 0) (fuel := 1100) l (S12b x (eNs y l) d l.length) (fun _ s => sF d s) (fun z t => t.sl[4]?.getD .top = .int .i64 z) ?_ ?_ ?_ (by omega) s0 E hE h0
  · intro k a ha hk hq
    have h1 := wrap_i64 ((k : Int) + 1) (by omega) (by omega)
    have hk' : (k : Int) < l.length := by omega
    have h3 := f23 x d a hd
    have hq : sF d a = 0 := hq
    rw [hq] at h3
    simp only [eDs, eN] at h3
    unfold c12b0
    simp [evCode, evOps, evOne, evOp, evPur, evEff, evPur.chunks, fillP, AOp.isEff, AO.ev, putP, PV.cells, PV.leaf, getB, getM, mapE, iterE, keyC, mapRows, mfind, eq1, eqL, scal, binP, unP, minP, maxP, foldP, PV.lt, PV.lt.ltL, endP, expoAll, expoG, expo, expo.expoL, frIds, frIds.frIdsL, nodupN, kill, cls, clsFuel, resO, RV.get, loadP, evC_p, evC_s, endS, endT, rowsOf, callP, thinL, unfr, unfr.unfrL, PV.noMem, PV.noMem.noMemL, optI, mapO, norm, trimT, trimB, forget, hasN, blksLt, List.set, softChk, softGo, softRd, effTg, rdP, S12b, eDs, eNs, eN, ha, hk', h1, h3]
  · intro k a ha hk hq
    have hk' : (k : Int) < l.length := by omega
    have h3 := f23 x d a hd
    have hq : ¬ sF d a = 0 := hq
    generalize sF d a = F at *
    simp only [eDs, eN] at h3
    unfold c12b0
    simp [evCode, evOps, evOne, evOp, evPur, evEff, evPur.chunks, fillP, AOp.isEff, AO.ev, putP, PV.cells, PV.leaf, getB, getM, mapE, iterE, keyC, mapRows, mfind, eq1, eqL, scal, binP, unP, minP, maxP, foldP, PV.lt, PV.lt.ltL, endP, expoAll, expoG, expo, expo.expoL, frIds, frIds.frIdsL, nodupN, kill, cls, clsFuel, resO, RV.get, loadP, evC_p, evC_s, endS, endT, rowsOf, callP, thinL, unfr, unfr.unfrL, PV.noMem, PV.noMem.noMemL, optI, mapO, norm, trimT, trimB, forget, hasN, blksLt, List.set, softChk, softGo, softRd, effTg, rdP, S12b, eDs, eNs, eN, ha, hk', h3, hq]
  · intro s
    unfold c12b0
    simp [evCode, evOps, evOne, evOp, evPur, evEff, evPur.chunks, fillP, AOp.isEff, AO.ev, putP, PV.cells, PV.leaf, getB, getM, mapE, iterE, keyC, mapRows, mfind, eq1, eqL, scal, binP, unP, minP, maxP, foldP, PV.lt, PV.lt.ltL, endP, expoAll, expoG, expo, expo.expoL, frIds, frIds.frIdsL, nodupN, kill, cls, clsFuel, resO, RV.get, loadP, evC_p, evC_s, endS, endT, rowsOf, callP, thinL, unfr, unfr.unfrL, PV.noMem, PV.noMem.noMemL, optI, mapO, norm, trimT, trimB, forget, hasN, blksLt, List.set, softChk, softGo, softRd, effTg, rdP, S12b, eDs, eNs]

def S13a (x : Bool) (p : PV) (d : List Dm) (k : Nat) : St := ⟨[eDs x d, p, .top, .top, .top, .int .i64 k] ++ List.replicate 88 .top, []⟩
def S13b (x : Bool) (p : PV) (d : List Dm) (k : Nat) : St := ⟨[eDs x d, p, .top, .top, .top, .top, .int .i64 k] ++ List.replicate 87 .top, []⟩
theorem turn13a (x : Bool) (p : PV) (hp : PV.lt 0 p = true) (d : List Dm) (hd : d.length ≤ 1000) (E : Option Out) (s0 : St)
    (hE : evLoop (evCode (evC Dg) 1100 c13b1) [0, 1, 5] 0 1100 s0 = E) (h0 : norm [0, 1, 5] 0 s0 = S13a x p d 0) :
    (firstF (dF d) d 0 = 0 ∧ E = evCode (evC Dg) 1100 c13b1 (S13a x p d d.length)) ∨ (firstF (dF d) d 0 ≠ 0 ∧ ∃ s, E = some (.ret s) ∧ s.sl[4]?.getD .top = .int .i64 (firstF (dF d) d 0)) := by
  refine loop_first (body := evCode (evC Dg) 1100 c13b1) (keep := [0, 1, 5]) (n0 := 0) (fuel := 1100) d (S13a x p d) (dF d) (fun z t => t.sl[4]?.getD .top = .int .i64 z) ?_ ?_ ?_ (by omega) s0 E hE h0
  · intro k a ha hk hq
    have h1 := wrap_i64 ((k : Int) + 1) (by omega) (by omega)
    have hk' : (k : Int) < d.length := by omega
    have h3 := f24 x a.1 d hd
    have g1 : ¬ a.1 < 0 := fun h => by simp [dF, h] at hq
    have g2 : ¬ 8 ≤ a.1 := fun h => by simp [dF, g1, h] at hq
    have g3 : ¬ a.2 < 0 := fun h => by simp [dF, g1, g2, h] at hq
    have g4 : ¬ 10000 < a.2 := fun h => by simp [dF, g1, g2, g3, h] at hq
    have g5 : ¬ fnd a.1 d < k := fun h => by simp [dF, g1, g2, g3, g4, h] at hq
    generalize fnd a.1 d = F at *
    simp only [eDs] at h3
    unfold c13b1
    simp [evCode, evOps, evOne, evOp, evPur, evEff, evPur.chunks, fillP, AOp.isEff, AO.ev, putP, PV.cells, PV.leaf, getB, getM, mapE, iterE, keyC, mapRows, mfind, eq1, eqL, scal, binP, unP, minP, maxP, foldP, PV.lt, PV.lt.ltL, endP, expoAll, expoG, expo, expo.expoL, frIds, frIds.frIdsL, nodupN, kill, cls, clsFuel, resO, RV.get, loadP, evC_p, evC_s, endS, endT, rowsOf, callP, thinL, unfr, unfr.unfrL, PV.noMem, PV.noMem.noMemL, optI, mapO, norm, trimT, trimB, forget, hasN, blksLt, List.set, softChk, softGo, softRd, effTg, rdP, S13a, hp, eDs, eD, ha, hk', h1, g1, g2, g3, g4, h3, g5]
  · intro k a ha hk hq
    have hk' : (k : Int) < d.length := by omega
    have h3 := f24 x a.1 d hd
    unfold c13b1
    by_cases g1 : a.1 < 0
    · simp [evCode, evOps, evOne, evOp, evPur, evEff, evPur.chunks, fillP, AOp.isEff, AO.ev, putP, PV.cells, PV.leaf, getB, getM, mapE, iterE, keyC, mapRows, mfind, eq1, eqL, scal, binP, unP, minP, maxP, foldP, PV.lt, PV.lt.ltL, endP, expoAll, expoG, expo, expo.expoL, frIds, frIds.frIdsL, nodupN, kill, cls, clsFuel, resO, RV.get, loadP, evC_p, evC_s, endS, endT, rowsOf, callP, thinL, unfr, unfr.unfrL, PV.noMem, PV.noMem.noMemL, optI, mapO, norm, trimT, trimB, forget, hasN, blksLt, List.set, softChk, softGo, softRd, effTg, rdP, S13a, hp, eDs, eD, ha, hk', dF, g1]
    by_cases g2 : 8 ≤ a.1
    · simp [evCode, evOps, evOne, evOp, evPur, evEff, evPur.chunks, fillP, AOp.isEff, AO.ev, putP, PV.cells, PV.leaf, getB, getM, mapE, iterE, keyC, mapRows, mfind, eq1, eqL, scal, binP, unP, minP, maxP, foldP, PV.lt, PV.lt.ltL, endP, expoAll, expoG, expo, expo.expoL, frIds, frIds.frIdsL, nodupN, kill, cls, clsFuel, resO, RV.get, loadP, evC_p, evC_s, endS, endT, rowsOf, callP, thinL, unfr, unfr.unfrL, PV.noMem, PV.noMem.noMemL, optI, mapO, norm, trimT, trimB, forget, hasN, blksLt, List.set, softChk, softGo, softRd, effTg, rdP, S13a, hp, eDs, eD, ha, hk', dF, g1, g2]
    by_cases g3 : a.2 < 0
    · simp [evCode, evOps, evOne, evOp, evPur, evEff, evPur.chunks, fillP, AOp.isEff, AO.ev, putP, PV.cells, PV.leaf, getB, getM, mapE, iterE, keyC, mapRows, mfind, eq1, eqL, scal, binP, unP, minP, maxP, foldP, PV.lt, PV.lt.ltL, endP, expoAll, expoG, expo, expo.expoL, frIds, frIds.frIdsL, nodupN, kill, cls, clsFuel, resO, RV.get, loadP, evC_p, evC_s, endS, endT, rowsOf, callP, thinL, unfr, unfr.unfrL, PV.noMem, PV.noMem.noMemL, optI, mapO, norm, trimT, trimB, forget, hasN, blksLt, List.set, softChk, softGo, softRd, effTg, rdP, S13a, hp, eDs, eD, ha, hk', dF, g1, g2, g3]
    by_cases g4 : 10000 < a.2
    · simp [evCode, evOps, evOne, evOp, evPur, evEff, evPur.chunks, fillP, AOp.isEff, AO.ev, putP, PV.cells, PV.leaf, getB, getM, mapE, iterE, keyC, mapRows, mfind, eq1, eqL, scal, binP, unP, minP, maxP, foldP, PV.lt, PV.lt.ltL, endP, expoAll, expoG, expo, expo.expoL, frIds, frIds.frIdsL, nodupN, kill, cls, clsFuel, resO, RV.get, loadP, evC_p, evC_s, endS, endT, rowsOf, callP, thinL, unfr, unfr.unfrL, PV.noMem, PV.noMem.noMemL, optI, mapO, norm, trimT, trimB, forget, hasN, blksLt, List.set, softChk, softGo, softRd, effTg, rdP, S13a, hp, eDs, eD, ha, hk', dF, g1, g2, g3, g4]
    have g5 : fnd a.1 d < k := by
      apply Decidable.byContradiction
      intro h
      simp [dF, g1, g2, g3, g4, h] at hq
    generalize hF : fnd a.1 d = F at *
    simp only [eDs] at h3
    simp [evCode, evOps, evOne, evOp, evPur, evEff, evPur.chunks, fillP, AOp.isEff, AO.ev, putP, PV.cells, PV.leaf, getB, getM, mapE, iterE, keyC, mapRows, mfind, eq1, eqL, scal, binP, unP, minP, maxP, foldP, PV.lt, PV.lt.ltL, endP, expoAll, expoG, expo, expo.expoL, frIds, frIds.frIdsL, nodupN, kill, cls, clsFuel, resO, RV.get, loadP, evC_p, evC_s, endS, endT, rowsOf, callP, thinL, unfr, unfr.unfrL, PV.noMem, PV.noMem.noMemL, optI, mapO, norm, trimT, trimB, forget, hasN, blksLt, List.set, softChk, softGo, softRd, effTg, rdP, S13a, hp, eDs, eD, ha, hk', dF, g1, g2, g3, g4, g5, h3, hF]
  · intro s
    unfold c13b1
    simp [evCode, evOps, evOne, evOp, evPur, evEff, evPur.chunks, fillP, AOp.isEff, AO.ev, putP, PV.cells, PV.leaf, getB, getM, mapE, iterE, keyC, mapRows, mfind, eq1, eqL, scal, binP, unP, minP, maxP, foldP, PV.lt, PV.lt.ltL, endP, expoAll, expoG, expo, expo.expoL, frIds, frIds.frIdsL, nodupN, kill, cls, clsFuel, resO, RV.get, loadP, evC_p, evC_s, endS, endT, rowsOf, callP, thinL, unfr, unfr.unfrL, PV.noMem, PV.noMem.noMemL, optI, mapO, norm, trimT, trimB, forget, hasN, blksLt, List.set, softChk, softGo, softRd, effTg, rdP, S13a, hp, eDs]
theorem turn13b (x y : Bool) (d : List Dm) (l : List Sn) (hd : d.length ≤ 1000) (hl : l.length ≤ 1000) (E : Option Out) (s0 : St)
    (hE : evLoop (evCode (evC Dg) 1100 c13b0) [0, 1, 6] 0 1100 s0 = E) (h0 : norm [0, 1, 6] 0 s0 = S13b x (eNs y l) d 0) :
    (firstF (fun _ s => sF d s) l 0 = 0 ∧ E = evCode (evC Dg) 1100 c13b0 (S13b x (eNs y l) d l.length)) ∨ (firstF (fun _ s => sF d s) l 0 ≠ 0 ∧ ∃ s, E = some (.ret s) ∧ s.sl[4]?.getD .top = .int .i64 (firstF (fun _ s => sF d s) l 0)) := by
  refine loop_first (body := evCode (evC Dg) 1100 c13b0) (keep := [0, 1, 6]) (n0 := 0) (fuel := 1100) l (S13b x (eNs y l) d) (fun _ s => sF d s) (fun z t => t.sl[4]?.getD .top = .int .i64 z) ?_ ?_ ?_ (by omega) s0 E hE h0
  · intro k a ha hk hq
    have h1 := wrap_i64 ((k : Int) + 1) (by omega) (by omega)
    have hk' : (k : Int) < l.length := by omega
    have h3 := f25 x d a hd
    have hq : sF d a = 0 := hq
    rw [hq] at h3
    simp only [eDs, eN] at h3
    unfold c13b0
    simp [evCode, evOps, evOne, evOp, evPur, evEff, evPur.chunks, fillP, AOp.isEff, AO.ev, putP, PV.cells, PV.leaf, getB, getM, mapE, iterE, keyC, mapRows, mfind, eq1, eqL, scal, binP, unP, minP, maxP, foldP, PV.lt, PV.lt.ltL, endP, expoAll, expoG, expo, expo.expoL, frIds, frIds.frIdsL, nodupN, kill, cls, clsFuel, resO, RV.get, loadP, evC_p, evC_s, endS, endT, rowsOf, callP, thinL, unfr, unfr.unfrL, PV.noMem, PV.noMem.noMemL, optI, mapO, norm, trimT, trimB, forget, hasN, blksLt, List.set, softChk, softGo, softRd, effTg, rdP, S13b, eDs, eNs, eN, ha, hk', h1, h3]
  · intro k a ha hk hq
    have hk' : (k : Int) < l.length := by omega
    have h3 := f25 x d a hd
    have hq : ¬ sF d a = 0 := hq
    generalize sF d a = F at *
    simp only [eDs, eN] at h3
    unfold c13b0
    simp [evCode, evOps, evOne, evOp, evPur, evEff, evPur.chunks, fillP, AOp.isEff, AO.ev, putP, PV.cells, PV.leaf, getB, getM, mapE, iterE, keyC, mapRows, mfind, eq1, eqL, scal, binP, unP, minP, maxP, foldP, PV.lt, PV.lt.ltL, endP, expoAll, expoG, expo, expo.expoL, frIds, frIds.frIdsL, nodupN, kill, cls, clsFuel, resO, RV.get, loadP, evC_p, evC_s, endS, endT, rowsOf, callP, thinL, unfr, unfr.unfrL, PV.noMem, PV.noMem.noMemL, optI, mapO, norm, trimT, trimB, forget, hasN, blksLt, List.set, softChk, softGo, softRd, effTg, rdP, S13b, eDs, eNs, eN, ha, hk', h3, hq]
  · intro s
    unfold c13b0
    simp [evCode, evOps, evOne, evOp, evPur, evEff, evPur.chunks, fillP, AOp.isEff, AO.ev, putP, PV.cells, PV.leaf, getB, getM, mapE, iterE, keyC, mapRows, mfind, eq1, eqL, scal, binP, unP, minP, maxP, foldP, PV.lt, PV.lt.ltL, endP, expoAll, expoG, expo, expo.expoL, frIds, frIds.frIdsL, nodupN, kill, cls, clsFuel, resO, RV.get, loadP, evC_p, evC_s, endS, endT, rowsOf, callP, thinL, unfr, unfr.unfrL, PV.noMem, PV.noMem.noMemL, optI, mapO, norm, trimT, trimB, forget, hasN, blksLt, List.set, softChk, softGo, softRd, effTg, rdP, S13b, eDs, eNs]
end Go.Proofs.Ytkdalahepedghaa
