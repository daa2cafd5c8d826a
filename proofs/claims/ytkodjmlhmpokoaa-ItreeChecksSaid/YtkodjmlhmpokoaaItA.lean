/- itree: lists of numbers; Same, Equal, before. -/
import Derived.Test.YtkodjmlhmpokoaaEvP
namespace Go.Proofs.Ytkodjmlhmpokoaa
open Go Go.RowKit
set_option linter.unusedVariables false
set_option linter.unusedSimpArgs false
set_option maxHeartbeats 4000000

def iR (d : List Int) : List (List PV) := d.map fun z => [.int .i64 z]
def eI (x : Bool) (d : List Int) : PV := .sl x 1 (iR d)
theorem iR_len (d : List Int) : (iR d).length = d.length := by simp [iR]
theorem iR_get {d : List Int} {k : Nat} {z : Int} (h : d[k]? = some z) : (iR d)[k]? = some [.int .i64 z] := by simp [iR, h]
theorem iR_got {d : List Int} {k : Nat} {z : Int} (h : d[k]? = some z) : ∀ q, (iR d)[k]'q = [.int .i64 z] := fun q => by
  have := iR_get h
  rw [List.getElem?_eq_getElem q] at this
  exact Option.some.inj this
theorem iR_set (d : List Int) (k : Nat) (z : Int) : (iR d).set k [.int .i64 z] = iR (d.set k z) := by simp [iR, List.map_set]
theorem iR_app (a b : List Int) : iR a ++ iR b = iR (a ++ b) := by simp [iR]
theorem zip_get {α β : Type} {a : List α} {b : List β} {k : Nat} {p : α × β} (h : (a.zip b)[k]? = some p) : a[k]? = some p.1 ∧ b[k]? = some p.2 := by
  rw [List.getElem?_zip_eq_some] at h
  exact h
theorem zip_all {α : Type} [DecidableEq α] : ∀ {a b : List α}, a.length = b.length → ((a.zip b).all (fun p => decide (p.1 = p.2)) = true ↔ a = b)
  | [], [], _ => by simp
  | x :: a, [], h => by simp at h
  | [], y :: b, h => by simp at h
  | x :: a, y :: b, h => by
    have ih := zip_all (a := a) (b := b) (by simpa using h)
    simp only [List.zip_cons_cons, List.all_cons, Bool.and_eq_true, decide_eq_true_eq, ih, List.cons.injEq]
/-- two lists of numbers -/
def S11 (x y : Bool) (a b : List Int) (k : Nat) : St := ⟨[eI x a, eI y b, .top, .top, .top, .int .i64 k] ++ List.replicate 20 .top, []⟩
theorem f11 (x y : Bool) (a b : List Int) (ha : a.length ≤ 1000000) : evE Dg 11 [eI x a, eI y b] = some (.bool (decide (a = b))) := by
  have e1 := iR_len a
  by_cases hl : a.length = b.length
  · have e2 : (iR b).length = a.length := by rw [iR_len, hl]
    have hz : (a.zip b).length = a.length := by simp [hl]
    have H := loop_all (body := evCode (evC Dg) (a.length + 1) c11b0) (keep := [0, 1, 5]) (n0 := 0) (fuel := a.length + 1) (a.zip b) (S11 x y a b) (fun p => decide (p.1 = p.2)) (fun t => t.sl[4]?.getD .top = .bool false)
      (by
        rintro k ⟨s, u⟩ hp hk hq
        obtain ⟨h1, h2⟩ := zip_get hp
        simp only [decide_eq_true_eq] at h1 h2 hq
        subst hq
        rw [hz] at hk
        have r1 := iR_get h1
        have r2 := iR_get h2
        have g1 := iR_got h1
        have g2 := iR_got h2
        have hk' : (k : Int) < a.length := by omega
        have w1 := wrap_i64 ((k : Int) + 1) (by omega) (by omega)
        unfold c11b0
        simp [evCode, evOps, evOne, evOp, evPur, evEff, evPur.chunks, fillP, AOp.isEff, AO.ev, putP, PV.cells, PV.leaf, getB, getM, mapE, iterE, keyC, mapRows, mfind, eq1, eqL, scal, binP, unP, minP, maxP, foldP, PV.lt, PV.lt.ltL, endP, expoAll, expoG, expo, expo.expoL, frIds, frIds.frIdsL, nodupN, kill, cls, clsFuel, resO, RV.get, loadP, evC_p, evC_s, endS, endT, rowsOf, callP, thinL, unfr, unfr.unfrL, PV.noMem, PV.noMem.noMemL, optI, mapO, norm, trimT, trimB, forget, hasN, blksLt, List.set, softChk, softGo, softRd, effTg, rdP, S11, eI, e1, e2, r1, r2, g1, g2, hk', hk, w1])
      (by
        rintro k ⟨s, u⟩ hp hk hq
        obtain ⟨h1, h2⟩ := zip_get hp
        simp only [decide_eq_false_iff_not] at h1 h2 hq
        rw [hz] at hk
        have r1 := iR_get h1
        have r2 := iR_get h2
        have g1 := iR_got h1
        have g2 := iR_got h2
        have hk' : (k : Int) < a.length := by omega
        unfold c11b0
        simp [evCode, evOps, evOne, evOp, evPur, evEff, evPur.chunks, fillP, AOp.isEff, AO.ev, putP, PV.cells, PV.leaf, getB, getM, mapE, iterE, keyC, mapRows, mfind, eq1, eqL, scal, binP, unP, minP, maxP, foldP, PV.lt, PV.lt.ltL, endP, expoAll, expoG, expo, expo.expoL, frIds, frIds.frIdsL, nodupN, kill, cls, clsFuel, resO, RV.get, loadP, evC_p, evC_s, endS, endT, rowsOf, callP, thinL, unfr, unfr.unfrL, PV.noMem, PV.noMem.noMemL, optI, mapO, norm, trimT, trimB, forget, hasN, blksLt, List.set, softChk, softGo, softRd, effTg, rdP, S11, eI, e1, e2, r1, r2, g1, g2, hk', hk, hq])
      (by
        intro s
        rw [hz]
        unfold c11b0
        simp [evCode, evOps, evOne, evOp, evPur, evEff, evPur.chunks, fillP, AOp.isEff, AO.ev, putP, PV.cells, PV.leaf, getB, getM, mapE, iterE, keyC, mapRows, mfind, eq1, eqL, scal, binP, unP, minP, maxP, foldP, PV.lt, PV.lt.ltL, endP, expoAll, expoG, expo, expo.expoL, frIds, frIds.frIdsL, nodupN, kill, cls, clsFuel, resO, RV.get, loadP, evC_p, evC_s, endS, endT, rowsOf, callP, thinL, unfr, unfr.unfrL, PV.noMem, PV.noMem.noMemL, optI, mapO, norm, trimT, trimB, forget, hasN, blksLt, List.set, softChk, softGo, softRd, effTg, rdP, S11, eI, e1, e2])
      (by rw [hz]; omega)
    refine evE_intro (a.length + 1) D11 rfl ?_
    unfold c11
    simp [evCode, evOps, evOne, evOp, evPur, evEff, evPur.chunks, fillP, AOp.isEff, AO.ev, putP, PV.cells, PV.leaf, getB, getM, mapE, iterE, keyC, mapRows, mfind, eq1, eqL, scal, binP, unP, minP, maxP, foldP, PV.lt, PV.lt.ltL, endP, expoAll, expoG, expo, expo.expoL, frIds, frIds.frIdsL, nodupN, kill, cls, clsFuel, resO, RV.get, loadP, evC_p, evC_s, endS, endT, rowsOf, callP, thinL, unfr, unfr.unfrL, PV.noMem, PV.noMem.noMemL, optI, mapO, norm, trimT, trimB, forget, hasN, blksLt, List.set, softChk, softGo, softRd, effTg, rdP, eI, e1, e2]
    generalize hE : evLoop _ _ _ _ _ = E
    rcases H _ _ hE (by simp [evCode, evOps, evOne, evOp, evPur, evEff, evPur.chunks, fillP, AOp.isEff, AO.ev, putP, PV.cells, PV.leaf, getB, getM, mapE, iterE, keyC, mapRows, mfind, eq1, eqL, scal, binP, unP, minP, maxP, foldP, PV.lt, PV.lt.ltL, endP, expoAll, expoG, expo, expo.expoL, frIds, frIds.frIdsL, nodupN, kill, cls, clsFuel, resO, RV.get, loadP, evC_p, evC_s, endS, endT, rowsOf, callP, thinL, unfr, unfr.unfrL, PV.noMem, PV.noMem.noMemL, optI, mapO, norm, trimT, trimB, forget, hasN, blksLt, List.set, softChk, softGo, softRd, effTg, rdP, S11, eI]) with ⟨q1, q2⟩ | ⟨q1, s, q2, q3⟩
    · rw [zip_all hl] at q1
      subst q1
      rw [q2, hz]
      unfold c11b0
      simp [evCode, evOps, evOne, evOp, evPur, evEff, evPur.chunks, fillP, AOp.isEff, AO.ev, putP, PV.cells, PV.leaf, getB, getM, mapE, iterE, keyC, mapRows, mfind, eq1, eqL, scal, binP, unP, minP, maxP, foldP, PV.lt, PV.lt.ltL, endP, expoAll, expoG, expo, expo.expoL, frIds, frIds.frIdsL, nodupN, kill, cls, clsFuel, resO, RV.get, loadP, evC_p, evC_s, endS, endT, rowsOf, callP, thinL, unfr, unfr.unfrL, PV.noMem, PV.noMem.noMemL, optI, mapO, norm, trimT, trimB, forget, hasN, blksLt, List.set, softChk, softGo, softRd, effTg, rdP, S11, eI, e1, e2]
    · have : ¬ a = b := fun h => by rw [(zip_all hl).2 h] at q1; cases q1
      rw [q2]
      simp [evCode, evOps, evOne, evOp, evPur, evEff, evPur.chunks, fillP, AOp.isEff, AO.ev, putP, PV.cells, PV.leaf, getB, getM, mapE, iterE, keyC, mapRows, mfind, eq1, eqL, scal, binP, unP, minP, maxP, foldP, PV.lt, PV.lt.ltL, endP, expoAll, expoG, expo, expo.expoL, frIds, frIds.frIdsL, nodupN, kill, cls, clsFuel, resO, RV.get, loadP, evC_p, evC_s, endS, endT, rowsOf, callP, thinL, unfr, unfr.unfrL, PV.noMem, PV.noMem.noMemL, optI, mapO, norm, trimT, trimB, forget, hasN, blksLt, List.set, softChk, softGo, softRd, effTg, rdP, q3, this]
  · have : ¬ a = b := fun h => hl (by rw [h])
    have hl' : ¬ ((a.length : Int) = b.length) := by omega
    have e2 := iR_len b
    refine evE_intro (a.length + 1) D11 rfl ?_
    unfold c11
    simp [evCode, evOps, evOne, evOp, evPur, evEff, evPur.chunks, fillP, AOp.isEff, AO.ev, putP, PV.cells, PV.leaf, getB, getM, mapE, iterE, keyC, mapRows, mfind, eq1, eqL, scal, binP, unP, minP, maxP, foldP, PV.lt, PV.lt.ltL, endP, expoAll, expoG, expo, expo.expoL, frIds, frIds.frIdsL, nodupN, kill, cls, clsFuel, resO, RV.get, loadP, evC_p, evC_s, endS, endT, rowsOf, callP, thinL, unfr, unfr.unfrL, PV.noMem, PV.noMem.noMemL, optI, mapO, norm, trimT, trimB, forget, hasN, blksLt, List.set, softChk, softGo, softRd, effTg, rdP, eI, e1, e2, hl, hl', this]
def S30 (x y : Bool) (a b : List Int) (k : Nat) : St := ⟨[eI x a, eI y b] ++ List.replicate 10 .top ++ [.int .i64 a.length, .int .i64 k] ++ List.replicate 12 .top, []⟩
theorem f30 (x y : Bool) (a b : List Int) (ha : a.length ≤ 1000000) : evE Dg 30 [eI x a, eI y b] = some (.bool (decide (a = b))) := by
  have e1 := iR_len a
  by_cases hl : a.length = b.length
  · have e2 : (iR b).length = a.length := by rw [iR_len, hl]
    have hz : (a.zip b).length = a.length := by simp [hl]
    have H := loop_all (body := evCode (evC Dg) (a.length + 1) c30b0) (keep := [0, 1, 12, 13]) (n0 := 0) (fuel := a.length + 1) (a.zip b) (S30 x y a b) (fun p => decide (p.1 = p.2)) (fun t => t.sl[4]?.getD .top = .bool false)
      (by
        rintro k ⟨s, u⟩ hp hk hq
        obtain ⟨h1, h2⟩ := zip_get hp
        simp only [decide_eq_true_eq] at h1 h2 hq
        subst hq
        rw [hz] at hk
        have r1 := iR_get h1
        have r2 := iR_get h2
        have g1 := iR_got h1
        have g2 := iR_got h2
        have hk' : (k : Int) < a.length := by omega
        have w1 := wrap_i64 ((k : Int) + 1) (by omega) (by omega)
        unfold c30b0
        simp [evCode, evOps, evOne, evOp, evPur, evEff, evPur.chunks, fillP, AOp.isEff, AO.ev, putP, PV.cells, PV.leaf, getB, getM, mapE, iterE, keyC, mapRows, mfind, eq1, eqL, scal, binP, unP, minP, maxP, foldP, PV.lt, PV.lt.ltL, endP, expoAll, expoG, expo, expo.expoL, frIds, frIds.frIdsL, nodupN, kill, cls, clsFuel, resO, RV.get, loadP, evC_p, evC_s, endS, endT, rowsOf, callP, thinL, unfr, unfr.unfrL, PV.noMem, PV.noMem.noMemL, optI, mapO, norm, trimT, trimB, forget, hasN, blksLt, List.set, softChk, softGo, softRd, effTg, rdP, S30, eI, e1, e2, r1, r2, g1, g2, hk', hk, w1])
      (by
        rintro k ⟨s, u⟩ hp hk hq
        obtain ⟨h1, h2⟩ := zip_get hp
        simp only [decide_eq_false_iff_not] at h1 h2 hq
        rw [hz] at hk
        have r1 := iR_get h1
        have r2 := iR_get h2
        have g1 := iR_got h1
        have g2 := iR_got h2
        have hk' : (k : Int) < a.length := by omega
        unfold c30b0
        simp [evCode, evOps, evOne, evOp, evPur, evEff, evPur.chunks, fillP, AOp.isEff, AO.ev, putP, PV.cells, PV.leaf, getB, getM, mapE, iterE, keyC, mapRows, mfind, eq1, eqL, scal, binP, unP, minP, maxP, foldP, PV.lt, PV.lt.ltL, endP, expoAll, expoG, expo, expo.expoL, frIds, frIds.frIdsL, nodupN, kill, cls, clsFuel, resO, RV.get, loadP, evC_p, evC_s, endS, endT, rowsOf, callP, thinL, unfr, unfr.unfrL, PV.noMem, PV.noMem.noMemL, optI, mapO, norm, trimT, trimB, forget, hasN, blksLt, List.set, softChk, softGo, softRd, effTg, rdP, S30, eI, e1, e2, r1, r2, g1, g2, hk', hk, hq])
      (by
        intro s
        rw [hz]
        unfold c30b0
        simp [evCode, evOps, evOne, evOp, evPur, evEff, evPur.chunks, fillP, AOp.isEff, AO.ev, putP, PV.cells, PV.leaf, getB, getM, mapE, iterE, keyC, mapRows, mfind, eq1, eqL, scal, binP, unP, minP, maxP, foldP, PV.lt, PV.lt.ltL, endP, expoAll, expoG, expo, expo.expoL, frIds, frIds.frIdsL, nodupN, kill, cls, clsFuel, resO, RV.get, loadP, evC_p, evC_s, endS, endT, rowsOf, callP, thinL, unfr, unfr.unfrL, PV.noMem, PV.noMem.noMemL, optI, mapO, norm, trimT, trimB, forget, hasN, blksLt, List.set, softChk, softGo, softRd, effTg, rdP, S30, eI, e1, e2])
      (by rw [hz]; omega)
    refine evE_intro (a.length + 1) D30 rfl ?_
    unfold c30
    simp [evCode, evOps, evOne, evOp, evPur, evEff, evPur.chunks, fillP, AOp.isEff, AO.ev, putP, PV.cells, PV.leaf, getB, getM, mapE, iterE, keyC, mapRows, mfind, eq1, eqL, scal, binP, unP, minP, maxP, foldP, PV.lt, PV.lt.ltL, endP, expoAll, expoG, expo, expo.expoL, frIds, frIds.frIdsL, nodupN, kill, cls, clsFuel, resO, RV.get, loadP, evC_p, evC_s, endS, endT, rowsOf, callP, thinL, unfr, unfr.unfrL, PV.noMem, PV.noMem.noMemL, optI, mapO, norm, trimT, trimB, forget, hasN, blksLt, List.set, softChk, softGo, softRd, effTg, rdP, eI, e1, e2]
    generalize hE : evLoop _ _ _ _ _ = E
    rcases H _ _ hE (by simp [evCode, evOps, evOne, evOp, evPur, evEff, evPur.chunks, fillP, AOp.isEff, AO.ev, putP, PV.cells, PV.leaf, getB, getM, mapE, iterE, keyC, mapRows, mfind, eq1, eqL, scal, binP, unP, minP, maxP, foldP, PV.lt, PV.lt.ltL, endP, expoAll, expoG, expo, expo.expoL, frIds, frIds.frIdsL, nodupN, kill, cls, clsFuel, resO, RV.get, loadP, evC_p, evC_s, endS, endT, rowsOf, callP, thinL, unfr, unfr.unfrL, PV.noMem, PV.noMem.noMemL, optI, mapO, norm, trimT, trimB, forget, hasN, blksLt, List.set, softChk, softGo, softRd, effTg, rdP, S30, eI]) with ⟨q1, q2⟩ | ⟨q1, s, q2, q3⟩
    · rw [zip_all hl] at q1
      subst q1
      rw [q2, hz]
      unfold c30b0
      simp [evCode, evOps, evOne, evOp, evPur, evEff, evPur.chunks, fillP, AOp.isEff, AO.ev, putP, PV.cells, PV.leaf, getB, getM, mapE, iterE, keyC, mapRows, mfind, eq1, eqL, scal, binP, unP, minP, maxP, foldP, PV.lt, PV.lt.ltL, endP, expoAll, expoG, expo, expo.expoL, frIds, frIds.frIdsL, nodupN, kill, cls, clsFuel, resO, RV.get, loadP, evC_p, evC_s, endS, endT, rowsOf, callP, thinL, unfr, unfr.unfrL, PV.noMem, PV.noMem.noMemL, optI, mapO, norm, trimT, trimB, forget, hasN, blksLt, List.set, softChk, softGo, softRd, effTg, rdP, S30, eI, e1, e2]
    · have : ¬ a = b := fun h => by rw [(zip_all hl).2 h] at q1; cases q1
      rw [q2]
      simp [evCode, evOps, evOne, evOp, evPur, evEff, evPur.chunks, fillP, AOp.isEff, AO.ev, putP, PV.cells, PV.leaf, getB, getM, mapE, iterE, keyC, mapRows, mfind, eq1, eqL, scal, binP, unP, minP, maxP, foldP, PV.lt, PV.lt.ltL, endP, expoAll, expoG, expo, expo.expoL, frIds, frIds.frIdsL, nodupN, kill, cls, clsFuel, resO, RV.get, loadP, evC_p, evC_s, endS, endT, rowsOf, callP, thinL, unfr, unfr.unfrL, PV.noMem, PV.noMem.noMemL, optI, mapO, norm, trimT, trimB, forget, hasN, blksLt, List.set, softChk, softGo, softRd, effTg, rdP, q3, this]
  · have : ¬ a = b := fun h => hl (by rw [h])
    have hl' : ¬ ((a.length : Int) = b.length) := by omega
    have e2 := iR_len b
    refine evE_intro (a.length + 1) D30 rfl ?_
    unfold c30
    simp [evCode, evOps, evOne, evOp, evPur, evEff, evPur.chunks, fillP, AOp.isEff, AO.ev, putP, PV.cells, PV.leaf, getB, getM, mapE, iterE, keyC, mapRows, mfind, eq1, eqL, scal, binP, unP, minP, maxP, foldP, PV.lt, PV.lt.ltL, endP, expoAll, expoG, expo, expo.expoL, frIds, frIds.frIdsL, nodupN, kill, cls, clsFuel, resO, RV.get, loadP, evC_p, evC_s, endS, endT, rowsOf, callP, thinL, unfr, unfr.unfrL, PV.noMem, PV.noMem.noMemL, optI, mapO, norm, trimT, trimB, forget, hasN, blksLt, List.set, softChk, softGo, softRd, effTg, rdP, eI, e1, e2, hl, hl', this]

def eS (x : Bool) (l : List Sp) : PV := .sl x 2 (spRows l)
theorem spRows_len (l : List Sp) : (spRows l).length = l.length := by simp [spRows]
theorem spRows_get {l : List Sp} {k : Nat} {s : Sp} (h : l[k]? = some s) : (spRows l)[k]? = some [.int .i64 s.1, .int .i64 s.2] := by simp [spRows, h]
theorem spRows_got {l : List Sp} {k : Nat} {s : Sp} (h : l[k]? = some s) : ∀ q, (spRows l)[k]'q = [.int .i64 s.1, .int .i64 s.2] := fun q => by
  have := spRows_get h
  rw [List.getElem?_eq_getElem q] at this
  exact Option.some.inj this
/-- the order of two places -/
def ltN (l : List Sp) (i j : Nat) : Prop := ∀ s t, l[i]? = some s → l[j]? = some t → s.1 < t.1 ∨ (s.1 = t.1 ∧ (s.2 < t.2 ∨ (s.2 = t.2 ∧ (i : Int) < j)))
def ltB (i j : Nat) (s t : Sp) : Bool := decide (s.1 < t.1 ∨ (s.1 = t.1 ∧ (s.2 < t.2 ∨ (s.2 = t.2 ∧ (i : Int) < j))))
theorem f40 (x : Bool) (l : List Sp) (i j : Nat) (s t : Sp) (h1 : l[i]? = some s) (h2 : l[j]? = some t) : evE Dg 40 [eS x l, .int .i64 i, .int .i64 j] = some (.bool (ltB i j s t)) := by
  refine evE_intro 1 D40 rfl ?_
  have e1 := spRows_len l
  have r1 := spRows_get h1
  have r2 := spRows_get h2
  have g1 := spRows_got h1
  have g2 := spRows_got h2
  have l1 : i < l.length := (List.getElem?_eq_some_iff.1 h1).1
  have l2 : j < l.length := (List.getElem?_eq_some_iff.1 h2).1
  have l1' : (i : Int) < l.length := by omega
  have l2' : (j : Int) < l.length := by omega
  unfold c40 ltB
  by_cases q1 : s.1 = t.1
  · by_cases q2 : s.2 = t.2
    · have n1 : ¬ t.1 < t.1 := by omega
      have n2 : ¬ t.2 < t.2 := by omega
      simp [evCode, evOps, evOne, evOp, evPur, evEff, evPur.chunks, fillP, AOp.isEff, AO.ev, putP, PV.cells, PV.leaf, getB, getM, mapE, iterE, keyC, mapRows, mfind, eq1, eqL, scal, binP, unP, minP, maxP, foldP, PV.lt, PV.lt.ltL, endP, expoAll, expoG, expo, expo.expoL, frIds, frIds.frIdsL, nodupN, kill, cls, clsFuel, resO, RV.get, loadP, evC_p, evC_s, endS, endT, rowsOf, callP, thinL, unfr, unfr.unfrL, PV.noMem, PV.noMem.noMemL, optI, mapO, norm, trimT, trimB, forget, hasN, blksLt, List.set, softChk, softGo, softRd, effTg, rdP, eS, e1, r1, r2, g1, g2, l1, l2, l1', l2', q1, q2, n1, n2]
    · have n1 : ¬ t.1 < t.1 := by omega
      simp [evCode, evOps, evOne, evOp, evPur, evEff, evPur.chunks, fillP, AOp.isEff, AO.ev, putP, PV.cells, PV.leaf, getB, getM, mapE, iterE, keyC, mapRows, mfind, eq1, eqL, scal, binP, unP, minP, maxP, foldP, PV.lt, PV.lt.ltL, endP, expoAll, expoG, expo, expo.expoL, frIds, frIds.frIdsL, nodupN, kill, cls, clsFuel, resO, RV.get, loadP, evC_p, evC_s, endS, endT, rowsOf, callP, thinL, unfr, unfr.unfrL, PV.noMem, PV.noMem.noMemL, optI, mapO, norm, trimT, trimB, forget, hasN, blksLt, List.set, softChk, softGo, softRd, effTg, rdP, eS, e1, r1, r2, g1, g2, l1, l2, l1', l2', q1, q2, n1]
  · simp [evCode, evOps, evOne, evOp, evPur, evEff, evPur.chunks, fillP, AOp.isEff, AO.ev, putP, PV.cells, PV.leaf, getB, getM, mapE, iterE, keyC, mapRows, mfind, eq1, eqL, scal, binP, unP, minP, maxP, foldP, PV.lt, PV.lt.ltL, endP, expoAll, expoG, expo, expo.expoL, frIds, frIds.frIdsL, nodupN, kill, cls, clsFuel, resO, RV.get, loadP, evC_p, evC_s, endS, endT, rowsOf, callP, thinL, unfr, unfr.unfrL, PV.noMem, PV.noMem.noMemL, optI, mapO, norm, trimT, trimB, forget, hasN, blksLt, List.set, softChk, softGo, softRd, effTg, rdP, eS, e1, r1, r2, g1, g2, l1, l2, l1', l2', q1]
end Go.Proofs.Ytkodjmlhmpokoaa
