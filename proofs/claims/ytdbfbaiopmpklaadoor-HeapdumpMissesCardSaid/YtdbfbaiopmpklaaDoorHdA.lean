/- heapdump: objects; Find of both, few. -/
import Derived.Test.YtdbfbaiopmpklaaDoorNm
namespace Go.Proofs.YtdbfbaiopmpklaaDoor
open Go Go.RowKit
set_option linter.unusedVariables false
set_option linter.unusedSimpArgs false
set_option maxHeartbeats 4000000

abbrev Ob := Int × Int × List UInt8 × List Int
def iR (l : List Int) : List (List PV) := l.map fun z => [.int .i64 z]
def eI (l : List Int) : PV := .sl false 1 (iR l)
def oR1 (o : Ob) : List PV := [.int .i64 o.1, .int .i64 o.2.1, .str o.2.2.1, eI o.2.2.2]
def oR (l : List Ob) : List (List PV) := l.map oR1
def eH (l : List Ob) (r : List Int) : PV := .agg [.sl false 4 (oR l), eI r]
theorem iR_len (d : List Int) : (iR d).length = d.length := by simp [iR]
theorem iR_get {d : List Int} {k : Nat} {z : Int} (h : d[k]? = some z) : (iR d)[k]? = some [.int .i64 z] := by simp [iR, h]
theorem iR_got {d : List Int} {k : Nat} {z : Int} (h : d[k]? = some z) : ∀ q, (iR d)[k]'q = [.int .i64 z] := fun q => by
  have := iR_get h
  rw [List.getElem?_eq_getElem q] at this
  exact Option.some.inj this
theorem oR_len (d : List Ob) : (oR d).length = d.length := by simp [oR]
theorem oR_get {d : List Ob} {k : Nat} {z : Ob} (h : d[k]? = some z) : (oR d)[k]? = some (oR1 z) := by simp [oR, h]
theorem oR_got {d : List Ob} {k : Nat} {z : Ob} (h : d[k]? = some z) : ∀ q, (oR d)[k]'q = oR1 z := fun q => by
  have := oR_get h
  rw [List.getElem?_eq_getElem q] at this
  exact Option.some.inj this

/-- where an object with an id stands -/
def idx (l : List Ob) (id : Int) : Option Nat := l.findIdx? fun o => decide (o.1 = id)
theorem f20 (a b id : Int) (s : List UInt8) (R : List (List PV)) : evE Dg 20 [.agg [.int .i64 a, .int .i64 b, .str s, .sl false 1 R], .cptr [.int .i64 id]] = some (.bool (decide (a = id))) := by
  refine evE_intro 1 D20 rfl ?_
  unfold c20
  simp [evCode, evOps, evOne, evOp, evPur, evEff, evPur.chunks, fillP, AOp.isEff, AO.ev, putP, PV.cells, PV.leaf, getB, getM, mapE, iterE, keyC, mapRows, mfind, eq1, eqL, scal, binP, unP, minP, maxP, foldP, PV.lt, PV.lt.ltL, endP, expoAll, expoG, expo, expo.expoL, frIds, frIds.frIdsL, nodupN, kill, cls, clsFuel, resO, RV.get, loadP, evC_p, evC_s, endS, endT, rowsOf, callP, thinL, unfr, unfr.unfrL, PV.noMem, PV.noMem.noMemL, optI, mapO, norm, trimT, trimB, forget, hasN, blksLt, List.set, softChk, softGo, softRd, effTg, tgOf, chgN, sameB, PV.same, PV.same.sameL, PV.same.sameLL, rdP]
  by_cases h : a = id <;> simp [h]
def S19 (l : List Ob) (id : Int) (k : Nat) : St := ⟨[.sl false 4 (oR l), .fn 20 [.cptr [.int .i64 id]], .top, .top, .top, .top, .top, .int .i64 l.length, .int .i64 k] ++ List.replicate 10 .top, []⟩
theorem f19 (l : List Ob) (id : Int) (hl : l.length ≤ 100000) : evE Dg 19 [.sl false 4 (oR l), .fn 20 [.cptr [.int .i64 id]]] = some (.int .i64 (match idx l id with | some k => (k : Int) | none => -1)) := by
  have e1 := oR_len l
  have H := loop_find (body := evCode (evC Dg) (l.length + 1) c19b0) (keep := [0, 1, 7, 8]) (n0 := 0) (fuel := l.length + 1) l (S19 l id) (fun o => decide (o.1 = id)) (fun k t => t.sl[4]?.getD .top = .int .i64 k)
    (by
      rintro k o ho hk hq
      have r1 := oR_get ho
      have g1 := oR_got ho
      have h20 := f20 o.1 o.2.1 id o.2.2.1 (iR o.2.2.2)
      rw [hq] at h20
      have hk' : (k : Int) < l.length := by omega
      have w1 := wrap_i64 ((k : Int) + 1) (by omega) (by omega)
      unfold c19b0
      simp [evCode, evOps, evOne, evOp, evPur, evEff, evPur.chunks, fillP, AOp.isEff, AO.ev, putP, PV.cells, PV.leaf, getB, getM, mapE, iterE, keyC, mapRows, mfind, eq1, eqL, scal, binP, unP, minP, maxP, foldP, PV.lt, PV.lt.ltL, endP, expoAll, expoG, expo, expo.expoL, frIds, frIds.frIdsL, nodupN, kill, cls, clsFuel, resO, RV.get, loadP, evC_p, evC_s, endS, endT, rowsOf, callP, thinL, unfr, unfr.unfrL, PV.noMem, PV.noMem.noMemL, optI, mapO, norm, trimT, trimB, forget, hasN, blksLt, List.set, softChk, softGo, softRd, effTg, tgOf, chgN, sameB, PV.same, PV.same.sameL, PV.same.sameLL, rdP, S19, e1, r1, g1, oR1, eI, hk', hk, w1, h20])
    (by
      rintro k o ho hk hq
      have r1 := oR_get ho
      have g1 := oR_got ho
      have h20 := f20 o.1 o.2.1 id o.2.2.1 (iR o.2.2.2)
      rw [hq] at h20
      have hk' : (k : Int) < l.length := by omega
      unfold c19b0
      simp [evCode, evOps, evOne, evOp, evPur, evEff, evPur.chunks, fillP, AOp.isEff, AO.ev, putP, PV.cells, PV.leaf, getB, getM, mapE, iterE, keyC, mapRows, mfind, eq1, eqL, scal, binP, unP, minP, maxP, foldP, PV.lt, PV.lt.ltL, endP, expoAll, expoG, expo, expo.expoL, frIds, frIds.frIdsL, nodupN, kill, cls, clsFuel, resO, RV.get, loadP, evC_p, evC_s, endS, endT, rowsOf, callP, thinL, unfr, unfr.unfrL, PV.noMem, PV.noMem.noMemL, optI, mapO, norm, trimT, trimB, forget, hasN, blksLt, List.set, softChk, softGo, softRd, effTg, tgOf, chgN, sameB, PV.same, PV.same.sameL, PV.same.sameLL, rdP, S19, e1, r1, g1, oR1, eI, hk', hk, h20])
    (by
      intro s
      unfold c19b0
      simp [evCode, evOps, evOne, evOp, evPur, evEff, evPur.chunks, fillP, AOp.isEff, AO.ev, putP, PV.cells, PV.leaf, getB, getM, mapE, iterE, keyC, mapRows, mfind, eq1, eqL, scal, binP, unP, minP, maxP, foldP, PV.lt, PV.lt.ltL, endP, expoAll, expoG, expo, expo.expoL, frIds, frIds.frIdsL, nodupN, kill, cls, clsFuel, resO, RV.get, loadP, evC_p, evC_s, endS, endT, rowsOf, callP, thinL, unfr, unfr.unfrL, PV.noMem, PV.noMem.noMemL, optI, mapO, norm, trimT, trimB, forget, hasN, blksLt, List.set, softChk, softGo, softRd, effTg, tgOf, chgN, sameB, PV.same, PV.same.sameL, PV.same.sameLL, rdP, S19, e1])
    (by omega)
  refine evE_intro (l.length + 1) D19 rfl ?_
  unfold c19
  simp [evCode, evOps, evOne, evOp, evPur, evEff, evPur.chunks, fillP, AOp.isEff, AO.ev, putP, PV.cells, PV.leaf, getB, getM, mapE, iterE, keyC, mapRows, mfind, eq1, eqL, scal, binP, unP, minP, maxP, foldP, PV.lt, PV.lt.ltL, endP, expoAll, expoG, expo, expo.expoL, frIds, frIds.frIdsL, nodupN, kill, cls, clsFuel, resO, RV.get, loadP, evC_p, evC_s, endS, endT, rowsOf, callP, thinL, unfr, unfr.unfrL, PV.noMem, PV.noMem.noMemL, optI, mapO, norm, trimT, trimB, forget, hasN, blksLt, List.set, softChk, softGo, softRd, effTg, tgOf, chgN, sameB, PV.same, PV.same.sameL, PV.same.sameLL, rdP, e1]
  generalize hE : evLoop _ _ _ _ _ = E
  unfold idx
  rcases H _ _ hE (by simp [evCode, evOps, evOne, evOp, evPur, evEff, evPur.chunks, fillP, AOp.isEff, AO.ev, putP, PV.cells, PV.leaf, getB, getM, mapE, iterE, keyC, mapRows, mfind, eq1, eqL, scal, binP, unP, minP, maxP, foldP, PV.lt, PV.lt.ltL, endP, expoAll, expoG, expo, expo.expoL, frIds, frIds.frIdsL, nodupN, kill, cls, clsFuel, resO, RV.get, loadP, evC_p, evC_s, endS, endT, rowsOf, callP, thinL, unfr, unfr.unfrL, PV.noMem, PV.noMem.noMemL, optI, mapO, norm, trimT, trimB, forget, hasN, blksLt, List.set, softChk, softGo, softRd, effTg, tgOf, chgN, sameB, PV.same, PV.same.sameL, PV.same.sameLL, rdP, S19, e1]) with ⟨q1, q2⟩ | ⟨k, q1, s, q2, q3⟩
  · rw [q2, q1]
    unfold c19b0
    simp [evCode, evOps, evOne, evOp, evPur, evEff, evPur.chunks, fillP, AOp.isEff, AO.ev, putP, PV.cells, PV.leaf, getB, getM, mapE, iterE, keyC, mapRows, mfind, eq1, eqL, scal, binP, unP, minP, maxP, foldP, PV.lt, PV.lt.ltL, endP, expoAll, expoG, expo, expo.expoL, frIds, frIds.frIdsL, nodupN, kill, cls, clsFuel, resO, RV.get, loadP, evC_p, evC_s, endS, endT, rowsOf, callP, thinL, unfr, unfr.unfrL, PV.noMem, PV.noMem.noMemL, optI, mapO, norm, trimT, trimB, forget, hasN, blksLt, List.set, softChk, softGo, softRd, effTg, tgOf, chgN, sameB, PV.same, PV.same.sameL, PV.same.sameLL, rdP, S19, e1]
  · rw [q2, q1]
    simp [evCode, evOps, evOne, evOp, evPur, evEff, evPur.chunks, fillP, AOp.isEff, AO.ev, putP, PV.cells, PV.leaf, getB, getM, mapE, iterE, keyC, mapRows, mfind, eq1, eqL, scal, binP, unP, minP, maxP, foldP, PV.lt, PV.lt.ltL, endP, expoAll, expoG, expo, expo.expoL, frIds, frIds.frIdsL, nodupN, kill, cls, clsFuel, resO, RV.get, loadP, evC_p, evC_s, endS, endT, rowsOf, callP, thinL, unfr, unfr.unfrL, PV.noMem, PV.noMem.noMemL, optI, mapO, norm, trimT, trimB, forget, hasN, blksLt, List.set, softChk, softGo, softRd, effTg, tgOf, chgN, sameB, PV.same, PV.same.sameL, PV.same.sameLL, rdP, q3]
def fres (l : List Ob) (id : Int) : PV := match idx l id with
  | some k => .tup [.int .i64 k, .bool true]
  | none => .tup [.int .i64 0, .bool false]
set_option maxRecDepth 100000 in
theorem f10 (l : List Ob) (r : List Int) (id : Int) (hl : l.length ≤ 100000) : evE Dg 10 [eH l r, .int .i64 id] = some (fres l id) := by
  have h19 := f19 l id hl
  unfold fres
  cases hi : idx l id with
  | none =>
    rw [hi] at h19
    refine evE_intro 1 D10 rfl ?_
    unfold c10
    simp [evCode, evOps, evOne, evOp, evPur, evEff, evPur.chunks, fillP, AOp.isEff, AO.ev, putP, PV.cells, PV.leaf, getB, getM, mapE, iterE, keyC, mapRows, mfind, eq1, eqL, scal, binP, unP, minP, maxP, foldP, PV.lt, PV.lt.ltL, endP, expoAll, expoG, expo, expo.expoL, frIds, frIds.frIdsL, nodupN, kill, cls, clsFuel, resO, RV.get, loadP, evC_p, evC_s, endS, endT, rowsOf, callP, thinL, unfr, unfr.unfrL, PV.noMem, PV.noMem.noMemL, optI, mapO, norm, trimT, trimB, forget, hasN, blksLt, List.set, softChk, softGo, softRd, effTg, tgOf, chgN, sameB, PV.same, PV.same.sameL, PV.same.sameLL, rdP, eH, eI, h19]
  | some k =>
    rw [hi] at h19
    have k1 : ¬ ((k : Int) < 0) := by omega
    have k2 : (0 : Int) ≤ k := by omega
    refine evE_intro 1 D10 rfl ?_
    unfold c10
    simp [evCode, evOps, evOne, evOp, evPur, evEff, evPur.chunks, fillP, AOp.isEff, AO.ev, putP, PV.cells, PV.leaf, getB, getM, mapE, iterE, keyC, mapRows, mfind, eq1, eqL, scal, binP, unP, minP, maxP, foldP, PV.lt, PV.lt.ltL, endP, expoAll, expoG, expo, expo.expoL, frIds, frIds.frIdsL, nodupN, kill, cls, clsFuel, resO, RV.get, loadP, evC_p, evC_s, endS, endT, rowsOf, callP, thinL, unfr, unfr.unfrL, PV.noMem, PV.noMem.noMemL, optI, mapO, norm, trimT, trimB, forget, hasN, blksLt, List.set, softChk, softGo, softRd, effTg, tgOf, chgN, sameB, PV.same, PV.same.sameL, PV.same.sameLL, rdP, eH, eI, h19, k1, k2]
def S11 (l : List Ob) (r : List Int) (id : Int) (k : Nat) : St := ⟨[.top, .int .i64 id, .ptr 0 1 0 0, .top, .top, .top, .int .i64 k] ++ List.replicate 16 .top, [some ⟨1, 2, true, [[.sl false 4 (oR l), eI r]]⟩]⟩
set_option maxRecDepth 100000 in
theorem f11 (l : List Ob) (r : List Int) (id : Int) (hl : l.length ≤ 100000) : evE Dg 11 [eH l r, .int .i64 id] = some (fres l id) := by
  have e1 := oR_len l
  have H := loop_find (body := evCode (evC Dg) (l.length + 1) c11b0) (keep := [1, 2, 6]) (n0 := 1) (fuel := l.length + 1) l (S11 l r id) (fun o => decide (o.1 = id)) (fun k t => t.sl[4]?.getD .top = .int .i64 k ∧ t.sl[5]?.getD .top = .bool true)
    (by
      rintro k o ho hk hq
      have r1 := oR_get ho
      have g1 := oR_got ho
      have hq' : ¬ o.1 = id := by simpa using hq
      have hk' : (k : Int) < l.length := by omega
      have w1 := wrap_i64 ((k : Int) + 1) (by omega) (by omega)
      unfold c11b0
      simp [evCode, evOps, evOne, evOp, evPur, evEff, evPur.chunks, fillP, AOp.isEff, AO.ev, putP, PV.cells, PV.leaf, getB, getM, mapE, iterE, keyC, mapRows, mfind, eq1, eqL, scal, binP, unP, minP, maxP, foldP, PV.lt, PV.lt.ltL, endP, expoAll, expoG, expo, expo.expoL, frIds, frIds.frIdsL, nodupN, kill, cls, clsFuel, resO, RV.get, loadP, evC_p, evC_s, endS, endT, rowsOf, callP, thinL, unfr, unfr.unfrL, PV.noMem, PV.noMem.noMemL, optI, mapO, norm, trimT, trimB, forget, hasN, blksLt, List.set, softChk, softGo, softRd, effTg, tgOf, chgN, sameB, PV.same, PV.same.sameL, PV.same.sameLL, rdP, S11, e1, r1, g1, oR1, eI, hk', hk, w1, hq'])
    (by
      rintro k o ho hk hq
      have r1 := oR_get ho
      have g1 := oR_got ho
      have hq' : o.1 = id := by simpa using hq
      have hk' : (k : Int) < l.length := by omega
      unfold c11b0
      simp [evCode, evOps, evOne, evOp, evPur, evEff, evPur.chunks, fillP, AOp.isEff, AO.ev, putP, PV.cells, PV.leaf, getB, getM, mapE, iterE, keyC, mapRows, mfind, eq1, eqL, scal, binP, unP, minP, maxP, foldP, PV.lt, PV.lt.ltL, endP, expoAll, expoG, expo, expo.expoL, frIds, frIds.frIdsL, nodupN, kill, cls, clsFuel, resO, RV.get, loadP, evC_p, evC_s, endS, endT, rowsOf, callP, thinL, unfr, unfr.unfrL, PV.noMem, PV.noMem.noMemL, optI, mapO, norm, trimT, trimB, forget, hasN, blksLt, List.set, softChk, softGo, softRd, effTg, tgOf, chgN, sameB, PV.same, PV.same.sameL, PV.same.sameLL, rdP, S11, e1, r1, g1, oR1, eI, hk', hk, hq'])
    (by
      intro s
      unfold c11b0
      simp [evCode, evOps, evOne, evOp, evPur, evEff, evPur.chunks, fillP, AOp.isEff, AO.ev, putP, PV.cells, PV.leaf, getB, getM, mapE, iterE, keyC, mapRows, mfind, eq1, eqL, scal, binP, unP, minP, maxP, foldP, PV.lt, PV.lt.ltL, endP, expoAll, expoG, expo, expo.expoL, frIds, frIds.frIdsL, nodupN, kill, cls, clsFuel, resO, RV.get, loadP, evC_p, evC_s, endS, endT, rowsOf, callP, thinL, unfr, unfr.unfrL, PV.noMem, PV.noMem.noMemL, optI, mapO, norm, trimT, trimB, forget, hasN, blksLt, List.set, softChk, softGo, softRd, effTg, tgOf, chgN, sameB, PV.same, PV.same.sameL, PV.same.sameLL, rdP, S11, eI, e1])
    (by omega)
  refine evE_intro (l.length + 1) D11 rfl ?_
  unfold c11
  simp [evCode, evOps, evOne, evOp, evPur, evEff, evPur.chunks, fillP, AOp.isEff, AO.ev, putP, PV.cells, PV.leaf, getB, getM, mapE, iterE, keyC, mapRows, mfind, eq1, eqL, scal, binP, unP, minP, maxP, foldP, PV.lt, PV.lt.ltL, endP, expoAll, expoG, expo, expo.expoL, frIds, frIds.frIdsL, nodupN, kill, cls, clsFuel, resO, RV.get, loadP, evC_p, evC_s, endS, endT, rowsOf, callP, thinL, unfr, unfr.unfrL, PV.noMem, PV.noMem.noMemL, optI, mapO, norm, trimT, trimB, forget, hasN, blksLt, List.set, softChk, softGo, softRd, effTg, tgOf, chgN, sameB, PV.same, PV.same.sameL, PV.same.sameLL, rdP, eH, eI, e1]
  generalize hE : evLoop _ _ _ _ _ = E
  unfold fres idx
  rcases H _ _ hE (by simp [evCode, evOps, evOne, evOp, evPur, evEff, evPur.chunks, fillP, AOp.isEff, AO.ev, putP, PV.cells, PV.leaf, getB, getM, mapE, iterE, keyC, mapRows, mfind, eq1, eqL, scal, binP, unP, minP, maxP, foldP, PV.lt, PV.lt.ltL, endP, expoAll, expoG, expo, expo.expoL, frIds, frIds.frIdsL, nodupN, kill, cls, clsFuel, resO, RV.get, loadP, evC_p, evC_s, endS, endT, rowsOf, callP, thinL, unfr, unfr.unfrL, PV.noMem, PV.noMem.noMemL, optI, mapO, norm, trimT, trimB, forget, hasN, blksLt, List.set, softChk, softGo, softRd, effTg, tgOf, chgN, sameB, PV.same, PV.same.sameL, PV.same.sameLL, rdP, S11, e1, eI]) with ⟨q1, q2⟩ | ⟨k, q1, s, q2, q3, q4⟩
  · rw [q2, q1]
    unfold c11b0
    simp [evCode, evOps, evOne, evOp, evPur, evEff, evPur.chunks, fillP, AOp.isEff, AO.ev, putP, PV.cells, PV.leaf, getB, getM, mapE, iterE, keyC, mapRows, mfind, eq1, eqL, scal, binP, unP, minP, maxP, foldP, PV.lt, PV.lt.ltL, endP, expoAll, expoG, expo, expo.expoL, frIds, frIds.frIdsL, nodupN, kill, cls, clsFuel, resO, RV.get, loadP, evC_p, evC_s, endS, endT, rowsOf, callP, thinL, unfr, unfr.unfrL, PV.noMem, PV.noMem.noMemL, optI, mapO, norm, trimT, trimB, forget, hasN, blksLt, List.set, softChk, softGo, softRd, effTg, tgOf, chgN, sameB, PV.same, PV.same.sameL, PV.same.sameLL, rdP, S11, eI, e1]
  · rw [q2, q1]
    simp [evCode, evOps, evOne, evOp, evPur, evEff, evPur.chunks, fillP, AOp.isEff, AO.ev, putP, PV.cells, PV.leaf, getB, getM, mapE, iterE, keyC, mapRows, mfind, eq1, eqL, scal, binP, unP, minP, maxP, foldP, PV.lt, PV.lt.ltL, endP, expoAll, expoG, expo, expo.expoL, frIds, frIds.frIdsL, nodupN, kill, cls, clsFuel, resO, RV.get, loadP, evC_p, evC_s, endS, endT, rowsOf, callP, thinL, unfr, unfr.unfrL, PV.noMem, PV.noMem.noMemL, optI, mapO, norm, trimT, trimB, forget, hasN, blksLt, List.set, softChk, softGo, softRd, effTg, tgOf, chgN, sameB, PV.same, PV.same.sameL, PV.same.sameLL, rdP, q3, q4]
end Go.Proofs.YtdbfbaiopmpklaaDoor
