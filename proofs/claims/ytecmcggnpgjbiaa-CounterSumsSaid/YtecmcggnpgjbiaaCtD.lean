/- At and Peak, of the program and of the reference. -/
import Derived.Test.YtecmcggnpgjbiaaCtA
namespace Go.Proofs.Ytecmcggnpgjbiaa
open Go Go.RowKit
set_option linter.unusedVariables false
set_option linter.unusedSimpArgs false
set_option maxHeartbeats 4000000

def atS (name : List UInt8) (t : Int) (u : Int × Bool) (s : Stp) : Int × Bool := if s.1 = name ∧ s.2.1 ≤ t then (s.2.2, true) else u
def atF (name : List UInt8) (t : Int) (l : List Stp) : Int × Bool := l.foldl (atS name t) (0, false)
def S15 (x : Bool) (l : List Stp) (name : List UInt8) (t : Int) (k : Nat) (u : Int × Bool) : St := ⟨[.top, .str name, .int .i64 t, .top, .top, .top, .top, .top, .int .i64 u.1, .bool u.2, .top, .top, eSp x l, .int .i64 l.length, .int .i64 k] ++ List.replicate 18 .top, []⟩
set_option maxRecDepth 100000 in
theorem f15 (x : Bool) (l : List Stp) (hl : l.length ≤ 1000000) (name : List UInt8) (t : Int) : evE Dg 15 [eSp x l, .str name, .int .i64 t] = some (.tup [.int .i64 (atF name t l).1, .bool (atF name t l).2]) := by
  have el : (l.map row).length = l.length := by simp
  have H := loop_foldE (body := evCode (evC Dg) 1000010 c15b0) (keep := [1, 2, 8, 9, 12, 13, 14]) (n0 := 0) (fuel := 1000010) l (S15 x l name t) (atS name t) (fun _ _ => True)
    (by
      rintro k a u ha hk -
      refine ⟨trivial, ?_⟩
      have hk' : (k : Int) < l.length := by omega
      have g1 := map_get (f := row) ha
      have g2 := sp_got ha
      have w1 := wrap_i64 ((k : Int) + 1) (by omega) (by omega)
      obtain ⟨a1, a2, a3⟩ := a
      obtain ⟨u1, u2⟩ := u
      simp only [row] at g1 g2
      unfold atS
      simp only
      by_cases c1 : a1 = name
      · subst c1
        by_cases c2 : a2 ≤ t
        · rw [if_pos ⟨rfl, c2⟩]
          unfold c15b0
          simp [evCode, evOps, evOne, evOp, evPur, evEff, evPur.chunks, fillP, AOp.isEff, AO.ev, putP, PV.cells, PV.leaf, getB, getM, mapE, keyC, mapRows, mfind, eq1, eqL, scal, binP, unP, minP, maxP, foldP, PV.lt, PV.lt.ltL, endP, expoAll, expo, expo.expoL, frIds, frIds.frIdsL, nodupN, kill, cls, clsFuel, resO, RV.get, loadP, evC_p, evC_s, endS, endT, rowsOf, callP, thinL, unfr, unfr.unfrL, PV.noMem, PV.noMem.noMemL, optI, mapO, norm, trimT, trimB, forget, hasN, blksLt, List.set, S15, eSp, el, hk', hk, g1, g2, w1, c2]
        · rw [if_neg (fun h => c2 h.2)]
          unfold c15b0
          simp [evCode, evOps, evOne, evOp, evPur, evEff, evPur.chunks, fillP, AOp.isEff, AO.ev, putP, PV.cells, PV.leaf, getB, getM, mapE, keyC, mapRows, mfind, eq1, eqL, scal, binP, unP, minP, maxP, foldP, PV.lt, PV.lt.ltL, endP, expoAll, expo, expo.expoL, frIds, frIds.frIdsL, nodupN, kill, cls, clsFuel, resO, RV.get, loadP, evC_p, evC_s, endS, endT, rowsOf, callP, thinL, unfr, unfr.unfrL, PV.noMem, PV.noMem.noMemL, optI, mapO, norm, trimT, trimB, forget, hasN, blksLt, List.set, S15, eSp, el, hk', hk, g1, g2, w1, c2]
      · rw [if_neg (fun h => c1 h.1)]
        unfold c15b0
        simp [evCode, evOps, evOne, evOp, evPur, evEff, evPur.chunks, fillP, AOp.isEff, AO.ev, putP, PV.cells, PV.leaf, getB, getM, mapE, keyC, mapRows, mfind, eq1, eqL, scal, binP, unP, minP, maxP, foldP, PV.lt, PV.lt.ltL, endP, expoAll, expo, expo.expoL, frIds, frIds.frIdsL, nodupN, kill, cls, clsFuel, resO, RV.get, loadP, evC_p, evC_s, endS, endT, rowsOf, callP, thinL, unfr, unfr.unfrL, PV.noMem, PV.noMem.noMemL, optI, mapO, norm, trimT, trimB, forget, hasN, blksLt, List.set, S15, eSp, el, hk', hk, g1, g2, w1, c1])
    (by
      intro u _ s
      unfold c15b0
      simp [evCode, evOps, evOne, evOp, evPur, evEff, evPur.chunks, fillP, AOp.isEff, AO.ev, putP, PV.cells, PV.leaf, getB, getM, mapE, keyC, mapRows, mfind, eq1, eqL, scal, binP, unP, minP, maxP, foldP, PV.lt, PV.lt.ltL, endP, expoAll, expo, expo.expoL, frIds, frIds.frIdsL, nodupN, kill, cls, clsFuel, resO, RV.get, loadP, evC_p, evC_s, endS, endT, rowsOf, callP, thinL, unfr, unfr.unfrL, PV.noMem, PV.noMem.noMemL, optI, mapO, norm, trimT, trimB, forget, hasN, blksLt, List.set, S15, eSp, el])
    (by omega) (0, false) trivial
  refine evE_intro 1000010 D15 rfl ?_
  unfold c15
  simp [evCode, evOps, evOne, evOp, evPur, evEff, evPur.chunks, fillP, AOp.isEff, AO.ev, putP, PV.cells, PV.leaf, getB, getM, mapE, keyC, mapRows, mfind, eq1, eqL, scal, binP, unP, minP, maxP, foldP, PV.lt, PV.lt.ltL, endP, expoAll, expo, expo.expoL, frIds, frIds.frIdsL, nodupN, kill, cls, clsFuel, resO, RV.get, loadP, evC_p, evC_s, endS, endT, rowsOf, callP, thinL, unfr, unfr.unfrL, PV.noMem, PV.noMem.noMemL, optI, mapO, norm, trimT, trimB, forget, hasN, blksLt, List.set, eSp, el]
  generalize hE : evLoop _ _ _ _ _ = E
  obtain ⟨h, _⟩ := H _ _ hE (by simp [evCode, evOps, evOne, evOp, evPur, evEff, evPur.chunks, fillP, AOp.isEff, AO.ev, putP, PV.cells, PV.leaf, getB, getM, mapE, keyC, mapRows, mfind, eq1, eqL, scal, binP, unP, minP, maxP, foldP, PV.lt, PV.lt.ltL, endP, expoAll, expo, expo.expoL, frIds, frIds.frIdsL, nodupN, kill, cls, clsFuel, resO, RV.get, loadP, evC_p, evC_s, endS, endT, rowsOf, callP, thinL, unfr, unfr.unfrL, PV.noMem, PV.noMem.noMemL, optI, mapO, norm, trimT, trimB, forget, hasN, blksLt, List.set, S15, eSp])
  rw [h]
  unfold atF
  generalize List.foldl (atS name t) (0, false) l = u
  unfold c15b0
  simp [evCode, evOps, evOne, evOp, evPur, evEff, evPur.chunks, fillP, AOp.isEff, AO.ev, putP, PV.cells, PV.leaf, getB, getM, mapE, keyC, mapRows, mfind, eq1, eqL, scal, binP, unP, minP, maxP, foldP, PV.lt, PV.lt.ltL, endP, expoAll, expo, expo.expoL, frIds, frIds.frIdsL, nodupN, kill, cls, clsFuel, resO, RV.get, loadP, evC_p, evC_s, endS, endT, rowsOf, callP, thinL, unfr, unfr.unfrL, PV.noMem, PV.noMem.noMemL, optI, mapO, norm, trimT, trimB, forget, hasN, blksLt, List.set, S15, eSp, el]
def S17 (x : Bool) (l : List Stp) (name : List UInt8) (t : Int) (k : Nat) (u : Int × Bool) : St := ⟨[eSp x l, .str name, .int .i64 t, .top, .top, .top, .top, .top, .int .i64 u.1, .bool u.2, .int .i64 k] ++ List.replicate 29 .top, []⟩
set_option maxRecDepth 100000 in
theorem f17 (x : Bool) (l : List Stp) (hl : l.length ≤ 1000000) (name : List UInt8) (t : Int) : evE Dg 17 [eSp x l, .str name, .int .i64 t] = some (.tup [.int .i64 (atF name t l).1, .bool (atF name t l).2]) := by
  have el : (l.map row).length = l.length := by simp
  have H := loop_foldE (body := evCode (evC Dg) 1000010 c17b0) (keep := [0, 1, 2, 8, 9, 10]) (n0 := 0) (fuel := 1000010) l (S17 x l name t) (atS name t) (fun _ _ => True)
    (by
      rintro k a u ha hk -
      refine ⟨trivial, ?_⟩
      have hk' : (k : Int) < l.length := by omega
      have g1 := map_get (f := row) ha
      have g2 := sp_got ha
      have w1 := wrap_i64 ((k : Int) + 1) (by omega) (by omega)
      obtain ⟨a1, a2, a3⟩ := a
      obtain ⟨u1, u2⟩ := u
      simp only [row] at g1 g2
      unfold atS
      simp only
      by_cases c1 : a1 = name
      · subst c1
        by_cases c2 : a2 ≤ t
        · rw [if_pos ⟨rfl, c2⟩]
          unfold c17b0
          simp [evCode, evOps, evOne, evOp, evPur, evEff, evPur.chunks, fillP, AOp.isEff, AO.ev, putP, PV.cells, PV.leaf, getB, getM, mapE, keyC, mapRows, mfind, eq1, eqL, scal, binP, unP, minP, maxP, foldP, PV.lt, PV.lt.ltL, endP, expoAll, expo, expo.expoL, frIds, frIds.frIdsL, nodupN, kill, cls, clsFuel, resO, RV.get, loadP, evC_p, evC_s, endS, endT, rowsOf, callP, thinL, unfr, unfr.unfrL, PV.noMem, PV.noMem.noMemL, optI, mapO, norm, trimT, trimB, forget, hasN, blksLt, List.set, S17, eSp, el, hk', hk, g1, g2, w1, c2]
        · rw [if_neg (fun h => c2 h.2)]
          unfold c17b0
          simp [evCode, evOps, evOne, evOp, evPur, evEff, evPur.chunks, fillP, AOp.isEff, AO.ev, putP, PV.cells, PV.leaf, getB, getM, mapE, keyC, mapRows, mfind, eq1, eqL, scal, binP, unP, minP, maxP, foldP, PV.lt, PV.lt.ltL, endP, expoAll, expo, expo.expoL, frIds, frIds.frIdsL, nodupN, kill, cls, clsFuel, resO, RV.get, loadP, evC_p, evC_s, endS, endT, rowsOf, callP, thinL, unfr, unfr.unfrL, PV.noMem, PV.noMem.noMemL, optI, mapO, norm, trimT, trimB, forget, hasN, blksLt, List.set, S17, eSp, el, hk', hk, g1, g2, w1, c2]
      · rw [if_neg (fun h => c1 h.1)]
        unfold c17b0
        simp [evCode, evOps, evOne, evOp, evPur, evEff, evPur.chunks, fillP, AOp.isEff, AO.ev, putP, PV.cells, PV.leaf, getB, getM, mapE, keyC, mapRows, mfind, eq1, eqL, scal, binP, unP, minP, maxP, foldP, PV.lt, PV.lt.ltL, endP, expoAll, expo, expo.expoL, frIds, frIds.frIdsL, nodupN, kill, cls, clsFuel, resO, RV.get, loadP, evC_p, evC_s, endS, endT, rowsOf, callP, thinL, unfr, unfr.unfrL, PV.noMem, PV.noMem.noMemL, optI, mapO, norm, trimT, trimB, forget, hasN, blksLt, List.set, S17, eSp, el, hk', hk, g1, g2, w1, c1])
    (by
      intro u _ s
      unfold c17b0
      simp [evCode, evOps, evOne, evOp, evPur, evEff, evPur.chunks, fillP, AOp.isEff, AO.ev, putP, PV.cells, PV.leaf, getB, getM, mapE, keyC, mapRows, mfind, eq1, eqL, scal, binP, unP, minP, maxP, foldP, PV.lt, PV.lt.ltL, endP, expoAll, expo, expo.expoL, frIds, frIds.frIdsL, nodupN, kill, cls, clsFuel, resO, RV.get, loadP, evC_p, evC_s, endS, endT, rowsOf, callP, thinL, unfr, unfr.unfrL, PV.noMem, PV.noMem.noMemL, optI, mapO, norm, trimT, trimB, forget, hasN, blksLt, List.set, S17, eSp, el])
    (by omega) (0, false) trivial
  refine evE_intro 1000010 D17 rfl ?_
  unfold c17
  simp [evCode, evOps, evOne, evOp, evPur, evEff, evPur.chunks, fillP, AOp.isEff, AO.ev, putP, PV.cells, PV.leaf, getB, getM, mapE, keyC, mapRows, mfind, eq1, eqL, scal, binP, unP, minP, maxP, foldP, PV.lt, PV.lt.ltL, endP, expoAll, expo, expo.expoL, frIds, frIds.frIdsL, nodupN, kill, cls, clsFuel, resO, RV.get, loadP, evC_p, evC_s, endS, endT, rowsOf, callP, thinL, unfr, unfr.unfrL, PV.noMem, PV.noMem.noMemL, optI, mapO, norm, trimT, trimB, forget, hasN, blksLt, List.set, eSp, el]
  generalize hE : evLoop _ _ _ _ _ = E
  obtain ⟨h, _⟩ := H _ _ hE (by simp [evCode, evOps, evOne, evOp, evPur, evEff, evPur.chunks, fillP, AOp.isEff, AO.ev, putP, PV.cells, PV.leaf, getB, getM, mapE, keyC, mapRows, mfind, eq1, eqL, scal, binP, unP, minP, maxP, foldP, PV.lt, PV.lt.ltL, endP, expoAll, expo, expo.expoL, frIds, frIds.frIdsL, nodupN, kill, cls, clsFuel, resO, RV.get, loadP, evC_p, evC_s, endS, endT, rowsOf, callP, thinL, unfr, unfr.unfrL, PV.noMem, PV.noMem.noMemL, optI, mapO, norm, trimT, trimB, forget, hasN, blksLt, List.set, S17, eSp])
  rw [h]
  unfold atF
  generalize List.foldl (atS name t) (0, false) l = u
  unfold c17b0
  simp [evCode, evOps, evOne, evOp, evPur, evEff, evPur.chunks, fillP, AOp.isEff, AO.ev, putP, PV.cells, PV.leaf, getB, getM, mapE, keyC, mapRows, mfind, eq1, eqL, scal, binP, unP, minP, maxP, foldP, PV.lt, PV.lt.ltL, endP, expoAll, expo, expo.expoL, frIds, frIds.frIdsL, nodupN, kill, cls, clsFuel, resO, RV.get, loadP, evC_p, evC_s, endS, endT, rowsOf, callP, thinL, unfr, unfr.unfrL, PV.noMem, PV.noMem.noMemL, optI, mapO, norm, trimT, trimB, forget, hasN, blksLt, List.set, S17, eSp, el]
def zS : Stp := ([], 0, 0)
def pkS (name : List UInt8) (u : Stp × Bool) (s : Stp) : Stp × Bool := if s.1 = name ∧ (u.2 = false ∨ u.1.2.2 < s.2.2) then (s, true) else u
def pkF (name : List UInt8) (l : List Stp) : Stp × Bool := l.foldl (pkS name) (zS, false)
def S18 (x : Bool) (l : List Stp) (name : List UInt8) (k : Nat) (u : Stp × Bool) : St := ⟨[.top, .str name, .top, .top, .ptr 0 1 0 0, .top, .ptr 1 1 0 0, .bool u.2, .top, .top, .top, eSp x l, .int .i64 l.length, .int .i64 k] ++ List.replicate 22 .top,
  [some ⟨1, 3, true, [row zS]⟩, some ⟨1, 3, true, [row u.1]⟩]⟩
set_option maxRecDepth 100000 in
theorem f18 (x : Bool) (l : List Stp) (hl : l.length ≤ 1000000) (name : List UInt8) : evE Dg 18 [eSp x l, .str name] = some (.tup [.agg (row (pkF name l).1), .bool (pkF name l).2]) := by
  have el : (l.map row).length = l.length := by simp
  have H := loop_foldE (body := evCode (evC Dg) 1000010 c18b0) (keep := [1, 4, 6, 7, 11, 12, 13]) (n0 := 2) (fuel := 1000010) l (S18 x l name) (pkS name) (fun _ _ => True)
    (by
      rintro k a u ha hk -
      refine ⟨trivial, ?_⟩
      have hk' : (k : Int) < l.length := by omega
      have g1 := map_get (f := row) ha
      have g2 := sp_got ha
      have w1 := wrap_i64 ((k : Int) + 1) (by omega) (by omega)
      obtain ⟨a1, a2, a3⟩ := a
      obtain ⟨⟨u1, u2, u3⟩, ub⟩ := u
      simp only [row] at g1 g2
      unfold pkS
      simp only
      by_cases c1 : a1 = name
      · subst c1
        cases ub with
        | false =>
          rw [if_pos ⟨rfl, .inl rfl⟩]
          unfold c18b0
          simp [evCode, evOps, evOne, evOp, evPur, evEff, evPur.chunks, fillP, AOp.isEff, AO.ev, putP, PV.cells, PV.leaf, getB, getM, mapE, keyC, mapRows, mfind, eq1, eqL, scal, binP, unP, minP, maxP, foldP, PV.lt, PV.lt.ltL, endP, expoAll, expo, expo.expoL, frIds, frIds.frIdsL, nodupN, kill, cls, clsFuel, resO, RV.get, loadP, evC_p, evC_s, endS, endT, rowsOf, callP, thinL, unfr, unfr.unfrL, PV.noMem, PV.noMem.noMemL, optI, mapO, norm, trimT, trimB, forget, hasN, blksLt, List.set, S18, eSp, row, zS, el, hk', hk, g1, g2, w1]
        | true =>
          by_cases c2 : u3 < a3
          · rw [if_pos ⟨rfl, .inr c2⟩]
            unfold c18b0
            simp [evCode, evOps, evOne, evOp, evPur, evEff, evPur.chunks, fillP, AOp.isEff, AO.ev, putP, PV.cells, PV.leaf, getB, getM, mapE, keyC, mapRows, mfind, eq1, eqL, scal, binP, unP, minP, maxP, foldP, PV.lt, PV.lt.ltL, endP, expoAll, expo, expo.expoL, frIds, frIds.frIdsL, nodupN, kill, cls, clsFuel, resO, RV.get, loadP, evC_p, evC_s, endS, endT, rowsOf, callP, thinL, unfr, unfr.unfrL, PV.noMem, PV.noMem.noMemL, optI, mapO, norm, trimT, trimB, forget, hasN, blksLt, List.set, S18, eSp, row, zS, el, hk', hk, g1, g2, w1, c2]
          · rw [if_neg (fun h => h.2.elim (fun h => by cases h) c2)]
            unfold c18b0
            simp [evCode, evOps, evOne, evOp, evPur, evEff, evPur.chunks, fillP, AOp.isEff, AO.ev, putP, PV.cells, PV.leaf, getB, getM, mapE, keyC, mapRows, mfind, eq1, eqL, scal, binP, unP, minP, maxP, foldP, PV.lt, PV.lt.ltL, endP, expoAll, expo, expo.expoL, frIds, frIds.frIdsL, nodupN, kill, cls, clsFuel, resO, RV.get, loadP, evC_p, evC_s, endS, endT, rowsOf, callP, thinL, unfr, unfr.unfrL, PV.noMem, PV.noMem.noMemL, optI, mapO, norm, trimT, trimB, forget, hasN, blksLt, List.set, S18, eSp, row, zS, el, hk', hk, g1, g2, w1, c2]
      · rw [if_neg (fun h => c1 h.1)]
        unfold c18b0
        simp [evCode, evOps, evOne, evOp, evPur, evEff, evPur.chunks, fillP, AOp.isEff, AO.ev, putP, PV.cells, PV.leaf, getB, getM, mapE, keyC, mapRows, mfind, eq1, eqL, scal, binP, unP, minP, maxP, foldP, PV.lt, PV.lt.ltL, endP, expoAll, expo, expo.expoL, frIds, frIds.frIdsL, nodupN, kill, cls, clsFuel, resO, RV.get, loadP, evC_p, evC_s, endS, endT, rowsOf, callP, thinL, unfr, unfr.unfrL, PV.noMem, PV.noMem.noMemL, optI, mapO, norm, trimT, trimB, forget, hasN, blksLt, List.set, S18, eSp, row, zS, el, hk', hk, g1, g2, w1, c1])
    (by
      intro u _ s
      unfold c18b0
      simp [evCode, evOps, evOne, evOp, evPur, evEff, evPur.chunks, fillP, AOp.isEff, AO.ev, putP, PV.cells, PV.leaf, getB, getM, mapE, keyC, mapRows, mfind, eq1, eqL, scal, binP, unP, minP, maxP, foldP, PV.lt, PV.lt.ltL, endP, expoAll, expo, expo.expoL, frIds, frIds.frIdsL, nodupN, kill, cls, clsFuel, resO, RV.get, loadP, evC_p, evC_s, endS, endT, rowsOf, callP, thinL, unfr, unfr.unfrL, PV.noMem, PV.noMem.noMemL, optI, mapO, norm, trimT, trimB, forget, hasN, blksLt, List.set, S18, eSp, el])
    (by omega) (zS, false) trivial
  refine evE_intro 1000010 D18 rfl ?_
  unfold c18
  simp [evCode, evOps, evOne, evOp, evPur, evEff, evPur.chunks, fillP, AOp.isEff, AO.ev, putP, PV.cells, PV.leaf, getB, getM, mapE, keyC, mapRows, mfind, eq1, eqL, scal, binP, unP, minP, maxP, foldP, PV.lt, PV.lt.ltL, endP, expoAll, expo, expo.expoL, frIds, frIds.frIdsL, nodupN, kill, cls, clsFuel, resO, RV.get, loadP, evC_p, evC_s, endS, endT, rowsOf, callP, thinL, unfr, unfr.unfrL, PV.noMem, PV.noMem.noMemL, optI, mapO, norm, trimT, trimB, forget, hasN, blksLt, List.set, eSp, el]
  generalize hE : evLoop _ _ _ _ _ = E
  obtain ⟨h, _⟩ := H _ _ hE (by simp [evCode, evOps, evOne, evOp, evPur, evEff, evPur.chunks, fillP, AOp.isEff, AO.ev, putP, PV.cells, PV.leaf, getB, getM, mapE, keyC, mapRows, mfind, eq1, eqL, scal, binP, unP, minP, maxP, foldP, PV.lt, PV.lt.ltL, endP, expoAll, expo, expo.expoL, frIds, frIds.frIdsL, nodupN, kill, cls, clsFuel, resO, RV.get, loadP, evC_p, evC_s, endS, endT, rowsOf, callP, thinL, unfr, unfr.unfrL, PV.noMem, PV.noMem.noMemL, optI, mapO, norm, trimT, trimB, forget, hasN, blksLt, List.set, S18, eSp, row, zS])
  rw [h]
  unfold pkF
  generalize List.foldl (pkS name) (zS, false) l = u
  obtain ⟨⟨u1, u2, u3⟩, ub⟩ := u
  unfold c18b0
  simp [evCode, evOps, evOne, evOp, evPur, evEff, evPur.chunks, fillP, AOp.isEff, AO.ev, putP, PV.cells, PV.leaf, getB, getM, mapE, keyC, mapRows, mfind, eq1, eqL, scal, binP, unP, minP, maxP, foldP, PV.lt, PV.lt.ltL, endP, expoAll, expo, expo.expoL, frIds, frIds.frIdsL, nodupN, kill, cls, clsFuel, resO, RV.get, loadP, evC_p, evC_s, endS, endT, rowsOf, callP, thinL, unfr, unfr.unfrL, PV.noMem, PV.noMem.noMemL, optI, mapO, norm, trimT, trimB, forget, hasN, blksLt, List.set, S18, eSp, row, zS, el]
def S19 (x : Bool) (l : List Stp) (name : List UInt8) (k : Nat) (b : Int) : St := ⟨[eSp x l, .str name, .top, .top, .ptr 0 1 0 0, .top, .int .i64 b, .int .i64 k] ++ List.replicate 38 .top, [some ⟨1, 3, true, [row zS]⟩]⟩
/-- what the reference knows of the greatest so far -/
def I19 (l : List Stp) (name : List UInt8) (k : Nat) (b : Int) : Prop := (b = -1 ∧ (l.take k).foldl (pkS name) (zS, false) = (zS, false)) ∨ ∃ (j : Nat) (s : Stp), b = j ∧ j < k ∧ l[j]? = some s ∧ (l.take k).foldl (pkS name) (zS, false) = (s, true)
theorem pk_next {l : List Stp} {name : List UInt8} {k : Nat} {a : Stp} (ha : l[k]? = some a) : (l.take (k + 1)).foldl (pkS name) (zS, false) = pkS name ((l.take k).foldl (pkS name) (zS, false)) a := by
  rw [List.take_add_one, List.foldl_append, ha]; rfl
set_option maxRecDepth 100000 in
theorem f19 (x : Bool) (l : List Stp) (hl : l.length ≤ 1000000) (name : List UInt8) : evE Dg 19 [eSp x l, .str name] = some (.tup [.agg (row (pkF name l).1), .bool (pkF name l).2]) := by
  have el : (l.map row).length = l.length := by simp
  have H := loop_inv (body := evCode (evC Dg) 1000010 c19b0) (keep := [0, 1, 4, 6, 7]) (n0 := 1) (fuel := 1000010) l (S19 x l name) (I19 l name) (fun _ => False)
    (by
      rintro k a b ha hk hI
      left
      have hk' : (k : Int) < l.length := by omega
      have g1 := map_get (f := row) ha
      have g2 := sp_got ha
      have w1 := wrap_i64 ((k : Int) + 1) (by omega) (by omega)
      have hn := pk_next (name := name) ha
      obtain ⟨a1, a2, a3⟩ := a
      simp only [row] at g1 g2
      have fin : ∀ b', (∃ s', evCode (evC Dg) 1000010 c19b0 (S19 x l name k b) = some (.normal s') ∧ norm [0, 1, 4, 6, 7] 1 s' = S19 x l name (k + 1) b') → I19 l name (k + 1) b' →
          ∃ x' s', evCode (evC Dg) 1000010 c19b0 (S19 x l name k b) = some (.normal s') ∧ norm [0, 1, 4, 6, 7] 1 s' = S19 x l name (k + 1) x' ∧ I19 l name (k + 1) x' := by
        rintro b' ⟨s', h1, h2⟩ h3
        exact ⟨b', s', h1, h2, h3⟩
      rcases hI with ⟨rfl, hf⟩ | ⟨j, s, rfl, hj, hs, hf⟩
      · rw [hf] at hn
        by_cases c1 : a1 = name
        · refine fin k ?_ (.inr ⟨k, _, rfl, by omega, ha, by rw [hn]; unfold pkS; rw [if_pos ⟨c1, .inl rfl⟩]⟩)
          subst c1
          unfold c19b0
          simp [evCode, evOps, evOne, evOp, evPur, evEff, evPur.chunks, fillP, AOp.isEff, AO.ev, putP, PV.cells, PV.leaf, getB, getM, mapE, keyC, mapRows, mfind, eq1, eqL, scal, binP, unP, minP, maxP, foldP, PV.lt, PV.lt.ltL, endP, expoAll, expo, expo.expoL, frIds, frIds.frIdsL, nodupN, kill, cls, clsFuel, resO, RV.get, loadP, evC_p, evC_s, endS, endT, rowsOf, callP, thinL, unfr, unfr.unfrL, PV.noMem, PV.noMem.noMemL, optI, mapO, norm, trimT, trimB, forget, hasN, blksLt, List.set, S19, eSp, row, zS, el, hk', hk, g1, g2, w1]
        · refine fin (-1) ?_ (.inl ⟨rfl, by rw [hn]; unfold pkS; rw [if_neg (fun h => c1 h.1)]⟩)
          unfold c19b0
          simp [evCode, evOps, evOne, evOp, evPur, evEff, evPur.chunks, fillP, AOp.isEff, AO.ev, putP, PV.cells, PV.leaf, getB, getM, mapE, keyC, mapRows, mfind, eq1, eqL, scal, binP, unP, minP, maxP, foldP, PV.lt, PV.lt.ltL, endP, expoAll, expo, expo.expoL, frIds, frIds.frIdsL, nodupN, kill, cls, clsFuel, resO, RV.get, loadP, evC_p, evC_s, endS, endT, rowsOf, callP, thinL, unfr, unfr.unfrL, PV.noMem, PV.noMem.noMemL, optI, mapO, norm, trimT, trimB, forget, hasN, blksLt, List.set, S19, eSp, row, zS, el, hk', hk, g1, g2, w1, c1]
      · rw [hf] at hn
        have p1 := map_get (f := row) hs
        have p2 := sp_got hs
        have hjl : j < l.length := by omega
        have hjl' : (j : Int) < l.length := by omega
        have hj0 : ¬ (j : Int) < 0 := by omega
        obtain ⟨s1, s2, s3⟩ := s
        simp only [row] at p1 p2
        by_cases c1 : a1 = name
        · by_cases c2 : s3 < a3
          · refine fin k ?_ (.inr ⟨k, _, rfl, by omega, ha, by rw [hn]; unfold pkS; rw [if_pos ⟨c1, .inr c2⟩]⟩)
            subst c1
            unfold c19b0
            simp [evCode, evOps, evOne, evOp, evPur, evEff, evPur.chunks, fillP, AOp.isEff, AO.ev, putP, PV.cells, PV.leaf, getB, getM, mapE, keyC, mapRows, mfind, eq1, eqL, scal, binP, unP, minP, maxP, foldP, PV.lt, PV.lt.ltL, endP, expoAll, expo, expo.expoL, frIds, frIds.frIdsL, nodupN, kill, cls, clsFuel, resO, RV.get, loadP, evC_p, evC_s, endS, endT, rowsOf, callP, thinL, unfr, unfr.unfrL, PV.noMem, PV.noMem.noMemL, optI, mapO, norm, trimT, trimB, forget, hasN, blksLt, List.set, S19, eSp, row, zS, el, hk', hk, g1, g2, w1, p1, p2, hjl, hjl', hj0, c2]
          · refine fin j ?_ (.inr ⟨j, _, rfl, by omega, hs, by rw [hn]; unfold pkS; rw [if_neg (fun h => h.2.elim (fun h => by cases h) c2)]⟩)
            subst c1
            unfold c19b0
            simp [evCode, evOps, evOne, evOp, evPur, evEff, evPur.chunks, fillP, AOp.isEff, AO.ev, putP, PV.cells, PV.leaf, getB, getM, mapE, keyC, mapRows, mfind, eq1, eqL, scal, binP, unP, minP, maxP, foldP, PV.lt, PV.lt.ltL, endP, expoAll, expo, expo.expoL, frIds, frIds.frIdsL, nodupN, kill, cls, clsFuel, resO, RV.get, loadP, evC_p, evC_s, endS, endT, rowsOf, callP, thinL, unfr, unfr.unfrL, PV.noMem, PV.noMem.noMemL, optI, mapO, norm, trimT, trimB, forget, hasN, blksLt, List.set, S19, eSp, row, zS, el, hk', hk, g1, g2, w1, p1, p2, hjl, hjl', hj0, c2]
        · refine fin j ?_ (.inr ⟨j, _, rfl, by omega, hs, by rw [hn]; unfold pkS; rw [if_neg (fun h => c1 h.1)]⟩)
          unfold c19b0
          simp [evCode, evOps, evOne, evOp, evPur, evEff, evPur.chunks, fillP, AOp.isEff, AO.ev, putP, PV.cells, PV.leaf, getB, getM, mapE, keyC, mapRows, mfind, eq1, eqL, scal, binP, unP, minP, maxP, foldP, PV.lt, PV.lt.ltL, endP, expoAll, expo, expo.expoL, frIds, frIds.frIdsL, nodupN, kill, cls, clsFuel, resO, RV.get, loadP, evC_p, evC_s, endS, endT, rowsOf, callP, thinL, unfr, unfr.unfrL, PV.noMem, PV.noMem.noMemL, optI, mapO, norm, trimT, trimB, forget, hasN, blksLt, List.set, S19, eSp, row, zS, el, hk', hk, g1, g2, w1, c1])
    (by
      intro u _ s
      unfold c19b0
      simp [evCode, evOps, evOne, evOp, evPur, evEff, evPur.chunks, fillP, AOp.isEff, AO.ev, putP, PV.cells, PV.leaf, getB, getM, mapE, keyC, mapRows, mfind, eq1, eqL, scal, binP, unP, minP, maxP, foldP, PV.lt, PV.lt.ltL, endP, expoAll, expo, expo.expoL, frIds, frIds.frIdsL, nodupN, kill, cls, clsFuel, resO, RV.get, loadP, evC_p, evC_s, endS, endT, rowsOf, callP, thinL, unfr, unfr.unfrL, PV.noMem, PV.noMem.noMemL, optI, mapO, norm, trimT, trimB, forget, hasN, blksLt, List.set, S19, eSp, el])
    (by omega) (-1) (.inl ⟨rfl, rfl⟩)
  refine evE_intro 1000010 D19 rfl ?_
  unfold c19
  simp [evCode, evOps, evOne, evOp, evPur, evEff, evPur.chunks, fillP, AOp.isEff, AO.ev, putP, PV.cells, PV.leaf, getB, getM, mapE, keyC, mapRows, mfind, eq1, eqL, scal, binP, unP, minP, maxP, foldP, PV.lt, PV.lt.ltL, endP, expoAll, expo, expo.expoL, frIds, frIds.frIdsL, nodupN, kill, cls, clsFuel, resO, RV.get, loadP, evC_p, evC_s, endS, endT, rowsOf, callP, thinL, unfr, unfr.unfrL, PV.noMem, PV.noMem.noMemL, optI, mapO, norm, trimT, trimB, forget, hasN, blksLt, List.set, eSp, el]
  generalize hE : evLoop _ _ _ _ _ = E
  rcases H _ _ hE (by simp [evCode, evOps, evOne, evOp, evPur, evEff, evPur.chunks, fillP, AOp.isEff, AO.ev, putP, PV.cells, PV.leaf, getB, getM, mapE, keyC, mapRows, mfind, eq1, eqL, scal, binP, unP, minP, maxP, foldP, PV.lt, PV.lt.ltL, endP, expoAll, expo, expo.expoL, frIds, frIds.frIdsL, nodupN, kill, cls, clsFuel, resO, RV.get, loadP, evC_p, evC_s, endS, endT, rowsOf, callP, thinL, unfr, unfr.unfrL, PV.noMem, PV.noMem.noMemL, optI, mapO, norm, trimT, trimB, forget, hasN, blksLt, List.set, S19, eSp, row, zS]) with ⟨b, hI, h⟩ | ⟨_, _, h⟩
  · rw [h]
    unfold I19 at hI
    rw [List.take_length] at hI
    unfold pkF
    rcases hI with ⟨rfl, hf⟩ | ⟨j, s, rfl, hj, hs, hf⟩
    · rw [hf]
      unfold c19b0
      simp [evCode, evOps, evOne, evOp, evPur, evEff, evPur.chunks, fillP, AOp.isEff, AO.ev, putP, PV.cells, PV.leaf, getB, getM, mapE, keyC, mapRows, mfind, eq1, eqL, scal, binP, unP, minP, maxP, foldP, PV.lt, PV.lt.ltL, endP, expoAll, expo, expo.expoL, frIds, frIds.frIdsL, nodupN, kill, cls, clsFuel, resO, RV.get, loadP, evC_p, evC_s, endS, endT, rowsOf, callP, thinL, unfr, unfr.unfrL, PV.noMem, PV.noMem.noMemL, optI, mapO, norm, trimT, trimB, forget, hasN, blksLt, List.set, S19, eSp, row, zS, el]
    · rw [hf]
      have p1 := map_get (f := row) hs
      have p2 := sp_got hs
      have hjl' : (j : Int) < l.length := by omega
      have hj0 : ¬ (j : Int) < 0 := by omega
      obtain ⟨s1, s2, s3⟩ := s
      simp only [row] at p1 p2
      unfold c19b0
      simp [evCode, evOps, evOne, evOp, evPur, evEff, evPur.chunks, fillP, AOp.isEff, AO.ev, putP, PV.cells, PV.leaf, getB, getM, mapE, keyC, mapRows, mfind, eq1, eqL, scal, binP, unP, minP, maxP, foldP, PV.lt, PV.lt.ltL, endP, expoAll, expo, expo.expoL, frIds, frIds.frIdsL, nodupN, kill, cls, clsFuel, resO, RV.get, loadP, evC_p, evC_s, endS, endT, rowsOf, callP, thinL, unfr, unfr.unfrL, PV.noMem, PV.noMem.noMemL, optI, mapO, norm, trimT, trimB, forget, hasN, blksLt, List.set, S19, eSp, row, zS, el, p1, p2, hj, hjl', hj0]
  · exact h.elim
/-- a value is that of a step -/
theorem at_some {name : List UInt8} {t : Int} {l : List Stp} (h : (atF name t l).2 = true) : ∃ s ∈ l, s.1 = name ∧ s.2.2 = (atF name t l).1 := by
  unfold atF at *
  have key : ∀ (r : List Stp) (u : Int × Bool), (∀ s ∈ r, s ∈ l) → (u.2 = true → ∃ s ∈ l, s.1 = name ∧ s.2.2 = u.1) → ((r.foldl (atS name t) u).2 = true → ∃ s ∈ l, s.1 = name ∧ s.2.2 = (r.foldl (atS name t) u).1) := by
    intro r
    induction r with
    | nil => intro u _ h; exact h
    | cons a r ih =>
      intro u hr hu
      refine ih _ (fun s hs => hr s (List.mem_cons_of_mem _ hs)) ?_
      unfold atS
      split
      · rename_i hc
        exact fun _ => ⟨a, hr a (List.mem_cons_self), hc.1, rfl⟩
      · exact hu
  exact key l _ (fun s hs => hs) (fun h => by cases h) h
/-- no value is greater than the peak's -/
theorem pk_max {name : List UInt8} {l : List Stp} {s : Stp} (hs : s ∈ l) (hn : s.1 = name) : (pkF name l).2 = true ∧ s.2.2 ≤ (pkF name l).1.2.2 := by
  unfold pkF
  have mono : ∀ (r : List Stp) (u : Stp × Bool), u.2 = true → (r.foldl (pkS name) u).2 = true ∧ u.1.2.2 ≤ (r.foldl (pkS name) u).1.2.2 := by
    intro r
    induction r with
    | nil => intro u h; exact ⟨h, Int.le_refl _⟩
    | cons a r ih =>
      intro u h
      have h1 : (pkS name u a).2 = true ∧ u.1.2.2 ≤ (pkS name u a).1.2.2 := by
        unfold pkS
        split
        · rename_i hc
          rcases hc.2 with hc | hc
          · rw [h] at hc; cases hc
          · exact ⟨rfl, by simp only; omega⟩
        · exact ⟨h, Int.le_refl _⟩
      have h2 := ih _ h1.1
      exact ⟨h2.1, Int.le_trans h1.2 h2.2⟩
  have key : ∀ (r : List Stp) (u : Stp × Bool), s ∈ r → (r.foldl (pkS name) u).2 = true ∧ s.2.2 ≤ (r.foldl (pkS name) u).1.2.2 := by
    intro r
    induction r with
    | nil => intro u h; cases h
    | cons a r ih =>
      intro u h
      rcases List.mem_cons.1 h with rfl | h
      · have h1 : (pkS name u s).2 = true ∧ s.2.2 ≤ (pkS name u s).1.2.2 := by
          unfold pkS
          split
          · exact ⟨rfl, Int.le_refl _⟩
          · rename_i hc
            cases hu : u.2 with
            | false => exact absurd ⟨hn, .inl hu⟩ hc
            | true => exact ⟨rfl, by have : ¬ u.1.2.2 < s.2.2 := fun h => hc ⟨hn, .inr h⟩; omega⟩
        have h2 := mono r _ h1.1
        exact ⟨h2.1, Int.le_trans h1.2 h2.2⟩
      · exact ih _ h
  exact key l _ hs
end Go.Proofs.Ytecmcggnpgjbiaa
