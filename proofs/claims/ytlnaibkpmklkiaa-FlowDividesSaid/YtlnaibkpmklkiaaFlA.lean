/- Flows in lists: Between of both, and Same. -/
import Derived.Test.YtlnaibkpmklkiaaAw
namespace Go.Proofs.Ytlnaibkpmklkiaa
open Go Go.RowKit
set_option linter.unusedVariables false
set_option linter.unusedSimpArgs false

structure Fl where
  i : Int
  a : Int
  b : Int
  c : Int
  d : Int
  s : Int
  r : Int
  deriving DecidableEq
def fRow (f : Fl) : List PV := [.int .i64 f.i, .int .i64 f.a, .int .i64 f.b, .int .i64 f.c, .int .i64 f.d, .int .i64 f.s, .int .i64 f.r]
def fRows (l : List Fl) : List (List PV) := l.map fRow
theorem fRows_len (l : List Fl) : (fRows l).length = l.length := by simp [fRows]
theorem fRows_get {l : List Fl} {i : Nat} {t : Fl} (h : l[i]? = some t) : (fRows l)[i]? = some (fRow t) := by simp [fRows, h]
theorem fRows_getE {l : List Fl} {i : Nat} {t : Fl} (h : l[i]? = some t) : ∀ g, (fRows l)[i]'g = fRow t := fun g => by
  have := fRows_get h
  rw [List.getElem?_eq_getElem g] at this
  exact Option.some.inj this
theorem fRows_add (l : List Fl) (f : Fl) : fRows l ++ [fRow f] = fRows (l ++ [f]) := by simp [fRows]
theorem fRows_take (l : List Fl) (n : Nat) : (fRows l).take n = fRows (l.take n) := by simp [fRows, List.map_take]
theorem fRows_all (l : List Fl) : (fRows l).take l.length = fRows l := by rw [List.take_of_length_le (by simp [fRows])]

def okN (n : Int) : Bool := decide (0 ≤ n ∧ n ≤ 1000000000000000)
def okT (n : Int) : Bool := decide (0 ≤ n ∧ n ≤ 1000000000000)
def okI (a b : Int) : Bool := okN a && okN b

theorem f29 (n : Int) : evE Dg 29 [.int .i64 n] = some (.bool (okN n)) := by
  unfold okN
  refine evE_intro 1 D29 rfl ?_
  unfold c29
  by_cases h1 : 0 ≤ n <;> by_cases h2 : n ≤ 1000000000000000 <;> simp [evCode, evOps, evOne, evOp, evPur, evEff, evPur.chunks, fillP, AOp.isEff, AO.ev, putP, PV.cells, PV.leaf, getB, getM, mapE, iterE, keyC, mapRows, mfind, eq1, eqL, scal, binP, unP, minP, maxP, foldP, PV.lt, PV.lt.ltL, endP, expoAll, expoG, expo, expo.expoL, frIds, frIds.frIdsL, nodupN, kill, cls, clsFuel, resO, RV.get, loadP, evC_p, evC_s, endS, endT, rowsOf, callP, thinL, unfr, unfr.unfrL, PV.noMem, PV.noMem.noMemL, optI, mapO, norm, trimT, trimB, forget, hasN, blksLt, List.set, softChk, softGo, softRd, effTg, rdP, h1, h2]
theorem f32 (n : Int) : evE Dg 32 [.int .i64 n] = some (.bool (okN n)) := by
  unfold okN
  refine evE_intro 1 D32 rfl ?_
  unfold c32
  by_cases h1 : 0 ≤ n <;> by_cases h2 : n ≤ 1000000000000000 <;> simp [evCode, evOps, evOne, evOp, evPur, evEff, evPur.chunks, fillP, AOp.isEff, AO.ev, putP, PV.cells, PV.leaf, getB, getM, mapE, iterE, keyC, mapRows, mfind, eq1, eqL, scal, binP, unP, minP, maxP, foldP, PV.lt, PV.lt.ltL, endP, expoAll, expoG, expo, expo.expoL, frIds, frIds.frIdsL, nodupN, kill, cls, clsFuel, resO, RV.get, loadP, evC_p, evC_s, endS, endT, rowsOf, callP, thinL, unfr, unfr.unfrL, PV.noMem, PV.noMem.noMemL, optI, mapO, norm, trimT, trimB, forget, hasN, blksLt, List.set, softChk, softGo, softRd, effTg, rdP, h1, h2]
theorem f31 (n : Int) : evE Dg 31 [.int .i64 n] = some (.bool (okT n)) := by
  unfold okT
  refine evE_intro 1 D31 rfl ?_
  unfold c31
  by_cases h1 : 0 ≤ n <;> by_cases h2 : n ≤ 1000000000000 <;> simp [evCode, evOps, evOne, evOp, evPur, evEff, evPur.chunks, fillP, AOp.isEff, AO.ev, putP, PV.cells, PV.leaf, getB, getM, mapE, iterE, keyC, mapRows, mfind, eq1, eqL, scal, binP, unP, minP, maxP, foldP, PV.lt, PV.lt.ltL, endP, expoAll, expoG, expo, expo.expoL, frIds, frIds.frIdsL, nodupN, kill, cls, clsFuel, resO, RV.get, loadP, evC_p, evC_s, endS, endT, rowsOf, callP, thinL, unfr, unfr.unfrL, PV.noMem, PV.noMem.noMemL, optI, mapO, norm, trimT, trimB, forget, hasN, blksLt, List.set, softChk, softGo, softRd, effTg, rdP, h1, h2]
theorem f33 (n : Int) : evE Dg 33 [.int .i64 n] = some (.bool (okT n)) := by
  unfold okT
  refine evE_intro 1 D33 rfl ?_
  unfold c33
  by_cases h1 : 0 ≤ n <;> by_cases h2 : n ≤ 1000000000000 <;> simp [evCode, evOps, evOne, evOp, evPur, evEff, evPur.chunks, fillP, AOp.isEff, AO.ev, putP, PV.cells, PV.leaf, getB, getM, mapE, iterE, keyC, mapRows, mfind, eq1, eqL, scal, binP, unP, minP, maxP, foldP, PV.lt, PV.lt.ltL, endP, expoAll, expoG, expo, expo.expoL, frIds, frIds.frIdsL, nodupN, kill, cls, clsFuel, resO, RV.get, loadP, evC_p, evC_s, endS, endT, rowsOf, callP, thinL, unfr, unfr.unfrL, PV.noMem, PV.noMem.noMemL, optI, mapO, norm, trimT, trimB, forget, hasN, blksLt, List.set, softChk, softGo, softRd, effTg, rdP, h1, h2]
theorem f30 (a b : Int) : evE Dg 30 [.agg [.int .i64 a, .int .i64 b]] = some (.bool (okI a b)) := by
  unfold okI
  have h1 := f29 a
  have h2 := f29 b
  refine evE_intro 1 D30 rfl ?_
  unfold c30
  generalize okN a = x at *
  generalize okN b = y at *
  cases x <;> simp [evCode, evOps, evOne, evOp, evPur, evEff, evPur.chunks, fillP, AOp.isEff, AO.ev, putP, PV.cells, PV.leaf, getB, getM, mapE, iterE, keyC, mapRows, mfind, eq1, eqL, scal, binP, unP, minP, maxP, foldP, PV.lt, PV.lt.ltL, endP, expoAll, expoG, expo, expo.expoL, frIds, frIds.frIdsL, nodupN, kill, cls, clsFuel, resO, RV.get, loadP, evC_p, evC_s, endS, endT, rowsOf, callP, thinL, unfr, unfr.unfrL, PV.noMem, PV.noMem.noMemL, optI, mapO, norm, trimT, trimB, forget, hasN, blksLt, List.set, softChk, softGo, softRd, effTg, rdP, h1, h2]

/-- the flows between two threads -/
def btw (x y : Int) (o : List Fl) (f : Fl) : List Fl := if f.a = x ∧ f.c = y then o ++ [f] else o

def S18 (ex : Bool) (l : List Fl) (x y : Int) (k : Nat) (o : List Fl) : St :=
  ⟨[.top, .int .i64 x, .int .i64 y, .top, .top, .top, .top, .own 1 o.length 0 o.length, .top, .top, .sl ex 7 (fRows l), .int .i64 l.length, .int .i64 k] ++ List.replicate 21 .top, [some ⟨0, 7, true, []⟩, some ⟨o.length, 7, true, fRows o⟩]⟩
set_option maxRecDepth 100000 in
theorem turn18 (ex : Bool) (l : List Fl) (x y : Int) (hl : l.length ≤ 2000) (s0 : St) (E : Option Out)
    (hE : evLoop (evCode (evC Dg) 3000 c18b0) [1, 2, 7, 10, 11, 12] 2 3000 s0 = E) (h0 : norm [1, 2, 7, 10, 11, 12] 2 s0 = S18 ex l x y 0 []) :
    E = evCode (evC Dg) 3000 c18b0 (S18 ex l x y l.length (l.foldl (btw x y) [])) ∧ (l.foldl (btw x y) []).length ≤ l.length := by
  have H := loop_foldE (body := evCode (evC Dg) 3000 c18b0) (keep := [1, 2, 7, 10, 11, 12]) (n0 := 2) (fuel := 3000) l (S18 ex l x y) (btw x y) (fun k o => o.length ≤ k) ?_ ?_ (by omega) [] (by simp) s0 E hE h0
  · exact H
  · intro k f o hf hk hI
    have w1 := wrap_i64 ((k : Int) + 1) (by omega) (by omega)
    have hk' : (k : Int) < l.length := by omega
    have eL := fRows_len l
    have eO := fRows_len o
    have eg := fRows_get hf
    have eg' := fRows_getE hf
    have a1 : (o.length + 1) * 56 ≤ 140737488355328 := by omega
    have a2 : o.length + 1 ≤ 140737488355328 := by omega
    unfold btw
    by_cases h1 : f.a = x
    · by_cases h2 : f.c = y
      · rw [if_pos ⟨h1, h2⟩]
        have er := (fRows_add o f).symm
        refine ⟨by simp; omega, ?_⟩
        unfold c18b0
        simp [evCode, evOps, evOne, evOp, evPur, evEff, evPur.chunks, fillP, AOp.isEff, AO.ev, putP, PV.cells, PV.leaf, getB, getM, mapE, iterE, keyC, mapRows, mfind, eq1, eqL, scal, binP, unP, minP, maxP, foldP, PV.lt, PV.lt.ltL, endP, expoAll, expoG, expo, expo.expoL, frIds, frIds.frIdsL, nodupN, kill, cls, clsFuel, resO, RV.get, loadP, evC_p, evC_s, endS, endT, rowsOf, callP, thinL, unfr, unfr.unfrL, PV.noMem, PV.noMem.noMemL, optI, mapO, norm, trimT, trimB, forget, hasN, blksLt, List.set, softChk, softGo, softRd, effTg, rdP, S18, hk, hk', w1, eL, eO, eg, eg', fRow, h1, h2, a1, a2, er]
      · rw [if_neg (fun h => h2 h.2)]
        refine ⟨by omega, ?_⟩
        unfold c18b0
        simp [evCode, evOps, evOne, evOp, evPur, evEff, evPur.chunks, fillP, AOp.isEff, AO.ev, putP, PV.cells, PV.leaf, getB, getM, mapE, iterE, keyC, mapRows, mfind, eq1, eqL, scal, binP, unP, minP, maxP, foldP, PV.lt, PV.lt.ltL, endP, expoAll, expoG, expo, expo.expoL, frIds, frIds.frIdsL, nodupN, kill, cls, clsFuel, resO, RV.get, loadP, evC_p, evC_s, endS, endT, rowsOf, callP, thinL, unfr, unfr.unfrL, PV.noMem, PV.noMem.noMemL, optI, mapO, norm, trimT, trimB, forget, hasN, blksLt, List.set, softChk, softGo, softRd, effTg, rdP, S18, hk, hk', w1, eL, eO, eg, eg', fRow, h1, h2]
    · rw [if_neg (fun h => h1 h.1)]
      refine ⟨by omega, ?_⟩
      unfold c18b0
      simp [evCode, evOps, evOne, evOp, evPur, evEff, evPur.chunks, fillP, AOp.isEff, AO.ev, putP, PV.cells, PV.leaf, getB, getM, mapE, iterE, keyC, mapRows, mfind, eq1, eqL, scal, binP, unP, minP, maxP, foldP, PV.lt, PV.lt.ltL, endP, expoAll, expoG, expo, expo.expoL, frIds, frIds.frIdsL, nodupN, kill, cls, clsFuel, resO, RV.get, loadP, evC_p, evC_s, endS, endT, rowsOf, callP, thinL, unfr, unfr.unfrL, PV.noMem, PV.noMem.noMemL, optI, mapO, norm, trimT, trimB, forget, hasN, blksLt, List.set, softChk, softGo, softRd, effTg, rdP, S18, hk, hk', w1, eL, eO, eg, eg', fRow, h1]
  · intro o _ s
    unfold c18b0
    simp [evCode, evOps, evOne, evOp, evPur, evEff, evPur.chunks, fillP, AOp.isEff, AO.ev, putP, PV.cells, PV.leaf, getB, getM, mapE, iterE, keyC, mapRows, mfind, eq1, eqL, scal, binP, unP, minP, maxP, foldP, PV.lt, PV.lt.ltL, endP, expoAll, expoG, expo, expo.expoL, frIds, frIds.frIdsL, nodupN, kill, cls, clsFuel, resO, RV.get, loadP, evC_p, evC_s, endS, endT, rowsOf, callP, thinL, unfr, unfr.unfrL, PV.noMem, PV.noMem.noMemL, optI, mapO, norm, trimT, trimB, forget, hasN, blksLt, List.set, softChk, softGo, softRd, effTg, rdP, S18]
set_option maxRecDepth 100000 in
theorem f18 (ex : Bool) (l : List Fl) (x y : Int) (hl : l.length ≤ 2000) : evE Dg 18 [.sl ex 7 (fRows l), .int .i64 x, .int .i64 y] = some (.fr 7 (fRows (l.foldl (btw x y) []))) := by
  refine evE_intro 3000 D18 rfl ?_
  unfold c18
  have eL := fRows_len l
  simp [evCode, evOps, evOne, evOp, evPur, evEff, evPur.chunks, fillP, AOp.isEff, AO.ev, putP, PV.cells, PV.leaf, getB, getM, mapE, iterE, keyC, mapRows, mfind, eq1, eqL, scal, binP, unP, minP, maxP, foldP, PV.lt, PV.lt.ltL, endP, expoAll, expoG, expo, expo.expoL, frIds, frIds.frIdsL, nodupN, kill, cls, clsFuel, resO, RV.get, loadP, evC_p, evC_s, endS, endT, rowsOf, callP, thinL, unfr, unfr.unfrL, PV.noMem, PV.noMem.noMemL, optI, mapO, norm, trimT, trimB, forget, hasN, blksLt, List.set, softChk, softGo, softRd, effTg, rdP, eL]
  generalize hE : evLoop (evCode (evC Dg) 3000 c18b0) [1, 2, 7, 10, 11, 12] 2 3000 _ = E
  obtain ⟨T, hlen⟩ := turn18 ex l x y hl _ E hE (by simp [evCode, evOps, evOne, evOp, evPur, evEff, evPur.chunks, fillP, AOp.isEff, AO.ev, putP, PV.cells, PV.leaf, getB, getM, mapE, iterE, keyC, mapRows, mfind, eq1, eqL, scal, binP, unP, minP, maxP, foldP, PV.lt, PV.lt.ltL, endP, expoAll, expoG, expo, expo.expoL, frIds, frIds.frIdsL, nodupN, kill, cls, clsFuel, resO, RV.get, loadP, evC_p, evC_s, endS, endT, rowsOf, callP, thinL, unfr, unfr.unfrL, PV.noMem, PV.noMem.noMemL, optI, mapO, norm, trimT, trimB, forget, hasN, blksLt, List.set, softChk, softGo, softRd, effTg, rdP, S18, fRows])
  rw [T]
  generalize l.foldl (btw x y) [] = o at *
  have eO := fRows_len o
  unfold c18b0
  simp [evCode, evOps, evOne, evOp, evPur, evEff, evPur.chunks, fillP, AOp.isEff, AO.ev, putP, PV.cells, PV.leaf, getB, getM, mapE, iterE, keyC, mapRows, mfind, eq1, eqL, scal, binP, unP, minP, maxP, foldP, PV.lt, PV.lt.ltL, endP, expoAll, expoG, expo, expo.expoL, frIds, frIds.frIdsL, nodupN, kill, cls, clsFuel, resO, RV.get, loadP, evC_p, evC_s, endS, endT, rowsOf, callP, thinL, unfr, unfr.unfrL, PV.noMem, PV.noMem.noMemL, optI, mapO, norm, trimT, trimB, forget, hasN, blksLt, List.set, softChk, softGo, softRd, effTg, rdP, S18, eO]

def S19 (ex : Bool) (l : List Fl) (x y : Int) (k : Nat) (o : List Fl) : St :=
  ⟨[.sl ex 7 (fRows l), .int .i64 x, .int .i64 y, .top, .top, .top, .top, .own 1 o.length 0 o.length, .int .i64 k] ++ List.replicate 32 .top, [some ⟨0, 7, true, []⟩, some ⟨o.length, 7, true, fRows o⟩]⟩
set_option maxRecDepth 100000 in
theorem turn19 (ex : Bool) (l : List Fl) (x y : Int) (hl : l.length ≤ 2000) (s0 : St) (E : Option Out)
    (hE : evLoop (evCode (evC Dg) 3000 c19b0) [0, 1, 2, 7, 8] 2 3000 s0 = E) (h0 : norm [0, 1, 2, 7, 8] 2 s0 = S19 ex l x y 0 []) :
    E = evCode (evC Dg) 3000 c19b0 (S19 ex l x y l.length (l.foldl (btw x y) [])) ∧ (l.foldl (btw x y) []).length ≤ l.length := by
  have H := loop_foldE (body := evCode (evC Dg) 3000 c19b0) (keep := [0, 1, 2, 7, 8]) (n0 := 2) (fuel := 3000) l (S19 ex l x y) (btw x y) (fun k o => o.length ≤ k) ?_ ?_ (by omega) [] (by simp) s0 E hE h0
  · exact H
  · intro k f o hf hk hI
    have w1 := wrap_i64 ((k : Int) + 1) (by omega) (by omega)
    have hk' : (k : Int) < l.length := by omega
    have eL := fRows_len l
    have eO := fRows_len o
    have eg := fRows_get hf
    have eg' := fRows_getE hf
    have a1 : (o.length + 1) * 56 ≤ 140737488355328 := by omega
    have a2 : o.length + 1 ≤ 140737488355328 := by omega
    unfold btw
    by_cases h1 : f.a = x
    · by_cases h2 : f.c = y
      · rw [if_pos ⟨h1, h2⟩]
        have er := (fRows_add o f).symm
        refine ⟨by simp; omega, ?_⟩
        unfold c19b0
        simp [evCode, evOps, evOne, evOp, evPur, evEff, evPur.chunks, fillP, AOp.isEff, AO.ev, putP, PV.cells, PV.leaf, getB, getM, mapE, iterE, keyC, mapRows, mfind, eq1, eqL, scal, binP, unP, minP, maxP, foldP, PV.lt, PV.lt.ltL, endP, expoAll, expoG, expo, expo.expoL, frIds, frIds.frIdsL, nodupN, kill, cls, clsFuel, resO, RV.get, loadP, evC_p, evC_s, endS, endT, rowsOf, callP, thinL, unfr, unfr.unfrL, PV.noMem, PV.noMem.noMemL, optI, mapO, norm, trimT, trimB, forget, hasN, blksLt, List.set, softChk, softGo, softRd, effTg, rdP, S19, hk, hk', w1, eL, eO, eg, eg', fRow, h1, h2, a1, a2, er]
      · rw [if_neg (fun h => h2 h.2)]
        refine ⟨by omega, ?_⟩
        unfold c19b0
        simp [evCode, evOps, evOne, evOp, evPur, evEff, evPur.chunks, fillP, AOp.isEff, AO.ev, putP, PV.cells, PV.leaf, getB, getM, mapE, iterE, keyC, mapRows, mfind, eq1, eqL, scal, binP, unP, minP, maxP, foldP, PV.lt, PV.lt.ltL, endP, expoAll, expoG, expo, expo.expoL, frIds, frIds.frIdsL, nodupN, kill, cls, clsFuel, resO, RV.get, loadP, evC_p, evC_s, endS, endT, rowsOf, callP, thinL, unfr, unfr.unfrL, PV.noMem, PV.noMem.noMemL, optI, mapO, norm, trimT, trimB, forget, hasN, blksLt, List.set, softChk, softGo, softRd, effTg, rdP, S19, hk, hk', w1, eL, eO, eg, eg', fRow, h1, h2]
    · rw [if_neg (fun h => h1 h.1)]
      refine ⟨by omega, ?_⟩
      unfold c19b0
      simp [evCode, evOps, evOne, evOp, evPur, evEff, evPur.chunks, fillP, AOp.isEff, AO.ev, putP, PV.cells, PV.leaf, getB, getM, mapE, iterE, keyC, mapRows, mfind, eq1, eqL, scal, binP, unP, minP, maxP, foldP, PV.lt, PV.lt.ltL, endP, expoAll, expoG, expo, expo.expoL, frIds, frIds.frIdsL, nodupN, kill, cls, clsFuel, resO, RV.get, loadP, evC_p, evC_s, endS, endT, rowsOf, callP, thinL, unfr, unfr.unfrL, PV.noMem, PV.noMem.noMemL, optI, mapO, norm, trimT, trimB, forget, hasN, blksLt, List.set, softChk, softGo, softRd, effTg, rdP, S19, hk, hk', w1, eL, eO, eg, eg', fRow, h1]
  · intro o _ s
    have eL := fRows_len l
    unfold c19b0
    simp [evCode, evOps, evOne, evOp, evPur, evEff, evPur.chunks, fillP, AOp.isEff, AO.ev, putP, PV.cells, PV.leaf, getB, getM, mapE, iterE, keyC, mapRows, mfind, eq1, eqL, scal, binP, unP, minP, maxP, foldP, PV.lt, PV.lt.ltL, endP, expoAll, expoG, expo, expo.expoL, frIds, frIds.frIdsL, nodupN, kill, cls, clsFuel, resO, RV.get, loadP, evC_p, evC_s, endS, endT, rowsOf, callP, thinL, unfr, unfr.unfrL, PV.noMem, PV.noMem.noMemL, optI, mapO, norm, trimT, trimB, forget, hasN, blksLt, List.set, softChk, softGo, softRd, effTg, rdP, S19, eL]
set_option maxRecDepth 100000 in
theorem f19 (ex : Bool) (l : List Fl) (x y : Int) (hl : l.length ≤ 2000) : evE Dg 19 [.sl ex 7 (fRows l), .int .i64 x, .int .i64 y] = some (.fr 7 (fRows (l.foldl (btw x y) []))) := by
  refine evE_intro 3000 D19 rfl ?_
  unfold c19
  have eL := fRows_len l
  simp [evCode, evOps, evOne, evOp, evPur, evEff, evPur.chunks, fillP, AOp.isEff, AO.ev, putP, PV.cells, PV.leaf, getB, getM, mapE, iterE, keyC, mapRows, mfind, eq1, eqL, scal, binP, unP, minP, maxP, foldP, PV.lt, PV.lt.ltL, endP, expoAll, expoG, expo, expo.expoL, frIds, frIds.frIdsL, nodupN, kill, cls, clsFuel, resO, RV.get, loadP, evC_p, evC_s, endS, endT, rowsOf, callP, thinL, unfr, unfr.unfrL, PV.noMem, PV.noMem.noMemL, optI, mapO, norm, trimT, trimB, forget, hasN, blksLt, List.set, softChk, softGo, softRd, effTg, rdP, eL]
  generalize hE : evLoop (evCode (evC Dg) 3000 c19b0) [0, 1, 2, 7, 8] 2 3000 _ = E
  obtain ⟨T, hlen⟩ := turn19 ex l x y hl _ E hE (by simp [evCode, evOps, evOne, evOp, evPur, evEff, evPur.chunks, fillP, AOp.isEff, AO.ev, putP, PV.cells, PV.leaf, getB, getM, mapE, iterE, keyC, mapRows, mfind, eq1, eqL, scal, binP, unP, minP, maxP, foldP, PV.lt, PV.lt.ltL, endP, expoAll, expoG, expo, expo.expoL, frIds, frIds.frIdsL, nodupN, kill, cls, clsFuel, resO, RV.get, loadP, evC_p, evC_s, endS, endT, rowsOf, callP, thinL, unfr, unfr.unfrL, PV.noMem, PV.noMem.noMemL, optI, mapO, norm, trimT, trimB, forget, hasN, blksLt, List.set, softChk, softGo, softRd, effTg, rdP, S19, fRows])
  rw [T]
  generalize l.foldl (btw x y) [] = o at *
  have eO := fRows_len o
  unfold c19b0
  simp [evCode, evOps, evOne, evOp, evPur, evEff, evPur.chunks, fillP, AOp.isEff, AO.ev, putP, PV.cells, PV.leaf, getB, getM, mapE, iterE, keyC, mapRows, mfind, eq1, eqL, scal, binP, unP, minP, maxP, foldP, PV.lt, PV.lt.ltL, endP, expoAll, expoG, expo, expo.expoL, frIds, frIds.frIdsL, nodupN, kill, cls, clsFuel, resO, RV.get, loadP, evC_p, evC_s, endS, endT, rowsOf, callP, thinL, unfr, unfr.unfrL, PV.noMem, PV.noMem.noMemL, optI, mapO, norm, trimT, trimB, forget, hasN, blksLt, List.set, softChk, softGo, softRd, effTg, rdP, S19, eO, eL]

/-- a list is the same as itself -/
def S10 (x y : Bool) (l : List Fl) (k : Nat) : St := ⟨[.sl x 7 (fRows l), .sl y 7 (fRows l), .top, .top, .top, .int .i64 k] ++ List.replicate 20 .top, []⟩
set_option maxRecDepth 100000 in
theorem f10 (x y : Bool) (l : List Fl) (hl : l.length ≤ 2000) : evE Dg 10 [.sl x 7 (fRows l), .sl y 7 (fRows l)] = some (.bool true) := by
  refine evE_intro 3000 D10 rfl ?_
  unfold c10
  have eL := fRows_len l
  simp [evCode, evOps, evOne, evOp, evPur, evEff, evPur.chunks, fillP, AOp.isEff, AO.ev, putP, PV.cells, PV.leaf, getB, getM, mapE, iterE, keyC, mapRows, mfind, eq1, eqL, scal, binP, unP, minP, maxP, foldP, PV.lt, PV.lt.ltL, endP, expoAll, expoG, expo, expo.expoL, frIds, frIds.frIdsL, nodupN, kill, cls, clsFuel, resO, RV.get, loadP, evC_p, evC_s, endS, endT, rowsOf, callP, thinL, unfr, unfr.unfrL, PV.noMem, PV.noMem.noMemL, optI, mapO, norm, trimT, trimB, forget, hasN, blksLt, List.set, softChk, softGo, softRd, effTg, rdP, eL]
  generalize hE : evLoop (evCode (evC Dg) 3000 c10b0) [0, 1, 5] 0 3000 _ = E
  have H := loop_foldE (body := evCode (evC Dg) 3000 c10b0) (keep := [0, 1, 5]) (n0 := 0) (fuel := 3000) l (fun k (_ : Unit) => S10 x y l k) (fun _ _ => ()) (fun k o => True) ?_ ?_ (by omega) () trivial _ E hE (by simp [evCode, evOps, evOne, evOp, evPur, evEff, evPur.chunks, fillP, AOp.isEff, AO.ev, putP, PV.cells, PV.leaf, getB, getM, mapE, iterE, keyC, mapRows, mfind, eq1, eqL, scal, binP, unP, minP, maxP, foldP, PV.lt, PV.lt.ltL, endP, expoAll, expoG, expo, expo.expoL, frIds, frIds.frIdsL, nodupN, kill, cls, clsFuel, resO, RV.get, loadP, evC_p, evC_s, endS, endT, rowsOf, callP, thinL, unfr, unfr.unfrL, PV.noMem, PV.noMem.noMemL, optI, mapO, norm, trimT, trimB, forget, hasN, blksLt, List.set, softChk, softGo, softRd, effTg, rdP, S10])
  · rw [H.1]
    unfold c10b0
    simp [evCode, evOps, evOne, evOp, evPur, evEff, evPur.chunks, fillP, AOp.isEff, AO.ev, putP, PV.cells, PV.leaf, getB, getM, mapE, iterE, keyC, mapRows, mfind, eq1, eqL, scal, binP, unP, minP, maxP, foldP, PV.lt, PV.lt.ltL, endP, expoAll, expoG, expo, expo.expoL, frIds, frIds.frIdsL, nodupN, kill, cls, clsFuel, resO, RV.get, loadP, evC_p, evC_s, endS, endT, rowsOf, callP, thinL, unfr, unfr.unfrL, PV.noMem, PV.noMem.noMemL, optI, mapO, norm, trimT, trimB, forget, hasN, blksLt, List.set, softChk, softGo, softRd, effTg, rdP, S10, eL]
  · intro k f o hf hk _
    refine ⟨trivial, ?_⟩
    have w1 := wrap_i64 ((k : Int) + 1) (by omega) (by omega)
    have hk' : (k : Int) < l.length := by omega
    have eg := fRows_get hf
    have eg' := fRows_getE hf
    unfold c10b0
    simp [evCode, evOps, evOne, evOp, evPur, evEff, evPur.chunks, fillP, AOp.isEff, AO.ev, putP, PV.cells, PV.leaf, getB, getM, mapE, iterE, keyC, mapRows, mfind, eq1, eqL, scal, binP, unP, minP, maxP, foldP, PV.lt, PV.lt.ltL, endP, expoAll, expoG, expo, expo.expoL, frIds, frIds.frIdsL, nodupN, kill, cls, clsFuel, resO, RV.get, loadP, evC_p, evC_s, endS, endT, rowsOf, callP, thinL, unfr, unfr.unfrL, PV.noMem, PV.noMem.noMemL, optI, mapO, norm, trimT, trimB, forget, hasN, blksLt, List.set, softChk, softGo, softRd, effTg, rdP, S10, hk, hk', w1, eL, eg, eg', fRow]
  · intro o _ s
    unfold c10b0
    simp [evCode, evOps, evOne, evOp, evPur, evEff, evPur.chunks, fillP, AOp.isEff, AO.ev, putP, PV.cells, PV.leaf, getB, getM, mapE, iterE, keyC, mapRows, mfind, eq1, eqL, scal, binP, unP, minP, maxP, foldP, PV.lt, PV.lt.ltL, endP, expoAll, expoG, expo, expo.expoL, frIds, frIds.frIdsL, nodupN, kill, cls, clsFuel, resO, RV.get, loadP, evC_p, evC_s, endS, endT, rowsOf, callP, thinL, unfr, unfr.unfrL, PV.noMem, PV.noMem.noMemL, optI, mapO, norm, trimT, trimB, forget, hasN, blksLt, List.set, softChk, softGo, softRd, effTg, rdP, S10, eL]
end Go.Proofs.Ytlnaibkpmklkiaa
