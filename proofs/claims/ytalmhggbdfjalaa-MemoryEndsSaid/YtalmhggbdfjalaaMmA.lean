/- Blocks and events as they lie in lists; times; what is compared. -/
import Derived.Test.YtalmhggbdfjalaaStA
namespace Go.Proofs.Ytalmhggbdfjalaa
open Go Go.RowKit
set_option linter.unusedVariables false
set_option linter.unusedSimpArgs false

def eTx (l : List (List UInt8)) : PV := .sl false 1 (l.map fun t => [.str t])
structure Bk where
  i : Int
  t : Int
  s : Int
  f : Int
  e : Int
  st : List (List UInt8)
  lv : Bool
  deriving DecidableEq
def bRow (b : Bk) : List PV := [.int .i64 b.i, .int .i64 b.t, .int .i64 b.s, .int .i64 b.f, .int .i64 b.e, eTx b.st, .bool b.lv]
def bRows (l : List Bk) : List (List PV) := l.map bRow
theorem bRows_len (l : List Bk) : (bRows l).length = l.length := by simp [bRows]
theorem bRows_get {l : List Bk} {i : Nat} {t : Bk} (h : l[i]? = some t) : (bRows l)[i]? = some (bRow t) := by simp [bRows, h]
theorem bRows_getE {l : List Bk} {i : Nat} {t : Bk} (h : l[i]? = some t) : ∀ g, (bRows l)[i]'g = bRow t := fun g => by
  have := bRows_get h
  rw [List.getElem?_eq_getElem g] at this
  exact Option.some.inj this
theorem bRows_add (l : List Bk) (f : Bk) : bRows l ++ [bRow f] = bRows (l ++ [f]) := by simp [bRows]
theorem bRows_app (l m : List Bk) : bRows l ++ bRows m = bRows (l ++ m) := by simp [bRows]
theorem bRows_take (l : List Bk) (n : Nat) : (bRows l).take n = bRows (l.take n) := by simp [bRows, List.map_take]
theorem bRows_all (l : List Bk) : (bRows l).take l.length = bRows l := by rw [List.take_of_length_le (by simp [bRows])]
theorem bRows_set (l : List Bk) (n : Nat) (b : Bk) : (bRows l).set n (bRow b) = bRows (l.set n b) := by simp [bRows, List.map_set]

structure Td where
  th : Int
  se : Int
  at_ : Int
  kd : Int
  nm : List UInt8
  n : Int
  m : Int
  st : List (List UInt8)
  lo : Int
  hi : Int
def tRow (t : Td) : List PV := [.int .i64 t.th, .int .i64 t.se, .int .i64 t.at_, .int .i64 t.kd, .str t.nm, .int .i64 t.n, .int .i64 t.m, eTx t.st, .int .i64 t.lo, .int .i64 t.hi]
def tRows (l : List Td) : List (List PV) := l.map tRow
theorem tRows_len (l : List Td) : (tRows l).length = l.length := by simp [tRows]
theorem tRows_get {l : List Td} {i : Nat} {t : Td} (h : l[i]? = some t) : (tRows l)[i]? = some (tRow t) := by simp [tRows, h]
theorem tRows_getE {l : List Td} {i : Nat} {t : Td} (h : l[i]? = some t) : ∀ g, (tRows l)[i]'g = tRow t := fun g => by
  have := tRows_get h
  rw [List.getElem?_eq_getElem g] at this
  exact Option.some.inj this

/-- a time within its bounds -/
def clp (n : Int) : Int := if 1000000000000 < (if n < 0 then 0 else n) then 1000000000000 else (if n < 0 then 0 else n)
def tm (t : Td) : Int := clp t.lo
theorem clp_rng (n : Int) : 0 ≤ clp n ∧ clp n ≤ 1000000000000 := by unfold clp; split <;> split <;> omega
theorem clp_mono {a b : Int} (h : a ≤ b) : clp a ≤ clp b := by unfold clp; (repeat' split) <;> omega
theorem clp_id {n : Int} (h1 : 0 ≤ n) (h2 : n ≤ 1000000000000) : clp n = n := by unfold clp; split <;> split <;> omega
theorem f43 (n : Int) : evE Dg 43 [.int .i64 n] = some (.int .i64 (clp n)) := by
  refine evE_intro 1 D43 rfl ?_
  unfold c43 clp
  simp [evCode, evOps, evOne, evOp, evPur, evEff, evPur.chunks, fillP, AOp.isEff, AO.ev, putP, PV.cells, PV.leaf, getB, getM, mapE, iterE, keyC, mapRows, mfind, eq1, eqL, scal, binP, unP, minP, maxP, foldP, PV.lt, PV.lt.ltL, endP, expoAll, expoG, expo, expo.expoL, frIds, frIds.frIdsL, nodupN, kill, cls, clsFuel, resO, RV.get, loadP, evC_p, evC_s, endS, endT, rowsOf, callP, thinL, unfr, unfr.unfrL, PV.noMem, PV.noMem.noMemL, optI, mapO, norm, trimT, trimB, forget, hasN, blksLt, List.set, softChk, softGo, softRd, effTg, rdP]
theorem f29 (t : Td) : evE Dg 29 [.agg (tRow t)] = some (.int .i64 (tm t)) := by
  refine evE_intro 1 D29 rfl ?_
  have h := f43 t.lo
  unfold c29 tm
  simp [evCode, evOps, evOne, evOp, evPur, evEff, evPur.chunks, fillP, AOp.isEff, AO.ev, putP, PV.cells, PV.leaf, getB, getM, mapE, iterE, keyC, mapRows, mfind, eq1, eqL, scal, binP, unP, minP, maxP, foldP, PV.lt, PV.lt.ltL, endP, expoAll, expoG, expo, expo.expoL, frIds, frIds.frIdsL, nodupN, kill, cls, clsFuel, resO, RV.get, loadP, evC_p, evC_s, endS, endT, rowsOf, callP, thinL, unfr, unfr.unfrL, PV.noMem, PV.noMem.noMemL, optI, mapO, norm, trimT, trimB, forget, hasN, blksLt, List.set, softChk, softGo, softRd, effTg, rdP, tRow, eTx, h]
theorem f25 (t : Td) : evE Dg 25 [.agg (tRow t)] = some (.int .i64 (tm t)) := by
  refine evE_intro 1 D25 rfl ?_
  unfold c25 tm clp
  simp [evCode, evOps, evOne, evOp, evPur, evEff, evPur.chunks, fillP, AOp.isEff, AO.ev, putP, PV.cells, PV.leaf, getB, getM, mapE, iterE, keyC, mapRows, mfind, eq1, eqL, scal, binP, unP, minP, maxP, foldP, PV.lt, PV.lt.ltL, endP, expoAll, expoG, expo, expo.expoL, frIds, frIds.frIdsL, nodupN, kill, cls, clsFuel, resO, RV.get, loadP, evC_p, evC_s, endS, endT, rowsOf, callP, thinL, unfr, unfr.unfrL, PV.noMem, PV.noMem.noMemL, optI, mapO, norm, trimT, trimB, forget, hasN, blksLt, List.set, softChk, softGo, softRd, effTg, rdP, tRow, eTx]
/-- the end of the trace -/
def endM (l : List Td) (e : Int) : Int := clp (match l.getLast? with | some t => if e < tm t then tm t else e | none => e)
theorem last_get {l : List Td} (h : 0 < l.length) : ∃ t, l[l.length - 1]? = some t ∧ l.getLast? = some t := by
  refine ⟨l[l.length - 1], List.getElem?_eq_getElem (by omega), ?_⟩
  rw [List.getLast?_eq_getElem?, List.getElem?_eq_getElem (by omega)]
set_option maxRecDepth 100000 in
theorem f28 (l : List Td) (hl : l.length ≤ 1000000) (e : Int) : evE Dg 28 [.sl false 10 (tRows l), .int .i64 e] = some (.int .i64 (endM l e)) := by
  refine evE_intro 1 D28 rfl ?_
  have eL := tRows_len l
  unfold c28 endM
  rcases Nat.eq_zero_or_pos l.length with h0 | h0
  · rw [List.length_eq_zero_iff.1 h0]
    have h := f43 e
    simp [evCode, evOps, evOne, evOp, evPur, evEff, evPur.chunks, fillP, AOp.isEff, AO.ev, putP, PV.cells, PV.leaf, getB, getM, mapE, iterE, keyC, mapRows, mfind, eq1, eqL, scal, binP, unP, minP, maxP, foldP, PV.lt, PV.lt.ltL, endP, expoAll, expoG, expo, expo.expoL, frIds, frIds.frIdsL, nodupN, kill, cls, clsFuel, resO, RV.get, loadP, evC_p, evC_s, endS, endT, rowsOf, callP, thinL, unfr, unfr.unfrL, PV.noMem, PV.noMem.noMemL, optI, mapO, norm, trimT, trimB, forget, hasN, blksLt, List.set, softChk, softGo, softRd, effTg, rdP, tRows, h]
  · obtain ⟨t, h1, h2⟩ := last_get h0
    rw [h2]
    have c1 : (0 : Int) < l.length := by omega
    have w1 : IntKind.i64.wrap ((l.length : Int) - 1) = ((l.length - 1 : Nat) : Int) := by rw [wrap_i64 _ (by omega) (by omega)]; omega
    have c2 : l.length - 1 < l.length := by omega
    have e1 := tRows_get h1
    have e2 := tRows_getE h1
    have h3 := f29 t
    have h4 := f43 (if e < tm t then tm t else e)
    obtain ⟨j, hj⟩ : ∃ j, l.length - 1 = j := ⟨_, rfl⟩
    rw [hj] at w1 c2 e1 e2
    have c3 : (0 : Int) ≤ j := by omega
    clear hj h1 h2
    simp only [tRow, eTx] at h3 e1 e2
    simp [evCode, evOps, evOne, evOp, evPur, evEff, evPur.chunks, fillP, AOp.isEff, AO.ev, putP, PV.cells, PV.leaf, getB, getM, mapE, iterE, keyC, mapRows, mfind, eq1, eqL, scal, binP, unP, minP, maxP, foldP, PV.lt, PV.lt.ltL, endP, expoAll, expoG, expo, expo.expoL, frIds, frIds.frIdsL, nodupN, kill, cls, clsFuel, resO, RV.get, loadP, evC_p, evC_s, endS, endT, rowsOf, callP, thinL, unfr, unfr.unfrL, PV.noMem, PV.noMem.noMemL, optI, mapO, norm, trimT, trimB, forget, hasN, blksLt, List.set, softChk, softGo, softRd, effTg, rdP, eL, h0, c1, w1, c2, c3, e1, e2, tRow, eTx, h3, h4]
set_option maxRecDepth 100000 in
theorem f24 (l : List Td) (hl : l.length ≤ 1000000) (e : Int) : evE Dg 24 [.sl false 10 (tRows l), .int .i64 e] = some (.int .i64 (endM l e)) := by
  refine evE_intro 1 D24 rfl ?_
  have eL := tRows_len l
  unfold c24 endM
  rcases Nat.eq_zero_or_pos l.length with h0 | h0
  · rw [List.length_eq_zero_iff.1 h0]
    simp [evCode, evOps, evOne, evOp, evPur, evEff, evPur.chunks, fillP, AOp.isEff, AO.ev, putP, PV.cells, PV.leaf, getB, getM, mapE, iterE, keyC, mapRows, mfind, eq1, eqL, scal, binP, unP, minP, maxP, foldP, PV.lt, PV.lt.ltL, endP, expoAll, expoG, expo, expo.expoL, frIds, frIds.frIdsL, nodupN, kill, cls, clsFuel, resO, RV.get, loadP, evC_p, evC_s, endS, endT, rowsOf, callP, thinL, unfr, unfr.unfrL, PV.noMem, PV.noMem.noMemL, optI, mapO, norm, trimT, trimB, forget, hasN, blksLt, List.set, softChk, softGo, softRd, effTg, rdP, tRows, clp]
    rfl
  · obtain ⟨t, h1, h2⟩ := last_get h0
    rw [h2]
    have c1 : (0 : Int) < l.length := by omega
    have w1 : IntKind.i64.wrap ((l.length : Int) - 1) = ((l.length - 1 : Nat) : Int) := by rw [wrap_i64 _ (by omega) (by omega)]; omega
    have c2 : l.length - 1 < l.length := by omega
    have e1 := tRows_get h1
    have e2 := tRows_getE h1
    have h3 := f25 t
    obtain ⟨j, hj⟩ : ∃ j, l.length - 1 = j := ⟨_, rfl⟩
    rw [hj] at w1 c2 e1 e2
    have c3 : (0 : Int) ≤ j := by omega
    clear hj h1 h2
    simp only [tRow, eTx] at h3 e1 e2
    simp [evCode, evOps, evOne, evOp, evPur, evEff, evPur.chunks, fillP, AOp.isEff, AO.ev, putP, PV.cells, PV.leaf, getB, getM, mapE, iterE, keyC, mapRows, mfind, eq1, eqL, scal, binP, unP, minP, maxP, foldP, PV.lt, PV.lt.ltL, endP, expoAll, expoG, expo, expo.expoL, frIds, frIds.frIdsL, nodupN, kill, cls, clsFuel, resO, RV.get, loadP, evC_p, evC_s, endS, endT, rowsOf, callP, thinL, unfr, unfr.unfrL, PV.noMem, PV.noMem.noMemL, optI, mapO, norm, trimT, trimB, forget, hasN, blksLt, List.set, softChk, softGo, softRd, effTg, rdP, eL, h0, c1, w1, c2, c3, e1, e2, tRow, eTx, h3, clp]
/-- how blocks are compared -/
def cmpZ (a b : Int) : Int := if a < b then -1 else if b < a then 1 else 0
theorem cmpZ_lt (a b : Int) : cmpZ a b < 0 ↔ a < b := by unfold cmpZ; split <;> (try split) <;> omega
theorem f46 (n : Int) : evE Dg 46 [.int .i64 n] = some (.bool false) := by
  refine evE_intro 1 D46 rfl ?_
  unfold c46
  simp [evCode, evOps, evOne, evOp, evPur, evEff, evPur.chunks, fillP, AOp.isEff, AO.ev, putP, PV.cells, PV.leaf, getB, getM, mapE, iterE, keyC, mapRows, mfind, eq1, eqL, scal, binP, unP, minP, maxP, foldP, PV.lt, PV.lt.ltL, endP, expoAll, expoG, expo, expo.expoL, frIds, frIds.frIdsL, nodupN, kill, cls, clsFuel, resO, RV.get, loadP, evC_p, evC_s, endS, endT, rowsOf, callP, thinL, unfr, unfr.unfrL, PV.noMem, PV.noMem.noMemL, optI, mapO, norm, trimT, trimB, forget, hasN, blksLt, List.set, softChk, softGo, softRd, effTg, rdP]
theorem f34 (a b : Int) : evE Dg 34 [.int .i64 a, .int .i64 b] = some (.int .i64 (cmpZ a b)) := by
  have h1 := f46 a
  have h2 := f46 b
  refine evE_intro 1 D34 rfl ?_
  unfold c34 cmpZ
  by_cases h : a < b
  · simp [evCode, evOps, evOne, evOp, evPur, evEff, evPur.chunks, fillP, AOp.isEff, AO.ev, putP, PV.cells, PV.leaf, getB, getM, mapE, iterE, keyC, mapRows, mfind, eq1, eqL, scal, binP, unP, minP, maxP, foldP, PV.lt, PV.lt.ltL, endP, expoAll, expoG, expo, expo.expoL, frIds, frIds.frIdsL, nodupN, kill, cls, clsFuel, resO, RV.get, loadP, evC_p, evC_s, endS, endT, rowsOf, callP, thinL, unfr, unfr.unfrL, PV.noMem, PV.noMem.noMemL, optI, mapO, norm, trimT, trimB, forget, hasN, blksLt, List.set, softChk, softGo, softRd, effTg, rdP, h1, h2, h]
  · by_cases h' : b < a
    · simp [evCode, evOps, evOne, evOp, evPur, evEff, evPur.chunks, fillP, AOp.isEff, AO.ev, putP, PV.cells, PV.leaf, getB, getM, mapE, iterE, keyC, mapRows, mfind, eq1, eqL, scal, binP, unP, minP, maxP, foldP, PV.lt, PV.lt.ltL, endP, expoAll, expoG, expo, expo.expoL, frIds, frIds.frIdsL, nodupN, kill, cls, clsFuel, resO, RV.get, loadP, evC_p, evC_s, endS, endT, rowsOf, callP, thinL, unfr, unfr.unfrL, PV.noMem, PV.noMem.noMemL, optI, mapO, norm, trimT, trimB, forget, hasN, blksLt, List.set, softChk, softGo, softRd, effTg, rdP, h1, h2, h, h']
    · simp [evCode, evOps, evOne, evOp, evPur, evEff, evPur.chunks, fillP, AOp.isEff, AO.ev, putP, PV.cells, PV.leaf, getB, getM, mapE, iterE, keyC, mapRows, mfind, eq1, eqL, scal, binP, unP, minP, maxP, foldP, PV.lt, PV.lt.ltL, endP, expoAll, expoG, expo, expo.expoL, frIds, frIds.frIdsL, nodupN, kill, cls, clsFuel, resO, RV.get, loadP, evC_p, evC_s, endS, endT, rowsOf, callP, thinL, unfr, unfr.unfrL, PV.noMem, PV.noMem.noMemL, optI, mapO, norm, trimT, trimB, forget, hasN, blksLt, List.set, softChk, softGo, softRd, effTg, rdP, h1, h2, h, h']
def OkR (r : Rw) : Prop := ∃ (i t s f e : Int) (p : PV) (lv : Bool), r = [.int .i64 i, .int .i64 t, .int .i64 s, .int .i64 f, .int .i64 e, p, .bool lv] ∧ p.leaf = true ∧ p.lt 0 = true
def keyR : List PV → Int
  | [_, _, _, .int _ n, _, _, _] => n
  | _ => 0
def leR (r s : Rw) : Bool := decide (keyR r ≤ keyR s)
theorem bRow_ok (b : Bk) : OkR (bRow b) := ⟨b.i, b.t, b.s, b.f, b.e, eTx b.st, b.lv, rfl, rfl, rfl⟩
theorem f33 {r s : Rw} (hr : OkR r) (hs : OkR s) : evE Dg 33 [.agg r, .agg s] = some (.int .i64 (cmpZ (keyR r) (keyR s))) := by
  obtain ⟨i, t, z, f, e, p, lv, rfl, h1, h2⟩ := hr
  obtain ⟨i', t', z', f', e', p', lv', rfl, h3, h4⟩ := hs
  have h := f34 f f'
  refine evE_intro 1 D33 rfl ?_
  unfold c33
  simp [evCode, evOps, evOne, evOp, evPur, evEff, evPur.chunks, fillP, AOp.isEff, AO.ev, putP, PV.cells, PV.leaf, getB, getM, mapE, iterE, keyC, mapRows, mfind, eq1, eqL, scal, binP, unP, minP, maxP, foldP, PV.lt, PV.lt.ltL, endP, expoAll, expoG, expo, expo.expoL, frIds, frIds.frIdsL, nodupN, kill, cls, clsFuel, resO, RV.get, loadP, evC_p, evC_s, endS, endT, rowsOf, callP, thinL, unfr, unfr.unfrL, PV.noMem, PV.noMem.noMemL, optI, mapO, norm, trimT, trimB, forget, hasN, blksLt, List.set, softChk, softGo, softRd, effTg, rdP, h, keyR, h1, h2, h3, h4, ↓h1, ↓h2, ↓h3, ↓h4]
theorem f31 {r : Rw} (hr : OkR r) : ∃ f e, r[3]? = some (.int .i64 f) ∧ r[4]? = some (.int .i64 e) ∧ evE Dg 31 [.agg r] = some (.bool (decide (e ≤ f))) := by
  obtain ⟨i, t, z, f, e, p, lv, rfl, h1, h2⟩ := hr
  refine ⟨f, e, rfl, rfl, ?_⟩
  refine evE_intro 1 D31 rfl ?_
  unfold c31
  simp [evCode, evOps, evOne, evOp, evPur, evEff, evPur.chunks, fillP, AOp.isEff, AO.ev, putP, PV.cells, PV.leaf, getB, getM, mapE, iterE, keyC, mapRows, mfind, eq1, eqL, scal, binP, unP, minP, maxP, foldP, PV.lt, PV.lt.ltL, endP, expoAll, expoG, expo, expo.expoL, frIds, frIds.frIdsL, nodupN, kill, cls, clsFuel, resO, RV.get, loadP, evC_p, evC_s, endS, endT, rowsOf, callP, thinL, unfr, unfr.unfrL, PV.noMem, PV.noMem.noMemL, optI, mapO, norm, trimT, trimB, forget, hasN, blksLt, List.set, softChk, softGo, softRd, effTg, rdP, h1, h2, ↓h1, ↓h2]
end Go.Proofs.Ytalmhggbdfjalaa
