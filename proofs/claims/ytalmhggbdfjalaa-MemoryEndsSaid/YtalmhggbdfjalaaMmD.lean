/- memory.Of: its loop, step by step. -/
import Derived.Test.YtalmhggbdfjalaaMmC
namespace Go.Proofs.Ytalmhggbdfjalaa
open Go Go.RowKit
set_option linter.unusedVariables false
set_option linter.unusedSimpArgs false
set_option maxHeartbeats 4000000

/-- a map from numbers to places -/
def mRows (ms : List (Int × Nat)) : List (List PV) := ms.map fun p => [.int .i64 p.1, .int .i64 p.2]
def aget (n : Int) : List (Int × Nat) → Option Nat
  | [] => none
  | p :: r => if p.1 = n then some p.2 else aget n r
def adel (n : Int) : List (Int × Nat) → List (Int × Nat)
  | [] => []
  | p :: r => if p.1 = n then r else p :: adel n r
def aidx (n : Int) : List (Int × Nat) → Nat
  | [] => 0
  | p :: r => if p.1 = n then 0 else aidx n r + 1
theorem amfind (n : Int) : ∀ (ms : List (Int × Nat)) (i : Nat), mfind [.i] false [.int .i64 n] (mRows ms) i = match aget n ms with | some t => some (some (i + aidx n ms, .int .i64 t)) | none => some none
  | [], i => by simp [mRows, mfind, aget]
  | (k, t) :: r, i => by
    have ih := amfind n r (i + 1)
    simp only [mRows, List.map_cons] at ih ⊢
    simp only [mfind, keyC, Bool.false_eq_true, if_false, eqL, eq1, if_true, Bool.and_true, aget, aidx]
    by_cases h : n = k
    · subst h; simp
    · have h' : (n == k) = false := by simpa using h
      have h2 : ¬ k = n := fun e => h e.symm
      simp only [h', ih, h2, if_false]
      split
      · rename_i t' ht
        congr 3
        omega
      · rfl
theorem amfind_in {n : Int} {ms : List (Int × Nat)} {t : Nat} (h : aget n ms = some t) : mfind [.i] false [.int .i64 n] (mRows ms) 0 = some (some (aidx n ms, .int .i64 t)) := by rw [amfind, h]; simp
theorem amfind_out {n : Int} {ms : List (Int × Nat)} (h : aget n ms = none) : mfind [.i] false [.int .i64 n] (mRows ms) 0 = some none := by rw [amfind, h]
theorem aerase (n : Int) : ∀ (ms : List (Int × Nat)) {t : Nat}, aget n ms = some t → (mRows ms).eraseIdx (aidx n ms) = mRows (adel n ms)
  | [], t, h => by simp [aget] at h
  | (k, x) :: r, t, h => by
    simp only [aget] at h
    by_cases hk : k = n
    · simp [mRows, aidx, adel, hk]
    · rw [if_neg hk] at h
      have ih := aerase n r h
      simp only [mRows] at ih
      simp [mRows, aidx, adel, hk, ih]
theorem aadd (n : Int) (t : Nat) (ms : List (Int × Nat)) : mRows ms ++ [[.int .i64 n, .int .i64 t]] = mRows (ms ++ [(n, t)]) := by simp [mRows]

def S11 (l : List Td) (e : Int) (k : Nat) (a : List Bk) (ms : List (Int × Nat)) : St :=
  ⟨[.top, .int .i64 e, .top, .top, .top, .own 1 a.length 0 a.length, .mp 2 0, .top, .top, .top, .top, .top, .top, .top, .top, .top, .sl false 10 (tRows l), .int .i64 l.length, .int .i64 k] ++ List.replicate 73 .top, B30 a.length (mRows ms) (bRows a)⟩
def newB (e : Int) (t : Td) : Bk := ⟨t.n, t.th, t.m, tm t, e, t.st, true⟩
section
variable (l : List Td) (e : Int) (k : Nat) (t : Td) (ht : l[k]? = some t) (hl : l.length ≤ 1000) (a : List Bk) (ms : List (Int × Nat)) (f : Nat)
include ht hl
set_option maxRecDepth 100000 in
theorem of_other (h1 : t.kd ≠ 11) (h2 : t.kd ≠ 12) : ∃ s, evCode (evC Dg) f c11b0 (S11 l e k a ms) = some (.normal s) ∧ norm [1, 5, 6, 16, 17, 18] 3 s = S11 l e (k + 1) a ms := by
  have hk : k < l.length := (List.getElem?_eq_some_iff.1 ht).1
  have hk' : (k : Int) < l.length := by omega
  have w1 := wrap_i64 ((k : Int) + 1) (by omega) (by omega)
  have eL := tRows_len l
  have eg := tRows_get ht
  have eg' := tRows_getE ht
  unfold c11b0
  simp [evCode, evOps, evOne, evOp, evPur, evEff, evPur.chunks, fillP, AOp.isEff, AO.ev, putP, PV.cells, PV.leaf, getB, getM, mapE, iterE, keyC, mapRows, mfind, eq1, eqL, scal, binP, unP, minP, maxP, foldP, PV.lt, PV.lt.ltL, endP, expoAll, expoG, expo, expo.expoL, frIds, frIds.frIdsL, nodupN, kill, cls, clsFuel, resO, RV.get, loadP, evC_p, evC_s, endS, endT, rowsOf, callP, thinL, unfr, unfr.unfrL, PV.noMem, PV.noMem.noMemL, optI, mapO, norm, trimT, trimB, forget, hasN, blksLt, List.set, softChk, softGo, softRd, effTg, rdP, S11, B30, hk, hk', w1, eL, eg, eg', tRow, eTx, h1, h2]
set_option maxRecDepth 100000 in
theorem of_free0 (h1 : t.kd = 12) (hg : aget t.n ms = none) : ∃ s, evCode (evC Dg) f c11b0 (S11 l e k a ms) = some (.normal s) ∧ norm [1, 5, 6, 16, 17, 18] 3 s = S11 l e (k + 1) a ms := by
  have hk : k < l.length := (List.getElem?_eq_some_iff.1 ht).1
  have hk' : (k : Int) < l.length := by omega
  have w1 := wrap_i64 ((k : Int) + 1) (by omega) (by omega)
  have eL := tRows_len l
  have eg := tRows_get ht
  have eg' := tRows_getE ht
  have f1 := amfind_out hg
  unfold c11b0
  simp [evCode, evOps, evOne, evOp, evPur, evEff, evPur.chunks, fillP, AOp.isEff, AO.ev, putP, PV.cells, PV.leaf, getB, getM, mapE, iterE, keyC, mapRows, mfind, eq1, eqL, scal, binP, unP, minP, maxP, foldP, PV.lt, PV.lt.ltL, endP, expoAll, expoG, expo, expo.expoL, frIds, frIds.frIdsL, nodupN, kill, cls, clsFuel, resO, RV.get, loadP, evC_p, evC_s, endS, endT, rowsOf, callP, thinL, unfr, unfr.unfrL, PV.noMem, PV.noMem.noMemL, optI, mapO, norm, trimT, trimB, forget, hasN, blksLt, List.set, softChk, softGo, softRd, effTg, rdP, S11, B30, hk, hk', w1, eL, eg, eg', tRow, eTx, h1, f1]
set_option maxRecDepth 100000 in
theorem of_new0 (ha : a.length ≤ k) (h1 : t.kd = 11) (hg : aget t.n ms = none) : ∃ s, evCode (evC Dg) f c11b0 (S11 l e k a ms) = some (.normal s) ∧ norm [1, 5, 6, 16, 17, 18] 3 s = S11 l e (k + 1) (a ++ [newB e t]) (ms ++ [(t.n, a.length)]) := by
  have hk : k < l.length := (List.getElem?_eq_some_iff.1 ht).1
  have hk' : (k : Int) < l.length := by omega
  have w1 := wrap_i64 ((k : Int) + 1) (by omega) (by omega)
  have eL := tRows_len l
  have eO := bRows_len a
  have eg := tRows_get ht
  have eg' := tRows_getE ht
  have f1 := amfind_out hg
  have q1 := f29 t
  have a1 : (a.length + 1) * 72 ≤ 140737488355328 := by omega
  have a2 : a.length + 1 ≤ 140737488355328 := by omega
  have er := (bRows_add a (newB e t)).symm
  have er2 := (aadd t.n a.length ms).symm
  simp only [tRow, h1, eTx] at q1
  unfold c11b0
  simp [evCode, evOps, evOne, evOp, evPur, evEff, evPur.chunks, fillP, AOp.isEff, AO.ev, putP, PV.cells, PV.leaf, getB, getM, mapE, iterE, keyC, mapRows, mfind, eq1, eqL, scal, binP, unP, minP, maxP, foldP, PV.lt, PV.lt.ltL, endP, expoAll, expoG, expo, expo.expoL, frIds, frIds.frIdsL, nodupN, kill, cls, clsFuel, resO, RV.get, loadP, evC_p, evC_s, endS, endT, rowsOf, callP, thinL, unfr, unfr.unfrL, PV.noMem, PV.noMem.noMemL, optI, mapO, norm, trimT, trimB, forget, hasN, blksLt, List.set, softChk, softGo, softRd, effTg, rdP, S11, B30, hk, hk', w1, eL, eO, eg, eg', tRow, eTx, h1, f1, q1, a1, a2, er, er2, newB, bRow]
  exact bRows_add a (newB e t)
set_option maxRecDepth 100000 in
theorem of_free1 (h1 : t.kd = 12) (j : Nat) (b : Bk) (hg : aget t.n ms = some j) (hb : a[j]? = some b) : ∃ s, evCode (evC Dg) f c11b0 (S11 l e k a ms) = some (.normal s) ∧ norm [1, 5, 6, 16, 17, 18] 3 s = S11 l e (k + 1) (a.set j { b with e := tm t, lv := false }) (adel t.n ms) := by
  have hk : k < l.length := (List.getElem?_eq_some_iff.1 ht).1
  have hj : j < a.length := (List.getElem?_eq_some_iff.1 hb).1
  have hj' : (j : Int) < a.length := by omega
  have hk' : (k : Int) < l.length := by omega
  have w1 := wrap_i64 ((k : Int) + 1) (by omega) (by omega)
  have eL := tRows_len l
  have eO := bRows_len a
  have eg := tRows_get ht
  have eg' := tRows_getE ht
  have gb := bRows_get hb
  have gb' := bRows_getE hb
  have f1 := amfind_in hg
  have f2 := aerase t.n ms hg
  have q1 := f29 t
  have er := bRows_set a j { b with e := tm t, lv := false }
  have hlen : (a.set j { b with e := tm t, lv := false }).length = a.length := by simp
  simp only [tRow, h1, eTx] at q1
  simp only [bRow, eTx] at er gb gb'
  unfold c11b0
  simp [evCode, evOps, evOne, evOp, evPur, evEff, evPur.chunks, fillP, AOp.isEff, AO.ev, putP, PV.cells, PV.leaf, getB, getM, mapE, iterE, keyC, mapRows, mfind, eq1, eqL, scal, binP, unP, minP, maxP, foldP, PV.lt, PV.lt.ltL, endP, expoAll, expoG, expo, expo.expoL, frIds, frIds.frIdsL, nodupN, kill, cls, clsFuel, resO, RV.get, loadP, evC_p, evC_s, endS, endT, rowsOf, callP, thinL, unfr, unfr.unfrL, PV.noMem, PV.noMem.noMemL, optI, mapO, norm, trimT, trimB, forget, hasN, blksLt, List.set, softChk, softGo, softRd, effTg, rdP, S11, B30, hk, hk', hj, hj', w1, eL, eO, eg, eg', gb, gb', tRow, eTx, h1, f1, f2, q1, er, bRow]
set_option maxRecDepth 100000 in
theorem of_new1 (ha : a.length ≤ k) (h1 : t.kd = 11) (j : Nat) (b : Bk) (hg : aget t.n ms = some j) (hb : a[j]? = some b) (hd : aget t.n (adel t.n ms) = none) : ∃ s, evCode (evC Dg) f c11b0 (S11 l e k a ms) = some (.normal s) ∧ norm [1, 5, 6, 16, 17, 18] 3 s = S11 l e (k + 1) (a.set j { b with e := tm t, lv := false } ++ [newB e t]) (adel t.n ms ++ [(t.n, a.length)]) := by
  have hk : k < l.length := (List.getElem?_eq_some_iff.1 ht).1
  have hj : j < a.length := (List.getElem?_eq_some_iff.1 hb).1
  have hj' : (j : Int) < a.length := by omega
  have hk' : (k : Int) < l.length := by omega
  have w1 := wrap_i64 ((k : Int) + 1) (by omega) (by omega)
  have eL := tRows_len l
  have eO := bRows_len a
  have eg := tRows_get ht
  have eg' := tRows_getE ht
  have gb := bRows_get hb
  have gb' := bRows_getE hb
  have f1 := amfind_in hg
  have f2 := aerase t.n ms hg
  have f3 := amfind_out hd
  have q1 := f29 t
  have er := bRows_set a j { b with e := tm t, lv := false }
  have a1 : (a.length + 1) * 72 ≤ 140737488355328 := by omega
  have a2 : a.length + 1 ≤ 140737488355328 := by omega
  have eq9 : (bRows (a.set j { b with e := tm t, lv := false })).length = a.length := by simp [bRows]
  have er3 := (bRows_add (a.set j { b with e := tm t, lv := false }) (newB e t)).symm
  have er2 := (aadd t.n a.length (adel t.n ms)).symm
  simp only [tRow, h1, eTx] at q1
  simp only [bRow, eTx] at er gb gb'
  unfold c11b0
  simp [evCode, evOps, evOne, evOp, evPur, evEff, evPur.chunks, fillP, AOp.isEff, AO.ev, putP, PV.cells, PV.leaf, getB, getM, mapE, iterE, keyC, mapRows, mfind, eq1, eqL, scal, binP, unP, minP, maxP, foldP, PV.lt, PV.lt.ltL, endP, expoAll, expoG, expo, expo.expoL, frIds, frIds.frIdsL, nodupN, kill, cls, clsFuel, resO, RV.get, loadP, evC_p, evC_s, endS, endT, rowsOf, callP, thinL, unfr, unfr.unfrL, PV.noMem, PV.noMem.noMemL, optI, mapO, norm, trimT, trimB, forget, hasN, blksLt, List.set, softChk, softGo, softRd, effTg, rdP, S11, B30, hk, hk', hj, hj', w1, eL, eO, eg, eg', gb, gb', tRow, eTx, h1, f1, f2, f3, q1, er, er2, er3, eq9, a1, a2, newB, bRow]
  exact bRows_add _ (newB e t)
end
end Go.Proofs.Ytalmhggbdfjalaa
