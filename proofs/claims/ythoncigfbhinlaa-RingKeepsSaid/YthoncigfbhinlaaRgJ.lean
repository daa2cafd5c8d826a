/- ring: Check, Count, Free, Take of the program. -/
import Derived.Test.YthoncigfbhinlaaRgI
namespace Go.Proofs.Ythoncigfbhinlaa
open Go Go.RowKit
set_option linter.unusedVariables false
set_option linter.unusedSimpArgs false
set_option maxHeartbeats 8000000

/-- the records of a buffer that Check accepts; none of another one -/
def goodL (p : Int) (D : List Nat) (s e f m : Int) : List (List Nat) := if errF p D s e f m = 0 then (recsF D s e).getD [] else []
set_option maxRecDepth 100000 in
theorem f27 (x : Bool) (p : Int) (D : List Nat) (s e f m : Int) (hD : D.length ≤ 100000) (ok : okB D) : evE Dg 27 [eR p (eB x D) s e f m] = some (.tup [.fr 1 (rcR (goodL p D s e f m)), .int .i64 (errF p D s e f m)]) := by
  have e1 := bR_len D
  have h26 := f26 p
  have bad : ∀ v : Int, ¬ v = 0 → errF p D s e f m = v → evE Dg 27 [eR p (eB x D) s e f m] = some (.tup [.fr 1 [], .int .i64 v]) → evE Dg 27 [eR p (eB x D) s e f m] = some (.tup [.fr 1 (rcR (goodL p D s e f m)), .int .i64 (errF p D s e f m)]) := by
    intro v hv h1 h2
    unfold goodL
    rw [h1, if_neg hv, h2]
    rfl
  by_cases hp : okP p
  · have bad2 : ¬ numsOk D.length s e f m → evE Dg 27 [eR p (eB x D) s e f m] = some (.tup [.fr 1 [], .int .i64 2]) → evE Dg 27 [eR p (eB x D) s e f m] = some (.tup [.fr 1 (rcR (goodL p D s e f m)), .int .i64 (errF p D s e f m)]) :=
      fun h => bad 2 (by decide) (by unfold errF; rw [if_pos hp, if_neg h])
    by_cases c1 : (D.length : Int) < 16
    · refine bad2 (fun h => by have := h.1; omega) (evE_intro 3 D27 rfl ?_)
      have c1' : D.length < 16 := by omega
      unfold c27
      simp [evCode, evOps, evOne, evOp, evPur, evEff, evPur.chunks, fillP, AOp.isEff, AO.ev, putP, PV.cells, PV.leaf, getB, getM, mapE, keyC, mapRows, mfind, eq1, eqL, scal, binP, unP, minP, maxP, foldP, PV.lt, PV.lt.ltL, endP, expoAll, expo, expo.expoL, frIds, frIds.frIdsL, nodupN, kill, cls, clsFuel, resO, RV.get, loadP, evC_p, evC_s, endS, endT, rowsOf, callP, thinL, unfr, unfr.unfrL, PV.noMem, PV.noMem.noMemL, optI, mapO, norm, trimT, trimB, forget, hasN, blksLt, List.set, eR, eB, e1, h26, hp, c1, c1']
    have c1' : ¬ D.length < 16 := by omega
    by_cases c2 : (65536 : Int) < D.length
    · refine bad2 (fun h => by have := h.2.1; omega) (evE_intro 3 D27 rfl ?_)
      have c2' : 65536 < D.length := by omega
      unfold c27
      simp [evCode, evOps, evOne, evOp, evPur, evEff, evPur.chunks, fillP, AOp.isEff, AO.ev, putP, PV.cells, PV.leaf, getB, getM, mapE, keyC, mapRows, mfind, eq1, eqL, scal, binP, unP, minP, maxP, foldP, PV.lt, PV.lt.ltL, endP, expoAll, expo, expo.expoL, frIds, frIds.frIdsL, nodupN, kill, cls, clsFuel, resO, RV.get, loadP, evC_p, evC_s, endS, endT, rowsOf, callP, thinL, unfr, unfr.unfrL, PV.noMem, PV.noMem.noMemL, optI, mapO, norm, trimT, trimB, forget, hasN, blksLt, List.set, eR, eB, e1, h26, hp, c1, c1', c2, c2']
    have c2' : ¬ 65536 < D.length := by omega
    by_cases c3 : s < 0
    · refine bad2 (fun h => by have := h.2.2.1; omega) (evE_intro 3 D27 rfl ?_)
      unfold c27
      simp [evCode, evOps, evOne, evOp, evPur, evEff, evPur.chunks, fillP, AOp.isEff, AO.ev, putP, PV.cells, PV.leaf, getB, getM, mapE, keyC, mapRows, mfind, eq1, eqL, scal, binP, unP, minP, maxP, foldP, PV.lt, PV.lt.ltL, endP, expoAll, expo, expo.expoL, frIds, frIds.frIdsL, nodupN, kill, cls, clsFuel, resO, RV.get, loadP, evC_p, evC_s, endS, endT, rowsOf, callP, thinL, unfr, unfr.unfrL, PV.noMem, PV.noMem.noMemL, optI, mapO, norm, trimT, trimB, forget, hasN, blksLt, List.set, eR, eB, e1, h26, hp, c1, c1', c2, c2', c3]
    by_cases c4 : e < s
    · refine bad2 (fun h => by have := h.2.2.2.1; omega) (evE_intro 3 D27 rfl ?_)
      unfold c27
      simp [evCode, evOps, evOne, evOp, evPur, evEff, evPur.chunks, fillP, AOp.isEff, AO.ev, putP, PV.cells, PV.leaf, getB, getM, mapE, keyC, mapRows, mfind, eq1, eqL, scal, binP, unP, minP, maxP, foldP, PV.lt, PV.lt.ltL, endP, expoAll, expo, expo.expoL, frIds, frIds.frIdsL, nodupN, kill, cls, clsFuel, resO, RV.get, loadP, evC_p, evC_s, endS, endT, rowsOf, callP, thinL, unfr, unfr.unfrL, PV.noMem, PV.noMem.noMemL, optI, mapO, norm, trimT, trimB, forget, hasN, blksLt, List.set, eR, eB, e1, h26, hp, c1, c1', c2, c2', c3, c4]
    by_cases c5 : 1000000000000000 < e
    · refine bad2 (fun h => by have := h.2.2.2.2.1; omega) (evE_intro 3 D27 rfl ?_)
      unfold c27
      simp [evCode, evOps, evOne, evOp, evPur, evEff, evPur.chunks, fillP, AOp.isEff, AO.ev, putP, PV.cells, PV.leaf, getB, getM, mapE, keyC, mapRows, mfind, eq1, eqL, scal, binP, unP, minP, maxP, foldP, PV.lt, PV.lt.ltL, endP, expoAll, expo, expo.expoL, frIds, frIds.frIdsL, nodupN, kill, cls, clsFuel, resO, RV.get, loadP, evC_p, evC_s, endS, endT, rowsOf, callP, thinL, unfr, unfr.unfrL, PV.noMem, PV.noMem.noMemL, optI, mapO, norm, trimT, trimB, forget, hasN, blksLt, List.set, eR, eB, e1, h26, hp, c1, c1', c2, c2', c3, c4, c5]
    have w1 : IntKind.i64.wrap (e - s) = e - s := wrap_i64 _ (by omega) (by omega)
    by_cases c6 : (D.length : Int) < e - s
    · refine bad2 (fun h => by have := h.2.2.2.2.2.1; omega) (evE_intro 3 D27 rfl ?_)
      unfold c27
      simp [evCode, evOps, evOne, evOp, evPur, evEff, evPur.chunks, fillP, AOp.isEff, AO.ev, putP, PV.cells, PV.leaf, getB, getM, mapE, keyC, mapRows, mfind, eq1, eqL, scal, binP, unP, minP, maxP, foldP, PV.lt, PV.lt.ltL, endP, expoAll, expo, expo.expoL, frIds, frIds.frIdsL, nodupN, kill, cls, clsFuel, resO, RV.get, loadP, evC_p, evC_s, endS, endT, rowsOf, callP, thinL, unfr, unfr.unfrL, PV.noMem, PV.noMem.noMemL, optI, mapO, norm, trimT, trimB, forget, hasN, blksLt, List.set, eR, eB, e1, h26, hp, c1, c1', c2, c2', c3, c4, c5, w1, c6]
    by_cases c7 : f < 0
    · refine bad2 (fun h => by have := h.2.2.2.2.2.2.1; omega) (evE_intro 3 D27 rfl ?_)
      unfold c27
      simp [evCode, evOps, evOne, evOp, evPur, evEff, evPur.chunks, fillP, AOp.isEff, AO.ev, putP, PV.cells, PV.leaf, getB, getM, mapE, keyC, mapRows, mfind, eq1, eqL, scal, binP, unP, minP, maxP, foldP, PV.lt, PV.lt.ltL, endP, expoAll, expo, expo.expoL, frIds, frIds.frIdsL, nodupN, kill, cls, clsFuel, resO, RV.get, loadP, evC_p, evC_s, endS, endT, rowsOf, callP, thinL, unfr, unfr.unfrL, PV.noMem, PV.noMem.noMemL, optI, mapO, norm, trimT, trimB, forget, hasN, blksLt, List.set, eR, eB, e1, h26, hp, c1, c1', c2, c2', c3, c4, c5, w1, c6, c7]
    by_cases c8 : m < f
    · refine bad2 (fun h => by have := h.2.2.2.2.2.2.2.1; omega) (evE_intro 3 D27 rfl ?_)
      unfold c27
      simp [evCode, evOps, evOne, evOp, evPur, evEff, evPur.chunks, fillP, AOp.isEff, AO.ev, putP, PV.cells, PV.leaf, getB, getM, mapE, keyC, mapRows, mfind, eq1, eqL, scal, binP, unP, minP, maxP, foldP, PV.lt, PV.lt.ltL, endP, expoAll, expo, expo.expoL, frIds, frIds.frIdsL, nodupN, kill, cls, clsFuel, resO, RV.get, loadP, evC_p, evC_s, endS, endT, rowsOf, callP, thinL, unfr, unfr.unfrL, PV.noMem, PV.noMem.noMemL, optI, mapO, norm, trimT, trimB, forget, hasN, blksLt, List.set, eR, eB, e1, h26, hp, c1, c1', c2, c2', c3, c4, c5, w1, c6, c7, c8]
    by_cases c9 : 1000000000000000 < m
    · refine bad2 (fun h => by have := h.2.2.2.2.2.2.2.2; omega) (evE_intro 3 D27 rfl ?_)
      unfold c27
      simp [evCode, evOps, evOne, evOp, evPur, evEff, evPur.chunks, fillP, AOp.isEff, AO.ev, putP, PV.cells, PV.leaf, getB, getM, mapE, keyC, mapRows, mfind, eq1, eqL, scal, binP, unP, minP, maxP, foldP, PV.lt, PV.lt.ltL, endP, expoAll, expo, expo.expoL, frIds, frIds.frIdsL, nodupN, kill, cls, clsFuel, resO, RV.get, loadP, evC_p, evC_s, endS, endT, rowsOf, callP, thinL, unfr, unfr.unfrL, PV.noMem, PV.noMem.noMemL, optI, mapO, norm, trimT, trimB, forget, hasN, blksLt, List.set, eR, eB, e1, h26, hp, c1, c1', c2, c2', c3, c4, c5, w1, c6, c7, c8, c9]
    have hnum : numsOk D.length s e f m := ⟨by omega, by omega, by omega, by omega, by omega, by omega, by omega, by omega, by omega⟩
    obtain ⟨S, rfl⟩ : ∃ q : Nat, s = q := ⟨s.toNat, by omega⟩
    obtain ⟨T, rfl⟩ : ∃ q : Nat, e = q := ⟨e.toNat, by omega⟩
    have h36 := f36 x p f m D S T (by omega) (by omega) (by omega) (by omega) (by omega)
    have okc := contF_ok (D := D) (s := S) (L := T - S) ok
    have lc := contF_len (D := D) (s := S) (L := T - S) (by omega)
    have hrec : recsF D S T = recF ((contF D S (T - S)).length + 1) (contF D S (T - S)) := by unfold recsF; simp
    have T1 := loop27 (cl p (eB x D) S T f m) rfl (contF D S (T - S)) okc (by omega)
    rw [← hrec] at T1
    have herr : errF p D S T f m = (match recsF D S T with | some l => if (l.length : Int) = m - f then 0 else 10 | none => 10) := by
      unfold errF
      rw [if_pos hp, if_pos hnum]
      cases recsF D S T <;> rfl
    generalize contF D S (T - S) = C at *
    have wm : IntKind.i64.wrap (m - f) = m - f := wrap_i64 _ (by omega) (by omega)
    have z0 : rcR [] = [] := rfl
    simp only [eR, eB] at h36
    rcases hq : recsF D S T with _ | l
    · rw [hq] at herr T1
      simp only at herr
      refine bad 10 (by decide) herr (evE_intro 70010 D27 rfl ?_)
      unfold c27
      simp [evCode, evOps, evOne, evOp, evPur, evEff, evPur.chunks, fillP, AOp.isEff, AO.ev, putP, PV.cells, PV.leaf, getB, getM, mapE, keyC, mapRows, mfind, eq1, eqL, scal, binP, unP, minP, maxP, foldP, PV.lt, PV.lt.ltL, endP, expoAll, expo, expo.expoL, frIds, frIds.frIdsL, nodupN, kill, cls, clsFuel, resO, RV.get, loadP, evC_p, evC_s, endS, endT, rowsOf, callP, thinL, unfr, unfr.unfrL, PV.noMem, PV.noMem.noMemL, optI, mapO, norm, trimT, trimB, forget, hasN, blksLt, List.set, eR, eB, e1, h26, hp, c1, c1', c2, c2', c3, c4, c5, w1, c6, c7, c8, c9, h36]
      generalize hE : evLoop _ _ _ _ _ = E
      rcases T1 _ _ hE (by simp [evCode, evOps, evOne, evOp, evPur, evEff, evPur.chunks, fillP, AOp.isEff, AO.ev, putP, PV.cells, PV.leaf, getB, getM, mapE, keyC, mapRows, mfind, eq1, eqL, scal, binP, unP, minP, maxP, foldP, PV.lt, PV.lt.ltL, endP, expoAll, expo, expo.expoL, frIds, frIds.frIdsL, nodupN, kill, cls, clsFuel, resO, RV.get, loadP, evC_p, evC_s, endS, endT, rowsOf, callP, thinL, unfr, unfr.unfrL, PV.noMem, PV.noMem.noMemL, optI, mapO, norm, trimT, trimB, forget, hasN, blksLt, List.set, S27, cl, eB, z0]) with ⟨l, h, _⟩ | ⟨_, st, h, h2⟩
      · cases h
      · rw [h]
        simp [evCode, evOps, evOne, evOp, evPur, evEff, evPur.chunks, fillP, AOp.isEff, AO.ev, putP, PV.cells, PV.leaf, getB, getM, mapE, keyC, mapRows, mfind, eq1, eqL, scal, binP, unP, minP, maxP, foldP, PV.lt, PV.lt.ltL, endP, expoAll, expo, expo.expoL, frIds, frIds.frIdsL, nodupN, kill, cls, clsFuel, resO, RV.get, loadP, evC_p, evC_s, endS, endT, rowsOf, callP, thinL, unfr, unfr.unfrL, PV.noMem, PV.noMem.noMemL, optI, mapO, norm, trimT, trimB, forget, hasN, blksLt, List.set] at h2
        simp only []
        rw [if_pos h2.1]
        exact h2.2
    · rw [hq] at herr T1
      simp only at herr
      have el := rcR_len l
      have hrun : ∀ v : Int, (if (l.length : Int) = m - f then 0 else 10) = v → ∀ L, (if (l.length : Int) = m - f then l else []) = L → evE Dg 27 [eR p (eB x D) S T f m] = some (.tup [.fr 1 (rcR L), .int .i64 v]) := by
        intro v hv L hL
        refine evE_intro 70010 D27 rfl ?_
        unfold c27
        simp [evCode, evOps, evOne, evOp, evPur, evEff, evPur.chunks, fillP, AOp.isEff, AO.ev, putP, PV.cells, PV.leaf, getB, getM, mapE, keyC, mapRows, mfind, eq1, eqL, scal, binP, unP, minP, maxP, foldP, PV.lt, PV.lt.ltL, endP, expoAll, expo, expo.expoL, frIds, frIds.frIdsL, nodupN, kill, cls, clsFuel, resO, RV.get, loadP, evC_p, evC_s, endS, endT, rowsOf, callP, thinL, unfr, unfr.unfrL, PV.noMem, PV.noMem.noMemL, optI, mapO, norm, trimT, trimB, forget, hasN, blksLt, List.set, eR, eB, e1, h26, hp, c1, c1', c2, c2', c3, c4, c5, w1, c6, c7, c8, c9, h36]
        generalize hE : evLoop _ _ _ _ _ = E
        rcases T1 _ _ hE (by simp [evCode, evOps, evOne, evOp, evPur, evEff, evPur.chunks, fillP, AOp.isEff, AO.ev, putP, PV.cells, PV.leaf, getB, getM, mapE, keyC, mapRows, mfind, eq1, eqL, scal, binP, unP, minP, maxP, foldP, PV.lt, PV.lt.ltL, endP, expoAll, expo, expo.expoL, frIds, frIds.frIdsL, nodupN, kill, cls, clsFuel, resO, RV.get, loadP, evC_p, evC_s, endS, endT, rowsOf, callP, thinL, unfr, unfr.unfrL, PV.noMem, PV.noMem.noMemL, optI, mapO, norm, trimT, trimB, forget, hasN, blksLt, List.set, S27, cl, eB, z0]) with ⟨l', h, h2⟩ | ⟨h, _⟩
        · cases h
          rw [h2]
          have hz : bR [] = [] := rfl
          unfold c27b0
          by_cases hlen : (l.length : Int) = m - f
          · rw [if_pos hlen] at hv hL
            subst hv hL
            simp [evCode, evOps, evOne, evOp, evPur, evEff, evPur.chunks, fillP, AOp.isEff, AO.ev, putP, PV.cells, PV.leaf, getB, getM, mapE, keyC, mapRows, mfind, eq1, eqL, scal, binP, unP, minP, maxP, foldP, PV.lt, PV.lt.ltL, endP, expoAll, expo, expo.expoL, frIds, frIds.frIdsL, nodupN, kill, cls, clsFuel, resO, RV.get, loadP, evC_p, evC_s, endS, endT, rowsOf, callP, thinL, unfr, unfr.unfrL, PV.noMem, PV.noMem.noMemL, optI, mapO, norm, trimT, trimB, forget, hasN, blksLt, List.set, S27, cl, eB, hz, el, wm, hlen]
          · rw [if_neg hlen] at hv hL
            subst hv hL
            simp [evCode, evOps, evOne, evOp, evPur, evEff, evPur.chunks, fillP, AOp.isEff, AO.ev, putP, PV.cells, PV.leaf, getB, getM, mapE, keyC, mapRows, mfind, eq1, eqL, scal, binP, unP, minP, maxP, foldP, PV.lt, PV.lt.ltL, endP, expoAll, expo, expo.expoL, frIds, frIds.frIdsL, nodupN, kill, cls, clsFuel, resO, RV.get, loadP, evC_p, evC_s, endS, endT, rowsOf, callP, thinL, unfr, unfr.unfrL, PV.noMem, PV.noMem.noMemL, optI, mapO, norm, trimT, trimB, forget, hasN, blksLt, List.set, S27, cl, eB, hz, el, wm, hlen, z0]
        · cases h
      have hg : goodL p D S T f m = if (l.length : Int) = m - f then l else [] := by
        unfold goodL
        rw [herr, hq]
        by_cases hlen : (l.length : Int) = m - f
        · rw [if_pos hlen, if_pos hlen, if_pos rfl]; rfl
        · rw [if_neg hlen, if_neg hlen, if_neg (by decide)]
      exact hrun _ herr.symm _ hg.symm
  · refine bad 1 (by decide) (by unfold errF; rw [if_neg hp]) (evE_intro 3 D27 rfl ?_)
    unfold c27
    simp [evCode, evOps, evOne, evOp, evPur, evEff, evPur.chunks, fillP, AOp.isEff, AO.ev, putP, PV.cells, PV.leaf, getB, getM, mapE, keyC, mapRows, mfind, eq1, eqL, scal, binP, unP, minP, maxP, foldP, PV.lt, PV.lt.ltL, endP, expoAll, expo, expo.expoL, frIds, frIds.frIdsL, nodupN, kill, cls, clsFuel, resO, RV.get, loadP, evC_p, evC_s, endS, endT, rowsOf, callP, thinL, unfr, unfr.unfrL, PV.noMem, PV.noMem.noMemL, optI, mapO, norm, trimT, trimB, forget, hasN, blksLt, List.set, eR, eB, h26, hp]
set_option maxRecDepth 100000 in
theorem f11 (x : Bool) (p : Int) (D : List Nat) (s e f m : Int) (hD : D.length ≤ 100000) (ok : okB D) : evE Dg 11 [eR p (eB x D) s e f m] = some (.int .i64 (errF p D s e f m)) := by
  have h := f27 x p D s e f m hD ok
  generalize errF p D s e f m = er at *
  generalize goodL p D s e f m = l at *
  simp only [eR, eB] at h
  refine evE_intro 3 D11 rfl ?_
  unfold c11
  simp [evCode, evOps, evOne, evOp, evPur, evEff, evPur.chunks, fillP, AOp.isEff, AO.ev, putP, PV.cells, PV.leaf, getB, getM, mapE, keyC, mapRows, mfind, eq1, eqL, scal, binP, unP, minP, maxP, foldP, PV.lt, PV.lt.ltL, endP, expoAll, expo, expo.expoL, frIds, frIds.frIdsL, nodupN, kill, cls, clsFuel, resO, RV.get, loadP, evC_p, evC_s, endS, endT, rowsOf, callP, thinL, unfr, unfr.unfrL, PV.noMem, PV.noMem.noMemL, optI, mapO, norm, trimT, trimB, forget, hasN, blksLt, List.set, eR, eB, h]
theorem err_nums {p : Int} {D : List Nat} {s e f m : Int} (h : errF p D s e f m = 0) : okP p ∧ numsOk D.length s e f m := by
  unfold errF at h
  split at h
  · split at h
    · exact ⟨by assumption, by assumption⟩
    · cases h
  · cases h
/-- how many records there are, and how many bytes are free -/
def cntF (p : Int) (D : List Nat) (s e f m : Int) : Int := if errF p D s e f m = 0 then m - f else 0
def freF (p : Int) (D : List Nat) (s e f m : Int) : Int := if errF p D s e f m = 0 then D.length - (e - s) else 0
set_option maxRecDepth 100000 in
theorem f12 (x : Bool) (p : Int) (D : List Nat) (s e f m : Int) (hD : D.length ≤ 100000) (ok : okB D) : evE Dg 12 [eR p (eB x D) s e f m] = some (.int .i64 (cntF p D s e f m)) := by
  have h := f11 x p D s e f m hD ok
  have hn := err_nums (p := p) (D := D) (s := s) (e := e) (f := f) (m := m)
  unfold cntF
  generalize errF p D s e f m = er at *
  simp only [eR, eB] at h
  refine evE_intro 3 D12 rfl ?_
  unfold c12
  by_cases c : er = 0
  · subst c
    obtain ⟨_, _, _, _, _, _, _, n1, n2, n3⟩ := hn rfl
    have w : IntKind.i64.wrap (m - f) = m - f := wrap_i64 _ (by omega) (by omega)
    simp [evCode, evOps, evOne, evOp, evPur, evEff, evPur.chunks, fillP, AOp.isEff, AO.ev, putP, PV.cells, PV.leaf, getB, getM, mapE, keyC, mapRows, mfind, eq1, eqL, scal, binP, unP, minP, maxP, foldP, PV.lt, PV.lt.ltL, endP, expoAll, expo, expo.expoL, frIds, frIds.frIdsL, nodupN, kill, cls, clsFuel, resO, RV.get, loadP, evC_p, evC_s, endS, endT, rowsOf, callP, thinL, unfr, unfr.unfrL, PV.noMem, PV.noMem.noMemL, optI, mapO, norm, trimT, trimB, forget, hasN, blksLt, List.set, eR, eB, h, w]
  · simp [evCode, evOps, evOne, evOp, evPur, evEff, evPur.chunks, fillP, AOp.isEff, AO.ev, putP, PV.cells, PV.leaf, getB, getM, mapE, keyC, mapRows, mfind, eq1, eqL, scal, binP, unP, minP, maxP, foldP, PV.lt, PV.lt.ltL, endP, expoAll, expo, expo.expoL, frIds, frIds.frIdsL, nodupN, kill, cls, clsFuel, resO, RV.get, loadP, evC_p, evC_s, endS, endT, rowsOf, callP, thinL, unfr, unfr.unfrL, PV.noMem, PV.noMem.noMemL, optI, mapO, norm, trimT, trimB, forget, hasN, blksLt, List.set, eR, eB, h, c]
set_option maxRecDepth 100000 in
theorem f13 (x : Bool) (p : Int) (D : List Nat) (s e f m : Int) (hD : D.length ≤ 100000) (ok : okB D) : evE Dg 13 [eR p (eB x D) s e f m] = some (.int .i64 (freF p D s e f m)) := by
  have h := f11 x p D s e f m hD ok
  have hn := err_nums (p := p) (D := D) (s := s) (e := e) (f := f) (m := m)
  unfold freF
  generalize errF p D s e f m = er at *
  have e1 := bR_len D
  simp only [eR, eB] at h
  by_cases c : er = 0
  · subst c
    obtain ⟨_, n0, n1, n2, n3, n4, n5, _, _, _⟩ := hn rfl
    have w : IntKind.i64.wrap (e - s) = e - s := wrap_i64 _ (by omega) (by omega)
    have w2 : IntKind.i64.wrap ((D.length : Int) - (e - s)) = (D.length : Int) - (e - s) := wrap_i64 _ (by omega) (by omega)
    have h28 : evE Dg 28 [eR p (eB x D) s e f m] = some (.int .i64 ((D.length : Int) - (e - s))) := by
      refine evE_intro 3 D28 rfl ?_
      unfold c28
      simp [evCode, evOps, evOne, evOp, evPur, evEff, evPur.chunks, fillP, AOp.isEff, AO.ev, putP, PV.cells, PV.leaf, getB, getM, mapE, keyC, mapRows, mfind, eq1, eqL, scal, binP, unP, minP, maxP, foldP, PV.lt, PV.lt.ltL, endP, expoAll, expo, expo.expoL, frIds, frIds.frIdsL, nodupN, kill, cls, clsFuel, resO, RV.get, loadP, evC_p, evC_s, endS, endT, rowsOf, callP, thinL, unfr, unfr.unfrL, PV.noMem, PV.noMem.noMemL, optI, mapO, norm, trimT, trimB, forget, hasN, blksLt, List.set, eR, eB, e1, w, w2]
    simp only [eR, eB] at h28
    refine evE_intro 3 D13 rfl ?_
    unfold c13
    simp [evCode, evOps, evOne, evOp, evPur, evEff, evPur.chunks, fillP, AOp.isEff, AO.ev, putP, PV.cells, PV.leaf, getB, getM, mapE, keyC, mapRows, mfind, eq1, eqL, scal, binP, unP, minP, maxP, foldP, PV.lt, PV.lt.ltL, endP, expoAll, expo, expo.expoL, frIds, frIds.frIdsL, nodupN, kill, cls, clsFuel, resO, RV.get, loadP, evC_p, evC_s, endS, endT, rowsOf, callP, thinL, unfr, unfr.unfrL, PV.noMem, PV.noMem.noMemL, optI, mapO, norm, trimT, trimB, forget, hasN, blksLt, List.set, eR, eB, h, h28]
  · refine evE_intro 3 D13 rfl ?_
    unfold c13
    simp [evCode, evOps, evOne, evOp, evPur, evEff, evPur.chunks, fillP, AOp.isEff, AO.ev, putP, PV.cells, PV.leaf, getB, getM, mapE, keyC, mapRows, mfind, eq1, eqL, scal, binP, unP, minP, maxP, foldP, PV.lt, PV.lt.ltL, endP, expoAll, expo, expo.expoL, frIds, frIds.frIdsL, nodupN, kill, cls, clsFuel, resO, RV.get, loadP, evC_p, evC_s, endS, endT, rowsOf, callP, thinL, unfr, unfr.unfrL, PV.noMem, PV.noMem.noMemL, optI, mapO, norm, trimT, trimB, forget, hasN, blksLt, List.set, eR, eB, h, c]
end Go.Proofs.Ythoncigfbhinlaa
