/- ring: Put of the program, full and out of range. -/
import Derived.Test.YthoncigfbhinlaaRhB
namespace Go.Proofs.Ythoncigfbhinlaa
open Go Go.RowKit
set_option linter.unusedVariables false
set_option linter.unusedSimpArgs false
set_option maxHeartbeats 8000000

theorem rm_fre {p : Int} {D : List Nat} {s e f m : Int} (h : errF p D s e f m = 0) : (rmF D s e : Int) = D.length - (e - s) ∧ freF p D s e f m = rmF D s e := by
  obtain ⟨_, n0, n1, n2, n3, n4, n5, _, _, _⟩ := err_nums h
  unfold freF rmF
  rw [if_pos h]
  omega
set_option maxRecDepth 100000 in
theorem p23_full (x : Bool) (D b : List Nat) (s e f m : Int) (hD : D.length ≤ 100000) (ok : okB D) (h : errF 2 D s e f m = 0) (hb : ¬ 2000 < b.length) (hb2 : ¬ D.length < (putF b.length ++ b).length) (hf : freF 2 D s e f m < (putF b.length ++ b).length) : evE Dg 23 [eR 2 (eB x D) s e f m, eB false b] = some (pR (eR 2 (eB x D) s e f m) 0 6) := by
  have h27 := f27 x 2 D s e f m hD ok
  obtain ⟨_, n0, n1, n2, n3, n4, n5, _, _, _⟩ := err_nums h
  obtain ⟨r1, r2⟩ := rm_fre h
  have h28 := f28 x 2 D s e f m (rmF D s e) hD (by omega) (by omega) r1
  rw [h] at h27
  rw [r2] at hf
  generalize goodL 2 D s e f m = l at *
  generalize rmF D s e = a at *
  have e1 := bR_len b
  have e2 := bR_len (putF b.length ++ b)
  have e3 := bR_len D
  simp only [eR, eB] at h27 h28
  have c' : ¬ (2000 : Int) < b.length := by omega
  have h32 := f32s b.length (by omega)
  obtain ⟨z, Q, hP⟩ := putF_cons b.length
  have hQ := putF_len b.length
  have h31 := f31 true (putF b.length) b (by rw [hP]; simp) (by omega) (by omega)
  generalize putF b.length ++ b = G at *
  generalize putF b.length = P at *
  have d' : ¬ (D.length : Int) < G.length := by omega
  have hf' : a < G.length := by omega
  refine evE_intro 3 D23 rfl ?_
  unfold c23
  simp [evCode, evOps, evOne, evOp, evPur, evEff, evPur.chunks, fillP, AOp.isEff, AO.ev, putP, PV.cells, PV.leaf, getB, getM, mapE, keyC, mapRows, mfind, eq1, eqL, scal, binP, unP, minP, maxP, foldP, PV.lt, PV.lt.ltL, endP, expoAll, expo, expo.expoL, frIds, frIds.frIdsL, nodupN, kill, cls, clsFuel, resO, RV.get, loadP, evC_p, evC_s, endS, endT, rowsOf, callP, thinL, unfr, unfr.unfrL, PV.noMem, PV.noMem.noMemL, optI, mapO, norm, trimT, trimB, forget, hasN, blksLt, List.set, eR, eB, pR, h27, h28, h31, h32, e1, e2, e3, hb, c', hb2, d', hf, hf']
set_option maxRecDepth 100000 in
theorem p23_range (x : Bool) (p : Int) (D b : List Nat) (s e f m : Int) (hD : D.length ≤ 100000) (ok : okB D) (h : errF p D s e f m = 0) (hb : ¬ 2000 < b.length) (hb2 : ¬ D.length < (putF b.length ++ b).length) (hf : p = 2 → ¬ freF p D s e f m < (putF b.length ++ b).length)
    (hr : 1000000000000000 < e + (putF b.length ++ b).length ∨ m = 1000000000000000) : evE Dg 23 [eR p (eB x D) s e f m, eB false b] = some (pR (eR p (eB x D) s e f m) 0 2) := by
  have h27 := f27 x p D s e f m hD ok
  obtain ⟨hp, n0, n1, n2, n3, n4, n5, n6, n7, n8⟩ := err_nums h
  obtain ⟨r1, r2⟩ := rm_fre h
  have h28 := f28 x p D s e f m (rmF D s e) hD (by omega) (by omega) r1
  rw [h] at h27
  rw [r2] at hf
  generalize goodL p D s e f m = l at *
  generalize rmF D s e = a at *
  have e1 := bR_len b
  have e2 := bR_len (putF b.length ++ b)
  have e3 := bR_len D
  simp only [eR, eB] at h27 h28
  have c' : ¬ (2000 : Int) < b.length := by omega
  have h32 := f32s b.length (by omega)
  obtain ⟨z, Q, hP⟩ := putF_cons b.length
  have hQ := putF_len b.length
  have h31 := f31 true (putF b.length) b (by rw [hP]; simp) (by omega) (by omega)
  generalize putF b.length ++ b = G at *
  generalize putF b.length = P at *
  have d' : ¬ (D.length : Int) < G.length := by omega
  have w : IntKind.i64.wrap (1000000000000000 - (G.length : Int)) = 1000000000000000 - (G.length : Int) := wrap_i64 _ (by omega) (by omega)
  by_cases q1 : 1000000000000000 - (G.length : Int) < e
  · rcases hp with rfl | rfl
    · refine evE_intro 3 D23 rfl ?_
      unfold c23
      simp [evCode, evOps, evOne, evOp, evPur, evEff, evPur.chunks, fillP, AOp.isEff, AO.ev, putP, PV.cells, PV.leaf, getB, getM, mapE, keyC, mapRows, mfind, eq1, eqL, scal, binP, unP, minP, maxP, foldP, PV.lt, PV.lt.ltL, endP, expoAll, expo, expo.expoL, frIds, frIds.frIdsL, nodupN, kill, cls, clsFuel, resO, RV.get, loadP, evC_p, evC_s, endS, endT, rowsOf, callP, thinL, unfr, unfr.unfrL, PV.noMem, PV.noMem.noMemL, optI, mapO, norm, trimT, trimB, forget, hasN, blksLt, List.set, eR, eB, pR, h27, h28, h31, h32, e1, e2, e3, hb, c', hb2, d', w, q1]
    · have hf := hf rfl
      have hf' : ¬ a < G.length := by omega
      refine evE_intro 3 D23 rfl ?_
      unfold c23
      simp [evCode, evOps, evOne, evOp, evPur, evEff, evPur.chunks, fillP, AOp.isEff, AO.ev, putP, PV.cells, PV.leaf, getB, getM, mapE, keyC, mapRows, mfind, eq1, eqL, scal, binP, unP, minP, maxP, foldP, PV.lt, PV.lt.ltL, endP, expoAll, expo, expo.expoL, frIds, frIds.frIdsL, nodupN, kill, cls, clsFuel, resO, RV.get, loadP, evC_p, evC_s, endS, endT, rowsOf, callP, thinL, unfr, unfr.unfrL, PV.noMem, PV.noMem.noMemL, optI, mapO, norm, trimT, trimB, forget, hasN, blksLt, List.set, eR, eB, pR, h27, h28, h31, h32, e1, e2, e3, hb, c', hb2, d', hf, hf', w, q1]
  · have q2 : m = 1000000000000000 := by omega
    subst q2
    rcases hp with rfl | rfl
    · refine evE_intro 3 D23 rfl ?_
      unfold c23
      simp [evCode, evOps, evOne, evOp, evPur, evEff, evPur.chunks, fillP, AOp.isEff, AO.ev, putP, PV.cells, PV.leaf, getB, getM, mapE, keyC, mapRows, mfind, eq1, eqL, scal, binP, unP, minP, maxP, foldP, PV.lt, PV.lt.ltL, endP, expoAll, expo, expo.expoL, frIds, frIds.frIdsL, nodupN, kill, cls, clsFuel, resO, RV.get, loadP, evC_p, evC_s, endS, endT, rowsOf, callP, thinL, unfr, unfr.unfrL, PV.noMem, PV.noMem.noMemL, optI, mapO, norm, trimT, trimB, forget, hasN, blksLt, List.set, eR, eB, pR, h27, h28, h31, h32, e1, e2, e3, hb, c', hb2, d', w, q1]
    · have hf := hf rfl
      have hf' : ¬ a < G.length := by omega
      refine evE_intro 3 D23 rfl ?_
      unfold c23
      simp [evCode, evOps, evOne, evOp, evPur, evEff, evPur.chunks, fillP, AOp.isEff, AO.ev, putP, PV.cells, PV.leaf, getB, getM, mapE, keyC, mapRows, mfind, eq1, eqL, scal, binP, unP, minP, maxP, foldP, PV.lt, PV.lt.ltL, endP, expoAll, expo, expo.expoL, frIds, frIds.frIdsL, nodupN, kill, cls, clsFuel, resO, RV.get, loadP, evC_p, evC_s, endS, endT, rowsOf, callP, thinL, unfr, unfr.unfrL, PV.noMem, PV.noMem.noMemL, optI, mapO, norm, trimT, trimB, forget, hasN, blksLt, List.set, eR, eB, pR, h27, h28, h31, h32, e1, e2, e3, hb, c', hb2, d', hf, hf', w, q1]
end Go.Proofs.Ythoncigfbhinlaa
