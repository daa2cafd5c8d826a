/- itree: the small functions: valid, in common, few, the reference's Check and visits. -/
import Derived.Test.YtkodjmlhmpokoaaItH
import Derived.Test.YtkodjmlhmpokoaaItO
namespace Go.Proofs.Ytkodjmlhmpokoaa
open Go Go.RowKit
set_option linter.unusedVariables false
set_option linter.unusedSimpArgs false
set_option maxHeartbeats 4000000

def vS (s : Sp) : PV := .agg [.int .i64 s.1, .int .i64 s.2]
theorem f34 (s : Sp) : evE Dg 34 [vS s] = some (.bool (valB s)) := by
  refine evE_intro 1 D34 rfl ?_
  unfold c34 valB
  by_cases h1 : 0 ≤ s.1
  · by_cases h2 : s.1 < s.2
    · simp [evCode, evOps, evOne, evOp, evPur, evEff, evPur.chunks, fillP, AOp.isEff, AO.ev, putP, PV.cells, PV.leaf, getB, getM, mapE, iterE, keyC, mapRows, mfind, eq1, eqL, scal, binP, unP, minP, maxP, foldP, PV.lt, PV.lt.ltL, endP, expoAll, expoG, expo, expo.expoL, frIds, frIds.frIdsL, nodupN, kill, cls, clsFuel, resO, RV.get, loadP, evC_p, evC_s, endS, endT, rowsOf, callP, thinL, unfr, unfr.unfrL, PV.noMem, PV.noMem.noMemL, optI, mapO, norm, trimT, trimB, forget, hasN, blksLt, List.set, softChk, softGo, softRd, effTg, rdP, vS, h1, h2]
    · simp [evCode, evOps, evOne, evOp, evPur, evEff, evPur.chunks, fillP, AOp.isEff, AO.ev, putP, PV.cells, PV.leaf, getB, getM, mapE, iterE, keyC, mapRows, mfind, eq1, eqL, scal, binP, unP, minP, maxP, foldP, PV.lt, PV.lt.ltL, endP, expoAll, expoG, expo, expo.expoL, frIds, frIds.frIdsL, nodupN, kill, cls, clsFuel, resO, RV.get, loadP, evC_p, evC_s, endS, endT, rowsOf, callP, thinL, unfr, unfr.unfrL, PV.noMem, PV.noMem.noMemL, optI, mapO, norm, trimT, trimB, forget, hasN, blksLt, List.set, softChk, softGo, softRd, effTg, rdP, vS, h1, h2]
  · simp [evCode, evOps, evOne, evOp, evPur, evEff, evPur.chunks, fillP, AOp.isEff, AO.ev, putP, PV.cells, PV.leaf, getB, getM, mapE, iterE, keyC, mapRows, mfind, eq1, eqL, scal, binP, unP, minP, maxP, foldP, PV.lt, PV.lt.ltL, endP, expoAll, expoG, expo, expo.expoL, frIds, frIds.frIdsL, nodupN, kill, cls, clsFuel, resO, RV.get, loadP, evC_p, evC_s, endS, endT, rowsOf, callP, thinL, unfr, unfr.unfrL, PV.noMem, PV.noMem.noMemL, optI, mapO, norm, trimT, trimB, forget, hasN, blksLt, List.set, softChk, softGo, softRd, effTg, rdP, vS, h1]
theorem f43 (s : Sp) : evE Dg 43 [vS s] = some (.bool (valB s)) := by
  refine evE_intro 1 D43 rfl ?_
  unfold c43 valB
  by_cases h1 : 0 ≤ s.1
  · by_cases h2 : s.1 < s.2
    · simp [evCode, evOps, evOne, evOp, evPur, evEff, evPur.chunks, fillP, AOp.isEff, AO.ev, putP, PV.cells, PV.leaf, getB, getM, mapE, iterE, keyC, mapRows, mfind, eq1, eqL, scal, binP, unP, minP, maxP, foldP, PV.lt, PV.lt.ltL, endP, expoAll, expoG, expo, expo.expoL, frIds, frIds.frIdsL, nodupN, kill, cls, clsFuel, resO, RV.get, loadP, evC_p, evC_s, endS, endT, rowsOf, callP, thinL, unfr, unfr.unfrL, PV.noMem, PV.noMem.noMemL, optI, mapO, norm, trimT, trimB, forget, hasN, blksLt, List.set, softChk, softGo, softRd, effTg, rdP, vS, h1, h2]
    · simp [evCode, evOps, evOne, evOp, evPur, evEff, evPur.chunks, fillP, AOp.isEff, AO.ev, putP, PV.cells, PV.leaf, getB, getM, mapE, iterE, keyC, mapRows, mfind, eq1, eqL, scal, binP, unP, minP, maxP, foldP, PV.lt, PV.lt.ltL, endP, expoAll, expoG, expo, expo.expoL, frIds, frIds.frIdsL, nodupN, kill, cls, clsFuel, resO, RV.get, loadP, evC_p, evC_s, endS, endT, rowsOf, callP, thinL, unfr, unfr.unfrL, PV.noMem, PV.noMem.noMemL, optI, mapO, norm, trimT, trimB, forget, hasN, blksLt, List.set, softChk, softGo, softRd, effTg, rdP, vS, h1, h2]
  · simp [evCode, evOps, evOne, evOp, evPur, evEff, evPur.chunks, fillP, AOp.isEff, AO.ev, putP, PV.cells, PV.leaf, getB, getM, mapE, iterE, keyC, mapRows, mfind, eq1, eqL, scal, binP, unP, minP, maxP, foldP, PV.lt, PV.lt.ltL, endP, expoAll, expoG, expo, expo.expoL, frIds, frIds.frIdsL, nodupN, kill, cls, clsFuel, resO, RV.get, loadP, evC_p, evC_s, endS, endT, rowsOf, callP, thinL, unfr, unfr.unfrL, PV.noMem, PV.noMem.noMemL, optI, mapO, norm, trimT, trimB, forget, hasN, blksLt, List.set, softChk, softGo, softRd, effTg, rdP, vS, h1]
theorem f33 (a b : Sp) : evE Dg 33 [vS a, vS b] = some (.bool (comB a b)) := by
  have h1 := f34 a
  have h2 := f34 b
  refine evE_intro 1 D33 rfl ?_
  unfold c33 comB
  generalize valB a = p at *
  generalize valB b = q at *
  simp only [vS] at h1 h2
  cases p with
  | false => simp [evCode, evOps, evOne, evOp, evPur, evEff, evPur.chunks, fillP, AOp.isEff, AO.ev, putP, PV.cells, PV.leaf, getB, getM, mapE, iterE, keyC, mapRows, mfind, eq1, eqL, scal, binP, unP, minP, maxP, foldP, PV.lt, PV.lt.ltL, endP, expoAll, expoG, expo, expo.expoL, frIds, frIds.frIdsL, nodupN, kill, cls, clsFuel, resO, RV.get, loadP, evC_p, evC_s, endS, endT, rowsOf, callP, thinL, unfr, unfr.unfrL, PV.noMem, PV.noMem.noMemL, optI, mapO, norm, trimT, trimB, forget, hasN, blksLt, List.set, softChk, softGo, softRd, effTg, rdP, vS, h1, h2]
  | true =>
    cases q with
    | false => simp [evCode, evOps, evOne, evOp, evPur, evEff, evPur.chunks, fillP, AOp.isEff, AO.ev, putP, PV.cells, PV.leaf, getB, getM, mapE, iterE, keyC, mapRows, mfind, eq1, eqL, scal, binP, unP, minP, maxP, foldP, PV.lt, PV.lt.ltL, endP, expoAll, expoG, expo, expo.expoL, frIds, frIds.frIdsL, nodupN, kill, cls, clsFuel, resO, RV.get, loadP, evC_p, evC_s, endS, endT, rowsOf, callP, thinL, unfr, unfr.unfrL, PV.noMem, PV.noMem.noMemL, optI, mapO, norm, trimT, trimB, forget, hasN, blksLt, List.set, softChk, softGo, softRd, effTg, rdP, vS, h1, h2]
    | true =>
      by_cases h3 : a.1 < b.2
      · simp [evCode, evOps, evOne, evOp, evPur, evEff, evPur.chunks, fillP, AOp.isEff, AO.ev, putP, PV.cells, PV.leaf, getB, getM, mapE, iterE, keyC, mapRows, mfind, eq1, eqL, scal, binP, unP, minP, maxP, foldP, PV.lt, PV.lt.ltL, endP, expoAll, expoG, expo, expo.expoL, frIds, frIds.frIdsL, nodupN, kill, cls, clsFuel, resO, RV.get, loadP, evC_p, evC_s, endS, endT, rowsOf, callP, thinL, unfr, unfr.unfrL, PV.noMem, PV.noMem.noMemL, optI, mapO, norm, trimT, trimB, forget, hasN, blksLt, List.set, softChk, softGo, softRd, effTg, rdP, vS, h1, h2, h3]
      · simp [evCode, evOps, evOne, evOp, evPur, evEff, evPur.chunks, fillP, AOp.isEff, AO.ev, putP, PV.cells, PV.leaf, getB, getM, mapE, iterE, keyC, mapRows, mfind, eq1, eqL, scal, binP, unP, minP, maxP, foldP, PV.lt, PV.lt.ltL, endP, expoAll, expoG, expo, expo.expoL, frIds, frIds.frIdsL, nodupN, kill, cls, clsFuel, resO, RV.get, loadP, evC_p, evC_s, endS, endT, rowsOf, callP, thinL, unfr, unfr.unfrL, PV.noMem, PV.noMem.noMemL, optI, mapO, norm, trimT, trimB, forget, hasN, blksLt, List.set, softChk, softGo, softRd, effTg, rdP, vS, h1, h2, h3]
theorem f56 (a b : Sp) : evE Dg 56 [vS a, vS b] = some (.bool (comB a b)) := by
  have h1 := f43 a
  have h2 := f43 b
  refine evE_intro 1 D56 rfl ?_
  unfold c56 comB
  generalize valB a = p at *
  generalize valB b = q at *
  simp only [vS] at h1 h2
  cases p with
  | false => simp [evCode, evOps, evOne, evOp, evPur, evEff, evPur.chunks, fillP, AOp.isEff, AO.ev, putP, PV.cells, PV.leaf, getB, getM, mapE, iterE, keyC, mapRows, mfind, eq1, eqL, scal, binP, unP, minP, maxP, foldP, PV.lt, PV.lt.ltL, endP, expoAll, expoG, expo, expo.expoL, frIds, frIds.frIdsL, nodupN, kill, cls, clsFuel, resO, RV.get, loadP, evC_p, evC_s, endS, endT, rowsOf, callP, thinL, unfr, unfr.unfrL, PV.noMem, PV.noMem.noMemL, optI, mapO, norm, trimT, trimB, forget, hasN, blksLt, List.set, softChk, softGo, softRd, effTg, rdP, vS, h1, h2]
  | true =>
    cases q with
    | false => simp [evCode, evOps, evOne, evOp, evPur, evEff, evPur.chunks, fillP, AOp.isEff, AO.ev, putP, PV.cells, PV.leaf, getB, getM, mapE, iterE, keyC, mapRows, mfind, eq1, eqL, scal, binP, unP, minP, maxP, foldP, PV.lt, PV.lt.ltL, endP, expoAll, expoG, expo, expo.expoL, frIds, frIds.frIdsL, nodupN, kill, cls, clsFuel, resO, RV.get, loadP, evC_p, evC_s, endS, endT, rowsOf, callP, thinL, unfr, unfr.unfrL, PV.noMem, PV.noMem.noMemL, optI, mapO, norm, trimT, trimB, forget, hasN, blksLt, List.set, softChk, softGo, softRd, effTg, rdP, vS, h1, h2]
    | true =>
      by_cases h3 : a.1 < b.2
      · simp [evCode, evOps, evOne, evOp, evPur, evEff, evPur.chunks, fillP, AOp.isEff, AO.ev, putP, PV.cells, PV.leaf, getB, getM, mapE, iterE, keyC, mapRows, mfind, eq1, eqL, scal, binP, unP, minP, maxP, foldP, PV.lt, PV.lt.ltL, endP, expoAll, expoG, expo, expo.expoL, frIds, frIds.frIdsL, nodupN, kill, cls, clsFuel, resO, RV.get, loadP, evC_p, evC_s, endS, endT, rowsOf, callP, thinL, unfr, unfr.unfrL, PV.noMem, PV.noMem.noMemL, optI, mapO, norm, trimT, trimB, forget, hasN, blksLt, List.set, softChk, softGo, softRd, effTg, rdP, vS, h1, h2, h3]
      · simp [evCode, evOps, evOne, evOp, evPur, evEff, evPur.chunks, fillP, AOp.isEff, AO.ev, putP, PV.cells, PV.leaf, getB, getM, mapE, iterE, keyC, mapRows, mfind, eq1, eqL, scal, binP, unP, minP, maxP, foldP, PV.lt, PV.lt.ltL, endP, expoAll, expoG, expo, expo.expoL, frIds, frIds.frIdsL, nodupN, kill, cls, clsFuel, resO, RV.get, loadP, evC_p, evC_s, endS, endT, rowsOf, callP, thinL, unfr, unfr.unfrL, PV.noMem, PV.noMem.noMemL, optI, mapO, norm, trimT, trimB, forget, hasN, blksLt, List.set, softChk, softGo, softRd, effTg, rdP, vS, h1, h2, h3]
theorem f13 (x a b : Bool) (l : List Sp) (o m : List Int) : evE Dg 13 [eS x l, .agg [eI a o, eI b m]] = some (.bool ((decide (l.length ≤ 200) && decide (o.length ≤ 300)) && decide (m.length ≤ 300))) := by
  have e1 := spRows_len l
  have e2 := iR_len
  refine evE_intro 1 D13 rfl ?_
  unfold c13
  have i1 : ((l.length : Int) ≤ 200) = (l.length ≤ 200) := by apply propext; omega
  have i2 : ((o.length : Int) ≤ 300) = (o.length ≤ 300) := by apply propext; omega
  have i3 : ((m.length : Int) ≤ 300) = (m.length ≤ 300) := by apply propext; omega
  by_cases h1 : l.length ≤ 200
  · by_cases h2 : o.length ≤ 300
    · simp [evCode, evOps, evOne, evOp, evPur, evEff, evPur.chunks, fillP, AOp.isEff, AO.ev, putP, PV.cells, PV.leaf, getB, getM, mapE, iterE, keyC, mapRows, mfind, eq1, eqL, scal, binP, unP, minP, maxP, foldP, PV.lt, PV.lt.ltL, endP, expoAll, expoG, expo, expo.expoL, frIds, frIds.frIdsL, nodupN, kill, cls, clsFuel, resO, RV.get, loadP, evC_p, evC_s, endS, endT, rowsOf, callP, thinL, unfr, unfr.unfrL, PV.noMem, PV.noMem.noMemL, optI, mapO, norm, trimT, trimB, forget, hasN, blksLt, List.set, softChk, softGo, softRd, effTg, rdP, eS, eI, e1, e2, i1, i2, i3, h1, h2]
    · simp [evCode, evOps, evOne, evOp, evPur, evEff, evPur.chunks, fillP, AOp.isEff, AO.ev, putP, PV.cells, PV.leaf, getB, getM, mapE, iterE, keyC, mapRows, mfind, eq1, eqL, scal, binP, unP, minP, maxP, foldP, PV.lt, PV.lt.ltL, endP, expoAll, expoG, expo, expo.expoL, frIds, frIds.frIdsL, nodupN, kill, cls, clsFuel, resO, RV.get, loadP, evC_p, evC_s, endS, endT, rowsOf, callP, thinL, unfr, unfr.unfrL, PV.noMem, PV.noMem.noMemL, optI, mapO, norm, trimT, trimB, forget, hasN, blksLt, List.set, softChk, softGo, softRd, effTg, rdP, eS, eI, e1, e2, i1, i2, i3, h1, h2]
  · simp [evCode, evOps, evOne, evOp, evPur, evEff, evPur.chunks, fillP, AOp.isEff, AO.ev, putP, PV.cells, PV.leaf, getB, getM, mapE, iterE, keyC, mapRows, mfind, eq1, eqL, scal, binP, unP, minP, maxP, foldP, PV.lt, PV.lt.ltL, endP, expoAll, expoG, expo, expo.expoL, frIds, frIds.frIdsL, nodupN, kill, cls, clsFuel, resO, RV.get, loadP, evC_p, evC_s, endS, endT, rowsOf, callP, thinL, unfr, unfr.unfrL, PV.noMem, PV.noMem.noMemL, optI, mapO, norm, trimT, trimB, forget, hasN, blksLt, List.set, softChk, softGo, softRd, effTg, rdP, eS, eI, e1, e2, i1, i2, i3, h1]
set_option maxRecDepth 100000 in
theorem f14 (x a b : Bool) (l : List Sp) (o m : List Int) (hl : l.length < 1000000) (hol : o.length ≤ 1000000) (hml : m.length ≤ 1000000) :
    evE Dg 14 [eS x l, .agg [eI a o, eI b m]] = some (.bool (decide (o = ordI l) && decide (m = mostP l))) := by
  have h9 := f10 x l (by omega)
  rw [← ord_eq, ← most_eq, nR_iR] at h9
  change _ = some (PV.agg [.fr 1 (iR (ordI l)), .fr 1 (iR (mostP l))]) at h9
  have q1 : ∀ c, evE Dg 11 [eI a o, eI c (ordI l)] = _ := fun c => f11 a c o (ordI l) hol
  have q2 : ∀ c, evE Dg 11 [eI b m, eI c (mostP l)] = _ := fun c => f11 b c m (mostP l) hml
  have e2 := iR_len
  generalize ordI l = o' at *
  generalize mostP l = m' at *
  simp only [eI, eS] at h9 q1 q2
  have hb0 : ∀ b, Nat.blt b 0 = false := fun b => by cases b <;> rfl
  have im : ∀ rows, impB (PV.fr 1 rows) = [⟨rows.length, 1, true, rows⟩] := fun _ => rfl
  have iv : ∀ k rows, impV k (PV.fr 1 rows) = .own k rows.length 0 rows.length := fun _ _ => rfl
  refine evE_intro 1 D14 rfl ?_
  unfold c14
  by_cases c1 : o = o'
  · subst c1
    have c1 : decide (o = o) = true := by simp
    rw [c1] at q1
    simp [evCode, evOps, evOne, evOp, evPur, evEff, evPur.chunks, fillP, AOp.isEff, AO.ev, putP, PV.cells, PV.leaf, getB, getM, mapE, iterE, keyC, mapRows, mfind, eq1, eqL, scal, binP, unP, minP, maxP, foldP, PV.lt, PV.lt.ltL, endP, expoAll, expoG, expo, expo.expoL, frIds, frIds.frIdsL, nodupN, kill, cls, clsFuel, resO, RV.get, loadP, evC_p, evC_s, endS, endT, rowsOf, callP, thinL, unfr, unfr.unfrL, PV.noMem, PV.noMem.noMemL, optI, mapO, norm, trimT, trimB, forget, hasN, blksLt, List.set, softChk, softGo, softRd, effTg, rdP, eI, eS, h9, q1, q2, e2, hb0, im, iv]
  · have c2 : decide (o = o') = false := by simp [c1]
    rw [c2] at q1
    simp [evCode, evOps, evOne, evOp, evPur, evEff, evPur.chunks, fillP, AOp.isEff, AO.ev, putP, PV.cells, PV.leaf, getB, getM, mapE, iterE, keyC, mapRows, mfind, eq1, eqL, scal, binP, unP, minP, maxP, foldP, PV.lt, PV.lt.ltL, endP, expoAll, expoG, expo, expo.expoL, frIds, frIds.frIdsL, nodupN, kill, cls, clsFuel, resO, RV.get, loadP, evC_p, evC_s, endS, endT, rowsOf, callP, thinL, unfr, unfr.unfrL, PV.noMem, PV.noMem.noMemL, optI, mapO, norm, trimT, trimB, forget, hasN, blksLt, List.set, softChk, softGo, softRd, effTg, rdP, eI, eS, h9, q1, q2, e2, hb0, im, iv, c1]
/-- how many positions the reference visits -/
theorem ordI_get (l : List Sp) (p : Nat) (hp : p < l.length) : (ordI l)[p]? = some (oAt l p : Int) := by
  unfold ordI
  rw [List.getElem?_map, (spA_pos l p hp).1]
  rfl
theorem mostP_get (l : List Sp) (p : Nat) (hp : p < l.length) : (mostP l)[p]? = some (mAt l p) := by
  have : p < (mostP l).length := by rw [mostP_len]; exact hp
  unfold mAt
  rw [List.getD_eq_getElem?_getD, List.getElem?_eq_getElem this]
  rfl
theorem ordI_len (l : List Sp) : (ordI l).length = l.length := by unfold ordI; rw [List.length_map, ordP_len]
theorem f35 (x a b : Bool) (l : List Sp) (s : Sp) (hl : l.length ≤ 1000000) : ∀ (f lo hi : Nat), hi - lo ≤ f → hi ≤ l.length → lo ≤ 1000001 →
    evE Dg 35 [eS x l, .agg [eI a (ordI l), eI b (mostP l)], vS s, .int .i64 lo, .int .i64 hi] = some (.int .i64 (exv l s f lo hi)) := by
  have base : ∀ (f lo hi : Nat), hi ≤ lo → hi ≤ l.length → lo ≤ 1000001 →
      evE Dg 35 [eS x l, .agg [eI a (ordI l), eI b (mostP l)], vS s, .int .i64 lo, .int .i64 hi] = some (.int .i64 (exv l s f lo hi)) := by
    intro f lo hi hh hhn hlo
    have : exv l s f lo hi = 0 := by cases f with
      | zero => rfl
      | succ f => unfold exv; rw [if_pos (.inl hh)]
    rw [this]
    have w1 := wrap_i64 ((lo : Int) + hi) (by omega) (by omega)
    have hr : Int.tdiv ((lo : Int) + hi) 2 = (((lo + hi) / 2 : Nat) : Int) := by
      rw [Int.tdiv_eq_ediv_of_nonneg (by omega)]; omega
    have w2 := wrap_i64 (((lo + hi) / 2 : Nat) : Int) (by omega) (by omega)
    have h1 : (hi : Int) ≤ lo := by omega
    refine evE_intro 1 D35 rfl ?_
    unfold c35
    simp [evCode, evOps, evOne, evOp, evPur, evEff, evPur.chunks, fillP, AOp.isEff, AO.ev, putP, PV.cells, PV.leaf, getB, getM, mapE, iterE, keyC, mapRows, mfind, eq1, eqL, scal, binP, unP, minP, maxP, foldP, PV.lt, PV.lt.ltL, endP, expoAll, expoG, expo, expo.expoL, frIds, frIds.frIdsL, nodupN, kill, cls, clsFuel, resO, RV.get, loadP, evC_p, evC_s, endS, endT, rowsOf, callP, thinL, unfr, unfr.unfrL, PV.noMem, PV.noMem.noMemL, optI, mapO, norm, trimT, trimB, forget, hasN, blksLt, List.set, softChk, softGo, softRd, effTg, rdP, eI, eS, vS, h1, w1, hr, w2]
  intro f
  induction f with
  | zero => exact fun lo hi h1 h2 h3 => base 0 lo hi (by omega) h2 h3
  | succ f ih =>
    intro lo hi h1 h2 h3
    by_cases hh : hi ≤ lo
    · exact base (f + 1) lo hi hh h2 h3
    · have w1 := wrap_i64 ((lo : Int) + hi) (by omega) (by omega)
      have hr : Int.tdiv ((lo : Int) + hi) 2 = (((lo + hi) / 2 : Nat) : Int) := by
        rw [Int.tdiv_eq_ediv_of_nonneg (by omega)]; omega
      have hr1 : lo ≤ (lo + hi) / 2 := by omega
      have hr2 : (lo + hi) / 2 < hi := by omega
      have v1 := exv_le l s f lo ((lo + hi) / 2) (by omega)
      have v2 := exv_le l s f ((lo + hi) / 2 + 1) hi (by omega)
      have i1 := ih lo ((lo + hi) / 2) (by omega) (by omega) h3
      have i2 := ih ((lo + hi) / 2 + 1) hi (by omega) h2 (by omega)
      rw [exv]
      generalize hre : (lo + hi) / 2 = r at *
      have w2 := wrap_i64 (r : Int) (by omega) (by omega)
      have w3 := wrap_i64 ((r : Int) + 1) (by omega) (by omega)
      have gO := iR_get (ordI_get l r (by omega))
      have gM := iR_get (mostP_get l r (by omega))
      have gO' := iR_got (ordI_get l r (by omega))
      have gM' := iR_got (mostP_get l r (by omega))
      obtain ⟨_, hO, hs, _⟩ := spA_pos l r (by omega)
      have lO := iR_len (ordI l)
      have lM := iR_len (mostP l)
      rw [ordI_len] at lO
      rw [mostP_len] at lM
      have rS := spRows_get hs
      have rS' := spRows_got hs
      have lS := spRows_len l
      generalize exv l s f lo r = n1 at *
      generalize exv l s f (r + 1) hi = n2 at *
      generalize oAt l r = i at *
      generalize mAt l r = mm at *
      generalize spA l i = t at *
      have c1 : ¬ (hi : Int) ≤ lo := by omega
      have c2 : (r : Int) < l.length := by omega
      have c2' : r < l.length := by omega
      have c3 : (i : Int) < l.length := by omega
      have w4 := wrap_i64 (1 + (n1 : Int)) (by omega) (by omega)
      have w5 := wrap_i64 (1 + (n1 : Int) + n2) (by omega) (by omega)
      simp only [eI, eS, vS] at i1 i2
      push_cast at i2
      refine evE_intro 1 D35 rfl ?_
      unfold c35
      by_cases k1 : mm ≤ s.1
      · rw [if_pos (.inr k1)]
        simp [evCode, evOps, evOne, evOp, evPur, evEff, evPur.chunks, fillP, AOp.isEff, AO.ev, putP, PV.cells, PV.leaf, getB, getM, mapE, iterE, keyC, mapRows, mfind, eq1, eqL, scal, binP, unP, minP, maxP, foldP, PV.lt, PV.lt.ltL, endP, expoAll, expoG, expo, expo.expoL, frIds, frIds.frIdsL, nodupN, kill, cls, clsFuel, resO, RV.get, loadP, evC_p, evC_s, endS, endT, rowsOf, callP, thinL, unfr, unfr.unfrL, PV.noMem, PV.noMem.noMemL, optI, mapO, norm, trimT, trimB, forget, hasN, blksLt, List.set, softChk, softGo, softRd, effTg, rdP, eI, eS, vS, c1, c2, c2', c3, hO, w1, hr, w2, w3, gO, gO', gM, gM', lO, lM, lS, rS, rS', k1]
      · rw [if_neg (by omega)]
        by_cases k2 : t.1 < s.2
        · rw [if_pos k2]
          simp [evCode, evOps, evOne, evOp, evPur, evEff, evPur.chunks, fillP, AOp.isEff, AO.ev, putP, PV.cells, PV.leaf, getB, getM, mapE, iterE, keyC, mapRows, mfind, eq1, eqL, scal, binP, unP, minP, maxP, foldP, PV.lt, PV.lt.ltL, endP, expoAll, expoG, expo, expo.expoL, frIds, frIds.frIdsL, nodupN, kill, cls, clsFuel, resO, RV.get, loadP, evC_p, evC_s, endS, endT, rowsOf, callP, thinL, unfr, unfr.unfrL, PV.noMem, PV.noMem.noMemL, optI, mapO, norm, trimT, trimB, forget, hasN, blksLt, List.set, softChk, softGo, softRd, effTg, rdP, eI, eS, vS, c1, c2, c2', c3, hO, w1, hr, w2, w3, w4, w5, gO, gO', gM, gM', lO, lM, lS, rS, rS', k1, k2, i1, i2]
        · rw [if_neg k2]
          simp [evCode, evOps, evOne, evOp, evPur, evEff, evPur.chunks, fillP, AOp.isEff, AO.ev, putP, PV.cells, PV.leaf, getB, getM, mapE, iterE, keyC, mapRows, mfind, eq1, eqL, scal, binP, unP, minP, maxP, foldP, PV.lt, PV.lt.ltL, endP, expoAll, expoG, expo, expo.expoL, frIds, frIds.frIdsL, nodupN, kill, cls, clsFuel, resO, RV.get, loadP, evC_p, evC_s, endS, endT, rowsOf, callP, thinL, unfr, unfr.unfrL, PV.noMem, PV.noMem.noMemL, optI, mapO, norm, trimT, trimB, forget, hasN, blksLt, List.set, softChk, softGo, softRd, effTg, rdP, eI, eS, vS, c1, c2, c2', c3, hO, w1, hr, w2, w3, w4, w5, gO, gO', gM, gM', lO, lM, lS, rS, rS', k1, k2, i1]
end Go.Proofs.Ytkodjmlhmpokoaa
