/- intern: Check, Put. -/
import Derived.Test.YtddlicbogbmpbaaIP2
namespace Go.Proofs.Ytddlicbogbmpbaa
open Go Go.RowKit
set_option linter.unusedVariables false
set_option linter.unusedSimpArgs false
set_option maxHeartbeats 2000000

def chk (n : List (List UInt8)) (T : List (Int × Int)) : Int := if 1000 < n.length ∨ 1000 < T.length then 7 else if chkN n = 0 then chkS n.length T else chkN n

theorem f16 (x y : Bool) (n : List (List UInt8)) (T : List (Int × Int)) : evE Dg 16 [eN x n, eSt y T] = some (.int .i64 (chk n T)) := by
  refine evE_intro 1 D16 rfl ?_
  unfold c16
  by_cases h1 : (1000 : Int) < n.length
  · have : 1000 < n.length := by omega
    simp [evCode, evOps, evOne, evOp, evPur, evEff, evPur.chunks, fillP, AOp.isEff, AO.ev, putP, PV.cells, PV.leaf, getB, getM, mapE, keyC, mapRows, mfind, eq1, eqL, scal, binP, unP, minP, maxP, foldP, PV.lt, PV.lt.ltL, endP, expoAll, expo, expo.expoL, frIds, frIds.frIdsL, nodupN, kill, cls, clsFuel, resO, RV.get, loadP, evC_p, evC_s, endS, endT, rowsOf, callP, thinL, unfr, unfr.unfrL, PV.noMem, PV.noMem.noMemL, optI, mapO, norm, trimT, trimB, forget, hasN, blksLt, List.set, eN, eSt, h1, chk, this]
  · by_cases h2 : (1000 : Int) < T.length
    · have : 1000 < T.length := by omega
      simp [evCode, evOps, evOne, evOp, evPur, evEff, evPur.chunks, fillP, AOp.isEff, AO.ev, putP, PV.cells, PV.leaf, getB, getM, mapE, keyC, mapRows, mfind, eq1, eqL, scal, binP, unP, minP, maxP, foldP, PV.lt, PV.lt.ltL, endP, expoAll, expo, expo.expoL, frIds, frIds.frIdsL, nodupN, kill, cls, clsFuel, resO, RV.get, loadP, evC_p, evC_s, endS, endT, rowsOf, callP, thinL, unfr, unfr.unfrL, PV.noMem, PV.noMem.noMemL, optI, mapO, norm, trimT, trimB, forget, hasN, blksLt, List.set, eN, eSt, h1, h2, chk, this]
    · have n1 : ¬ 1000 < n.length := by omega
      have n2 : ¬ 1000 < T.length := by omega
      have h28 := f28 x n (by omega)
      have h29 := f29 y n.length T (by omega)
      simp only [eN, eSt] at h28 h29
      by_cases c : chkN n = 0
      · rw [c] at h28
        simp [evCode, evOps, evOne, evOp, evPur, evEff, evPur.chunks, fillP, AOp.isEff, AO.ev, putP, PV.cells, PV.leaf, getB, getM, mapE, keyC, mapRows, mfind, eq1, eqL, scal, binP, unP, minP, maxP, foldP, PV.lt, PV.lt.ltL, endP, expoAll, expo, expo.expoL, frIds, frIds.frIdsL, nodupN, kill, cls, clsFuel, resO, RV.get, loadP, evC_p, evC_s, endS, endT, rowsOf, callP, thinL, unfr, unfr.unfrL, PV.noMem, PV.noMem.noMemL, optI, mapO, norm, trimT, trimB, forget, hasN, blksLt, List.set, eN, eSt, h1, h2, chk, n1, n2, c, h28, h29]
      · have c' : (chkN n == 0) = false := by simpa using c
        simp [evCode, evOps, evOne, evOp, evPur, evEff, evPur.chunks, fillP, AOp.isEff, AO.ev, putP, PV.cells, PV.leaf, getB, getM, mapE, keyC, mapRows, mfind, eq1, eqL, scal, binP, unP, minP, maxP, foldP, PV.lt, PV.lt.ltL, endP, expoAll, expo, expo.expoL, frIds, frIds.frIdsL, nodupN, kill, cls, clsFuel, resO, RV.get, loadP, evC_p, evC_s, endS, endT, rowsOf, callP, thinL, unfr, unfr.unfrL, PV.noMem, PV.noMem.noMemL, optI, mapO, norm, trimT, trimB, forget, hasN, blksLt, List.set, eN, eSt, h1, h2, chk, n1, n2, c, c', h28]

/-- the reference's -/
theorem idx_take {α : Type} [DecidableEq α] (l : List α) (a : α) : (0 ≤ idx l a ↔ a ∈ l) := by
  unfold idx
  cases h : l.findIdx? (fun b => decide (b = a)) with
  | none =>
    rw [List.findIdx?_eq_none_iff] at h
    simp only [decide_eq_false_iff_not] at h
    constructor
    · intro h'; exact absurd h' (by decide)
    · intro hm; exact absurd rfl (h a hm)
  | some k =>
    rw [List.findIdx?_eq_some_iff_getElem] at h
    obtain ⟨h1, h2, h3⟩ := h
    simp only [decide_eq_true_eq] at h2
    constructor
    · intro _; rw [← h2]; exact List.getElem_mem h1
    · intro _; exact Int.natCast_nonneg k

def S17a (x y : Bool) (n : List (List UInt8)) (T : List (Int × Int)) (k : Nat) : St := ⟨[eN x n, eSt y T, .top, .top, .top, .int .i64 k] ++ List.replicate 72 .top, []⟩
def S17b (x y : Bool) (n : List (List UInt8)) (T : List (Int × Int)) (k : Nat) : St := ⟨[eN x n, eSt y T, .top, .top, .top, .top, .int .i64 k] ++ List.replicate 71 .top, []⟩
theorem f17 (x y : Bool) (n : List (List UInt8)) (T : List (Int × Int)) : evE Dg 17 [eN x n, eSt y T] = some (.int .i64 (chk n T)) := by
  refine evE_intro 1001 D17 rfl ?_
  by_cases h1 : (1000 : Int) < n.length
  · have : 1000 < n.length := by omega
    unfold c17
    simp [evCode, evOps, evOne, evOp, evPur, evEff, evPur.chunks, fillP, AOp.isEff, AO.ev, putP, PV.cells, PV.leaf, getB, getM, mapE, keyC, mapRows, mfind, eq1, eqL, scal, binP, unP, minP, maxP, foldP, PV.lt, PV.lt.ltL, endP, expoAll, expo, expo.expoL, frIds, frIds.frIdsL, nodupN, kill, cls, clsFuel, resO, RV.get, loadP, evC_p, evC_s, endS, endT, rowsOf, callP, thinL, unfr, unfr.unfrL, PV.noMem, PV.noMem.noMemL, optI, mapO, norm, trimT, trimB, forget, hasN, blksLt, List.set, eN, eSt, h1, chk, this]
  · by_cases h2 : (1000 : Int) < T.length
    · have : 1000 < T.length := by omega
      unfold c17
      simp [evCode, evOps, evOne, evOp, evPur, evEff, evPur.chunks, fillP, AOp.isEff, AO.ev, putP, PV.cells, PV.leaf, getB, getM, mapE, keyC, mapRows, mfind, eq1, eqL, scal, binP, unP, minP, maxP, foldP, PV.lt, PV.lt.ltL, endP, expoAll, expo, expo.expoL, frIds, frIds.frIdsL, nodupN, kill, cls, clsFuel, resO, RV.get, loadP, evC_p, evC_s, endS, endT, rowsOf, callP, thinL, unfr, unfr.unfrL, PV.noMem, PV.noMem.noMemL, optI, mapO, norm, trimT, trimB, forget, hasN, blksLt, List.set, eN, eSt, h1, h2, chk, this]
    · have n1 : ¬ 1000 < n.length := by omega
      have n2 : ¬ 1000 < T.length := by omega
      have H := loop_first (body := evCode (evC Dg) 1001 c17b1) (keep := [0, 1, 5]) (n0 := 0) (fuel := 1001) n (S17a x y n T) (errN n) (fun e t => t.sl[4]?.getD .top = .int .i64 e)
        (by
          intro k a ha hk hq
          have hk' : (k : Int) < n.length := by omega
          have w := wrap_i64 ((k : Int) + 1) (by omega) (by omega)
          have h10 := f11 a
          unfold errN at hq
          by_cases c1 : nameOk a = true
          · by_cases c2 : a ∈ n.take k
            · simp [c1, c2] at hq
            · have h30 := f30 (x && (k : Int) == n.length) (n.take k) a (by simp; omega)
              have hi : ¬ 0 ≤ idx (n.take k) a := fun h => c2 ((idx_take _ _).1 h)
              have hkl : (k : Int) ≤ n.length := by omega
              simp only [nameE, c1, if_true] at h10
              simp only [eN, List.map_take] at h30
              unfold c17b1
              simp [evCode, evOps, evOne, evOp, evPur, evEff, evPur.chunks, fillP, AOp.isEff, AO.ev, putP, PV.cells, PV.leaf, getB, getM, mapE, keyC, mapRows, mfind, eq1, eqL, scal, binP, unP, minP, maxP, foldP, PV.lt, PV.lt.ltL, endP, expoAll, expo, expo.expoL, frIds, frIds.frIdsL, nodupN, kill, cls, clsFuel, resO, RV.get, loadP, evC_p, evC_s, endS, endT, rowsOf, callP, thinL, unfr, unfr.unfrL, PV.noMem, PV.noMem.noMemL, optI, mapO, norm, trimT, trimB, forget, hasN, blksLt, List.set, S17a, eN, eSt, ha, hk', w, h10, h30, hi, hkl]
          · simp [c1] at hq)
        (by
          intro k a ha hk hq
          have hk' : (k : Int) < n.length := by omega
          have h10 := f11 a
          unfold errN at hq ⊢
          by_cases c1 : nameOk a = true
          · by_cases c2 : a ∈ n.take k
            · have h30 := f30 (x && (k : Int) == n.length) (n.take k) a (by simp; omega)
              have hi : 0 ≤ idx (n.take k) a := (idx_take _ _).2 c2
              have hkl : (k : Int) ≤ n.length := by omega
              simp only [nameE, c1, if_true] at h10
              simp only [eN, List.map_take] at h30
              unfold c17b1
              simp [evCode, evOps, evOne, evOp, evPur, evEff, evPur.chunks, fillP, AOp.isEff, AO.ev, putP, PV.cells, PV.leaf, getB, getM, mapE, keyC, mapRows, mfind, eq1, eqL, scal, binP, unP, minP, maxP, foldP, PV.lt, PV.lt.ltL, endP, expoAll, expo, expo.expoL, frIds, frIds.frIdsL, nodupN, kill, cls, clsFuel, resO, RV.get, loadP, evC_p, evC_s, endS, endT, rowsOf, callP, thinL, unfr, unfr.unfrL, PV.noMem, PV.noMem.noMemL, optI, mapO, norm, trimT, trimB, forget, hasN, blksLt, List.set, S17a, eN, eSt, ha, hk', h10, h30, hi, hkl, c1, c2]
            · simp [c1, c2] at hq
          · have c1' : nameOk a = false := by simpa using c1
            simp only [nameE, c1', Bool.false_eq_true, if_false] at h10
            unfold c17b1
            simp [evCode, evOps, evOne, evOp, evPur, evEff, evPur.chunks, fillP, AOp.isEff, AO.ev, putP, PV.cells, PV.leaf, getB, getM, mapE, keyC, mapRows, mfind, eq1, eqL, scal, binP, unP, minP, maxP, foldP, PV.lt, PV.lt.ltL, endP, expoAll, expo, expo.expoL, frIds, frIds.frIdsL, nodupN, kill, cls, clsFuel, resO, RV.get, loadP, evC_p, evC_s, endS, endT, rowsOf, callP, thinL, unfr, unfr.unfrL, PV.noMem, PV.noMem.noMemL, optI, mapO, norm, trimT, trimB, forget, hasN, blksLt, List.set, S17a, eN, eSt, ha, hk', h10, c1'])
        (by
          intro t
          unfold c17b1
          simp [evCode, evOps, evOne, evOp, evPur, evEff, evPur.chunks, fillP, AOp.isEff, AO.ev, putP, PV.cells, PV.leaf, getB, getM, mapE, keyC, mapRows, mfind, eq1, eqL, scal, binP, unP, minP, maxP, foldP, PV.lt, PV.lt.ltL, endP, expoAll, expo, expo.expoL, frIds, frIds.frIdsL, nodupN, kill, cls, clsFuel, resO, RV.get, loadP, evC_p, evC_s, endS, endT, rowsOf, callP, thinL, unfr, unfr.unfrL, PV.noMem, PV.noMem.noMemL, optI, mapO, norm, trimT, trimB, forget, hasN, blksLt, List.set, S17a, eN, eSt]) (by omega)
      have H2 := loop_firstI (body := evCode (evC Dg) 1001 c17b0) (keep := [0, 1, 6]) (n0 := 0) (fuel := 1001) T (S17b x y n T) (errS n.length T) (Down T) (fun e t => t.sl[4]?.getD .top = .int .i64 e)
        (by
          intro k a ha hk hI hq
          have hk' : (k : Int) < T.length := by omega
          have w := wrap_i64 ((k : Int) + 1) (by omega) (by omega)
          unfold errS at hq
          by_cases c1 : badR n.length k a = true
          · simp [c1] at hq
          · have c1' : ¬ (a.1 < -1 ∨ (k : Int) ≤ a.1 ∨ a.2 < 0 ∨ (n.length : Int) ≤ a.2) := fun h => c1 (badR_spec.2 h)
            have b1 : ¬ a.1 < -1 := by omega
            have b2 : ¬ (k : Int) ≤ a.1 := by omega
            have b3 : ¬ a.2 < 0 := by omega
            have b4 : ¬ (n.length : Int) ≤ a.2 := by omega
            by_cases c2 : a ∈ T.take k
            · simp [c1, c2] at hq
            · by_cases c3 : 32 < dpt T k
              · simp [c1, c2, c3] at hq
              · have hD : Down T (k + 1) := fun j q hj hq' => by
                  by_cases e : j = k
                  · subst e; rw [ha] at hq'; cases hq'; omega
                  · exact hI j q (by omega) hq'
                have h31 := f31 (y && (k : Int) == T.length) (T.take k) a (by simp; omega)
                have hi : ¬ 0 ≤ idx (T.take k) a := fun h => c2 ((idx_take _ _).1 h)
                have h32 := f32 y T k hk (by omega) hD
                have hkl : (k : Int) ≤ T.length := by omega
                simp only [eSt, eP, List.map_take] at h31 h32
                refine ⟨hD, ?_⟩
                unfold c17b0
                simp [evCode, evOps, evOne, evOp, evPur, evEff, evPur.chunks, fillP, AOp.isEff, AO.ev, putP, PV.cells, PV.leaf, getB, getM, mapE, keyC, mapRows, mfind, eq1, eqL, scal, binP, unP, minP, maxP, foldP, PV.lt, PV.lt.ltL, endP, expoAll, expo, expo.expoL, frIds, frIds.frIdsL, nodupN, kill, cls, clsFuel, resO, RV.get, loadP, evC_p, evC_s, endS, endT, rowsOf, callP, thinL, unfr, unfr.unfrL, PV.noMem, PV.noMem.noMemL, optI, mapO, norm, trimT, trimB, forget, hasN, blksLt, List.set, S17b, eN, eSt, eP, ha, hk', w, b1, b2, b3, b4, h31, hi, h32, c3, hkl])
        (by
          intro k a ha hk hI hq
          have hk' : (k : Int) < T.length := by omega
          unfold errS at hq ⊢
          by_cases c1 : badR n.length k a = true
          · have c1' := badR_spec.1 c1
            rw [if_pos c1]
            unfold c17b0
            by_cases b1 : a.1 < -1
            · simp [evCode, evOps, evOne, evOp, evPur, evEff, evPur.chunks, fillP, AOp.isEff, AO.ev, putP, PV.cells, PV.leaf, getB, getM, mapE, keyC, mapRows, mfind, eq1, eqL, scal, binP, unP, minP, maxP, foldP, PV.lt, PV.lt.ltL, endP, expoAll, expo, expo.expoL, frIds, frIds.frIdsL, nodupN, kill, cls, clsFuel, resO, RV.get, loadP, evC_p, evC_s, endS, endT, rowsOf, callP, thinL, unfr, unfr.unfrL, PV.noMem, PV.noMem.noMemL, optI, mapO, norm, trimT, trimB, forget, hasN, blksLt, List.set, S17b, eN, eSt, eP, ha, hk', b1]
            · by_cases b2 : (k : Int) ≤ a.1
              · simp [evCode, evOps, evOne, evOp, evPur, evEff, evPur.chunks, fillP, AOp.isEff, AO.ev, putP, PV.cells, PV.leaf, getB, getM, mapE, keyC, mapRows, mfind, eq1, eqL, scal, binP, unP, minP, maxP, foldP, PV.lt, PV.lt.ltL, endP, expoAll, expo, expo.expoL, frIds, frIds.frIdsL, nodupN, kill, cls, clsFuel, resO, RV.get, loadP, evC_p, evC_s, endS, endT, rowsOf, callP, thinL, unfr, unfr.unfrL, PV.noMem, PV.noMem.noMemL, optI, mapO, norm, trimT, trimB, forget, hasN, blksLt, List.set, S17b, eN, eSt, eP, ha, hk', b1, b2]
              · by_cases b3 : a.2 < 0
                · simp [evCode, evOps, evOne, evOp, evPur, evEff, evPur.chunks, fillP, AOp.isEff, AO.ev, putP, PV.cells, PV.leaf, getB, getM, mapE, keyC, mapRows, mfind, eq1, eqL, scal, binP, unP, minP, maxP, foldP, PV.lt, PV.lt.ltL, endP, expoAll, expo, expo.expoL, frIds, frIds.frIdsL, nodupN, kill, cls, clsFuel, resO, RV.get, loadP, evC_p, evC_s, endS, endT, rowsOf, callP, thinL, unfr, unfr.unfrL, PV.noMem, PV.noMem.noMemL, optI, mapO, norm, trimT, trimB, forget, hasN, blksLt, List.set, S17b, eN, eSt, eP, ha, hk', b1, b2, b3]
                · have b4 : (n.length : Int) ≤ a.2 := by omega
                  simp [evCode, evOps, evOne, evOp, evPur, evEff, evPur.chunks, fillP, AOp.isEff, AO.ev, putP, PV.cells, PV.leaf, getB, getM, mapE, keyC, mapRows, mfind, eq1, eqL, scal, binP, unP, minP, maxP, foldP, PV.lt, PV.lt.ltL, endP, expoAll, expo, expo.expoL, frIds, frIds.frIdsL, nodupN, kill, cls, clsFuel, resO, RV.get, loadP, evC_p, evC_s, endS, endT, rowsOf, callP, thinL, unfr, unfr.unfrL, PV.noMem, PV.noMem.noMemL, optI, mapO, norm, trimT, trimB, forget, hasN, blksLt, List.set, S17b, eN, eSt, eP, ha, hk', b1, b2, b3, b4]
          · have c1' : ¬ (a.1 < -1 ∨ (k : Int) ≤ a.1 ∨ a.2 < 0 ∨ (n.length : Int) ≤ a.2) := fun h => c1 (badR_spec.2 h)
            have b1 : ¬ a.1 < -1 := by omega
            have b2 : ¬ (k : Int) ≤ a.1 := by omega
            have b3 : ¬ a.2 < 0 := by omega
            have b4 : ¬ (n.length : Int) ≤ a.2 := by omega
            rw [if_neg c1] at hq ⊢
            have h31 := f31 (y && (k : Int) == T.length) (T.take k) a (by simp; omega)
            have hkl : (k : Int) ≤ T.length := by omega
            by_cases c2 : a ∈ T.take k
            · have hi : 0 ≤ idx (T.take k) a := (idx_take _ _).2 c2
              simp only [eSt, eP, List.map_take] at h31
              rw [if_pos c2]
              unfold c17b0
              simp [evCode, evOps, evOne, evOp, evPur, evEff, evPur.chunks, fillP, AOp.isEff, AO.ev, putP, PV.cells, PV.leaf, getB, getM, mapE, keyC, mapRows, mfind, eq1, eqL, scal, binP, unP, minP, maxP, foldP, PV.lt, PV.lt.ltL, endP, expoAll, expo, expo.expoL, frIds, frIds.frIdsL, nodupN, kill, cls, clsFuel, resO, RV.get, loadP, evC_p, evC_s, endS, endT, rowsOf, callP, thinL, unfr, unfr.unfrL, PV.noMem, PV.noMem.noMemL, optI, mapO, norm, trimT, trimB, forget, hasN, blksLt, List.set, S17b, eN, eSt, eP, ha, hk', b1, b2, b3, b4, h31, hi, hkl]
            · rw [if_neg c2] at hq ⊢
              by_cases c3 : 32 < dpt T k
              · rw [if_pos c3]
                have hi : ¬ 0 ≤ idx (T.take k) a := fun h => c2 ((idx_take _ _).1 h)
                have hD : Down T (k + 1) := fun j q hj hq' => by
                  by_cases e : j = k
                  · subst e; rw [ha] at hq'; cases hq'; omega
                  · exact hI j q (by omega) hq'
                have h32 := f32 y T k hk (by omega) hD
                simp only [eSt, eP, List.map_take] at h31 h32
                unfold c17b0
                simp [evCode, evOps, evOne, evOp, evPur, evEff, evPur.chunks, fillP, AOp.isEff, AO.ev, putP, PV.cells, PV.leaf, getB, getM, mapE, keyC, mapRows, mfind, eq1, eqL, scal, binP, unP, minP, maxP, foldP, PV.lt, PV.lt.ltL, endP, expoAll, expo, expo.expoL, frIds, frIds.frIdsL, nodupN, kill, cls, clsFuel, resO, RV.get, loadP, evC_p, evC_s, endS, endT, rowsOf, callP, thinL, unfr, unfr.unfrL, PV.noMem, PV.noMem.noMemL, optI, mapO, norm, trimT, trimB, forget, hasN, blksLt, List.set, S17b, eN, eSt, eP, ha, hk', b1, b2, b3, b4, h31, hi, h32, c3, hkl]
              · simp [c3] at hq)
        (by
          intro t
          unfold c17b0
          simp [evCode, evOps, evOne, evOp, evPur, evEff, evPur.chunks, fillP, AOp.isEff, AO.ev, putP, PV.cells, PV.leaf, getB, getM, mapE, keyC, mapRows, mfind, eq1, eqL, scal, binP, unP, minP, maxP, foldP, PV.lt, PV.lt.ltL, endP, expoAll, expo, expo.expoL, frIds, frIds.frIdsL, nodupN, kill, cls, clsFuel, resO, RV.get, loadP, evC_p, evC_s, endS, endT, rowsOf, callP, thinL, unfr, unfr.unfrL, PV.noMem, PV.noMem.noMemL, optI, mapO, norm, trimT, trimB, forget, hasN, blksLt, List.set, S17b, eN, eSt, eP]) (fun j q hj => by omega) (by omega)
      unfold c17
      simp [evCode, evOps, evOne, evOp, evPur, evEff, evPur.chunks, fillP, AOp.isEff, AO.ev, putP, PV.cells, PV.leaf, getB, getM, mapE, keyC, mapRows, mfind, eq1, eqL, scal, binP, unP, minP, maxP, foldP, PV.lt, PV.lt.ltL, endP, expoAll, expo, expo.expoL, frIds, frIds.frIdsL, nodupN, kill, cls, clsFuel, resO, RV.get, loadP, evC_p, evC_s, endS, endT, rowsOf, callP, thinL, unfr, unfr.unfrL, PV.noMem, PV.noMem.noMemL, optI, mapO, norm, trimT, trimB, forget, hasN, blksLt, List.set, eN, eSt, h1, h2]
      generalize hE : evLoop _ _ _ _ _ = E
      rcases H _ _ hE (by simp [evCode, evOps, evOne, evOp, evPur, evEff, evPur.chunks, fillP, AOp.isEff, AO.ev, putP, PV.cells, PV.leaf, getB, getM, mapE, keyC, mapRows, mfind, eq1, eqL, scal, binP, unP, minP, maxP, foldP, PV.lt, PV.lt.ltL, endP, expoAll, expo, expo.expoL, frIds, frIds.frIdsL, nodupN, kill, cls, clsFuel, resO, RV.get, loadP, evC_p, evC_s, endS, endT, rowsOf, callP, thinL, unfr, unfr.unfrL, PV.noMem, PV.noMem.noMemL, optI, mapO, norm, trimT, trimB, forget, hasN, blksLt, List.set, S17a, eN, eSt]) with ⟨g1, g2⟩ | ⟨g1, t, g2, g3⟩
      · rw [g2]
        unfold c17b1
        simp [evCode, evOps, evOne, evOp, evPur, evEff, evPur.chunks, fillP, AOp.isEff, AO.ev, putP, PV.cells, PV.leaf, getB, getM, mapE, keyC, mapRows, mfind, eq1, eqL, scal, binP, unP, minP, maxP, foldP, PV.lt, PV.lt.ltL, endP, expoAll, expo, expo.expoL, frIds, frIds.frIdsL, nodupN, kill, cls, clsFuel, resO, RV.get, loadP, evC_p, evC_s, endS, endT, rowsOf, callP, thinL, unfr, unfr.unfrL, PV.noMem, PV.noMem.noMemL, optI, mapO, norm, trimT, trimB, forget, hasN, blksLt, List.set, S17a, eN, eSt]
        unfold c17r0
        simp [evCode, evOps, evOne, evOp, evPur, evEff, evPur.chunks, fillP, AOp.isEff, AO.ev, putP, PV.cells, PV.leaf, getB, getM, mapE, keyC, mapRows, mfind, eq1, eqL, scal, binP, unP, minP, maxP, foldP, PV.lt, PV.lt.ltL, endP, expoAll, expo, expo.expoL, frIds, frIds.frIdsL, nodupN, kill, cls, clsFuel, resO, RV.get, loadP, evC_p, evC_s, endS, endT, rowsOf, callP, thinL, unfr, unfr.unfrL, PV.noMem, PV.noMem.noMemL, optI, mapO, norm, trimT, trimB, forget, hasN, blksLt, List.set]
        generalize hE2 : evLoop _ _ _ _ _ = E2
        rcases H2 _ _ hE2 (by simp [evCode, evOps, evOne, evOp, evPur, evEff, evPur.chunks, fillP, AOp.isEff, AO.ev, putP, PV.cells, PV.leaf, getB, getM, mapE, keyC, mapRows, mfind, eq1, eqL, scal, binP, unP, minP, maxP, foldP, PV.lt, PV.lt.ltL, endP, expoAll, expo, expo.expoL, frIds, frIds.frIdsL, nodupN, kill, cls, clsFuel, resO, RV.get, loadP, evC_p, evC_s, endS, endT, rowsOf, callP, thinL, unfr, unfr.unfrL, PV.noMem, PV.noMem.noMemL, optI, mapO, norm, trimT, trimB, forget, hasN, blksLt, List.set, S17b, eN, eSt]) with ⟨k1, kI, k2⟩ | ⟨k1, t, k2, k3⟩
        · rw [k2]
          unfold c17b0
          simp [evCode, evOps, evOne, evOp, evPur, evEff, evPur.chunks, fillP, AOp.isEff, AO.ev, putP, PV.cells, PV.leaf, getB, getM, mapE, keyC, mapRows, mfind, eq1, eqL, scal, binP, unP, minP, maxP, foldP, PV.lt, PV.lt.ltL, endP, expoAll, expo, expo.expoL, frIds, frIds.frIdsL, nodupN, kill, cls, clsFuel, resO, RV.get, loadP, evC_p, evC_s, endS, endT, rowsOf, callP, thinL, unfr, unfr.unfrL, PV.noMem, PV.noMem.noMemL, optI, mapO, norm, trimT, trimB, forget, hasN, blksLt, List.set, S17b, eN, eSt, chk, n1, n2, chkN, g1, chkS, k1]
        · rw [k2]
          simp [evCode, evOps, evOne, evOp, evPur, evEff, evPur.chunks, fillP, AOp.isEff, AO.ev, putP, PV.cells, PV.leaf, getB, getM, mapE, keyC, mapRows, mfind, eq1, eqL, scal, binP, unP, minP, maxP, foldP, PV.lt, PV.lt.ltL, endP, expoAll, expo, expo.expoL, frIds, frIds.frIdsL, nodupN, kill, cls, clsFuel, resO, RV.get, loadP, evC_p, evC_s, endS, endT, rowsOf, callP, thinL, unfr, unfr.unfrL, PV.noMem, PV.noMem.noMemL, optI, mapO, norm, trimT, trimB, forget, hasN, blksLt, List.set, k3, chk, n1, n2, chkN, g1, chkS]
      · rw [g2]
        simp [evCode, evOps, evOne, evOp, evPur, evEff, evPur.chunks, fillP, AOp.isEff, AO.ev, putP, PV.cells, PV.leaf, getB, getM, mapE, keyC, mapRows, mfind, eq1, eqL, scal, binP, unP, minP, maxP, foldP, PV.lt, PV.lt.ltL, endP, expoAll, expo, expo.expoL, frIds, frIds.frIdsL, nodupN, kill, cls, clsFuel, resO, RV.get, loadP, evC_p, evC_s, endS, endT, rowsOf, callP, thinL, unfr, unfr.unfrL, PV.noMem, PV.noMem.noMemL, optI, mapO, norm, trimT, trimB, forget, hasN, blksLt, List.set, g3, chk, n1, n2, chkN, g1]
end Go.Proofs.Ytddlicbogbmpbaa
