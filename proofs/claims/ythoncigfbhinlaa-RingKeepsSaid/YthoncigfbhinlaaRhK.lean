/- ring: RingKeeps, of pure arguments. -/
-- BIG
import Derived.Test.YthoncigfbhinlaaRhI
import Derived.Test.YthoncigfbhinlaaRhJ
namespace Go.Proofs.Ythoncigfbhinlaa
open Go Go.RowKit
set_option linter.unusedVariables false
set_option linter.unusedSimpArgs false
set_option maxHeartbeats 8000000

set_option maxRecDepth 100000 in
/-- a law that gives up -/
theorem f6_out (p : Int) (D b : List Nat) (s e f m : Int) (ok : okB D) (h : ¬ (D.length ≤ 70000 ∧ b.length ≤ 70000) ∨ ¬ errF p D s e f m = 0) : evE Dg 6 [eR p (eB false D) s e f m, eB false b] = some (.bool true) := by
  have h15 := f15b false p D b s e f m
  have aw := f14
  by_cases c : D.length ≤ 70000 ∧ b.length ≤ 70000
  · have h := h.resolve_left (fun q => q c)
    have h11 := f11 false p D s e f m (by omega) ok
    rw [show decide (D.length ≤ 70000 ∧ b.length ≤ 70000) = true from decide_eq_true c] at h15
    generalize errF p D s e f m = er at *
    simp only [eR, eB] at h15 h11
    refine evE_intro 3 D6 rfl ?_
    unfold c6
    simp (maxSteps := 100000000) [evCode, evOps, evOne, evOp, evPur, evEff, evPur.chunks, fillP, AOp.isEff, AO.ev, putP, PV.cells, PV.leaf, getB, getM, mapE, keyC, mapRows, mfind, eq1, eqL, scal, binP, unP, minP, maxP, foldP, PV.lt, PV.lt.ltL, endP, expoAll, expo, expo.expoL, frIds, frIds.frIdsL, nodupN, kill, cls, clsFuel, resO, RV.get, loadP, evC_p, evC_s, endS, endT, rowsOf, callP, thinL, unfr, unfr.unfrL, PV.noMem, PV.noMem.noMemL, optI, mapO, norm, trimT, trimB, forget, hasN, blksLt, List.set, eR, eB, h15, h11, h, aw]
  · rw [show decide (D.length ≤ 70000 ∧ b.length ≤ 70000) = false from decide_eq_false c] at h15
    simp only [eR, eB] at h15
    refine evE_intro 3 D6 rfl ?_
    unfold c6
    simp (maxSteps := 100000000) [evCode, evOps, evOne, evOp, evPur, evEff, evPur.chunks, fillP, AOp.isEff, AO.ev, putP, PV.cells, PV.leaf, getB, getM, mapE, keyC, mapRows, mfind, eq1, eqL, scal, binP, unP, minP, maxP, foldP, PV.lt, PV.lt.ltL, endP, expoAll, expo, expo.expoL, frIds, frIds.frIdsL, nodupN, kill, cls, clsFuel, resO, RV.get, loadP, evC_p, evC_s, endS, endT, rowsOf, callP, thinL, unfr, unfr.unfrL, PV.noMem, PV.noMem.noMemL, optI, mapO, norm, trimT, trimB, forget, hasN, blksLt, List.set, eR, eB, h15, aw]
set_option maxRecDepth 100000 in
/-- Put gave an error -/
theorem f6_err (p : Int) (D b : List Nat) (s e f m er : Int) (hD : D.length ≤ 70000) (hb : b.length ≤ 70000) (ok : okB D) (h : errF p D s e f m = 0) (her : ¬ er = 0) (h23 : evE Dg 23 [eR p (eB false D) s e f m, eB false b] = some (pR (eR p (eB false D) s e f m) 0 er)) : evE Dg 6 [eR p (eB false D) s e f m, eB false b] = some (.bool true) := by
  have h15 := f15b false p D b s e f m
  have aw := f14
  have h11 := f11 false p D s e f m (by omega) ok
  have h16 := f16 false p D s e f m (by omega) ok
  have gl := good_len p D s e f m
  have h21 := f21r (goodL p D s e f m) (by omega)
  rw [show decide (D.length ≤ 70000 ∧ b.length ≤ 70000) = true from decide_eq_true ⟨hD, hb⟩] at h15
  rw [h] at h11 h16
  simp only [eT, if_true] at h16
  generalize takS p D s e f m = t1 at *
  generalize takF p D s e f m = t2 at *
  generalize goodL p D s e f m = l at *
  simp only [eR, eB, pR] at h15 h11 h16 h23
  refine evE_intro 3 D6 rfl ?_
  unfold c6
  simp (maxSteps := 100000000) [evCode, evOps, evOne, evOp, evPur, evEff, evPur.chunks, fillP, AOp.isEff, AO.ev, putP, PV.cells, PV.leaf, getB, getM, mapE, keyC, mapRows, mfind, eq1, eqL, scal, binP, unP, minP, maxP, foldP, PV.lt, PV.lt.ltL, endP, expoAll, expo, expo.expoL, frIds, frIds.frIdsL, nodupN, kill, cls, clsFuel, resO, RV.get, loadP, evC_p, evC_s, endS, endT, rowsOf, callP, thinL, unfr, unfr.unfrL, PV.noMem, PV.noMem.noMemL, optI, mapO, norm, trimT, trimB, forget, hasN, blksLt, List.set, eR, eB, h15, h11, h16, h23, h21, her, aw]
theorem rcR_all (l : List (List Nat)) : (rcR l).all (PV.lt.ltL 0) = true := List.all_eq_true.2 (by
  intro r hr
  simp only [rcR, List.mem_map] at hr
  obtain ⟨z, _, rfl⟩ := hr
  rfl)
theorem rcR_lt (l : List (List Nat)) : (∀ r ∈ rcR l, PV.lt.ltL 0 r = true) ↔ True := iff_true_intro (List.all_eq_true.1 (rcR_all l))
theorem f21k (l : List (List Nat)) (b : List Nat) (h : l.length ≤ 90000) : evE Dg 21 [.sl false 1 (rcR (l ++ [b])), .sl false 1 (rcR l ++ [[.sl false 1 (bR b)]])] = some (.bool true) := by
  have e1 : rcR (l ++ [b]) = rcM ((l ++ [b]).map fun r => (true, r)) := rcR_M _
  have e2 : rcR l ++ [[PV.sl false 1 (bR b)]] = rcM ((l.map fun r => (true, r)) ++ [(false, b)]) := by rw [rcM_app, rcR_M]; rfl
  rw [e1, e2]
  exact f21m _ _ (by simp [Function.comp_def]) (by simp; omega)
set_option maxRecDepth 100000 in
/-- Put lost some -/
theorem f6_run1 (D b : List Nat) (s e f m : Int) (hD : D.length ≤ 70000) (hb : b.length ≤ 70000) (ok : okB D) (h : errF 1 D s e f m = 0) (W : List Nat) (s' e' : Int) (K : Nat) (hW : W.length ≤ 70000) (okW : okB W) (hK0 : 0 < K)
    (h' : errF 1 W s' e' (f + K) (m + 1) = 0) (hg : goodL 1 W s' e' (f + K) (m + 1) = (goodL 1 D s e f m).drop K ++ [b]) (hK : K ≤ (goodL 1 D s e f m).length) (r : List Nat) (hr : (goodL 1 D s e f m)[K - 1]? = some r) (hr2 : r.length ≤ 2000) (hfr : freF 1 W s' e' (f + K) (m + 1) < szF r)
    (h23 : evE Dg 23 [eR 1 (eB false D) s e f m, eB false b] = some (pR (eR 1 (.fr 1 (bR W)) s' e' (f + K) (m + 1)) K 0)) : evE Dg 6 [eR 1 (eB false D) s e f m, eB false b] = some (.bool true) := by
  have h15 := f15b false 1 D b s e f m
  have aw := f14
  have h11 := f11 false 1 D s e f m (by omega) ok
  have h16 := f16 false 1 D s e f m (by omega) ok
  have g11 := f11 false 1 W s' e' (f + K) (m + 1) (by omega) okW
  have g13 := f13 false 1 W s' e' (f + K) (m + 1) (by omega) okW
  have g16 := f16 false 1 W s' e' (f + K) (m + 1) (by omega) okW
  have gl := good_len 1 D s e f m
  obtain ⟨_, n0, n0', n1, n2, n3, n4, n5, n6, n7⟩ := err_nums h
  rw [show decide (D.length ≤ 70000 ∧ b.length ≤ 70000) = true from decide_eq_true ⟨hD, hb⟩] at h15
  rw [h] at h11 h16
  rw [h'] at g11 g16
  rw [hg] at g16
  simp only [eT, if_true] at h16 g16
  have h25 := f25 true r (by omega)
  change evE Dg 25 [eB true r] = some (.int .i64 (szF r : Nat)) at h25
  generalize takS 1 D s e f m = t1 at *
  generalize takF 1 D s e f m = t2 at *
  generalize takS 1 W s' e' (f + K) (m + 1) = t3 at *
  generalize takF 1 W s' e' (f + K) (m + 1) = t4 at *
  generalize freF 1 W s' e' (f + K) (m + 1) = fr at *
  generalize goodL 1 D s e f m = l at *
  have hfr' : ¬ (szF r : Int) ≤ fr := by omega
  generalize szF r = sz at *
  have h21 := f21k (l.drop K) b (by rw [List.length_drop]; omega)
  have e1 := rcR_len l
  have k0 : List.take l.length (rcR l) = rcR l := List.take_of_length_le (by rw [e1]; exact Nat.le_refl _)
  have k1 : List.drop K (rcR l) = rcR (l.drop K) := by simp [rcR, List.map_drop]
  have eN := rcR_len (l.drop K)
  have lN : (l.drop K).length = l.length - K := List.length_drop
  have aN := rcR_all (l.drop K)
  have bN := rcR_lt (l.drop K)
  obtain ⟨j, hj⟩ := ex_eq (K - 1)
  rw [hj] at hr
  have g1 := rcR_get hr
  have g2 := rcR_got hr
  have hjl : j < l.length := (List.getElem?_eq_some_iff.1 hr).1
  generalize l.drop K = R at *
  obtain ⟨N, hN⟩ := ex_eq R.length
  rw [hN] at eN lN
  have w1 : IntKind.i64.wrap ((K : Int) - 1) = (j : Int) := by rw [wrap_i64 _ (by omega) (by omega)]; omega
  have w2 : IntKind.i64.wrap (f + K) = f + K := wrap_i64 _ (by omega) (by omega)
  have w3 : IntKind.i64.wrap (m + 1) = m + 1 := wrap_i64 _ (by omega) (by omega)
  have p1 : ¬ (K : Int) < 0 := by omega
  have p2 : ¬ (l.length : Int) < K := by omega
  have p2' : ¬ l.length < K := by omega
  have p3 : (K : Int) ≤ l.length := by omega
  have p4 : (0 : Int) < K := by omega
  have p5 : 0 < K := by omega
  have p6 : (j : Int) < l.length := by omega
  have m1 : N * 24 ≤ 140737488355328 := by omega
  have m2 : N ≤ 140737488355328 := by omega
  have m3 : (N + 1) * 24 ≤ 140737488355328 := by omega
  have m4 : N + 1 ≤ 140737488355328 := by omega
  have q1 : l.length - K = N := lN.symm
  have k9 : List.take (N + 1) (rcR R ++ [[PV.sl false 1 (bR b)]]) = rcR R ++ [[PV.sl false 1 (bR b)]] := List.take_of_length_le (by rw [List.length_append, eN]; exact Nat.le_refl _)
  simp only [eR, eB, pR] at h15 h11 h16 h23 g11 g13 g16 h25
  refine evE_intro 3 D6 rfl ?_
  unfold c6
  simp (maxSteps := 100000000) [evCode, evOps, evOne, evOp, evPur, evEff, evPur.chunks, fillP, AOp.isEff, AO.ev, putP, PV.cells, PV.leaf, getB, getM, mapE, keyC, mapRows, mfind, eq1, eqL, scal, binP, unP, minP, maxP, foldP, PV.lt, PV.lt.ltL, endP, expoAll, expo, expo.expoL, frIds, frIds.frIdsL, nodupN, kill, cls, clsFuel, resO, RV.get, loadP, evC_p, evC_s, endS, endT, rowsOf, callP, thinL, unfr, unfr.unfrL, PV.noMem, PV.noMem.noMemL, optI, mapO, norm, trimT, trimB, forget, hasN, blksLt, List.set, eR, eB, h15, h11, h16, h23, h21, g11, g13, g16, h25, e1, k0, k1, eN, aN, bN, g1, g2, hjl, w1, w2, w3, p1, p2, p2', p3, p4, p5, p6, m1, m2, m3, m4, q1, hK, hfr, hfr', hN, k9, aw]
set_option maxRecDepth 100000 in
/-- Put lost none -/
theorem f6_run0 (p : Int) (D b : List Nat) (s e f m : Int) (hD : D.length ≤ 70000) (hb : b.length ≤ 70000) (ok : okB D) (h : errF p D s e f m = 0) (W : List Nat) (s' e' : Int) (hW : W.length ≤ 70000) (okW : okB W)
    (h' : errF p W s' e' f (m + 1) = 0) (hg : goodL p W s' e' f (m + 1) = goodL p D s e f m ++ [b])
    (h23 : evE Dg 23 [eR p (eB false D) s e f m, eB false b] = some (pR (eR p (.fr 1 (bR W)) s' e' f (m + 1)) 0 0)) : evE Dg 6 [eR p (eB false D) s e f m, eB false b] = some (.bool true) := by
  have h15 := f15b false p D b s e f m
  have aw := f14
  have h11 := f11 false p D s e f m (by omega) ok
  have h16 := f16 false p D s e f m (by omega) ok
  have g11 := f11 false p W s' e' f (m + 1) (by omega) okW
  have g16 := f16 false p W s' e' f (m + 1) (by omega) okW
  have gl := good_len p D s e f m
  obtain ⟨_, n0, n0', n1, n2, n3, n4, n5, n6, n7⟩ := err_nums h
  rw [show decide (D.length ≤ 70000 ∧ b.length ≤ 70000) = true from decide_eq_true ⟨hD, hb⟩] at h15
  rw [h] at h11 h16
  rw [h'] at g11 g16
  rw [hg] at g16
  simp only [eT, if_true] at h16 g16
  generalize takS p D s e f m = t1 at *
  generalize takF p D s e f m = t2 at *
  generalize takS p W s' e' f (m + 1) = t3 at *
  generalize takF p W s' e' f (m + 1) = t4 at *
  generalize goodL p D s e f m = l at *
  have h21 := f21k l b (by omega)
  have e1 := rcR_len l
  have k0 : List.take l.length (rcR l) = rcR l := List.take_of_length_le (by rw [e1]; exact Nat.le_refl _)
  have aN := rcR_all l
  have bN := rcR_lt l
  have w3 : IntKind.i64.wrap (m + 1) = m + 1 := wrap_i64 _ (by omega) (by omega)
  have w2 : IntKind.i64.wrap f = f := wrap_i64 _ (by omega) (by omega)
  obtain ⟨N, hN⟩ := ex_eq l.length
  rw [hN] at e1 k0
  have p2 : ¬ (N : Int) < 0 := by omega
  have p3 : (0 : Int) ≤ N := by omega
  have m1 : N * 24 ≤ 140737488355328 := by omega
  have m2 : N ≤ 140737488355328 := by omega
  have m3 : (N + 1) * 24 ≤ 140737488355328 := by omega
  have m4 : N + 1 ≤ 140737488355328 := by omega
  have k9 : List.take (N + 1) (rcR l ++ [[PV.sl false 1 (bR b)]]) = rcR l ++ [[PV.sl false 1 (bR b)]] := List.take_of_length_le (by rw [List.length_append, e1]; exact Nat.le_refl _)
  simp only [eR, eB, pR] at h15 h11 h16 h23 g11 g16
  refine evE_intro 3 D6 rfl ?_
  unfold c6
  simp (maxSteps := 100000000) [evCode, evOps, evOne, evOp, evPur, evEff, evPur.chunks, fillP, AOp.isEff, AO.ev, putP, PV.cells, PV.leaf, getB, getM, mapE, keyC, mapRows, mfind, eq1, eqL, scal, binP, unP, minP, maxP, foldP, PV.lt, PV.lt.ltL, endP, expoAll, expo, expo.expoL, frIds, frIds.frIdsL, nodupN, kill, cls, clsFuel, resO, RV.get, loadP, evC_p, evC_s, endS, endT, rowsOf, callP, thinL, unfr, unfr.unfrL, PV.noMem, PV.noMem.noMemL, optI, mapO, norm, trimT, trimB, forget, hasN, blksLt, List.set, eR, eB, h15, h11, h16, h23, h21, g11, g16, e1, k0, aN, bN, w2, w3, p2, p3, m1, m2, m3, m4, hN, k9, aw]
end Go.Proofs.Ythoncigfbhinlaa
