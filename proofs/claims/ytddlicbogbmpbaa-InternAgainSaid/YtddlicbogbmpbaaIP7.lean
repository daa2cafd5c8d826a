/- intern: PutStack, the reference's too. -/
import Derived.Test.YtddlicbogbmpbaaIP6
namespace Go.Proofs.Ytddlicbogbmpbaa
open Go Go.RowKit
set_option linter.unusedVariables false
set_option linter.unusedSimpArgs false
set_option maxHeartbeats 4000000

theorem framesE_len {l : List (List UInt8)} (h : framesE l = 0) : l.length ≤ 32 := by
  unfold framesE at h
  split at h
  · cases h
  · omega

theorem p21 (x y : Bool) (n : List (List UInt8)) (T : List (Int × Int)) (l : List (List UInt8)) (hn : n.length ≤ 1100) (hT : T.length ≤ 1100) :
    ∃ x' y', ∀ bl, callP (evE Dg) bl false 21 [eN x n, eSt y T, eTx l] = some (.tup [.int .i64 (putS n T l).1, eN x' (putS n T l).2.1, eSt y' (putS n T l).2.2.1, .int .i64 (putS n T l).2.2.2], []) := by
  have h14 := f14 l
  by_cases c : framesE l = 0
  · have hll := framesE_len c
    rw [c] at h14
    simp only [eTx] at h14
    have H := loop_exc (body := evCode (evC Dg) 33 c21b0) (keep := [0, 1, 11, 12, 13, 30, 31, 32]) (n0 := 2) (fuel := 33) l (S21 x y n T l) stepP (I21 0) (fun e s => endP [.t 6, .t 7, .t 8, .t 9] (some (.ret s)) = some (.tup [.int .i64 0, eN x n, eSt y T, .int .i64 e]))
      (fun k a u z v ha hk hI hv => (body21 x y n T l 33 hll k a u z ha hI).1 v hv) (fun k a u z e ha hk hI he => (body21 x y n T l 33 hll k a u z ha hI).2 e he)
      (by
        intro u z hI s
        unfold c21b0
        simp [evCode, evOps, evOne, evOp, evPur, evEff, evPur.chunks, fillP, AOp.isEff, AO.ev, putP, PV.cells, PV.leaf, getB, getM, mapE, keyC, mapRows, mfind, eq1, eqL, scal, binP, unP, minP, maxP, foldP, PV.lt, PV.lt.ltL, endP, expoAll, expo, expo.expoL, frIds, frIds.frIdsL, nodupN, kill, cls, clsFuel, resO, RV.get, loadP, evC_p, evC_s, endS, endT, rowsOf, callP, thinL, unfr, unfr.unfrL, PV.noMem, PV.noMem.noMemL, optI, mapO, norm, trimT, trimB, forget, hasN, blksLt, List.set, S21, eN, eSt, eTx]) (by omega) ⟨n, T, -1⟩ ⟨x, false, none⟩ ⟨hn, hT, fun h => by cases h⟩
    have h35 := f35 y T
    simp only [eSt] at h35
    obtain ⟨X, hX⟩ : ∃ X, endP c21.res (evCode (evC Dg) 33 c21.code ⟨[eN x n, eSt y T, eTx l] ++ List.replicate (c21.nt - c21.np) .top, []⟩) = X := ⟨_, rfl⟩
    have main : (∃ u z, foldX stepP l ⟨n, T, -1⟩ = .ok u ∧ X = some (.tup [.int .i64 u.ix, eN z u.n, eSt true u.T, .int .i64 0]))
       ∨ (∃ u z, foldX stepP l ⟨n, T, -1⟩ = .ok u ∧ X = some (.tup [.int .i64 u.ix, eN z u.n, .fr 2 (u.T.map eP), .int .i64 0]))
       ∨ (∃ e, foldX stepP l ⟨n, T, -1⟩ = .error e ∧ X = some (.tup [.int .i64 0, eN x n, eSt y T, .int .i64 e])) := by
      unfold c21 at hX
      simp [evCode, evOps, evOne, evOp, evPur, evEff, evPur.chunks, fillP, AOp.isEff, AO.ev, putP, PV.cells, PV.leaf, getB, getM, mapE, keyC, mapRows, mfind, eq1, eqL, scal, binP, unP, minP, maxP, foldP, PV.lt, PV.lt.ltL, endP, expoAll, expo, expo.expoL, frIds, frIds.frIdsL, nodupN, kill, cls, clsFuel, resO, RV.get, loadP, evC_p, evC_s, endS, endT, rowsOf, callP, thinL, unfr, unfr.unfrL, PV.noMem, PV.noMem.noMemL, optI, mapO, norm, trimT, trimB, forget, hasN, blksLt, List.set, eN, eSt, eTx, h14, h35, impV, impB] at hX
      generalize hE : evLoop _ _ _ _ _ = E at hX
      rcases H _ _ hE (by simp [evCode, evOps, evOne, evOp, evPur, evEff, evPur.chunks, fillP, AOp.isEff, AO.ev, putP, PV.cells, PV.leaf, getB, getM, mapE, keyC, mapRows, mfind, eq1, eqL, scal, binP, unP, minP, maxP, foldP, PV.lt, PV.lt.ltL, endP, expoAll, expo, expo.expoL, frIds, frIds.frIdsL, nodupN, kill, cls, clsFuel, resO, RV.get, loadP, evC_p, evC_s, endS, endT, rowsOf, callP, thinL, unfr, unfr.unfrL, PV.noMem, PV.noMem.noMemL, optI, mapO, norm, trimT, trimB, forget, hasN, blksLt, List.set, S21, stkPV, stkBl, b0, b1, eN, eSt, eTx]) with ⟨u, z, g1, ⟨i1, i2, i3⟩, g2⟩ | ⟨e, s, g1, g2, g3⟩
      · obtain ⟨xn, own, g⟩ := z
        cases own
        · rw [g2] at hX
          unfold c21b0 at hX
          simp [evCode, evOps, evOne, evOp, evPur, evEff, evPur.chunks, fillP, AOp.isEff, AO.ev, putP, PV.cells, PV.leaf, getB, getM, mapE, keyC, mapRows, mfind, eq1, eqL, scal, binP, unP, minP, maxP, foldP, PV.lt, PV.lt.ltL, endP, expoAll, expo, expo.expoL, frIds, frIds.frIdsL, nodupN, kill, cls, clsFuel, resO, RV.get, loadP, evC_p, evC_s, endS, endT, rowsOf, callP, thinL, unfr, unfr.unfrL, PV.noMem, PV.noMem.noMemL, optI, mapO, norm, trimT, trimB, forget, hasN, blksLt, List.set, S21, stkPV, stkBl, b0, b1, eN, eSt, eTx] at hX
          exact .inl ⟨u, xn, g1, hX.symm⟩
        · obtain ⟨r, hr⟩ := i3 rfl
          simp only at hr
          subst hr
          rw [g2] at hX
          unfold c21b0 at hX
          simp [evCode, evOps, evOne, evOp, evPur, evEff, evPur.chunks, fillP, AOp.isEff, AO.ev, putP, PV.cells, PV.leaf, getB, getM, mapE, keyC, mapRows, mfind, eq1, eqL, scal, binP, unP, minP, maxP, foldP, PV.lt, PV.lt.ltL, endP, expoAll, expo, expo.expoL, frIds, frIds.frIdsL, nodupN, kill, cls, clsFuel, resO, RV.get, loadP, evC_p, evC_s, endS, endT, rowsOf, callP, thinL, unfr, unfr.unfrL, PV.noMem, PV.noMem.noMemL, optI, mapO, norm, trimT, trimB, forget, hasN, blksLt, List.set, S21, stkPV, stkBl, b0, b1, eN, eSt, eTx] at hX
          exact .inr (.inl ⟨u, xn, g1, hX.symm⟩)
      · rw [g2] at hX
        simp [evCode, evOps, evOne, evOp, evPur, evEff, evPur.chunks, fillP, AOp.isEff, AO.ev, putP, PV.cells, PV.leaf, getB, getM, mapE, keyC, mapRows, mfind, eq1, eqL, scal, binP, unP, minP, maxP, foldP, PV.lt, PV.lt.ltL, endP, expoAll, expo, expo.expoL, frIds, frIds.frIdsL, nodupN, kill, cls, clsFuel, resO, RV.get, loadP, evC_p, evC_s, endS, endT, rowsOf, callP, thinL, unfr, unfr.unfrL, PV.noMem, PV.noMem.noMemL, optI, mapO, norm, trimT, trimB, forget, hasN, blksLt, List.set, eN, eSt] at g3
        refine .inr (.inr ⟨e, g1, ?_⟩)
        rw [← hX]
        simp [evCode, evOps, evOne, evOp, evPur, evEff, evPur.chunks, fillP, AOp.isEff, AO.ev, putP, PV.cells, PV.leaf, getB, getM, mapE, keyC, mapRows, mfind, eq1, eqL, scal, binP, unP, minP, maxP, foldP, PV.lt, PV.lt.ltL, endP, expoAll, expo, expo.expoL, frIds, frIds.frIdsL, nodupN, kill, cls, clsFuel, resO, RV.get, loadP, evC_p, evC_s, endS, endT, rowsOf, callP, thinL, unfr, unfr.unfrL, PV.noMem, PV.noMem.noMemL, optI, mapO, norm, trimT, trimB, forget, hasN, blksLt, List.set, eN, eSt]
        exact g3
    rcases main with ⟨u, z, g1, g2⟩ | ⟨u, z, g1, g2⟩ | ⟨e, g1, g2⟩
    · refine ⟨z, true, fun bl => callP_unfr (evE_intro 33 D21 rfl (hX.trans g2)) rfl ?_ (by simp [PV.lt, PV.lt.ltL, eN, eSt])⟩
      simp [unfr, unfr.unfrL, putS, c, g1, eN, eSt]
    · refine ⟨z, false, fun bl => callP_unfr (evE_intro 33 D21 rfl (hX.trans g2)) rfl ?_ (by simp [PV.lt, PV.lt.ltL, eN, eSt])⟩
      simp [unfr, unfr.unfrL, putS, c, g1, eN, eSt]
    · refine ⟨x, y, fun bl => callP_unfr (evE_intro 33 D21 rfl (hX.trans g2)) rfl ?_ (by simp [PV.lt, PV.lt.ltL, eN, eSt])⟩
      simp [unfr, unfr.unfrL, putS, c, g1, eN, eSt]
  · have c' : (framesE l == 0) = false := by simpa using c
    simp only [eTx] at h14
    refine ⟨x, y, fun bl => callP_unfr (evE_intro (r := .tup [.int .i64 0, eN x n, eSt y T, .int .i64 (framesE l)]) 1 D21 rfl ?_) rfl (by simp [unfr, unfr.unfrL, putS, c, eN, eSt]) (by simp [PV.lt, PV.lt.ltL, eN, eSt])⟩
    unfold c21
    simp [evCode, evOps, evOne, evOp, evPur, evEff, evPur.chunks, fillP, AOp.isEff, AO.ev, putP, PV.cells, PV.leaf, getB, getM, mapE, keyC, mapRows, mfind, eq1, eqL, scal, binP, unP, minP, maxP, foldP, PV.lt, PV.lt.ltL, endP, expoAll, expo, expo.expoL, frIds, frIds.frIdsL, nodupN, kill, cls, clsFuel, resO, RV.get, loadP, evC_p, evC_s, endS, endT, rowsOf, callP, thinL, unfr, unfr.unfrL, PV.noMem, PV.noMem.noMemL, optI, mapO, norm, trimT, trimB, forget, hasN, blksLt, List.set, eN, eSt, eTx, h14, c, c']

def S22 (x y : Bool) (n : List (List UInt8)) (T : List (Int × Int)) (l : List (List UInt8)) (k : Nat) (u : PS) (z : Bool) : St :=
  ⟨[eN x n, eSt y T, eTx l, .top, .top, .top, .top, .top, .top, .top, .top, .int .i64 u.ix, eN z u.n, .own 2 u.T.length 0 u.T.length, .int .i64 k] ++ List.replicate 59 .top, [b0, b1, some ⟨u.T.length, 2, true, u.T.map eP⟩]⟩
def I22 (k : Nat) (u : PS) (z : Bool) : Prop := u.n.length ≤ 1100 ∧ u.T.length ≤ 1100
theorem hidxR (r : List PV) (T : List (Int × Int)) (hl : T.length ≤ 1000000) (p q : Int) :
    callP (evE Dg) [b0, b1, some ⟨T.length, 2, true, T.map eP⟩, some ⟨1, 2, true, [r]⟩] false 31 [.own 2 T.length 0 T.length, .agg [.int .i64 p, .int .i64 q]] = some (.int .i64 (idx T (p, q)), []) := by
  have ht : List.take T.length (List.map eP T) = List.map eP T := List.take_of_length_le (by simp)
  have hc : mapO (cls clsFuel [b0, b1, some ⟨T.length, 2, true, T.map eP⟩, some ⟨1, 2, true, [r]⟩]) [.own 2 T.length 0 T.length, .agg [.int .i64 p, .int .i64 q]] = some [.sl false 2 (List.take T.length (T.map eP)), .agg [.int .i64 p, .int .i64 q]] := by
    simp [mapO, cls, clsFuel, PV.lt, PV.lt.ltL, getB, mapE]
  have h := f31 false T (p, q) hl
  simp only [eSt, eP] at h
  unfold callP
  rw [hc, ht]
  simp only [PV.lt.ltL, PV.lt, Nat.blt_eq, Bool.false_and, Nat.not_lt_zero, decide_false, Bool.false_eq_true, if_false, h]
  rfl

theorem body22 (x y : Bool) (n : List (List UInt8)) (T : List (Int × Int)) (l : List (List UInt8)) (f : Nat) (hll : l.length ≤ 32) (k : Nat) (a : List UInt8) (u : PS) (z : Bool) (ha : l[k]? = some a) (hI : I22 k u z) :
    (∀ v, stepP u a = .ok v → ∃ z' s', evCode (evC Dg) f c22b0 (S22 x y n T l k u z) = some (.normal s') ∧ norm [0, 1, 2, 11, 12, 13, 14] 3 s' = S22 x y n T l (k + 1) v z' ∧ I22 (k + 1) v z') ∧
    (∀ e, stepP u a = .error e → ∃ s', evCode (evC Dg) f c22b0 (S22 x y n T l k u z) = some (.ret s') ∧ endP [.t 6, .t 7, .t 8, .t 9] (some (.ret s')) = some (.tup [.int .i64 0, eN x n, eSt y T, .int .i64 e])) := by
  obtain ⟨i1, i2⟩ := hI
  have hk : k < l.length := (List.getElem?_eq_some_iff.1 ha).1
  have hk' : (k : Int) < l.length := by omega
  have w := wrap_i64 ((k : Int) + 1) (by omega) (by omega)
  obtain ⟨un, uT, ix⟩ := u
  simp only at i1 i2
  obtain ⟨xn', hp⟩ := p20 z un a i1
  have hlen := putR_len un a i1
  unfold stepP
  simp only
  generalize putR un a = q at hp hlen
  obtain ⟨q1, q2, q3⟩ := q
  simp only at hp hlen ⊢
  have h36 := hidxR [.int .i64 ix, .int .i64 q1] uT (by omega) ix q1
  simp only [b0, b1] at h36
  simp only [eN] at hp
  by_cases c1 : q3 = 0
  · subst c1
    simp only [if_true]
    by_cases c2 : 0 ≤ idx uT (ix, q1)
    · rw [if_pos c2]
      refine ⟨fun v hv => ?_, fun e he => by cases he⟩
      cases hv
      refine ⟨xn', ?_⟩
      unfold c22b0
      simp [evCode, evOps, evOne, evOp, evPur, evEff, evPur.chunks, fillP, AOp.isEff, AO.ev, putP, PV.cells, PV.leaf, getB, getM, mapE, keyC, mapRows, mfind, eq1, eqL, scal, binP, unP, minP, maxP, foldP, PV.lt, PV.lt.ltL, endP, expoAll, expo, expo.expoL, frIds, frIds.frIdsL, nodupN, kill, resO, RV.get, loadP, evC_p, evC_s, endS, endT, rowsOf, thinL, unfr, unfr.unfrL, PV.noMem, PV.noMem.noMemL, optI, norm, trimT, trimB, forget, hasN, blksLt, List.set, S22, b0, b1, eN, eSt, eTx, ha, hk', w, hp, h36, c2, I22, hlen, i2]
    · rw [if_neg c2]
      by_cases c3 : 1000 ≤ uT.length
      · rw [if_pos c3]
        have c3' : (1000 : Int) ≤ uT.length := by omega
        refine ⟨fun v hv => (by cases hv), fun e he => ?_⟩
        cases he
        unfold c22b0
        simp [evCode, evOps, evOne, evOp, evPur, evEff, evPur.chunks, fillP, AOp.isEff, AO.ev, putP, PV.cells, PV.leaf, getB, getM, mapE, keyC, mapRows, mfind, eq1, eqL, scal, binP, unP, minP, maxP, foldP, PV.lt, PV.lt.ltL, endP, expoAll, expo, expo.expoL, frIds, frIds.frIdsL, nodupN, kill, resO, RV.get, loadP, evC_p, evC_s, endS, endT, rowsOf, thinL, unfr, unfr.unfrL, PV.noMem, PV.noMem.noMemL, optI, norm, trimT, trimB, forget, hasN, blksLt, List.set, S22, b0, b1, eN, eSt, eTx, ha, hk', w, hp, h36, c2, c3', cls, clsFuel, mapO]
      · rw [if_neg c3]
        have c3' : ¬ (1000 : Int) ≤ uT.length := by omega
        have m1 : (uT.length + 1) * 16 ≤ 140737488355328 := by omega
        have m2 : uT.length + 1 ≤ 140737488355328 := by omega
        have m3 : uT.length + 1 ≤ 1100 := by omega
        refine ⟨fun v hv => ?_, fun e he => by cases he⟩
        cases hv
        refine ⟨xn', ?_⟩
        unfold c22b0
        simp [evCode, evOps, evOne, evOp, evPur, evEff, evPur.chunks, fillP, AOp.isEff, AO.ev, putP, PV.cells, PV.leaf, getB, getM, mapE, keyC, mapRows, mfind, eq1, eqL, scal, binP, unP, minP, maxP, foldP, PV.lt, PV.lt.ltL, endP, expoAll, expo, expo.expoL, frIds, frIds.frIdsL, nodupN, kill, resO, RV.get, loadP, evC_p, evC_s, endS, endT, rowsOf, thinL, unfr, unfr.unfrL, PV.noMem, PV.noMem.noMemL, optI, norm, trimT, trimB, forget, hasN, blksLt, List.set, S22, b0, b1, eN, eSt, eTx, ha, hk', w, hp, h36, c2, c3', m1, m2, m3, I22, hlen, i2, eP]
  · simp only [c1, if_false]
    refine ⟨fun v hv => (by cases hv), fun e he => ?_⟩
    cases he
    have c1' : (q3 == 0) = false := by simpa using c1
    unfold c22b0
    simp [evCode, evOps, evOne, evOp, evPur, evEff, evPur.chunks, fillP, AOp.isEff, AO.ev, putP, PV.cells, PV.leaf, getB, getM, mapE, keyC, mapRows, mfind, eq1, eqL, scal, binP, unP, minP, maxP, foldP, PV.lt, PV.lt.ltL, endP, expoAll, expo, expo.expoL, frIds, frIds.frIdsL, nodupN, kill, resO, RV.get, loadP, evC_p, evC_s, endS, endT, rowsOf, thinL, unfr, unfr.unfrL, PV.noMem, PV.noMem.noMemL, optI, norm, trimT, trimB, forget, hasN, blksLt, List.set, S22, b0, b1, eN, eSt, eTx, ha, hk', w, hp, c1, c1', cls, clsFuel, mapO]

theorem p22 (x y : Bool) (n : List (List UInt8)) (T : List (Int × Int)) (l : List (List UInt8)) (hn : n.length ≤ 1100) (hT : T.length ≤ 1100) :
    ∃ x' y', ∀ bl, callP (evE Dg) bl false 22 [eN x n, eSt y T, eTx l] = some (.tup [.int .i64 (putS n T l).1, eN x' (putS n T l).2.1, eSt y' (putS n T l).2.2.1, .int .i64 (putS n T l).2.2.2], []) := by
  have h14 := f15 l
  by_cases c : framesE l = 0
  · have hll := framesE_len c
    rw [c] at h14
    simp only [eTx] at h14
    have H := loop_exc (body := evCode (evC Dg) 33 c22b0) (keep := [0, 1, 2, 11, 12, 13, 14]) (n0 := 3) (fuel := 33) l (S22 x y n T l) stepP I22 (fun e s => endP [.t 6, .t 7, .t 8, .t 9] (some (.ret s)) = some (.tup [.int .i64 0, eN x n, eSt y T, .int .i64 e]))
      (fun k a u z v ha hk hI hv => (body22 x y n T l 33 hll k a u z ha hI).1 v hv) (fun k a u z e ha hk hI he => (body22 x y n T l 33 hll k a u z ha hI).2 e he)
      (by
        intro u z hI s
        unfold c22b0
        simp [evCode, evOps, evOne, evOp, evPur, evEff, evPur.chunks, fillP, AOp.isEff, AO.ev, putP, PV.cells, PV.leaf, getB, getM, mapE, keyC, mapRows, mfind, eq1, eqL, scal, binP, unP, minP, maxP, foldP, PV.lt, PV.lt.ltL, endP, expoAll, expo, expo.expoL, frIds, frIds.frIdsL, nodupN, kill, cls, clsFuel, resO, RV.get, loadP, evC_p, evC_s, endS, endT, rowsOf, callP, thinL, unfr, unfr.unfrL, PV.noMem, PV.noMem.noMemL, optI, mapO, norm, trimT, trimB, forget, hasN, blksLt, List.set, S22, eN, eSt, eTx]) (by omega) ⟨n, T, -1⟩ x ⟨hn, hT⟩
    have hall : ∀ T : List (Int × Int), (T.map eP).all (PV.lt.ltL 0) = true := fun T => by simp [eP, PV.lt.ltL, PV.lt]
    have m1 : T.length * 16 ≤ 140737488355328 := by omega
    have m2 : T.length ≤ 140737488355328 := by omega
    obtain ⟨X, hX⟩ : ∃ X, endP c22.res (evCode (evC Dg) 33 c22.code ⟨[eN x n, eSt y T, eTx l] ++ List.replicate (c22.nt - c22.np) .top, []⟩) = X := ⟨_, rfl⟩
    have main : (∃ u z, foldX stepP l ⟨n, T, -1⟩ = .ok u ∧ X = some (.tup [.int .i64 u.ix, eN z u.n, .fr 2 (u.T.map eP), .int .i64 0]))
       ∨ (∃ e, foldX stepP l ⟨n, T, -1⟩ = .error e ∧ X = some (.tup [.int .i64 0, eN x n, eSt y T, .int .i64 e])) := by
      unfold c22 at hX
      simp [evCode, evOps, evOne, evOp, evPur, evEff, evPur.chunks, fillP, AOp.isEff, AO.ev, putP, PV.cells, PV.leaf, getB, getM, mapE, keyC, mapRows, mfind, eq1, eqL, scal, binP, unP, minP, maxP, foldP, PV.lt, PV.lt.ltL, endP, expoAll, expo, expo.expoL, frIds, frIds.frIdsL, nodupN, kill, cls, clsFuel, resO, RV.get, loadP, evC_p, evC_s, endS, endT, rowsOf, callP, thinL, unfr, unfr.unfrL, PV.noMem, PV.noMem.noMemL, optI, mapO, norm, trimT, trimB, forget, hasN, blksLt, List.set, eN, eSt, eTx, h14, m1, m2] at hX
      generalize hE : evLoop _ _ _ _ _ = E at hX
      rcases H _ _ hE (by simp [evCode, evOps, evOne, evOp, evPur, evEff, evPur.chunks, fillP, AOp.isEff, AO.ev, putP, PV.cells, PV.leaf, getB, getM, mapE, keyC, mapRows, mfind, eq1, eqL, scal, binP, unP, minP, maxP, foldP, PV.lt, PV.lt.ltL, endP, expoAll, expo, expo.expoL, frIds, frIds.frIdsL, nodupN, kill, cls, clsFuel, resO, RV.get, loadP, evC_p, evC_s, endS, endT, rowsOf, callP, thinL, unfr, unfr.unfrL, PV.noMem, PV.noMem.noMemL, optI, mapO, norm, trimT, trimB, forget, hasN, blksLt, List.set, S22, b0, b1, eN, eSt, eTx, eP]) with ⟨u, z, g1, ⟨i1, i2⟩, g2⟩ | ⟨e, s, g1, g2, g3⟩
      · rw [g2] at hX
        unfold c22b0 at hX
        simp [evCode, evOps, evOne, evOp, evPur, evEff, evPur.chunks, fillP, AOp.isEff, AO.ev, putP, PV.cells, PV.leaf, getB, getM, mapE, keyC, mapRows, mfind, eq1, eqL, scal, binP, unP, minP, maxP, foldP, PV.lt, PV.lt.ltL, endP, expoAll, expo, expo.expoL, frIds, frIds.frIdsL, nodupN, kill, cls, clsFuel, resO, RV.get, loadP, evC_p, evC_s, endS, endT, rowsOf, callP, thinL, unfr, unfr.unfrL, PV.noMem, PV.noMem.noMemL, optI, mapO, norm, trimT, trimB, forget, hasN, blksLt, List.set, S22, b0, b1, eN, eSt, eTx] at hX
        exact .inl ⟨u, z, g1, hX.symm⟩
      · rw [g2] at hX
        simp [evCode, evOps, evOne, evOp, evPur, evEff, evPur.chunks, fillP, AOp.isEff, AO.ev, putP, PV.cells, PV.leaf, getB, getM, mapE, keyC, mapRows, mfind, eq1, eqL, scal, binP, unP, minP, maxP, foldP, PV.lt, PV.lt.ltL, endP, expoAll, expo, expo.expoL, frIds, frIds.frIdsL, nodupN, kill, cls, clsFuel, resO, RV.get, loadP, evC_p, evC_s, endS, endT, rowsOf, callP, thinL, unfr, unfr.unfrL, PV.noMem, PV.noMem.noMemL, optI, mapO, norm, trimT, trimB, forget, hasN, blksLt, List.set, eN, eSt] at g3
        refine .inr ⟨e, g1, ?_⟩
        rw [← hX]
        simp [evCode, evOps, evOne, evOp, evPur, evEff, evPur.chunks, fillP, AOp.isEff, AO.ev, putP, PV.cells, PV.leaf, getB, getM, mapE, keyC, mapRows, mfind, eq1, eqL, scal, binP, unP, minP, maxP, foldP, PV.lt, PV.lt.ltL, endP, expoAll, expo, expo.expoL, frIds, frIds.frIdsL, nodupN, kill, cls, clsFuel, resO, RV.get, loadP, evC_p, evC_s, endS, endT, rowsOf, callP, thinL, unfr, unfr.unfrL, PV.noMem, PV.noMem.noMemL, optI, mapO, norm, trimT, trimB, forget, hasN, blksLt, List.set, eN, eSt]
        exact g3
    rcases main with ⟨u, z, g1, g2⟩ | ⟨e, g1, g2⟩
    · refine ⟨z, false, fun bl => callP_unfr (evE_intro 33 D22 rfl (hX.trans g2)) rfl ?_ (by simp [PV.lt, PV.lt.ltL, eN, eSt])⟩
      simp [unfr, unfr.unfrL, putS, c, g1, eN, eSt]
    · refine ⟨x, y, fun bl => callP_unfr (evE_intro 33 D22 rfl (hX.trans g2)) rfl ?_ (by simp [PV.lt, PV.lt.ltL, eN, eSt])⟩
      simp [unfr, unfr.unfrL, putS, c, g1, eN, eSt]
  · have c' : (framesE l == 0) = false := by simpa using c
    simp only [eTx] at h14
    refine ⟨x, y, fun bl => callP_unfr (evE_intro (r := .tup [.int .i64 0, eN x n, eSt y T, .int .i64 (framesE l)]) 1 D22 rfl ?_) rfl (by simp [unfr, unfr.unfrL, putS, c, eN, eSt]) (by simp [PV.lt, PV.lt.ltL, eN, eSt])⟩
    unfold c22
    simp [evCode, evOps, evOne, evOp, evPur, evEff, evPur.chunks, fillP, AOp.isEff, AO.ev, putP, PV.cells, PV.leaf, getB, getM, mapE, keyC, mapRows, mfind, eq1, eqL, scal, binP, unP, minP, maxP, foldP, PV.lt, PV.lt.ltL, endP, expoAll, expo, expo.expoL, frIds, frIds.frIdsL, nodupN, kill, cls, clsFuel, resO, RV.get, loadP, evC_p, evC_s, endS, endT, rowsOf, callP, thinL, unfr, unfr.unfrL, PV.noMem, PV.noMem.noMemL, optI, mapO, norm, trimT, trimB, forget, hasN, blksLt, List.set, eN, eSt, eTx, h14, c, c']
end Go.Proofs.Ytddlicbogbmpbaa
