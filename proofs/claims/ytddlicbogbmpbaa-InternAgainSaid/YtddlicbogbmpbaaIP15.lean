/- intern: PutStack of an exact slice. -/
import Derived.Test.YtddlicbogbmpbaaIP14
namespace Go.Proofs.Ytddlicbogbmpbaa
open Go Go.RowKit
set_option linter.unusedVariables false
set_option linter.unusedSimpArgs false
set_option maxHeartbeats 4000000

def eTt (l : List (List UInt8)) : PV := .sl true 1 (l.map fun t => [.str t])
def S14t (l : List (List UInt8)) (k : Nat) : St := ⟨List.replicate 9 .top ++ [eTt l, .int .i64 l.length, .int .i64 k] ++ List.replicate 9 .top, []⟩

theorem f14t (l : List (List UInt8)) : evE Dg 14 [eTt l] = some (.int .i64 (framesE l)) := by
  refine evE_intro (l.length + 1) D14 rfl ?_
  by_cases h2 : l.length ≤ 32
  · have h2' : ¬ ((32 : Int) < l.length) := by omega
    have h2'' : ¬ (32 < l.length) := by omega
    have H := loop_all (body := evCode (evC Dg) (l.length + 1) c14b0) (keep := [9, 10, 11]) (n0 := 0) (fuel := l.length + 1) l (S14t l) nameOk (fun t => t.sl[2]?.getD .top = .int .i64 3)
      (by
        intro k a ha hk hq
        have hk' : (k : Int) < l.length := by omega
        have h1 := wrap_i64 ((k : Int) + 1) (by omega) (by omega)
        have h3 := f10 a
        rw [nameE, hq] at h3
        unfold c14b0
        simp [evCode, evOps, evOne, evOp, evPur, evEff, evPur.chunks, fillP, AOp.isEff, AO.ev, putP, PV.cells, PV.leaf, getB, getM, mapE, keyC, mapRows, mfind, eq1, eqL, scal, binP, unP, minP, maxP, foldP, PV.lt, PV.lt.ltL, endP, expoAll, expo, expo.expoL, frIds, frIds.frIdsL, nodupN, kill, cls, clsFuel, resO, RV.get, loadP, evC_p, evC_s, endS, endT, rowsOf, callP, thinL, unfr, unfr.unfrL, PV.noMem, PV.noMem.noMemL, optI, mapO, norm, trimT, trimB, forget, hasN, blksLt, List.set, S14t, eTt, ha, hk', h1, h3])
      (by
        intro k a ha hk hq
        have hk' : (k : Int) < l.length := by omega
        have h3 := f10 a
        rw [nameE, hq] at h3
        unfold c14b0
        simp [evCode, evOps, evOne, evOp, evPur, evEff, evPur.chunks, fillP, AOp.isEff, AO.ev, putP, PV.cells, PV.leaf, getB, getM, mapE, keyC, mapRows, mfind, eq1, eqL, scal, binP, unP, minP, maxP, foldP, PV.lt, PV.lt.ltL, endP, expoAll, expo, expo.expoL, frIds, frIds.frIdsL, nodupN, kill, cls, clsFuel, resO, RV.get, loadP, evC_p, evC_s, endS, endT, rowsOf, callP, thinL, unfr, unfr.unfrL, PV.noMem, PV.noMem.noMemL, optI, mapO, norm, trimT, trimB, forget, hasN, blksLt, List.set, S14t, eTt, ha, hk', h3])
      (by
        intro s
        unfold c14b0
        simp [evCode, evOps, evOne, evOp, evPur, evEff, evPur.chunks, fillP, AOp.isEff, AO.ev, putP, PV.cells, PV.leaf, getB, getM, mapE, keyC, mapRows, mfind, eq1, eqL, scal, binP, unP, minP, maxP, foldP, PV.lt, PV.lt.ltL, endP, expoAll, expo, expo.expoL, frIds, frIds.frIdsL, nodupN, kill, cls, clsFuel, resO, RV.get, loadP, evC_p, evC_s, endS, endT, rowsOf, callP, thinL, unfr, unfr.unfrL, PV.noMem, PV.noMem.noMemL, optI, mapO, norm, trimT, trimB, forget, hasN, blksLt, List.set, S14t, eTt]) (by omega)
    unfold c14
    simp [evCode, evOps, evOne, evOp, evPur, evEff, evPur.chunks, fillP, AOp.isEff, AO.ev, putP, PV.cells, PV.leaf, getB, getM, mapE, keyC, mapRows, mfind, eq1, eqL, scal, binP, unP, minP, maxP, foldP, PV.lt, PV.lt.ltL, endP, expoAll, expo, expo.expoL, frIds, frIds.frIdsL, nodupN, kill, cls, clsFuel, resO, RV.get, loadP, evC_p, evC_s, endS, endT, rowsOf, callP, thinL, unfr, unfr.unfrL, PV.noMem, PV.noMem.noMemL, optI, mapO, norm, trimT, trimB, forget, hasN, blksLt, List.set, eTt, h2']
    generalize hE : evLoop _ _ _ _ _ = E
    rcases H _ _ hE (by simp [evCode, evOps, evOne, evOp, evPur, evEff, evPur.chunks, fillP, AOp.isEff, AO.ev, putP, PV.cells, PV.leaf, getB, getM, mapE, keyC, mapRows, mfind, eq1, eqL, scal, binP, unP, minP, maxP, foldP, PV.lt, PV.lt.ltL, endP, expoAll, expo, expo.expoL, frIds, frIds.frIdsL, nodupN, kill, cls, clsFuel, resO, RV.get, loadP, evC_p, evC_s, endS, endT, rowsOf, callP, thinL, unfr, unfr.unfrL, PV.noMem, PV.noMem.noMemL, optI, mapO, norm, trimT, trimB, forget, hasN, blksLt, List.set, S14t, eTt]) with ⟨g1, g2⟩ | ⟨g1, t, g2, g3⟩
    · rw [g2]
      unfold c14b0
      simp [evCode, evOps, evOne, evOp, evPur, evEff, evPur.chunks, fillP, AOp.isEff, AO.ev, putP, PV.cells, PV.leaf, getB, getM, mapE, keyC, mapRows, mfind, eq1, eqL, scal, binP, unP, minP, maxP, foldP, PV.lt, PV.lt.ltL, endP, expoAll, expo, expo.expoL, frIds, frIds.frIdsL, nodupN, kill, cls, clsFuel, resO, RV.get, loadP, evC_p, evC_s, endS, endT, rowsOf, callP, thinL, unfr, unfr.unfrL, PV.noMem, PV.noMem.noMemL, optI, mapO, norm, trimT, trimB, forget, hasN, blksLt, List.set, S14t, eTt]
      simp only [framesE, g1, h2'', if_true, if_false]
    · rw [g2]
      simp [evCode, evOps, evOne, evOp, evPur, evEff, evPur.chunks, fillP, AOp.isEff, AO.ev, putP, PV.cells, PV.leaf, getB, getM, mapE, keyC, mapRows, mfind, eq1, eqL, scal, binP, unP, minP, maxP, foldP, PV.lt, PV.lt.ltL, endP, expoAll, expo, expo.expoL, frIds, frIds.frIdsL, nodupN, kill, cls, clsFuel, resO, RV.get, loadP, evC_p, evC_s, endS, endT, rowsOf, callP, thinL, unfr, unfr.unfrL, PV.noMem, PV.noMem.noMemL, optI, mapO, norm, trimT, trimB, forget, hasN, blksLt, List.set, g3]
      simp only [framesE, g1, h2'', Bool.false_eq_true, if_false]
  · have h2' : ((32 : Int) < l.length) := by omega
    have h2'' : 32 < l.length := by omega
    unfold c14
    simp [evCode, evOps, evOne, evOp, evPur, evEff, evPur.chunks, fillP, AOp.isEff, AO.ev, putP, PV.cells, PV.leaf, getB, getM, mapE, keyC, mapRows, mfind, eq1, eqL, scal, binP, unP, minP, maxP, foldP, PV.lt, PV.lt.ltL, endP, expoAll, expo, expo.expoL, frIds, frIds.frIdsL, nodupN, kill, cls, clsFuel, resO, RV.get, loadP, evC_p, evC_s, endS, endT, rowsOf, callP, thinL, unfr, unfr.unfrL, PV.noMem, PV.noMem.noMemL, optI, mapO, norm, trimT, trimB, forget, hasN, blksLt, List.set, eTt, h2', framesE, h2'']


def S21t (x y : Bool) (n : List (List UInt8)) (T : List (Int × Int)) (l : List (List UInt8)) (k : Nat) (u : PS) (z : XS) : St :=
  ⟨[eN x n, eSt y T, .top, .top, .top, .top, .top, .top, .top, .top, .top, eN z.xn u.n, stkPV u.T z, .int .i64 u.ix, .top, .top, .top, .top, .top, .top, .top, .top, .top, .top, .top, .top, .top, .top, .top, .top, eTt l, .int .i64 l.length, .int .i64 k] ++ List.replicate 39 .top, stkBl u.T z⟩

theorem body21t (x y : Bool) (n : List (List UInt8)) (T : List (Int × Int)) (l : List (List UInt8)) (f : Nat) (hll : l.length ≤ 32) (k : Nat) (a : List UInt8) (u : PS) (z : XS) (ha : l[k]? = some a) (hI : I21 0 k u z) :
    (∀ v, stepP u a = .ok v → ∃ z' s', evCode (evC Dg) f c21b0 (S21t x y n T l k u z) = some (.normal s') ∧ norm [0, 1, 11, 12, 13, 30, 31, 32] 2 s' = S21t x y n T l (k + 1) v z' ∧ I21 0 (k + 1) v z') ∧
    (∀ e, stepP u a = .error e → ∃ s', evCode (evC Dg) f c21b0 (S21t x y n T l k u z) = some (.ret s') ∧ endP [.t 6, .t 7, .t 8, .t 9] (some (.ret s')) = some (.tup [.int .i64 0, eN x n, eSt y T, .int .i64 e])) := by
  obtain ⟨i1, i2, i3⟩ := hI
  have hk : k < l.length := (List.getElem?_eq_some_iff.1 ha).1
  have hk' : (k : Int) < l.length := by omega
  have w := wrap_i64 ((k : Int) + 1) (by omega) (by omega)
  obtain ⟨xn, own, g⟩ := z
  obtain ⟨un, uT, ix⟩ := u
  simp only at i1 i2 i3
  obtain ⟨xn', hp⟩ := p19 xn un a i1
  have hlen := putR_len un a i1
  unfold stepP
  simp only
  generalize putR un a = q at hp hlen
  obtain ⟨q1, q2, q3⟩ := q
  simp only at hp hlen ⊢
  by_cases c1 : q3 = 0
  · subst c1
    simp only [if_true]
    by_cases c2 : 0 ≤ idx uT (ix, q1)
    · rw [if_pos c2]
      refine ⟨fun v hv => ?_, fun e he => by cases he⟩
      cases hv
      cases own
      · have h36 := fun C => hidx C uT (by omega) true ix q1
        refine ⟨⟨xn', false, none⟩, ?_⟩
        simp only [eN, eSt] at hp h36
        unfold c21b0
        simp [evCode, evOps, evOne, evOp, evPur, evEff, evPur.chunks, fillP, AOp.isEff, AO.ev, putP, PV.cells, PV.leaf, getB, getM, mapE, keyC, mapRows, mfind, eq1, eqL, scal, binP, unP, minP, maxP, foldP, PV.lt, PV.lt.ltL, endP, expoAll, expo, expo.expoL, frIds, frIds.frIdsL, nodupN, kill, resO, RV.get, loadP, evC_p, evC_s, endS, endT, rowsOf, thinL, unfr, unfr.unfrL, PV.noMem, PV.noMem.noMemL, optI, norm, trimT, trimB, forget, hasN, blksLt, List.set, S21t, stkPV, stkBl, b0, b1, eN, eSt, eTt, ha, hk', w, hp, h36, c2, I21, hlen, i2]
      · obtain ⟨r, hr⟩ := i3 rfl
        subst hr
        have h36 := hidxO (some ⟨1, 2, true, [r]⟩) [.int .i64 ix, .int .i64 q1] uT (by omega) ix q1
        refine ⟨⟨xn', true, some ⟨1, 2, true, [r]⟩⟩, ?_⟩
        simp only [eN, eSt, b0, b1] at hp h36
        unfold c21b0
        simp [evCode, evOps, evOne, evOp, evPur, evEff, evPur.chunks, fillP, AOp.isEff, AO.ev, putP, PV.cells, PV.leaf, getB, getM, mapE, keyC, mapRows, mfind, eq1, eqL, scal, binP, unP, minP, maxP, foldP, PV.lt, PV.lt.ltL, endP, expoAll, expo, expo.expoL, frIds, frIds.frIdsL, nodupN, kill, resO, RV.get, loadP, evC_p, evC_s, endS, endT, rowsOf, thinL, unfr, unfr.unfrL, PV.noMem, PV.noMem.noMemL, optI, norm, trimT, trimB, forget, hasN, blksLt, List.set, S21t, stkPV, stkBl, b0, b1, eN, eSt, eTt, ha, hk', w, hp, h36, c2, I21, hlen, i2]
    · rw [if_neg c2]
      by_cases c3 : 1000 ≤ uT.length
      · rw [if_pos c3]
        have c3' : (1000 : Int) ≤ uT.length := by omega
        refine ⟨fun v hv => (by cases hv), fun e he => ?_⟩
        cases he
        cases own
        · have h36 := fun C => hidx C uT (by omega) true ix q1
          simp only [eN, eSt] at hp h36
          unfold c21b0
          simp [evCode, evOps, evOne, evOp, evPur, evEff, evPur.chunks, fillP, AOp.isEff, AO.ev, putP, PV.cells, PV.leaf, getB, getM, mapE, keyC, mapRows, mfind, eq1, eqL, scal, binP, unP, minP, maxP, foldP, PV.lt, PV.lt.ltL, endP, expoAll, expo, expo.expoL, frIds, frIds.frIdsL, nodupN, kill, resO, RV.get, loadP, evC_p, evC_s, endS, endT, rowsOf, thinL, unfr, unfr.unfrL, PV.noMem, PV.noMem.noMemL, optI, norm, trimT, trimB, forget, hasN, blksLt, List.set, S21t, stkPV, stkBl, b0, b1, eN, eSt, eTt, ha, hk', w, hp, h36, c2, c3', cls, clsFuel, mapO]
        · obtain ⟨r, hr⟩ := i3 rfl
          subst hr
          have h36 := hidxO (some ⟨1, 2, true, [r]⟩) [.int .i64 ix, .int .i64 q1] uT (by omega) ix q1
          simp only [eN, eSt, b0, b1] at hp h36
          unfold c21b0
          simp [evCode, evOps, evOne, evOp, evPur, evEff, evPur.chunks, fillP, AOp.isEff, AO.ev, putP, PV.cells, PV.leaf, getB, getM, mapE, keyC, mapRows, mfind, eq1, eqL, scal, binP, unP, minP, maxP, foldP, PV.lt, PV.lt.ltL, endP, expoAll, expo, expo.expoL, frIds, frIds.frIdsL, nodupN, kill, resO, RV.get, loadP, evC_p, evC_s, endS, endT, rowsOf, thinL, unfr, unfr.unfrL, PV.noMem, PV.noMem.noMemL, optI, norm, trimT, trimB, forget, hasN, blksLt, List.set, S21t, stkPV, stkBl, b0, b1, eN, eSt, eTt, ha, hk', w, hp, h36, c2, c3', cls, clsFuel, mapO]
      · rw [if_neg c3]
        have c3' : ¬ (1000 : Int) ≤ uT.length := by omega
        have m1 : (uT.length + 1) * 16 ≤ 140737488355328 := by omega
        have m2 : uT.length + 1 ≤ 140737488355328 := by omega
        have m3 : uT.length + 1 ≤ 1100 := by omega
        refine ⟨fun v hv => ?_, fun e he => by cases he⟩
        cases hv
        cases own
        · have h36 := fun C => hidx C uT (by omega) true ix q1
          refine ⟨⟨xn', true, some ⟨1, 2, true, [[.int .i64 ix, .int .i64 q1]]⟩⟩, ?_⟩
          simp only [eN, eSt] at hp h36
          unfold c21b0
          simp [evCode, evOps, evOne, evOp, evPur, evEff, evPur.chunks, fillP, AOp.isEff, AO.ev, putP, PV.cells, PV.leaf, getB, getM, mapE, keyC, mapRows, mfind, eq1, eqL, scal, binP, unP, minP, maxP, foldP, PV.lt, PV.lt.ltL, endP, expoAll, expo, expo.expoL, frIds, frIds.frIdsL, nodupN, kill, resO, RV.get, loadP, evC_p, evC_s, endS, endT, rowsOf, thinL, unfr, unfr.unfrL, PV.noMem, PV.noMem.noMemL, optI, norm, trimT, trimB, forget, hasN, blksLt, List.set, S21t, stkPV, stkBl, b0, b1, eN, eSt, eTt, ha, hk', w, hp, h36, c2, c3', m1, m2, m3, I21, hlen, i2, eP]
        · obtain ⟨r, hr⟩ := i3 rfl
          subst hr
          have h36 := hidxO (some ⟨1, 2, true, [r]⟩) [.int .i64 ix, .int .i64 q1] uT (by omega) ix q1
          refine ⟨⟨xn', true, some ⟨1, 2, true, [r]⟩⟩, ?_⟩
          simp only [eN, eSt, b0, b1] at hp h36
          unfold c21b0
          simp [evCode, evOps, evOne, evOp, evPur, evEff, evPur.chunks, fillP, AOp.isEff, AO.ev, putP, PV.cells, PV.leaf, getB, getM, mapE, keyC, mapRows, mfind, eq1, eqL, scal, binP, unP, minP, maxP, foldP, PV.lt, PV.lt.ltL, endP, expoAll, expo, expo.expoL, frIds, frIds.frIdsL, nodupN, kill, resO, RV.get, loadP, evC_p, evC_s, endS, endT, rowsOf, thinL, unfr, unfr.unfrL, PV.noMem, PV.noMem.noMemL, optI, norm, trimT, trimB, forget, hasN, blksLt, List.set, S21t, stkPV, stkBl, b0, b1, eN, eSt, eTt, ha, hk', w, hp, h36, c2, c3', m1, m2, m3, I21, hlen, i2, eP]
  · simp only [c1, if_false]
    refine ⟨fun v hv => (by cases hv), fun e he => ?_⟩
    cases he
    have c1' : (q3 == 0) = false := by simpa using c1
    simp only [eN] at hp
    cases own
    · unfold c21b0
      simp [evCode, evOps, evOne, evOp, evPur, evEff, evPur.chunks, fillP, AOp.isEff, AO.ev, putP, PV.cells, PV.leaf, getB, getM, mapE, keyC, mapRows, mfind, eq1, eqL, scal, binP, unP, minP, maxP, foldP, PV.lt, PV.lt.ltL, endP, expoAll, expo, expo.expoL, frIds, frIds.frIdsL, nodupN, kill, resO, RV.get, loadP, evC_p, evC_s, endS, endT, rowsOf, thinL, unfr, unfr.unfrL, PV.noMem, PV.noMem.noMemL, optI, norm, trimT, trimB, forget, hasN, blksLt, List.set, S21t, stkPV, stkBl, b0, b1, eN, eSt, eTt, ha, hk', w, hp, c1, c1', cls, clsFuel, mapO]
    · unfold c21b0
      simp [evCode, evOps, evOne, evOp, evPur, evEff, evPur.chunks, fillP, AOp.isEff, AO.ev, putP, PV.cells, PV.leaf, getB, getM, mapE, keyC, mapRows, mfind, eq1, eqL, scal, binP, unP, minP, maxP, foldP, PV.lt, PV.lt.ltL, endP, expoAll, expo, expo.expoL, frIds, frIds.frIdsL, nodupN, kill, resO, RV.get, loadP, evC_p, evC_s, endS, endT, rowsOf, thinL, unfr, unfr.unfrL, PV.noMem, PV.noMem.noMemL, optI, norm, trimT, trimB, forget, hasN, blksLt, List.set, S21t, stkPV, stkBl, b0, b1, eN, eSt, eTt, ha, hk', w, hp, c1, c1', cls, clsFuel, mapO]

theorem p21t (x y : Bool) (n : List (List UInt8)) (T : List (Int × Int)) (l : List (List UInt8)) (hn : n.length ≤ 1100) (hT : T.length ≤ 1100) :
    ∃ x' y', ∀ bl, callP (evE Dg) bl false 21 [eN x n, eSt y T, eTt l] = some (.tup [.int .i64 (putS n T l).1, eN x' (putS n T l).2.1, eSt y' (putS n T l).2.2.1, .int .i64 (putS n T l).2.2.2], []) := by
  have h14 := f14t l
  by_cases c : framesE l = 0
  · have hll := framesE_len c
    rw [c] at h14
    simp only [eTt] at h14
    have H := loop_exc (body := evCode (evC Dg) 33 c21b0) (keep := [0, 1, 11, 12, 13, 30, 31, 32]) (n0 := 2) (fuel := 33) l (S21t x y n T l) stepP (I21 0) (fun e s => endP [.t 6, .t 7, .t 8, .t 9] (some (.ret s)) = some (.tup [.int .i64 0, eN x n, eSt y T, .int .i64 e]))
      (fun k a u z v ha hk hI hv => (body21t x y n T l 33 hll k a u z ha hI).1 v hv) (fun k a u z e ha hk hI he => (body21t x y n T l 33 hll k a u z ha hI).2 e he)
      (by
        intro u z hI s
        unfold c21b0
        simp [evCode, evOps, evOne, evOp, evPur, evEff, evPur.chunks, fillP, AOp.isEff, AO.ev, putP, PV.cells, PV.leaf, getB, getM, mapE, keyC, mapRows, mfind, eq1, eqL, scal, binP, unP, minP, maxP, foldP, PV.lt, PV.lt.ltL, endP, expoAll, expo, expo.expoL, frIds, frIds.frIdsL, nodupN, kill, cls, clsFuel, resO, RV.get, loadP, evC_p, evC_s, endS, endT, rowsOf, callP, thinL, unfr, unfr.unfrL, PV.noMem, PV.noMem.noMemL, optI, mapO, norm, trimT, trimB, forget, hasN, blksLt, List.set, S21t, eN, eSt, eTt]) (by omega) ⟨n, T, -1⟩ ⟨x, false, none⟩ ⟨hn, hT, fun h => by cases h⟩
    have h35 := f35 y T
    simp only [eSt] at h35
    obtain ⟨X, hX⟩ : ∃ X, endP c21.res (evCode (evC Dg) 33 c21.code ⟨[eN x n, eSt y T, eTt l] ++ List.replicate (c21.nt - c21.np) .top, []⟩) = X := ⟨_, rfl⟩
    have main : (∃ u z, foldX stepP l ⟨n, T, -1⟩ = .ok u ∧ X = some (.tup [.int .i64 u.ix, eN z u.n, eSt true u.T, .int .i64 0]))
       ∨ (∃ u z, foldX stepP l ⟨n, T, -1⟩ = .ok u ∧ X = some (.tup [.int .i64 u.ix, eN z u.n, .fr 2 (u.T.map eP), .int .i64 0]))
       ∨ (∃ e, foldX stepP l ⟨n, T, -1⟩ = .error e ∧ X = some (.tup [.int .i64 0, eN x n, eSt y T, .int .i64 e])) := by
      unfold c21 at hX
      simp [evCode, evOps, evOne, evOp, evPur, evEff, evPur.chunks, fillP, AOp.isEff, AO.ev, putP, PV.cells, PV.leaf, getB, getM, mapE, keyC, mapRows, mfind, eq1, eqL, scal, binP, unP, minP, maxP, foldP, PV.lt, PV.lt.ltL, endP, expoAll, expo, expo.expoL, frIds, frIds.frIdsL, nodupN, kill, cls, clsFuel, resO, RV.get, loadP, evC_p, evC_s, endS, endT, rowsOf, callP, thinL, unfr, unfr.unfrL, PV.noMem, PV.noMem.noMemL, optI, mapO, norm, trimT, trimB, forget, hasN, blksLt, List.set, eN, eSt, eTt, h14, h35, impV, impB] at hX
      generalize hE : evLoop _ _ _ _ _ = E at hX
      rcases H _ _ hE (by simp [evCode, evOps, evOne, evOp, evPur, evEff, evPur.chunks, fillP, AOp.isEff, AO.ev, putP, PV.cells, PV.leaf, getB, getM, mapE, keyC, mapRows, mfind, eq1, eqL, scal, binP, unP, minP, maxP, foldP, PV.lt, PV.lt.ltL, endP, expoAll, expo, expo.expoL, frIds, frIds.frIdsL, nodupN, kill, cls, clsFuel, resO, RV.get, loadP, evC_p, evC_s, endS, endT, rowsOf, callP, thinL, unfr, unfr.unfrL, PV.noMem, PV.noMem.noMemL, optI, mapO, norm, trimT, trimB, forget, hasN, blksLt, List.set, S21t, stkPV, stkBl, b0, b1, eN, eSt, eTt]) with ⟨u, z, g1, ⟨i1, i2, i3⟩, g2⟩ | ⟨e, s, g1, g2, g3⟩
      · obtain ⟨xn, own, g⟩ := z
        cases own
        · rw [g2] at hX
          unfold c21b0 at hX
          simp [evCode, evOps, evOne, evOp, evPur, evEff, evPur.chunks, fillP, AOp.isEff, AO.ev, putP, PV.cells, PV.leaf, getB, getM, mapE, keyC, mapRows, mfind, eq1, eqL, scal, binP, unP, minP, maxP, foldP, PV.lt, PV.lt.ltL, endP, expoAll, expo, expo.expoL, frIds, frIds.frIdsL, nodupN, kill, cls, clsFuel, resO, RV.get, loadP, evC_p, evC_s, endS, endT, rowsOf, callP, thinL, unfr, unfr.unfrL, PV.noMem, PV.noMem.noMemL, optI, mapO, norm, trimT, trimB, forget, hasN, blksLt, List.set, S21t, stkPV, stkBl, b0, b1, eN, eSt, eTt] at hX
          exact .inl ⟨u, xn, g1, hX.symm⟩
        · obtain ⟨r, hr⟩ := i3 rfl
          simp only at hr
          subst hr
          rw [g2] at hX
          unfold c21b0 at hX
          simp [evCode, evOps, evOne, evOp, evPur, evEff, evPur.chunks, fillP, AOp.isEff, AO.ev, putP, PV.cells, PV.leaf, getB, getM, mapE, keyC, mapRows, mfind, eq1, eqL, scal, binP, unP, minP, maxP, foldP, PV.lt, PV.lt.ltL, endP, expoAll, expo, expo.expoL, frIds, frIds.frIdsL, nodupN, kill, cls, clsFuel, resO, RV.get, loadP, evC_p, evC_s, endS, endT, rowsOf, callP, thinL, unfr, unfr.unfrL, PV.noMem, PV.noMem.noMemL, optI, mapO, norm, trimT, trimB, forget, hasN, blksLt, List.set, S21t, stkPV, stkBl, b0, b1, eN, eSt, eTt] at hX
          exact .inr (.inl ⟨u, xn, g1, hX.symm⟩)
      · rw [g2] at hX
        simp [evCode, evOps, evOne, evOp, evPur, evEff, evPur.chunks, fillP, AOp.isEff, AO.ev, putP, PV.cells, PV.leaf, getB, getM, mapE, keyC, mapRows, mfind, eq1, eqL, scal, binP, unP, minP, maxP, foldP, PV.lt, PV.lt.ltL, endP, expoAll, expo, expo.expoL, frIds, frIds.frIdsL, nodupN, kill, cls, clsFuel, resO, RV.get, loadP, evC_p, evC_s, endS, endT, rowsOf, callP, thinL, unfr, unfr.unfrL, PV.noMem, PV.noMem.noMemL, optI, mapO, norm, trimT, trimB, forget, hasN, blksLt, List.set, eN, eSt] at g3
        refine .inr (.inr ⟨e, g1, ?_⟩)
        rw [← hX]
        simp [evCode, evOps, evOne, evOp, evPur, evEff, evPur.chunks, fillP, AOp.isEff, AO.ev, putP, PV.cells, PV.leaf, getB, getM, mapE, keyC, mapRows, mfind, eq1, eqL, scal, binP, unP, minP, maxP, foldP, PV.lt, PV.lt.ltL, endP, expoAll, expo, expo.expoL, frIds, frIds.frIdsL, nodupN, kill, cls, clsFuel, resO, RV.get, loadP, evC_p, evC_s, endS, endT, rowsOf, callP, thinL, unfr, unfr.unfrL, PV.noMem, PV.noMem.noMemL, optI, mapO, norm, trimT, trimB, forget, hasN, blksLt, List.set, eN, eSt]
        exact g3
    rcases main with ⟨u, z, g1, g2⟩ | ⟨u, z, g1, g2⟩ | ⟨e, g1, g2⟩
    · refine ⟨z, true, fun bl => callP_unfr (evE_intro 33 D21 rfl (hX.trans g2)) rfl ?_ (by simp [PV.lt, PV.lt.ltL, eN, eSt])⟩
      simp [unfr, unfr.unfrL, putS, c, g1, eN, eSt]
    · refine ⟨z, false, fun bl => callP_unfr (evE_intro 33 D21 rfl (hX.trans g2)) rfl ?_ (by simp [PV.lt, PV.lt.ltL, eN, eSt])⟩
      simp [unfr, unfr.unfrL, putS, c, g1, eN, eSt]
    · refine ⟨x, y, fun bl => callP_unfr (evE_intro 33 D21 rfl (hX.trans g2)) rfl ?_ (by simp [PV.lt, PV.lt.ltL, eN, eSt])⟩
      simp [unfr, unfr.unfrL, putS, c, g1, eN, eSt]
  · have c' : (framesE l == 0) = false := by simpa using c
    simp only [eTt] at h14
    refine ⟨x, y, fun bl => callP_unfr (evE_intro (r := .tup [.int .i64 0, eN x n, eSt y T, .int .i64 (framesE l)]) 1 D21 rfl ?_) rfl (by simp [unfr, unfr.unfrL, putS, c, eN, eSt]) (by simp [PV.lt, PV.lt.ltL, eN, eSt])⟩
    unfold c21
    simp [evCode, evOps, evOne, evOp, evPur, evEff, evPur.chunks, fillP, AOp.isEff, AO.ev, putP, PV.cells, PV.leaf, getB, getM, mapE, keyC, mapRows, mfind, eq1, eqL, scal, binP, unP, minP, maxP, foldP, PV.lt, PV.lt.ltL, endP, expoAll, expo, expo.expoL, frIds, frIds.frIdsL, nodupN, kill, cls, clsFuel, resO, RV.get, loadP, evC_p, evC_s, endS, endT, rowsOf, callP, thinL, unfr, unfr.unfrL, PV.noMem, PV.noMem.noMemL, optI, mapO, norm, trimT, trimB, forget, hasN, blksLt, List.set, eN, eSt, eTt, h14, c, c']


end Go.Proofs.Ytddlicbogbmpbaa
