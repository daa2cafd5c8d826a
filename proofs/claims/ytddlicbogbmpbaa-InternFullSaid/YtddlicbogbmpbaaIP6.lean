/- intern: PutStack. -/
import Derived.Test.YtddlicbogbmpbaaIP5
namespace Go.Proofs.Ytddlicbogbmpbaa
open Go Go.RowKit
set_option linter.unusedVariables false
set_option linter.unusedSimpArgs false
set_option maxHeartbeats 4000000

theorem body21 (x y : Bool) (n : List (List UInt8)) (T : List (Int × Int)) (l : List (List UInt8)) (f : Nat) (hll : l.length ≤ 32) (k : Nat) (a : List UInt8) (u : PS) (z : XS) (ha : l[k]? = some a) (hI : I21 0 k u z) :
    (∀ v, stepP u a = .ok v → ∃ z' s', evCode (evC Dg) f c21b0 (S21 x y n T l k u z) = some (.normal s') ∧ norm [0, 1, 11, 12, 13, 30, 31, 32] 2 s' = S21 x y n T l (k + 1) v z' ∧ I21 0 (k + 1) v z') ∧
    (∀ e, stepP u a = .error e → ∃ s', evCode (evC Dg) f c21b0 (S21 x y n T l k u z) = some (.ret s') ∧ endP [.t 6, .t 7, .t 8, .t 9] (some (.ret s')) = some (.tup [.int .i64 0, eN x n, eSt y T, .int .i64 e])) := by
  obtain ⟨i1, i2, i3⟩ := hI
  have hk : k < l.length := (List.getElem?_eq_some_iff.1 ha).1
  have hk' : (k : Int) < l.length := by omega
  have w := wrap_i64 ((k : Int) + 1) (by omega) (by omega)
  obtain ⟨xn, own, g⟩ := z
  obtain ⟨un, uT, ix⟩ := u
  simp only at i1 i2 i3
  obtain ⟨xn', hp⟩ := p19 xn un a i1
  have hlen := putR_len un a i1
  unfold stepP
  simp only
  generalize putR un a = q at hp hlen
  obtain ⟨q1, q2, q3⟩ := q
  simp only at hp hlen ⊢
  by_cases c1 : q3 = 0
  · subst c1
    simp only [if_true]
    by_cases c2 : 0 ≤ idx uT (ix, q1)
    · rw [if_pos c2]
      refine ⟨fun v hv => ?_, fun e he => by cases he⟩
      cases hv
      cases own
      · have h36 := fun C => hidx C uT (by omega) true ix q1
        refine ⟨⟨xn', false, none⟩, ?_⟩
        simp only [eN, eSt] at hp h36
        unfold c21b0
        simp [evCode, evOps, evOne, evOp, evPur, evEff, evPur.chunks, fillP, AOp.isEff, AO.ev, putP, PV.cells, PV.leaf, getB, getM, mapE, keyC, mapRows, mfind, eq1, eqL, scal, binP, unP, minP, maxP, foldP, PV.lt, PV.lt.ltL, endP, expoAll, expo, expo.expoL, frIds, frIds.frIdsL, nodupN, kill, resO, RV.get, loadP, evC_p, evC_s, endS, endT, rowsOf, thinL, unfr, unfr.unfrL, PV.noMem, PV.noMem.noMemL, optI, norm, trimT, trimB, forget, hasN, blksLt, List.set, S21, stkPV, stkBl, b0, b1, eN, eSt, eTx, ha, hk', w, hp, h36, c2, I21, hlen, i2]
      · obtain ⟨r, hr⟩ := i3 rfl
        subst hr
        have h36 := hidxO (some ⟨1, 2, true, [r]⟩) [.int .i64 ix, .int .i64 q1] uT (by omega) ix q1
        refine ⟨⟨xn', true, some ⟨1, 2, true, [r]⟩⟩, ?_⟩
        simp only [eN, eSt, b0, b1] at hp h36
        unfold c21b0
        simp [evCode, evOps, evOne, evOp, evPur, evEff, evPur.chunks, fillP, AOp.isEff, AO.ev, putP, PV.cells, PV.leaf, getB, getM, mapE, keyC, mapRows, mfind, eq1, eqL, scal, binP, unP, minP, maxP, foldP, PV.lt, PV.lt.ltL, endP, expoAll, expo, expo.expoL, frIds, frIds.frIdsL, nodupN, kill, resO, RV.get, loadP, evC_p, evC_s, endS, endT, rowsOf, thinL, unfr, unfr.unfrL, PV.noMem, PV.noMem.noMemL, optI, norm, trimT, trimB, forget, hasN, blksLt, List.set, S21, stkPV, stkBl, b0, b1, eN, eSt, eTx, ha, hk', w, hp, h36, c2, I21, hlen, i2]
    · rw [if_neg c2]
      by_cases c3 : 1000 ≤ uT.length
      · rw [if_pos c3]
        have c3' : (1000 : Int) ≤ uT.length := by omega
        refine ⟨fun v hv => (by cases hv), fun e he => ?_⟩
        cases he
        cases own
        · have h36 := fun C => hidx C uT (by omega) true ix q1
          simp only [eN, eSt] at hp h36
          unfold c21b0
          simp [evCode, evOps, evOne, evOp, evPur, evEff, evPur.chunks, fillP, AOp.isEff, AO.ev, putP, PV.cells, PV.leaf, getB, getM, mapE, keyC, mapRows, mfind, eq1, eqL, scal, binP, unP, minP, maxP, foldP, PV.lt, PV.lt.ltL, endP, expoAll, expo, expo.expoL, frIds, frIds.frIdsL, nodupN, kill, resO, RV.get, loadP, evC_p, evC_s, endS, endT, rowsOf, thinL, unfr, unfr.unfrL, PV.noMem, PV.noMem.noMemL, optI, norm, trimT, trimB, forget, hasN, blksLt, List.set, S21, stkPV, stkBl, b0, b1, eN, eSt, eTx, ha, hk', w, hp, h36, c2, c3', cls, clsFuel, mapO]
        · obtain ⟨r, hr⟩ := i3 rfl
          subst hr
          have h36 := hidxO (some ⟨1, 2, true, [r]⟩) [.int .i64 ix, .int .i64 q1] uT (by omega) ix q1
          simp only [eN, eSt, b0, b1] at hp h36
          unfold c21b0
          simp [evCode, evOps, evOne, evOp, evPur, evEff, evPur.chunks, fillP, AOp.isEff, AO.ev, putP, PV.cells, PV.leaf, getB, getM, mapE, keyC, mapRows, mfind, eq1, eqL, scal, binP, unP, minP, maxP, foldP, PV.lt, PV.lt.ltL, endP, expoAll, expo, expo.expoL, frIds, frIds.frIdsL, nodupN, kill, resO, RV.get, loadP, evC_p, evC_s, endS, endT, rowsOf, thinL, unfr, unfr.unfrL, PV.noMem, PV.noMem.noMemL, optI, norm, trimT, trimB, forget, hasN, blksLt, List.set, S21, stkPV, stkBl, b0, b1, eN, eSt, eTx, ha, hk', w, hp, h36, c2, c3', cls, clsFuel, mapO]
      · rw [if_neg c3]
        have c3' : ¬ (1000 : Int) ≤ uT.length := by omega
        have m1 : (uT.length + 1) * 16 ≤ 140737488355328 := by omega
        have m2 : uT.length + 1 ≤ 140737488355328 := by omega
        have m3 : uT.length + 1 ≤ 1100 := by omega
        refine ⟨fun v hv => ?_, fun e he => by cases he⟩
        cases hv
        cases own
        · have h36 := fun C => hidx C uT (by omega) true ix q1
          refine ⟨⟨xn', true, some ⟨1, 2, true, [[.int .i64 ix, .int .i64 q1]]⟩⟩, ?_⟩
          simp only [eN, eSt] at hp h36
          unfold c21b0
          simp [evCode, evOps, evOne, evOp, evPur, evEff, evPur.chunks, fillP, AOp.isEff, AO.ev, putP, PV.cells, PV.leaf, getB, getM, mapE, keyC, mapRows, mfind, eq1, eqL, scal, binP, unP, minP, maxP, foldP, PV.lt, PV.lt.ltL, endP, expoAll, expo, expo.expoL, frIds, frIds.frIdsL, nodupN, kill, resO, RV.get, loadP, evC_p, evC_s, endS, endT, rowsOf, thinL, unfr, unfr.unfrL, PV.noMem, PV.noMem.noMemL, optI, norm, trimT, trimB, forget, hasN, blksLt, List.set, S21, stkPV, stkBl, b0, b1, eN, eSt, eTx, ha, hk', w, hp, h36, c2, c3', m1, m2, m3, I21, hlen, i2, eP]
        · obtain ⟨r, hr⟩ := i3 rfl
          subst hr
          have h36 := hidxO (some ⟨1, 2, true, [r]⟩) [.int .i64 ix, .int .i64 q1] uT (by omega) ix q1
          refine ⟨⟨xn', true, some ⟨1, 2, true, [r]⟩⟩, ?_⟩
          simp only [eN, eSt, b0, b1] at hp h36
          unfold c21b0
          simp [evCode, evOps, evOne, evOp, evPur, evEff, evPur.chunks, fillP, AOp.isEff, AO.ev, putP, PV.cells, PV.leaf, getB, getM, mapE, keyC, mapRows, mfind, eq1, eqL, scal, binP, unP, minP, maxP, foldP, PV.lt, PV.lt.ltL, endP, expoAll, expo, expo.expoL, frIds, frIds.frIdsL, nodupN, kill, resO, RV.get, loadP, evC_p, evC_s, endS, endT, rowsOf, thinL, unfr, unfr.unfrL, PV.noMem, PV.noMem.noMemL, optI, norm, trimT, trimB, forget, hasN, blksLt, List.set, S21, stkPV, stkBl, b0, b1, eN, eSt, eTx, ha, hk', w, hp, h36, c2, c3', m1, m2, m3, I21, hlen, i2, eP]
  · simp only [c1, if_false]
    refine ⟨fun v hv => (by cases hv), fun e he => ?_⟩
    cases he
    have c1' : (q3 == 0) = false := by simpa using c1
    simp only [eN] at hp
    cases own
    · unfold c21b0
      simp [evCode, evOps, evOne, evOp, evPur, evEff, evPur.chunks, fillP, AOp.isEff, AO.ev, putP, PV.cells, PV.leaf, getB, getM, mapE, keyC, mapRows, mfind, eq1, eqL, scal, binP, unP, minP, maxP, foldP, PV.lt, PV.lt.ltL, endP, expoAll, expo, expo.expoL, frIds, frIds.frIdsL, nodupN, kill, resO, RV.get, loadP, evC_p, evC_s, endS, endT, rowsOf, thinL, unfr, unfr.unfrL, PV.noMem, PV.noMem.noMemL, optI, norm, trimT, trimB, forget, hasN, blksLt, List.set, S21, stkPV, stkBl, b0, b1, eN, eSt, eTx, ha, hk', w, hp, c1, c1', cls, clsFuel, mapO]
    · unfold c21b0
      simp [evCode, evOps, evOne, evOp, evPur, evEff, evPur.chunks, fillP, AOp.isEff, AO.ev, putP, PV.cells, PV.leaf, getB, getM, mapE, keyC, mapRows, mfind, eq1, eqL, scal, binP, unP, minP, maxP, foldP, PV.lt, PV.lt.ltL, endP, expoAll, expo, expo.expoL, frIds, frIds.frIdsL, nodupN, kill, resO, RV.get, loadP, evC_p, evC_s, endS, endT, rowsOf, thinL, unfr, unfr.unfrL, PV.noMem, PV.noMem.noMemL, optI, norm, trimT, trimB, forget, hasN, blksLt, List.set, S21, stkPV, stkBl, b0, b1, eN, eSt, eTx, ha, hk', w, hp, c1, c1', cls, clsFuel, mapO]
end Go.Proofs.Ytddlicbogbmpbaa
