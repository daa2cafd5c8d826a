/- itree: Check; ItreeOf, given what the orders are. -/
import Derived.Test.YtkodjmlhmpokoaaItF
import Derived.Test.YtkodjmlhmpokoaaAw
namespace Go.Proofs.Ytkodjmlhmpokoaa
open Go Go.RowKit
set_option linter.unusedVariables false
set_option linter.unusedSimpArgs false
set_option maxHeartbeats 4000000

theorem nR_iR (o : List Nat) : nR o = iR (o.map fun (i : Nat) => (i : Int)) := by simp [nR, iR]
def ordI (l : List Sp) : List Int := (ordP l).map fun (i : Nat) => (i : Int)
set_option maxRecDepth 100000 in
theorem f12 (x a b : Bool) (l : List Sp) (o m : List Int) (hl : l.length < 1000000) (h1 : (ordP l).length = l.length) (h2 : ∀ i ∈ ordP l, i < l.length) (hol : o.length ≤ 1000000) (hml : m.length ≤ 1000000) :
    evE Dg 12 [eS x l, .agg [eI a o, eI b m]] = some (.bool (decide (o = ordI l) && decide (m = mostP l))) := by
  have h9 := f9 x l hl h1 h2
  rw [nR_iR] at h9
  change _ = some (PV.agg [.fr 1 (iR (ordI l)), .fr 1 (iR (mostP l))]) at h9
  have q1 : ∀ c, evE Dg 30 [eI a o, eI c (ordI l)] = _ := fun c => f30 a c o (ordI l) hol
  have q2 : ∀ c, evE Dg 30 [eI b m, eI c (mostP l)] = _ := fun c => f30 b c m (mostP l) hml
  have e2 := iR_len
  generalize ordI l = o' at *
  generalize mostP l = m' at *
  simp only [eI, eS] at h9 q1 q2
  have hb0 : ∀ b, Nat.blt b 0 = false := fun b => by cases b <;> rfl
  have im : ∀ rows, impB (PV.fr 1 rows) = [⟨rows.length, 1, true, rows⟩] := fun _ => rfl
  have iv : ∀ k rows, impV k (PV.fr 1 rows) = .own k rows.length 0 rows.length := fun _ _ => rfl
  refine evE_intro 1 D12 rfl ?_
  unfold c12
  by_cases c1 : o = o'
  · subst c1
    have c1 : decide (o = o) = true := by simp
    rw [c1] at q1
    simp [evCode, evOps, evOne, evOp, evPur, evEff, evPur.chunks, fillP, AOp.isEff, AO.ev, putP, PV.cells, PV.leaf, getB, getM, mapE, iterE, keyC, mapRows, mfind, eq1, eqL, scal, binP, unP, minP, maxP, foldP, PV.lt, PV.lt.ltL, endP, expoAll, expoG, expo, expo.expoL, frIds, frIds.frIdsL, nodupN, kill, cls, clsFuel, resO, RV.get, loadP, evC_p, evC_s, endS, endT, rowsOf, callP, thinL, unfr, unfr.unfrL, PV.noMem, PV.noMem.noMemL, optI, mapO, norm, trimT, trimB, forget, hasN, blksLt, List.set, softChk, softGo, softRd, effTg, rdP, eI, eS, h9, q1, q2, e2, hb0, im, iv]
  · have c2 : decide (o = o') = false := by simp [c1]
    rw [c2] at q1
    simp [evCode, evOps, evOne, evOp, evPur, evEff, evPur.chunks, fillP, AOp.isEff, AO.ev, putP, PV.cells, PV.leaf, getB, getM, mapE, iterE, keyC, mapRows, mfind, eq1, eqL, scal, binP, unP, minP, maxP, foldP, PV.lt, PV.lt.ltL, endP, expoAll, expoG, expo, expo.expoL, frIds, frIds.frIdsL, nodupN, kill, cls, clsFuel, resO, RV.get, loadP, evC_p, evC_s, endS, endT, rowsOf, callP, thinL, unfr, unfr.unfrL, PV.noMem, PV.noMem.noMemL, optI, mapO, norm, trimT, trimB, forget, hasN, blksLt, List.set, softChk, softGo, softRd, effTg, rdP, eI, eS, h9, q1, q2, e2, hb0, im, iv, c1]
end Go.Proofs.Ytkodjmlhmpokoaa
