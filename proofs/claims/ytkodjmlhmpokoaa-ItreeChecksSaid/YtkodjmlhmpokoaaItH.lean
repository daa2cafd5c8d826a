/- itree: ItreeOf, given that both orders and both lists of ends are the same. -/
import Derived.Test.YtkodjmlhmpokoaaItG
namespace Go.Proofs.Ytkodjmlhmpokoaa
open Go Go.RowKit
set_option linter.unusedVariables false
set_option linter.unusedSimpArgs false
set_option maxHeartbeats 4000000

set_option maxRecDepth 100000 in
theorem f3_of (x : Bool) (l : List Sp) (hl : l.length ≤ 200) (hO : ordP l = ordN l l.length) (hM : mostP l = mostN l) : evE Dg 3 [eS x l] = some (.bool true) := by
  obtain ⟨n1, n2⟩ := ordN_ok l l.length
  have h1 : (ordP l).length = l.length := by rw [hO, n1]
  have h2 : ∀ i ∈ ordP l, i < l.length := by rw [hO]; exact n2
  have h9 := f9 x l (by omega) h1 h2
  have h10 := f10 x l (by omega)
  rw [← hO, ← hM, nR_iR] at h10
  rw [nR_iR] at h9
  change _ = some (PV.agg [.fr 1 (iR (ordI l)), .fr 1 (iR (mostP l))]) at h9 h10
  have ol : (ordI l).length = l.length := by simp [ordI, h1]
  have ml : (mostP l).length = l.length := by unfold mostP; rw [mst_len]; simp
  have h12 := fun a b => f12 x a b l (ordI l) (mostP l) (by omega) h1 h2 (by omega) (by omega)
  have q1 := fun a b => f11 a b (ordI l) (ordI l) (by omega)
  have q2 := fun a b => f11 a b (mostP l) (mostP l) (by omega)
  have e2 := iR_len
  have e1 := spRows_len l
  have hl' : ¬ (200 : Int) < l.length := by omega
  generalize ordI l = o' at *
  generalize mostP l = m' at *
  have c1 : decide (o' = o') = true := by simp
  have c2 : decide (m' = m') = true := by simp
  simp only [c1, c2, Bool.and_self] at h12 q1 q2
  simp only [eI, eS] at h9 h10 h12 q1 q2
  have hb0 : ∀ b, Nat.blt b 0 = false := fun b => by cases b <;> rfl
  have im : ∀ rows, impB (PV.fr 1 rows) = [⟨rows.length, 1, true, rows⟩] := fun _ => rfl
  have iv : ∀ k rows, impV k (PV.fr 1 rows) = .own k rows.length 0 rows.length := fun _ _ => rfl
  have h8 := f8
  refine evE_intro 1 D3 rfl ?_
  unfold c3
  simp [evCode, evOps, evOne, evOp, evPur, evEff, evPur.chunks, fillP, AOp.isEff, AO.ev, putP, PV.cells, PV.leaf, getB, getM, mapE, iterE, keyC, mapRows, mfind, eq1, eqL, scal, binP, unP, minP, maxP, foldP, PV.lt, PV.lt.ltL, endP, expoAll, expoG, expo, expo.expoL, frIds, frIds.frIdsL, nodupN, kill, cls, clsFuel, resO, RV.get, loadP, evC_p, evC_s, endS, endT, rowsOf, callP, thinL, unfr, unfr.unfrL, PV.noMem, PV.noMem.noMemL, optI, mapO, norm, trimT, trimB, forget, hasN, blksLt, List.set, softChk, softGo, softRd, effTg, rdP, eI, eS, h8, h9, h10, h12, q1, q2, e1, e2, hl', hb0, im, iv, ol, ml]
/-- more than 200 -/
theorem f3_many (x : Bool) (l : List Sp) (hl : 200 < l.length) : evE Dg 3 [eS x l] = some (.bool true) := by
  have h8 := f8
  have e1 := spRows_len l
  have hl' : (200 : Int) < l.length := by omega
  refine evE_intro 1 D3 rfl ?_
  unfold c3
  simp [evCode, evOps, evOne, evOp, evPur, evEff, evPur.chunks, fillP, AOp.isEff, AO.ev, putP, PV.cells, PV.leaf, getB, getM, mapE, iterE, keyC, mapRows, mfind, eq1, eqL, scal, binP, unP, minP, maxP, foldP, PV.lt, PV.lt.ltL, endP, expoAll, expoG, expo, expo.expoL, frIds, frIds.frIdsL, nodupN, kill, cls, clsFuel, resO, RV.get, loadP, evC_p, evC_s, endS, endT, rowsOf, callP, thinL, unfr, unfr.unfrL, PV.noMem, PV.noMem.noMemL, optI, mapO, norm, trimT, trimB, forget, hasN, blksLt, List.set, softChk, softGo, softRd, effTg, rdP, eS, h8, e1, hl']
end Go.Proofs.Ytkodjmlhmpokoaa
