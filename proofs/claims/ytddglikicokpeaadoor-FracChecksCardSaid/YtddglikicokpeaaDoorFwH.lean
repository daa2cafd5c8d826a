/- Signed sums of the reference, wide sums of the program. -/
import Derived.Test.YtddglikicokpeaaDoorFwG
namespace Go.Proofs.YtddglikicokpeaaDoor
open Go Go.RowKit
set_option linter.unusedVariables false
set_option linter.unusedSimpArgs false
set_option maxHeartbeats 4000000

def eG (m : Bool) (W : Nat) : PV := .agg [.bool m, .int .u64 ((W / 18446744073709551616 : Nat) : Int), .int .u64 ((W % 18446744073709551616 : Nat) : Int)]
def addG (x y : Bool × Nat) : Bool × Nat := if x.1 = y.1 then (x.1, x.2 + y.2) else if x.2 < y.2 then (y.1, y.2 - x.2) else (x.1, x.2 - y.2)
def sg (x : Bool × Nat) : Int := if x.1 = true then -(x.2 : Int) else x.2
theorem sg_add (x y : Bool × Nat) : sg (addG x y) = sg x + sg y := by
  obtain ⟨xm, xw⟩ := x
  obtain ⟨ym, yw⟩ := y
  unfold addG sg
  cases xm <;> cases ym <;> simp
  · split <;> simp <;> omega
  · split <;> simp <;> omega
  · omega
theorem addG_le (x y : Bool × Nat) : (addG x y).2 ≤ x.2 + y.2 := by
  unfold addG
  split
  · exact Nat.le_refl _
  · split <;> simp only <;> omega
theorem f47 (v d : Int) (hv1 : -9223372036854775808 ≤ v) (hv2 : v ≤ 9223372036854775807) (hd1 : -9223372036854775808 ≤ d) (hd2 : d ≤ 9223372036854775807) : evE Dg 47 [.int .i64 v, .int .i64 d] = some (eG (decide (v < 0)) (v.natAbs * d.natAbs)) := by
  have h1 := f35 v hv1 hv2
  have h2 := f35 d hd1 hd2
  have h3 := f48 v.natAbs d.natAbs (by omega) (by omega)
  unfold eW at h3
  unfold eG
  generalize v.natAbs * d.natAbs / 18446744073709551616 = r1 at *
  generalize v.natAbs * d.natAbs % 18446744073709551616 = r0 at *
  generalize v.natAbs = va at *
  generalize d.natAbs = da at *
  refine evE_intro 3 D47 rfl ?_
  unfold c47
  by_cases c : v < 0
  · simp [evCode, evOps, evOne, evOp, evPur, evEff, evPur.chunks, fillP, AOp.isEff, AO.ev, putP, PV.cells, PV.leaf, getB, getM, mapE, iterE, keyC, mapRows, mfind, eq1, eqL, scal, binP, unP, minP, maxP, foldP, PV.lt, PV.lt.ltL, endP, expoAll, expoG, expo, expo.expoL, frIds, frIds.frIdsL, nodupN, kill, cls, clsFuel, resO, RV.get, loadP, evC_p, evC_s, endS, endT, rowsOf, callP, thinL, unfr, unfr.unfrL, PV.noMem, PV.noMem.noMemL, optI, mapO, norm, trimT, trimB, forget, hasN, blksLt, List.set, softChk, softGo, softRd, effTg, rdP, h1, h2, h3, c]
  · simp [evCode, evOps, evOne, evOp, evPur, evEff, evPur.chunks, fillP, AOp.isEff, AO.ev, putP, PV.cells, PV.leaf, getB, getM, mapE, iterE, keyC, mapRows, mfind, eq1, eqL, scal, binP, unP, minP, maxP, foldP, PV.lt, PV.lt.ltL, endP, expoAll, expoG, expo, expo.expoL, frIds, frIds.frIdsL, nodupN, kill, cls, clsFuel, resO, RV.get, loadP, evC_p, evC_s, endS, endT, rowsOf, callP, thinL, unfr, unfr.unfrL, PV.noMem, PV.noMem.noMemL, optI, mapO, norm, trimT, trimB, forget, hasN, blksLt, List.set, softChk, softGo, softRd, effTg, rdP, h1, h2, h3, c]
set_option maxRecDepth 100000 in
theorem f46 (x y : Bool × Nat) (h : x.2 + y.2 < 340282366920938463463374607431768211456) : evE Dg 46 [eG x.1 x.2, eG y.1 y.2] = some (eG (addG x y).1 (addG x y).2) := by
  obtain ⟨xm, A⟩ := x
  obtain ⟨ym, B⟩ := y
  simp only at h ⊢
  have h60 := f61 A B h
  have h61 := f62 A B
  unfold addG
  simp only
  by_cases c : xm = ym
  · rw [if_pos c]
    subst c
    unfold eW at h60
    unfold eG
    simp only
    generalize (A + B) / 18446744073709551616 = s1 at *
    generalize (A + B) % 18446744073709551616 = s0 at *
    clear h61
    generalize A / 18446744073709551616 = a1 at *
    generalize A % 18446744073709551616 = a0 at *
    generalize B / 18446744073709551616 = b1 at *
    generalize B % 18446744073709551616 = b0 at *
    refine evE_intro 3 D46 rfl ?_
    unfold c46
    cases xm <;> simp [evCode, evOps, evOne, evOp, evPur, evEff, evPur.chunks, fillP, AOp.isEff, AO.ev, putP, PV.cells, PV.leaf, getB, getM, mapE, iterE, keyC, mapRows, mfind, eq1, eqL, scal, binP, unP, minP, maxP, foldP, PV.lt, PV.lt.ltL, endP, expoAll, expoG, expo, expo.expoL, frIds, frIds.frIdsL, nodupN, kill, cls, clsFuel, resO, RV.get, loadP, evC_p, evC_s, endS, endT, rowsOf, callP, thinL, unfr, unfr.unfrL, PV.noMem, PV.noMem.noMemL, optI, mapO, norm, trimT, trimB, forget, hasN, blksLt, List.set, softChk, softGo, softRd, effTg, rdP, h60]
  · rw [if_neg c]
    by_cases d : A < B
    · rw [if_pos d]
      have h62 := f63 B A (by omega) (by omega)
      rw [decide_eq_true d] at h61
      clear h60
      unfold eW at h61 h62
      unfold eG
      simp only
      generalize (B - A) / 18446744073709551616 = s1 at *
      generalize (B - A) % 18446744073709551616 = s0 at *
      generalize A / 18446744073709551616 = a1 at *
      generalize A % 18446744073709551616 = a0 at *
      generalize B / 18446744073709551616 = b1 at *
      generalize B % 18446744073709551616 = b0 at *
      refine evE_intro 3 D46 rfl ?_
      unfold c46
      cases xm <;> cases ym <;> first | exact absurd rfl c | simp [evCode, evOps, evOne, evOp, evPur, evEff, evPur.chunks, fillP, AOp.isEff, AO.ev, putP, PV.cells, PV.leaf, getB, getM, mapE, iterE, keyC, mapRows, mfind, eq1, eqL, scal, binP, unP, minP, maxP, foldP, PV.lt, PV.lt.ltL, endP, expoAll, expoG, expo, expo.expoL, frIds, frIds.frIdsL, nodupN, kill, cls, clsFuel, resO, RV.get, loadP, evC_p, evC_s, endS, endT, rowsOf, callP, thinL, unfr, unfr.unfrL, PV.noMem, PV.noMem.noMemL, optI, mapO, norm, trimT, trimB, forget, hasN, blksLt, List.set, softChk, softGo, softRd, effTg, rdP, h61, h62]
    · rw [if_neg d]
      have h62 := f63 A B (by omega) (by omega)
      rw [decide_eq_false d] at h61
      clear h60
      unfold eW at h61 h62
      unfold eG
      simp only
      generalize (A - B) / 18446744073709551616 = s1 at *
      generalize (A - B) % 18446744073709551616 = s0 at *
      generalize A / 18446744073709551616 = a1 at *
      generalize A % 18446744073709551616 = a0 at *
      generalize B / 18446744073709551616 = b1 at *
      generalize B % 18446744073709551616 = b0 at *
      refine evE_intro 3 D46 rfl ?_
      unfold c46
      cases xm <;> cases ym <;> first | exact absurd rfl c | simp [evCode, evOps, evOne, evOp, evPur, evEff, evPur.chunks, fillP, AOp.isEff, AO.ev, putP, PV.cells, PV.leaf, getB, getM, mapE, iterE, keyC, mapRows, mfind, eq1, eqL, scal, binP, unP, minP, maxP, foldP, PV.lt, PV.lt.ltL, endP, expoAll, expoG, expo, expo.expoL, frIds, frIds.frIdsL, nodupN, kill, cls, clsFuel, resO, RV.get, loadP, evC_p, evC_s, endS, endT, rowsOf, callP, thinL, unfr, unfr.unfrL, PV.noMem, PV.noMem.noMemL, optI, mapO, norm, trimT, trimB, forget, hasN, blksLt, List.set, softChk, softGo, softRd, effTg, rdP, h61, h62]
end Go.Proofs.YtddglikicokpeaaDoor
