/- Signed sums of the reference, wide sums of the program. -/
import Derived.Test.YtecmcggnpgjbiaaCtG
namespace Go.Proofs.Ytecmcggnpgjbiaa
open Go Go.RowKit
set_option linter.unusedVariables false
set_option linter.unusedSimpArgs false
set_option maxHeartbeats 4000000

def eG (m : Bool) (W : Nat) : PV := .agg [.bool m, .int .u64 ((W / 18446744073709551616 : Nat) : Int), .int .u64 ((W % 18446744073709551616 : Nat) : Int)]
def addG (x y : Bool × Nat) : Bool × Nat := if x.1 = y.1 then (x.1, x.2 + y.2) else if x.2 < y.2 then (y.1, y.2 - x.2) else (x.1, x.2 - y.2)
def sg (x : Bool × Nat) : Int := if x.1 = true then -(x.2 : Int) else x.2
theorem sg_add (x y : Bool × Nat) : sg (addG x y) = sg x + sg y := by
  obtain ⟨xm, xw⟩ := x
  obtain ⟨ym, yw⟩ := y
  unfold addG sg
  cases xm <;> cases ym <;> simp
  · split <;> simp <;> omega
  · split <;> simp <;> omega
  · omega
theorem addG_le (x y : Bool × Nat) : (addG x y).2 ≤ x.2 + y.2 := by
  unfold addG
  split
  · exact Nat.le_refl _
  · split <;> simp only <;> omega
theorem f52 (v d : Int) (hv1 : -9223372036854775808 ≤ v) (hv2 : v ≤ 9223372036854775807) (hd1 : -9223372036854775808 ≤ d) (hd2 : d ≤ 9223372036854775807) : evE Dg 52 [.int .i64 v, .int .i64 d] = some (eG (decide (v < 0)) (v.natAbs * d.natAbs)) := by
  have h1 := f64 v hv1 hv2
  have h2 := f64 d hd1 hd2
  have h3 := f63 v.natAbs d.natAbs (by omega) (by omega)
  unfold eW at h3
  unfold eG
  generalize v.natAbs * d.natAbs / 18446744073709551616 = r1 at *
  generalize v.natAbs * d.natAbs % 18446744073709551616 = r0 at *
  generalize v.natAbs = va at *
  generalize d.natAbs = da at *
  refine evE_intro 3 D52 rfl ?_
  unfold c52
  by_cases c : v < 0
  · simp [evCode, evOps, evOne, evOp, evPur, evEff, evPur.chunks, fillP, AOp.isEff, AO.ev, putP, PV.cells, PV.leaf, getB, getM, mapE, keyC, mapRows, mfind, eq1, eqL, scal, binP, unP, minP, maxP, foldP, PV.lt, PV.lt.ltL, endP, expoAll, expo, expo.expoL, frIds, frIds.frIdsL, nodupN, kill, cls, clsFuel, resO, RV.get, loadP, evC_p, evC_s, endS, endT, rowsOf, callP, thinL, unfr, unfr.unfrL, PV.noMem, PV.noMem.noMemL, optI, mapO, norm, trimT, trimB, forget, hasN, blksLt, List.set, h1, h2, h3, c]
  · simp [evCode, evOps, evOne, evOp, evPur, evEff, evPur.chunks, fillP, AOp.isEff, AO.ev, putP, PV.cells, PV.leaf, getB, getM, mapE, keyC, mapRows, mfind, eq1, eqL, scal, binP, unP, minP, maxP, foldP, PV.lt, PV.lt.ltL, endP, expoAll, expo, expo.expoL, frIds, frIds.frIdsL, nodupN, kill, cls, clsFuel, resO, RV.get, loadP, evC_p, evC_s, endS, endT, rowsOf, callP, thinL, unfr, unfr.unfrL, PV.noMem, PV.noMem.noMemL, optI, mapO, norm, trimT, trimB, forget, hasN, blksLt, List.set, h1, h2, h3, c]
theorem f37 (v d : Int) (hv1 : -9223372036854775808 ≤ v) (hv2 : v ≤ 9223372036854775807) (hd1 : -9223372036854775808 ≤ d) (hd2 : d ≤ 9223372036854775807) : evE Dg 37 [.int .i64 v, .int .i64 d] = some (eG (decide (v < 0)) (v.natAbs * d.natAbs)) := by
  have h := f52 v d hv1 hv2 hd1 hd2
  unfold eG at *
  generalize v.natAbs * d.natAbs / 18446744073709551616 = r1 at *
  generalize v.natAbs * d.natAbs % 18446744073709551616 = r0 at *
  refine evE_intro 3 D37 rfl ?_
  unfold c37
  simp [evCode, evOps, evOne, evOp, evPur, evEff, evPur.chunks, fillP, AOp.isEff, AO.ev, putP, PV.cells, PV.leaf, getB, getM, mapE, keyC, mapRows, mfind, eq1, eqL, scal, binP, unP, minP, maxP, foldP, PV.lt, PV.lt.ltL, endP, expoAll, expo, expo.expoL, frIds, frIds.frIdsL, nodupN, kill, cls, clsFuel, resO, RV.get, loadP, evC_p, evC_s, endS, endT, rowsOf, callP, thinL, unfr, unfr.unfrL, PV.noMem, PV.noMem.noMemL, optI, mapO, norm, trimT, trimB, forget, hasN, blksLt, List.set, h]
set_option maxRecDepth 100000 in
theorem f51 (x y : Bool × Nat) (h : x.2 + y.2 < 340282366920938463463374607431768211456) : evE Dg 51 [eG x.1 x.2, eG y.1 y.2] = some (eG (addG x y).1 (addG x y).2) := by
  obtain ⟨xm, A⟩ := x
  obtain ⟨ym, B⟩ := y
  simp only at h ⊢
  have h60 := f60 A B h
  have h61 := f61 A B
  unfold addG
  simp only
  by_cases c : xm = ym
  · rw [if_pos c]
    subst c
    unfold eW at h60
    unfold eG
    simp only
    generalize (A + B) / 18446744073709551616 = s1 at *
    generalize (A + B) % 18446744073709551616 = s0 at *
    clear h61
    generalize A / 18446744073709551616 = a1 at *
    generalize A % 18446744073709551616 = a0 at *
    generalize B / 18446744073709551616 = b1 at *
    generalize B % 18446744073709551616 = b0 at *
    refine evE_intro 3 D51 rfl ?_
    unfold c51
    cases xm <;> simp [evCode, evOps, evOne, evOp, evPur, evEff, evPur.chunks, fillP, AOp.isEff, AO.ev, putP, PV.cells, PV.leaf, getB, getM, mapE, keyC, mapRows, mfind, eq1, eqL, scal, binP, unP, minP, maxP, foldP, PV.lt, PV.lt.ltL, endP, expoAll, expo, expo.expoL, frIds, frIds.frIdsL, nodupN, kill, cls, clsFuel, resO, RV.get, loadP, evC_p, evC_s, endS, endT, rowsOf, callP, thinL, unfr, unfr.unfrL, PV.noMem, PV.noMem.noMemL, optI, mapO, norm, trimT, trimB, forget, hasN, blksLt, List.set, h60]
  · rw [if_neg c]
    by_cases d : A < B
    · rw [if_pos d]
      have h62 := f62 B A (by omega) (by omega)
      rw [decide_eq_true d] at h61
      clear h60
      unfold eW at h61 h62
      unfold eG
      simp only
      generalize (B - A) / 18446744073709551616 = s1 at *
      generalize (B - A) % 18446744073709551616 = s0 at *
      generalize A / 18446744073709551616 = a1 at *
      generalize A % 18446744073709551616 = a0 at *
      generalize B / 18446744073709551616 = b1 at *
      generalize B % 18446744073709551616 = b0 at *
      refine evE_intro 3 D51 rfl ?_
      unfold c51
      cases xm <;> cases ym <;> first | exact absurd rfl c | simp [evCode, evOps, evOne, evOp, evPur, evEff, evPur.chunks, fillP, AOp.isEff, AO.ev, putP, PV.cells, PV.leaf, getB, getM, mapE, keyC, mapRows, mfind, eq1, eqL, scal, binP, unP, minP, maxP, foldP, PV.lt, PV.lt.ltL, endP, expoAll, expo, expo.expoL, frIds, frIds.frIdsL, nodupN, kill, cls, clsFuel, resO, RV.get, loadP, evC_p, evC_s, endS, endT, rowsOf, callP, thinL, unfr, unfr.unfrL, PV.noMem, PV.noMem.noMemL, optI, mapO, norm, trimT, trimB, forget, hasN, blksLt, List.set, h61, h62]
    · rw [if_neg d]
      have h62 := f62 A B (by omega) (by omega)
      rw [decide_eq_false d] at h61
      clear h60
      unfold eW at h61 h62
      unfold eG
      simp only
      generalize (A - B) / 18446744073709551616 = s1 at *
      generalize (A - B) % 18446744073709551616 = s0 at *
      generalize A / 18446744073709551616 = a1 at *
      generalize A % 18446744073709551616 = a0 at *
      generalize B / 18446744073709551616 = b1 at *
      generalize B % 18446744073709551616 = b0 at *
      refine evE_intro 3 D51 rfl ?_
      unfold c51
      cases xm <;> cases ym <;> first | exact absurd rfl c | simp [evCode, evOps, evOne, evOp, evPur, evEff, evPur.chunks, fillP, AOp.isEff, AO.ev, putP, PV.cells, PV.leaf, getB, getM, mapE, keyC, mapRows, mfind, eq1, eqL, scal, binP, unP, minP, maxP, foldP, PV.lt, PV.lt.ltL, endP, expoAll, expo, expo.expoL, frIds, frIds.frIdsL, nodupN, kill, cls, clsFuel, resO, RV.get, loadP, evC_p, evC_s, endS, endT, rowsOf, callP, thinL, unfr, unfr.unfrL, PV.noMem, PV.noMem.noMemL, optI, mapO, norm, trimT, trimB, forget, hasN, blksLt, List.set, h61, h62]
theorem f36 (x y : Bool × Nat) (h : x.2 + y.2 < 340282366920938463463374607431768211456) : evE Dg 36 [eG x.1 x.2, eG y.1 y.2] = some (eG (addG x y).1 (addG x y).2) := by
  have h := f51 x y h
  generalize addG x y = z at *
  obtain ⟨xm, A⟩ := x
  obtain ⟨ym, B⟩ := y
  obtain ⟨zm, C⟩ := z
  unfold eG at *
  simp only at *
  generalize A / 18446744073709551616 = a1 at *
  generalize A % 18446744073709551616 = a0 at *
  generalize B / 18446744073709551616 = b1 at *
  generalize B % 18446744073709551616 = b0 at *
  generalize C / 18446744073709551616 = c1 at *
  generalize C % 18446744073709551616 = c0 at *
  refine evE_intro 3 D36 rfl ?_
  unfold c36
  simp [evCode, evOps, evOne, evOp, evPur, evEff, evPur.chunks, fillP, AOp.isEff, AO.ev, putP, PV.cells, PV.leaf, getB, getM, mapE, keyC, mapRows, mfind, eq1, eqL, scal, binP, unP, minP, maxP, foldP, PV.lt, PV.lt.ltL, endP, expoAll, expo, expo.expoL, frIds, frIds.frIdsL, nodupN, kill, cls, clsFuel, resO, RV.get, loadP, evC_p, evC_s, endS, endT, rowsOf, callP, thinL, unfr, unfr.unfrL, PV.noMem, PV.noMem.noMemL, optI, mapO, norm, trimT, trimB, forget, hasN, blksLt, List.set, h]
/-- what is within the limit, and whether it is -/
def inR (z : Int) : PV := if -1000000000000000 ≤ z ∧ z ≤ 1000000000000000 then .tup [.int .i64 z, .bool true] else .tup [.int .i64 0, .bool false]
set_option maxRecDepth 100000 in
theorem f38 (x : Bool × Nat) (h : x.2 < 340282366920938463463374607431768211456) : evE Dg 38 [eG x.1 x.2, .int .i64 1000000000000000] = some (inR (sg x)) := by
  obtain ⟨m, W⟩ := x
  simp only at h ⊢
  have e : W = W / 18446744073709551616 * 18446744073709551616 + W % 18446744073709551616 := by omega
  have l0 := lo_lt W
  unfold eG inR sg
  simp only
  obtain ⟨w1, h1⟩ := ex_eq (W / 18446744073709551616)
  obtain ⟨w0, h0⟩ := ex_eq (W % 18446744073709551616)
  rw [h1, h0] at e
  rw [h0] at l0
  rw [h1, h0]
  clear h1 h0 h
  have wl : IntKind.u64.wrap 1000000000000000 = 1000000000000000 := wrap_u64 _ (by omega) (by omega)
  by_cases c1 : w1 = 0
  · subst c1
    have e : W = w0 := by omega
    subst e
    by_cases c2 : 1000000000000000 < W
    · have c2' : (1000000000000000 : Int) < (W : Int) := by omega
      rw [if_neg (by cases m <;> simp <;> omega)]
      refine evE_intro 3 D38 rfl ?_
      unfold c38
      simp [evCode, evOps, evOne, evOp, evPur, evEff, evPur.chunks, fillP, AOp.isEff, AO.ev, putP, PV.cells, PV.leaf, getB, getM, mapE, keyC, mapRows, mfind, eq1, eqL, scal, binP, unP, minP, maxP, foldP, PV.lt, PV.lt.ltL, endP, expoAll, expo, expo.expoL, frIds, frIds.frIdsL, nodupN, kill, cls, clsFuel, resO, RV.get, loadP, evC_p, evC_s, endS, endT, rowsOf, callP, thinL, unfr, unfr.unfrL, PV.noMem, PV.noMem.noMemL, optI, mapO, norm, trimT, trimB, forget, hasN, blksLt, List.set, wl, c2, c2']
    · have c2' : ¬ (1000000000000000 : Int) < (W : Int) := by omega
      have w : IntKind.i64.wrap (W : Int) = W := wrap_i64 _ (by omega) (by omega)
      have w2 : IntKind.i64.wrap (0 - (W : Int)) = -(W : Int) := by rw [wrap_i64 _ (by omega) (by omega)]; omega
      have w2' : IntKind.i64.wrap (-(W : Int)) = -(W : Int) := by rw [wrap_i64 _ (by omega) (by omega)]
      rw [if_pos (by cases m <;> simp <;> omega)]
      refine evE_intro 3 D38 rfl ?_
      unfold c38
      cases m <;> simp [evCode, evOps, evOne, evOp, evPur, evEff, evPur.chunks, fillP, AOp.isEff, AO.ev, putP, PV.cells, PV.leaf, getB, getM, mapE, keyC, mapRows, mfind, eq1, eqL, scal, binP, unP, minP, maxP, foldP, PV.lt, PV.lt.ltL, endP, expoAll, expo, expo.expoL, frIds, frIds.frIdsL, nodupN, kill, cls, clsFuel, resO, RV.get, loadP, evC_p, evC_s, endS, endT, rowsOf, callP, thinL, unfr, unfr.unfrL, PV.noMem, PV.noMem.noMemL, optI, mapO, norm, trimT, trimB, forget, hasN, blksLt, List.set, wl, c2, c2', w, w2, w2']
  · have c1' : ¬ (w1 : Int) = 0 := by omega
    rw [if_neg (by cases m <;> simp <;> omega)]
    refine evE_intro 3 D38 rfl ?_
    unfold c38
    simp [evCode, evOps, evOne, evOp, evPur, evEff, evPur.chunks, fillP, AOp.isEff, AO.ev, putP, PV.cells, PV.leaf, getB, getM, mapE, keyC, mapRows, mfind, eq1, eqL, scal, binP, unP, minP, maxP, foldP, PV.lt, PV.lt.ltL, endP, expoAll, expo, expo.expoL, frIds, frIds.frIdsL, nodupN, kill, cls, clsFuel, resO, RV.get, loadP, evC_p, evC_s, endS, endT, rowsOf, callP, thinL, unfr, unfr.unfrL, PV.noMem, PV.noMem.noMemL, optI, mapO, norm, trimT, trimB, forget, hasN, blksLt, List.set, c1, c1']
end Go.Proofs.Ytecmcggnpgjbiaa
