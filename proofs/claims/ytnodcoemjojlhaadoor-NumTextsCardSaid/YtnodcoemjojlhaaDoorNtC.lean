/- num: Text, Parse, the reference's Parse. -/
import Derived.Test.YtnodcoemjojlhaaDoorNtB
namespace Go.Proofs.YtnodcoemjojlhaaDoor
open Go Go.RowKit Go.Lib
set_option linter.unusedVariables false
set_option linter.unusedSimpArgs false
set_option maxHeartbeats 8000000

theorem f34 (n : Int) (h : -9223372036854775808 ≤ n ∧ n ≤ 9223372036854775807) : evE Dg 34 [.int .i64 n] = some (.str (itoa n)) :=
  evE_ext D34 rfl (by simp only [xItoa]; rw [if_pos h])
theorem f23 (n : Int) (h : -9223372036854775808 ≤ n ∧ n ≤ 9223372036854775807) : evE Dg 23 [.int .i64 n] = some (.str (itoa n)) := by
  have h34 := f34 n h
  refine evE_intro 1 D23 rfl ?_
  unfold c23
  simp [evCode, evOps, evOne, evOp, evPur, evEff, evPur.chunks, fillP, AOp.isEff, AO.ev, putP, PV.cells, PV.leaf, getB, getM, mapE, keyC, mapRows, mfind, eq1, eqL, scal, binP, unP, minP, maxP, foldP, PV.lt, PV.lt.ltL, endP, expoAll, expo, expo.expoL, frIds, frIds.frIdsL, nodupN, kill, cls, clsFuel, resO, RV.get, loadP, evC_p, evC_s, endS, endT, rowsOf, callP, thinL, unfr, unfr.unfrL, PV.noMem, PV.noMem.noMemL, optI, mapO, norm, trimT, trimB, forget, hasN, blksLt, List.set, h34]
theorem f35 (l : List UInt8) (h : l.length ≤ 1000) : evE Dg 35 [.str l] = some (endA l (atoiAll l)) :=
  evE_ext D35 rfl (by simp only [xAtoi]; rw [if_pos h])
theorem f24_yes (n : Int) (hb : inB n = true) : evE Dg 24 [.str (itoa n)] = some (.tup [.int .i64 n, .bool true]) := by
  have hn := (inB_iff n).1 hb
  have hl := itoa_len n hn
  have h35 := f35 (itoa n) (by omega)
  rw [atoi_itoa n hn] at h35
  simp only [endA] at h35
  have h23 := f23 n (by omega)
  have h14 := f14 n
  rw [hb] at h14
  generalize itoa n = l at h35 h23 ⊢
  refine evE_intro 1 D24 rfl ?_
  unfold c24
  simp [evCode, evOps, evOne, evOp, evPur, evEff, evPur.chunks, fillP, AOp.isEff, AO.ev, putP, PV.cells, PV.leaf, getB, getM, mapE, keyC, mapRows, mfind, eq1, eqL, scal, binP, unP, minP, maxP, foldP, PV.lt, PV.lt.ltL, endP, expoAll, expo, expo.expoL, frIds, frIds.frIdsL, nodupN, kill, cls, clsFuel, resO, RV.get, loadP, evC_p, evC_s, endS, endT, rowsOf, callP, thinL, unfr, unfr.unfrL, PV.noMem, PV.noMem.noMemL, optI, mapO, norm, trimT, trimB, forget, hasN, blksLt, List.set, h35, h23, h14]
theorem f24_no (l : List UInt8) (hl : l.length ≤ 1000) (h : ∀ n, inB n = true → itoa n ≠ l) : evE Dg 24 [.str l] = some (.tup [.int .i64 0, .bool false]) := by
  have h35 := f35 l hl
  cases hat : atoiAll l with
  | ok v =>
    rw [hat] at h35
    simp only [endA] at h35
    have h14 := f14 v
    cases hb : inB v with
    | true =>
      have hv := (inB_iff v).1 hb
      have h23 := f23 v (by omega)
      have hne := h v hb
      rw [hb] at h14
      generalize itoa v = t at h23 hne
      refine evE_intro 1 D24 rfl ?_
      unfold c24
      simp [evCode, evOps, evOne, evOp, evPur, evEff, evPur.chunks, fillP, AOp.isEff, AO.ev, putP, PV.cells, PV.leaf, getB, getM, mapE, keyC, mapRows, mfind, eq1, eqL, scal, binP, unP, minP, maxP, foldP, PV.lt, PV.lt.ltL, endP, expoAll, expo, expo.expoL, frIds, frIds.frIdsL, nodupN, kill, cls, clsFuel, resO, RV.get, loadP, evC_p, evC_s, endS, endT, rowsOf, callP, thinL, unfr, unfr.unfrL, PV.noMem, PV.noMem.noMemL, optI, mapO, norm, trimT, trimB, forget, hasN, blksLt, List.set, h35, h23, h14, hne]
    | false =>
      rw [hb] at h14
      refine evE_intro 1 D24 rfl ?_
      unfold c24
      simp [evCode, evOps, evOne, evOp, evPur, evEff, evPur.chunks, fillP, AOp.isEff, AO.ev, putP, PV.cells, PV.leaf, getB, getM, mapE, keyC, mapRows, mfind, eq1, eqL, scal, binP, unP, minP, maxP, foldP, PV.lt, PV.lt.ltL, endP, expoAll, expo, expo.expoL, frIds, frIds.frIdsL, nodupN, kill, cls, clsFuel, resO, RV.get, loadP, evC_p, evC_s, endS, endT, rowsOf, callP, thinL, unfr, unfr.unfrL, PV.noMem, PV.noMem.noMemL, optI, mapO, norm, trimT, trimB, forget, hasN, blksLt, List.set, h35, h14]
  | range =>
    rw [hat] at h35
    simp only [endA] at h35
    refine evE_intro 1 D24 rfl ?_
    unfold c24
    simp [evCode, evOps, evOne, evOp, evPur, evEff, evPur.chunks, fillP, AOp.isEff, AO.ev, putP, PV.cells, PV.leaf, getB, getM, mapE, keyC, mapRows, mfind, eq1, eqL, scal, binP, unP, minP, maxP, foldP, PV.lt, PV.lt.ltL, endP, expoAll, expo, expo.expoL, frIds, frIds.frIdsL, nodupN, kill, cls, clsFuel, resO, RV.get, loadP, evC_p, evC_s, endS, endT, rowsOf, callP, thinL, unfr, unfr.unfrL, PV.noMem, PV.noMem.noMemL, optI, mapO, norm, trimT, trimB, forget, hasN, blksLt, List.set, h35]
  | _ =>
    rw [hat] at h35
    simp only [endA] at h35
    refine evE_intro 1 D24 rfl ?_
    unfold c24
    simp [evCode, evOps, evOne, evOp, evPur, evEff, evPur.chunks, fillP, AOp.isEff, AO.ev, putP, PV.cells, PV.leaf, getB, getM, mapE, keyC, mapRows, mfind, eq1, eqL, scal, binP, unP, minP, maxP, foldP, PV.lt, PV.lt.ltL, endP, expoAll, expo, expo.expoL, frIds, frIds.frIdsL, nodupN, kill, cls, clsFuel, resO, RV.get, loadP, evC_p, evC_s, endS, endT, rowsOf, callP, thinL, unfr, unfr.unfrL, PV.noMem, PV.noMem.noMemL, optI, mapO, norm, trimT, trimB, forget, hasN, blksLt, List.set, h35]
end Go.Proofs.YtnodcoemjojlhaaDoor
