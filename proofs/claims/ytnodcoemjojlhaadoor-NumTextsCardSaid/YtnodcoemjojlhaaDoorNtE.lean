/- num: NumTexts of pure arguments. -/
import Derived.Test.YtnodcoemjojlhaaDoorNtD
import Derived.Test.YtnodcoemjojlhaaDoorEvIn
namespace Go.Proofs.YtnodcoemjojlhaaDoor
open Go Go.RowKit Go.Lib
set_option linter.unusedVariables false
set_option linter.unusedSimpArgs false
set_option maxHeartbeats 8000000

theorem far_text (n : Int) (hb : inB n = false) (m : Int) (hm : inB m = true) : itoa m ≠ itoa n := by
  intro h
  have e1 := dsum_itoa m
  have e2 := dsum_itoa n
  rw [h, e2] at e1
  have h1 := (inB_iff m).1 hm
  have h2 := (inB_false n).1 hb
  omega
/-- what Parse gives for a text -/
theorem parse_text (n : Int) (h : -9223372036854775808 ≤ n ∧ n ≤ 9223372036854775807) : evE Dg 24 [.str (itoa n)] = some (.tup [.int .i64 (if inB n = true then n else 0), .bool (inB n)]) := by
  cases hb : inB n with
  | true =>
    have := f24_yes n hb
    simpa using this
  | false =>
    have hl := itoa_len20 n h
    have := f24_no (itoa n) (by omega) (fun m hm => far_text n hb m hm)
    simpa using this
set_option maxRecDepth 100000 in
theorem n9 (n : Int) (s : List UInt8) (hn : -9223372036854775808 ≤ n ∧ n ≤ 9223372036854775807) : evE Dg 9 [.int .i64 n, .str s] = some (.bool true) := by
  by_cases hs : 100 < s.length
  · have h1 : (100 : Int) < s.length := by omega
    refine evE_intro 1 D9 rfl ?_
    unfold c9
    simp [evCode, evOps, evOne, evOp, evPur, evEff, evPur.chunks, fillP, AOp.isEff, AO.ev, putP, PV.cells, PV.leaf, getB, getM, mapE, keyC, mapRows, mfind, eq1, eqL, scal, binP, unP, minP, maxP, foldP, PV.lt, PV.lt.ltL, endP, expoAll, expo, expo.expoL, frIds, frIds.frIdsL, nodupN, kill, cls, clsFuel, resO, RV.get, loadP, evC_p, evC_s, endS, endT, rowsOf, callP, thinL, unfr, unfr.unfrL, PV.noMem, PV.noMem.noMemL, optI, mapO, norm, trimT, trimB, forget, hasN, blksLt, List.set, h1, hs, f16]
  · have h1 : ¬ (100 : Int) < s.length := by omega
    have a1 := f23 n hn
    have a2 := parse_text n hn
    have a3 := f26 n hn
    have a4 := f14 n
    obtain ⟨t, ht⟩ := ex_eq (itoa n)
    rw [ht] at a1 a2 a3
    by_cases hm : ∃ m, inB m = true ∧ itoa m = s
    · obtain ⟨m, hmb, hms⟩ := hm
      have b1 := f24_yes m hmb
      have b2 := f25_yes m hmb
      have b3 := f23 m (by have := (inB_iff m).1 hmb; omega)
      rw [hms] at b1 b2 b3
      cases hb : inB n with
      | true =>
        rw [hb] at a2 a4
        simp only [if_true] at a2
        refine evE_intro 1 D9 rfl ?_
        unfold c9
        simp [evCode, evOps, evOne, evOp, evPur, evEff, evPur.chunks, fillP, AOp.isEff, AO.ev, putP, PV.cells, PV.leaf, getB, getM, mapE, keyC, mapRows, mfind, eq1, eqL, scal, binP, unP, minP, maxP, foldP, PV.lt, PV.lt.ltL, endP, expoAll, expo, expo.expoL, frIds, frIds.frIdsL, nodupN, kill, cls, clsFuel, resO, RV.get, loadP, evC_p, evC_s, endS, endT, rowsOf, callP, thinL, unfr, unfr.unfrL, PV.noMem, PV.noMem.noMemL, optI, mapO, norm, trimT, trimB, forget, hasN, blksLt, List.set, h1, hs, a1, a2, a3, a4, b1, b2, b3, f16]
      | false =>
        rw [hb] at a2 a4
        simp only [Bool.false_eq_true, if_false] at a2
        refine evE_intro 1 D9 rfl ?_
        unfold c9
        simp [evCode, evOps, evOne, evOp, evPur, evEff, evPur.chunks, fillP, AOp.isEff, AO.ev, putP, PV.cells, PV.leaf, getB, getM, mapE, keyC, mapRows, mfind, eq1, eqL, scal, binP, unP, minP, maxP, foldP, PV.lt, PV.lt.ltL, endP, expoAll, expo, expo.expoL, frIds, frIds.frIdsL, nodupN, kill, cls, clsFuel, resO, RV.get, loadP, evC_p, evC_s, endS, endT, rowsOf, callP, thinL, unfr, unfr.unfrL, PV.noMem, PV.noMem.noMemL, optI, mapO, norm, trimT, trimB, forget, hasN, blksLt, List.set, h1, hs, a1, a2, a3, a4, b1, b2, b3, f16]
    · have hno : ∀ m, inB m = true → itoa m ≠ s := fun m h1 h2 => hm ⟨m, h1, h2⟩
      have b1 := f24_no s (by omega) hno
      have b2 := f25_no s hno
      cases hb : inB n with
      | true =>
        rw [hb] at a2 a4
        simp only [if_true] at a2
        refine evE_intro 1 D9 rfl ?_
        unfold c9
        simp [evCode, evOps, evOne, evOp, evPur, evEff, evPur.chunks, fillP, AOp.isEff, AO.ev, putP, PV.cells, PV.leaf, getB, getM, mapE, keyC, mapRows, mfind, eq1, eqL, scal, binP, unP, minP, maxP, foldP, PV.lt, PV.lt.ltL, endP, expoAll, expo, expo.expoL, frIds, frIds.frIdsL, nodupN, kill, cls, clsFuel, resO, RV.get, loadP, evC_p, evC_s, endS, endT, rowsOf, callP, thinL, unfr, unfr.unfrL, PV.noMem, PV.noMem.noMemL, optI, mapO, norm, trimT, trimB, forget, hasN, blksLt, List.set, h1, hs, a1, a2, a3, a4, b1, b2, f16]
      | false =>
        rw [hb] at a2 a4
        simp only [Bool.false_eq_true, if_false] at a2
        refine evE_intro 1 D9 rfl ?_
        unfold c9
        simp [evCode, evOps, evOne, evOp, evPur, evEff, evPur.chunks, fillP, AOp.isEff, AO.ev, putP, PV.cells, PV.leaf, getB, getM, mapE, keyC, mapRows, mfind, eq1, eqL, scal, binP, unP, minP, maxP, foldP, PV.lt, PV.lt.ltL, endP, expoAll, expo, expo.expoL, frIds, frIds.frIdsL, nodupN, kill, cls, clsFuel, resO, RV.get, loadP, evC_p, evC_s, endS, endT, rowsOf, callP, thinL, unfr, unfr.unfrL, PV.noMem, PV.noMem.noMemL, optI, mapO, norm, trimT, trimB, forget, hasN, blksLt, List.set, h1, hs, a1, a2, a3, a4, b1, b2, f16]
theorem law9 (ps : List PV) (h : ArgL Tryd.prog 12 [3, 9] ps) : evE Dg 9 ps = some (.bool true) := by
  obtain ⟨p, q, rfl, h1, h2⟩ := argL2 h
  obtain ⟨n, rfl, hn⟩ := argT_int Tryd.underlying3 h1
  obtain ⟨s, rfl, _⟩ := argT_string Tryd.underlying9 h2
  exact n9 n s (wf_i64 hn)
end Go.Proofs.YtnodcoemjojlhaaDoor
