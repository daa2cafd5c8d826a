/- num: NumRanks, of all pure arguments. -/
import Derived.Test.YtnodcoemjojlhaaDoorNqI
namespace Go.Proofs.YtnodcoemjojlhaaDoor
open Go Go.RowKit
set_option linter.unusedVariables false
set_option linter.unusedSimpArgs false
set_option maxHeartbeats 4000000
set_option maxRecDepth 100000 in
theorem n8 (x : Bool) (zs : List Int) (p q : Int) : evE Dg 8 [eZ x zs, .int .i64 p, .int .i64 q] = some (.bool true) := by
  have hlz : (intRows zs).length = zs.length := by simp [intRows]
  by_cases hs : 60 < zs.length
  · have h1 : (60 : Int) < zs.length := by omega
    refine evE_intro 70 D8 rfl ?_
    unfold c8
    simp [evCode, evOps, evOne, evOp, evPur, evEff, evPur.chunks, fillP, AOp.isEff, AO.ev, putP, PV.cells, PV.leaf, getB, getM, mapE, keyC, mapRows, mfind, eq1, eqL, scal, binP, unP, minP, maxP, foldP, PV.lt, PV.lt.ltL, endP, expoAll, expo, expo.expoL, frIds, frIds.frIdsL, nodupN, kill, cls, clsFuel, resO, RV.get, loadP, evC_p, evC_s, endS, endT, rowsOf, callP, thinL, unfr, unfr.unfrL, PV.noMem, PV.noMem.noMemL, optI, mapO, norm, trimT, trimB, forget, hasN, blksLt, List.set, eZ, hlz, h1, hs, f16]
  · by_cases h : okQ zs.length p q
    · obtain ⟨h0, h1, h2, h3, h4⟩ := h
      obtain ⟨P, hP⟩ := Int.eq_ofNat_of_zero_le h3
      obtain ⟨K, hK⟩ := Int.eq_ofNat_of_zero_le (show 0 ≤ q by omega)
      subst hP hK
      exact n8_good x zs P K h0 (by omega) (by omega) (by omega)
    · exact n8_bad x zs p q (by omega) h
theorem law8 (ps : List PV) (h : ArgL Tryd.prog 12 [30, 3, 3] ps) : evE Dg 8 ps = some (.bool true) := by
  obtain ⟨p, q, r, rfl, h1, h2, h3⟩ := argL3 h
  obtain ⟨l, rfl⟩ := in_ints h1
  obtain ⟨a, rfl, _⟩ := argT_int Tryd.underlying3 h2
  obtain ⟨b, rfl, _⟩ := argT_int Tryd.underlying3 h3
  exact n8 false l a b
end Go.Proofs.YtnodcoemjojlhaaDoor
