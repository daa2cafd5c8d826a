/- num: NumQuantiles of pure arguments. -/
import Derived.Test.YtnodcoemjojlhaaDoorNqD
import Derived.Test.YtnodcoemjojlhaaDoorAw
import Derived.Test.YtnodcoemjojlhaaDoorEvIn
namespace Go.Proofs.YtnodcoemjojlhaaDoor
open Go Go.RowKit
set_option linter.unusedVariables false
set_option linter.unusedSimpArgs false
set_option maxHeartbeats 8000000

def okQ (n : Nat) (p q : Int) : Prop := 0 < n ∧ 1 ≤ q ∧ q ≤ 1000000000000000 ∧ 0 ≤ p ∧ p ≤ q
set_option maxRecDepth 100000 in
theorem f21_bad (x : Bool) (zs : List Int) (p q : Int) (h : ¬ okQ zs.length p q) : evE Dg 21 [eZ x zs, .int .i64 p, .int .i64 q] = some (.tup [.int .i64 0, .bool false]) := by
  have hlz : (intRows zs).length = zs.length := by simp [intRows]
  generalize zs.length = N at *
  unfold okQ at h
  by_cases c1 : N = 0
  · subst c1
    refine evE_intro 1 D21 rfl ?_
    unfold c21
    simp [evCode, evOps, evOne, evOp, evPur, evEff, evPur.chunks, fillP, AOp.isEff, AO.ev, putP, PV.cells, PV.leaf, getB, getM, mapE, keyC, mapRows, mfind, eq1, eqL, scal, binP, unP, minP, maxP, foldP, PV.lt, PV.lt.ltL, endP, expoAll, expo, expo.expoL, frIds, frIds.frIdsL, nodupN, kill, cls, clsFuel, resO, RV.get, loadP, evC_p, evC_s, endS, endT, rowsOf, callP, thinL, unfr, unfr.unfrL, PV.noMem, PV.noMem.noMemL, optI, mapO, norm, trimT, trimB, forget, hasN, blksLt, List.set, eZ, hlz]
  have c1' : ¬ (N : Int) = 0 := by omega
  by_cases c2 : q < 1
  · refine evE_intro 1 D21 rfl ?_
    unfold c21
    simp [evCode, evOps, evOne, evOp, evPur, evEff, evPur.chunks, fillP, AOp.isEff, AO.ev, putP, PV.cells, PV.leaf, getB, getM, mapE, keyC, mapRows, mfind, eq1, eqL, scal, binP, unP, minP, maxP, foldP, PV.lt, PV.lt.ltL, endP, expoAll, expo, expo.expoL, frIds, frIds.frIdsL, nodupN, kill, cls, clsFuel, resO, RV.get, loadP, evC_p, evC_s, endS, endT, rowsOf, callP, thinL, unfr, unfr.unfrL, PV.noMem, PV.noMem.noMemL, optI, mapO, norm, trimT, trimB, forget, hasN, blksLt, List.set, eZ, hlz, c1, c1', c2]
  by_cases c3 : 1000000000000000 < q
  · refine evE_intro 1 D21 rfl ?_
    unfold c21
    simp [evCode, evOps, evOne, evOp, evPur, evEff, evPur.chunks, fillP, AOp.isEff, AO.ev, putP, PV.cells, PV.leaf, getB, getM, mapE, keyC, mapRows, mfind, eq1, eqL, scal, binP, unP, minP, maxP, foldP, PV.lt, PV.lt.ltL, endP, expoAll, expo, expo.expoL, frIds, frIds.frIdsL, nodupN, kill, cls, clsFuel, resO, RV.get, loadP, evC_p, evC_s, endS, endT, rowsOf, callP, thinL, unfr, unfr.unfrL, PV.noMem, PV.noMem.noMemL, optI, mapO, norm, trimT, trimB, forget, hasN, blksLt, List.set, eZ, hlz, c1, c1', c2, c3]
  by_cases c4 : p < 0
  · refine evE_intro 1 D21 rfl ?_
    unfold c21
    simp [evCode, evOps, evOne, evOp, evPur, evEff, evPur.chunks, fillP, AOp.isEff, AO.ev, putP, PV.cells, PV.leaf, getB, getM, mapE, keyC, mapRows, mfind, eq1, eqL, scal, binP, unP, minP, maxP, foldP, PV.lt, PV.lt.ltL, endP, expoAll, expo, expo.expoL, frIds, frIds.frIdsL, nodupN, kill, cls, clsFuel, resO, RV.get, loadP, evC_p, evC_s, endS, endT, rowsOf, callP, thinL, unfr, unfr.unfrL, PV.noMem, PV.noMem.noMemL, optI, mapO, norm, trimT, trimB, forget, hasN, blksLt, List.set, eZ, hlz, c1, c1', c2, c3, c4]
  have c5 : q < p := Decidable.byContradiction fun hh => h ⟨by omega, by omega, by omega, by omega, by omega⟩
  refine evE_intro 1 D21 rfl ?_
  unfold c21
  simp [evCode, evOps, evOne, evOp, evPur, evEff, evPur.chunks, fillP, AOp.isEff, AO.ev, putP, PV.cells, PV.leaf, getB, getM, mapE, keyC, mapRows, mfind, eq1, eqL, scal, binP, unP, minP, maxP, foldP, PV.lt, PV.lt.ltL, endP, expoAll, expo, expo.expoL, frIds, frIds.frIdsL, nodupN, kill, cls, clsFuel, resO, RV.get, loadP, evC_p, evC_s, endS, endT, rowsOf, callP, thinL, unfr, unfr.unfrL, PV.noMem, PV.noMem.noMemL, optI, mapO, norm, trimT, trimB, forget, hasN, blksLt, List.set, eZ, hlz, c1, c1', c2, c3, c4, c5]
set_option maxRecDepth 100000 in
theorem f22_bad (x : Bool) (zs : List Int) (p q : Int) (h : ¬ okQ zs.length p q) : evE Dg 22 [eZ x zs, .int .i64 p, .int .i64 q] = some (.tup [.int .i64 0, .bool false]) := by
  have hlz : (intRows zs).length = zs.length := by simp [intRows]
  generalize zs.length = N at *
  unfold okQ at h
  by_cases c1 : N = 0
  · subst c1
    refine evE_intro 1 D22 rfl ?_
    unfold c22
    simp [evCode, evOps, evOne, evOp, evPur, evEff, evPur.chunks, fillP, AOp.isEff, AO.ev, putP, PV.cells, PV.leaf, getB, getM, mapE, keyC, mapRows, mfind, eq1, eqL, scal, binP, unP, minP, maxP, foldP, PV.lt, PV.lt.ltL, endP, expoAll, expo, expo.expoL, frIds, frIds.frIdsL, nodupN, kill, cls, clsFuel, resO, RV.get, loadP, evC_p, evC_s, endS, endT, rowsOf, callP, thinL, unfr, unfr.unfrL, PV.noMem, PV.noMem.noMemL, optI, mapO, norm, trimT, trimB, forget, hasN, blksLt, List.set, eZ, hlz]
  have c1' : ¬ (N : Int) = 0 := by omega
  by_cases c2 : q < 1
  · refine evE_intro 1 D22 rfl ?_
    unfold c22
    simp [evCode, evOps, evOne, evOp, evPur, evEff, evPur.chunks, fillP, AOp.isEff, AO.ev, putP, PV.cells, PV.leaf, getB, getM, mapE, keyC, mapRows, mfind, eq1, eqL, scal, binP, unP, minP, maxP, foldP, PV.lt, PV.lt.ltL, endP, expoAll, expo, expo.expoL, frIds, frIds.frIdsL, nodupN, kill, cls, clsFuel, resO, RV.get, loadP, evC_p, evC_s, endS, endT, rowsOf, callP, thinL, unfr, unfr.unfrL, PV.noMem, PV.noMem.noMemL, optI, mapO, norm, trimT, trimB, forget, hasN, blksLt, List.set, eZ, hlz, c1, c1', c2]
  by_cases c3 : 1000000000000000 < q
  · refine evE_intro 1 D22 rfl ?_
    unfold c22
    simp [evCode, evOps, evOne, evOp, evPur, evEff, evPur.chunks, fillP, AOp.isEff, AO.ev, putP, PV.cells, PV.leaf, getB, getM, mapE, keyC, mapRows, mfind, eq1, eqL, scal, binP, unP, minP, maxP, foldP, PV.lt, PV.lt.ltL, endP, expoAll, expo, expo.expoL, frIds, frIds.frIdsL, nodupN, kill, cls, clsFuel, resO, RV.get, loadP, evC_p, evC_s, endS, endT, rowsOf, callP, thinL, unfr, unfr.unfrL, PV.noMem, PV.noMem.noMemL, optI, mapO, norm, trimT, trimB, forget, hasN, blksLt, List.set, eZ, hlz, c1, c1', c2, c3]
  by_cases c4 : p < 0
  · refine evE_intro 1 D22 rfl ?_
    unfold c22
    simp [evCode, evOps, evOne, evOp, evPur, evEff, evPur.chunks, fillP, AOp.isEff, AO.ev, putP, PV.cells, PV.leaf, getB, getM, mapE, keyC, mapRows, mfind, eq1, eqL, scal, binP, unP, minP, maxP, foldP, PV.lt, PV.lt.ltL, endP, expoAll, expo, expo.expoL, frIds, frIds.frIdsL, nodupN, kill, cls, clsFuel, resO, RV.get, loadP, evC_p, evC_s, endS, endT, rowsOf, callP, thinL, unfr, unfr.unfrL, PV.noMem, PV.noMem.noMemL, optI, mapO, norm, trimT, trimB, forget, hasN, blksLt, List.set, eZ, hlz, c1, c1', c2, c3, c4]
  have c5 : q < p := Decidable.byContradiction fun hh => h ⟨by omega, by omega, by omega, by omega, by omega⟩
  refine evE_intro 1 D22 rfl ?_
  unfold c22
  simp [evCode, evOps, evOne, evOp, evPur, evEff, evPur.chunks, fillP, AOp.isEff, AO.ev, putP, PV.cells, PV.leaf, getB, getM, mapE, keyC, mapRows, mfind, eq1, eqL, scal, binP, unP, minP, maxP, foldP, PV.lt, PV.lt.ltL, endP, expoAll, expo, expo.expoL, frIds, frIds.frIdsL, nodupN, kill, cls, clsFuel, resO, RV.get, loadP, evC_p, evC_s, endS, endT, rowsOf, callP, thinL, unfr, unfr.unfrL, PV.noMem, PV.noMem.noMemL, optI, mapO, norm, trimT, trimB, forget, hasN, blksLt, List.set, eZ, hlz, c1, c1', c2, c3, c4, c5]
theorem both (x : Bool) (zs : List Int) (p q : Int) (hN : zs.length ≤ 60) : ∃ u v, evE Dg 21 [eZ x zs, .int .i64 p, .int .i64 q] = some (.tup [.int .i64 u, .bool v]) ∧ evE Dg 22 [eZ x zs, .int .i64 p, .int .i64 q] = some (.tup [.int .i64 u, .bool v]) := by
  by_cases h : okQ zs.length p q
  · obtain ⟨h0, h1, h2, h3, h4⟩ := h
    obtain ⟨P, hP⟩ := Int.eq_ofNat_of_zero_le h3
    obtain ⟨K, hK⟩ := Int.eq_ofNat_of_zero_le (show 0 ≤ q by omega)
    subst hP hK
    have hlt := qAt_lt P zs.length K h0 (by omega) (by omega)
    obtain ⟨a, ha⟩ : ∃ a, (sortZ zs)[qAt P zs.length K]? = some a := ⟨_, List.getElem?_eq_getElem (by rw [sortZ_len]; exact hlt)⟩
    exact ⟨a, true, f21_good x zs P K h0 hN (by omega) (by omega) a ha, f22_good x zs P K h0 hN (by omega) (by omega) a ha⟩
  · exact ⟨0, false, f21_bad x zs p q h, f22_bad x zs p q h⟩
theorem n7 (x : Bool) (zs : List Int) (p q : Int) : evE Dg 7 [eZ x zs, .int .i64 p, .int .i64 q] = some (.bool true) := by
  have hlz : (intRows zs).length = zs.length := by simp [intRows]
  by_cases hs : 60 < zs.length
  · have h1 : (60 : Int) < zs.length := by omega
    refine evE_intro 1 D7 rfl ?_
    unfold c7
    simp [evCode, evOps, evOne, evOp, evPur, evEff, evPur.chunks, fillP, AOp.isEff, AO.ev, putP, PV.cells, PV.leaf, getB, getM, mapE, keyC, mapRows, mfind, eq1, eqL, scal, binP, unP, minP, maxP, foldP, PV.lt, PV.lt.ltL, endP, expoAll, expo, expo.expoL, frIds, frIds.frIdsL, nodupN, kill, cls, clsFuel, resO, RV.get, loadP, evC_p, evC_s, endS, endT, rowsOf, callP, thinL, unfr, unfr.unfrL, PV.noMem, PV.noMem.noMemL, optI, mapO, norm, trimT, trimB, forget, hasN, blksLt, List.set, eZ, hlz, h1, hs, f16]
  · have h1 : ¬ (60 : Int) < zs.length := by omega
    obtain ⟨u, v, h21, h22⟩ := both x zs p q (by omega)
    simp only [eZ] at h21 h22
    refine evE_intro 1 D7 rfl ?_
    unfold c7
    simp [evCode, evOps, evOne, evOp, evPur, evEff, evPur.chunks, fillP, AOp.isEff, AO.ev, putP, PV.cells, PV.leaf, getB, getM, mapE, keyC, mapRows, mfind, eq1, eqL, scal, binP, unP, minP, maxP, foldP, PV.lt, PV.lt.ltL, endP, expoAll, expo, expo.expoL, frIds, frIds.frIdsL, nodupN, kill, cls, clsFuel, resO, RV.get, loadP, evC_p, evC_s, endS, endT, rowsOf, callP, thinL, unfr, unfr.unfrL, PV.noMem, PV.noMem.noMemL, optI, mapO, norm, trimT, trimB, forget, hasN, blksLt, List.set, eZ, hlz, h1, hs, f16, h21, h22]
theorem in_ints {d : Nat} {p : PV} (h : ArgT Tryd.prog (d + 2) 30 p) : ∃ l, p = eZ false l := by
  obtain ⟨l, h1, _, _⟩ := argT_rows (f := fun z : Int => [.int .i64 z]) (Q := fun _ => True) Tryd.underlying30 (c := 1) (by kernel_rfl) (fun r hr => by
    obtain ⟨z, rfl, _⟩ := ht_int Tryd.underlying3 hr
    exact ⟨z, rfl, trivial⟩) (argT_slice Tryd.underlying30 h)
  exact ⟨l, by simp at h1; exact h1⟩
theorem law7 (ps : List PV) (h : ArgL Tryd.prog 12 [30, 3, 3] ps) : evE Dg 7 ps = some (.bool true) := by
  obtain ⟨p, q, r, rfl, h1, h2, h3⟩ := argL3 h
  obtain ⟨l, rfl⟩ := in_ints h1
  obtain ⟨a, rfl, _⟩ := argT_int Tryd.underlying3 h2
  obtain ⟨b, rfl, _⟩ := argT_int Tryd.underlying3 h3
  exact n7 false l a b
end Go.Proofs.YtnodcoemjojlhaaDoor
