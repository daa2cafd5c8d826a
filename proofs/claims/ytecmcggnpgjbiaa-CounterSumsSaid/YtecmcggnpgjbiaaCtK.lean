/- Integral, of the program and of the reference. -/
import Derived.Test.YtecmcggnpgjbiaaCtJ
namespace Go.Proofs.Ytecmcggnpgjbiaa
open Go Go.RowKit
set_option linter.unusedVariables false
set_option linter.unusedSimpArgs false
set_option maxHeartbeats 4000000

/-- the ranges of a valid list -/
def rng (l : List Stp) : Prop := ∀ a ∈ l, 0 ≤ a.2.1 ∧ a.2.1 ≤ 1000000000000 ∧ -1000000000000000 ≤ a.2.2 ∧ a.2.2 ≤ 1000000000000000
def S20 (x : Bool) (l : List Stp) (name : List UInt8) (F T : Int) (k : Nat) (u : Int × Int × Int) : St := ⟨[.top, .str name, .top, .top, .top, .ptr 0 1 0 0, .top, .top, .ptr 1 1 0 0, .int .i64 u.2.1, .int .i64 u.2.2] ++ List.replicate 19 .top ++ [eSp x l, .int .i64 l.length, .int .i64 k] ++ List.replicate 40 .top,
  [some ⟨1, 2, true, [[.int .i64 F, .int .i64 T]]⟩, some ⟨1, 2, true, [(eZ u.1).cells]⟩]⟩
/-- the answer of Integral -/
def intR (F T : Int) (z : Int) : PV := if 0 ≤ F ∧ F < T ∧ T ≤ 1000000000000 then inR z else .tup [.int .i64 0, .bool false]
set_option maxRecDepth 100000 in
theorem f20 (x : Bool) (l : List Stp) (hl : l.length ≤ 1000000) (hr : rng l) (name : List UInt8) (F T : Int) (hb : 0 ≤ F ∧ F < T ∧ T ≤ 1000000000000 → -170141183460469231731687303715884105728 ≤ itg name F T l ∧ itg name F T l < 170141183460469231731687303715884105728) : evE Dg 20 [eSp x l, .str name, .agg [.int .i64 F, .int .i64 T]] = some (intR F T (itg name F T l)) := by
  have el : (l.map row).length = l.length := by simp
  unfold intR
  by_cases c1 : F < 0
  · rw [if_neg (by omega)]
    refine evE_intro 3 D20 rfl ?_
    unfold c20
    simp [evCode, evOps, evOne, evOp, evPur, evEff, evPur.chunks, fillP, AOp.isEff, AO.ev, putP, PV.cells, PV.leaf, getB, getM, mapE, keyC, mapRows, mfind, eq1, eqL, scal, binP, unP, minP, maxP, foldP, PV.lt, PV.lt.ltL, endP, expoAll, expo, expo.expoL, frIds, frIds.frIdsL, nodupN, kill, cls, clsFuel, resO, RV.get, loadP, evC_p, evC_s, endS, endT, rowsOf, callP, thinL, unfr, unfr.unfrL, PV.noMem, PV.noMem.noMemL, optI, mapO, norm, trimT, trimB, forget, hasN, blksLt, List.set, c1]
  by_cases c2 : T ≤ F
  · rw [if_neg (by omega)]
    refine evE_intro 3 D20 rfl ?_
    unfold c20
    simp [evCode, evOps, evOne, evOp, evPur, evEff, evPur.chunks, fillP, AOp.isEff, AO.ev, putP, PV.cells, PV.leaf, getB, getM, mapE, keyC, mapRows, mfind, eq1, eqL, scal, binP, unP, minP, maxP, foldP, PV.lt, PV.lt.ltL, endP, expoAll, expo, expo.expoL, frIds, frIds.frIdsL, nodupN, kill, cls, clsFuel, resO, RV.get, loadP, evC_p, evC_s, endS, endT, rowsOf, callP, thinL, unfr, unfr.unfrL, PV.noMem, PV.noMem.noMemL, optI, mapO, norm, trimT, trimB, forget, hasN, blksLt, List.set, c1, c2]
  by_cases c3 : 1000000000000 < T
  · rw [if_neg (by omega)]
    refine evE_intro 3 D20 rfl ?_
    unfold c20
    simp [evCode, evOps, evOne, evOp, evPur, evEff, evPur.chunks, fillP, AOp.isEff, AO.ev, putP, PV.cells, PV.leaf, getB, getM, mapE, keyC, mapRows, mfind, eq1, eqL, scal, binP, unP, minP, maxP, foldP, PV.lt, PV.lt.ltL, endP, expoAll, expo, expo.expoL, frIds, frIds.frIdsL, nodupN, kill, cls, clsFuel, resO, RV.get, loadP, evC_p, evC_s, endS, endT, rowsOf, callP, thinL, unfr, unfr.unfrL, PV.noMem, PV.noMem.noMemL, optI, mapO, norm, trimT, trimB, forget, hasN, blksLt, List.set, c1, c2, c3]
  rw [if_pos (by omega)]
  have hb := hb (by omega)
  have H := loop_foldE (body := evCode (evC Dg) 1000010 c20b0) (keep := [1, 5, 8, 9, 10, 30, 31, 32]) (n0 := 2) (fuel := 1000010) l (S20 x l name F T) (stP name T) (fun _ u => F ≤ u.2.2 ∧ u.2.2 ≤ T ∧ -1000000000000000 ≤ u.2.1 ∧ u.2.1 ≤ 1000000000000000)
    (by
      rintro k a ⟨Z, v, f⟩ ha hk ⟨i1, i2, i3, i4⟩
      simp only at i1 i2 i3 i4
      have hk' : (k : Int) < l.length := by omega
      have g1 := map_get (f := row) ha
      have g2 := sp_got ha
      obtain ⟨r1, r2, r3, r4⟩ := hr a (List.mem_of_getElem? ha)
      have w1 := wrap_i64 ((k : Int) + 1) (by omega) (by omega)
      obtain ⟨a1, a2, a3⟩ := a
      simp only [row] at g1 g2
      simp only at r1 r2 r3 r4
      unfold stP
      simp only
      by_cases d1 : a1 = name
      · subst d1
        by_cases d2 : a2 < T
        · rw [if_pos ⟨rfl, d2⟩]
          have d2' : ¬ T ≤ a2 := by omega
          by_cases d3 : f < a2
          · rw [if_pos d3]
            refine ⟨⟨by simp only; omega, by simp only; omega, by simp only; omega, by simp only; omega⟩, ?_⟩
            have h32 := f32 Z v (a2 - f) (by omega) (by omega) (by omega) (by omega)
            have w2 : IntKind.i64.wrap (a2 - f) = a2 - f := wrap_i64 _ (by omega) (by omega)
            unfold S20 eZ
            unfold eZ at h32
            generalize (Z + v * (a2 - f)) / 18446744073709551616 % 18446744073709551616 = s1 at *
            generalize (Z + v * (a2 - f)) % 18446744073709551616 = s0 at *
            generalize Z / 18446744073709551616 % 18446744073709551616 = z1 at *
            generalize Z % 18446744073709551616 = z0 at *
            unfold c20b0
            simp [evCode, evOps, evOne, evOp, evPur, evEff, evPur.chunks, fillP, AOp.isEff, AO.ev, putP, PV.cells, PV.leaf, getB, getM, mapE, keyC, mapRows, mfind, eq1, eqL, scal, binP, unP, minP, maxP, foldP, PV.lt, PV.lt.ltL, endP, expoAll, expo, expo.expoL, frIds, frIds.frIdsL, nodupN, kill, cls, clsFuel, resO, RV.get, loadP, evC_p, evC_s, endS, endT, rowsOf, callP, thinL, unfr, unfr.unfrL, PV.noMem, PV.noMem.noMemL, optI, mapO, norm, trimT, trimB, forget, hasN, blksLt, List.set, eSp, el, hk', hk, g1, g2, w1, w2, d2', d3, h32]
          · rw [if_neg d3]
            refine ⟨⟨i1, i2, by simp only; omega, by simp only; omega⟩, ?_⟩
            unfold S20 eZ
            generalize Z / 18446744073709551616 % 18446744073709551616 = z1 at *
            generalize Z % 18446744073709551616 = z0 at *
            unfold c20b0
            simp [evCode, evOps, evOne, evOp, evPur, evEff, evPur.chunks, fillP, AOp.isEff, AO.ev, putP, PV.cells, PV.leaf, getB, getM, mapE, keyC, mapRows, mfind, eq1, eqL, scal, binP, unP, minP, maxP, foldP, PV.lt, PV.lt.ltL, endP, expoAll, expo, expo.expoL, frIds, frIds.frIdsL, nodupN, kill, cls, clsFuel, resO, RV.get, loadP, evC_p, evC_s, endS, endT, rowsOf, callP, thinL, unfr, unfr.unfrL, PV.noMem, PV.noMem.noMemL, optI, mapO, norm, trimT, trimB, forget, hasN, blksLt, List.set, eSp, el, hk', hk, g1, g2, w1, d2', d3]
        · rw [if_neg (fun h => d2 h.2)]
          have d2' : T ≤ a2 := by omega
          refine ⟨⟨i1, i2, i3, i4⟩, ?_⟩
          unfold S20 eZ
          generalize Z / 18446744073709551616 % 18446744073709551616 = z1 at *
          generalize Z % 18446744073709551616 = z0 at *
          unfold c20b0
          simp [evCode, evOps, evOne, evOp, evPur, evEff, evPur.chunks, fillP, AOp.isEff, AO.ev, putP, PV.cells, PV.leaf, getB, getM, mapE, keyC, mapRows, mfind, eq1, eqL, scal, binP, unP, minP, maxP, foldP, PV.lt, PV.lt.ltL, endP, expoAll, expo, expo.expoL, frIds, frIds.frIdsL, nodupN, kill, cls, clsFuel, resO, RV.get, loadP, evC_p, evC_s, endS, endT, rowsOf, callP, thinL, unfr, unfr.unfrL, PV.noMem, PV.noMem.noMemL, optI, mapO, norm, trimT, trimB, forget, hasN, blksLt, List.set, eSp, el, hk', hk, g1, g2, w1, d2']
      · rw [if_neg (fun h => d1 h.1)]
        refine ⟨⟨i1, i2, i3, i4⟩, ?_⟩
        unfold S20 eZ
        generalize Z / 18446744073709551616 % 18446744073709551616 = z1 at *
        generalize Z % 18446744073709551616 = z0 at *
        unfold c20b0
        simp [evCode, evOps, evOne, evOp, evPur, evEff, evPur.chunks, fillP, AOp.isEff, AO.ev, putP, PV.cells, PV.leaf, getB, getM, mapE, keyC, mapRows, mfind, eq1, eqL, scal, binP, unP, minP, maxP, foldP, PV.lt, PV.lt.ltL, endP, expoAll, expo, expo.expoL, frIds, frIds.frIdsL, nodupN, kill, cls, clsFuel, resO, RV.get, loadP, evC_p, evC_s, endS, endT, rowsOf, callP, thinL, unfr, unfr.unfrL, PV.noMem, PV.noMem.noMemL, optI, mapO, norm, trimT, trimB, forget, hasN, blksLt, List.set, eSp, el, hk', hk, g1, g2, w1, d1])
    (by
      intro u _ s
      unfold c20b0
      simp [evCode, evOps, evOne, evOp, evPur, evEff, evPur.chunks, fillP, AOp.isEff, AO.ev, putP, PV.cells, PV.leaf, getB, getM, mapE, keyC, mapRows, mfind, eq1, eqL, scal, binP, unP, minP, maxP, foldP, PV.lt, PV.lt.ltL, endP, expoAll, expo, expo.expoL, frIds, frIds.frIdsL, nodupN, kill, cls, clsFuel, resO, RV.get, loadP, evC_p, evC_s, endS, endT, rowsOf, callP, thinL, unfr, unfr.unfrL, PV.noMem, PV.noMem.noMemL, optI, mapO, norm, trimT, trimB, forget, hasN, blksLt, List.set, S20, eSp, el])
    (by omega) (0, 0, F) ⟨by simp only; omega, by simp only; omega, by simp only; omega, by simp only; omega⟩
  refine evE_intro 1000010 D20 rfl ?_
  unfold c20
  simp [evCode, evOps, evOne, evOp, evPur, evEff, evPur.chunks, fillP, AOp.isEff, AO.ev, putP, PV.cells, PV.leaf, getB, getM, mapE, keyC, mapRows, mfind, eq1, eqL, scal, binP, unP, minP, maxP, foldP, PV.lt, PV.lt.ltL, endP, expoAll, expo, expo.expoL, frIds, frIds.frIdsL, nodupN, kill, cls, clsFuel, resO, RV.get, loadP, evC_p, evC_s, endS, endT, rowsOf, callP, thinL, unfr, unfr.unfrL, PV.noMem, PV.noMem.noMemL, optI, mapO, norm, trimT, trimB, forget, hasN, blksLt, List.set, eSp, el, c1, c2, c3]
  generalize hE : evLoop _ _ _ _ _ = E
  obtain ⟨h, j1, j2, j3, j4⟩ := H _ _ hE (by simp [evCode, evOps, evOne, evOp, evPur, evEff, evPur.chunks, fillP, AOp.isEff, AO.ev, putP, PV.cells, PV.leaf, getB, getM, mapE, keyC, mapRows, mfind, eq1, eqL, scal, binP, unP, minP, maxP, foldP, PV.lt, PV.lt.ltL, endP, expoAll, expo, expo.expoL, frIds, frIds.frIdsL, nodupN, kill, cls, clsFuel, resO, RV.get, loadP, evC_p, evC_s, endS, endT, rowsOf, callP, thinL, unfr, unfr.unfrL, PV.noMem, PV.noMem.noMemL, optI, mapO, norm, trimT, trimB, forget, hasN, blksLt, List.set, S20, eSp, eZ])
  rw [h]
  unfold itg finP at hb ⊢
  generalize List.foldl (stP name T) (0, 0, F) l = u at *
  obtain ⟨Z, v, f⟩ := u
  simp only at j1 j2 j3 j4 hb ⊢
  have h32 := f32 Z v (T - f) (by omega) (by omega) (by omega) (by omega)
  have h33 := f33 (Z + v * (T - f)) hb.1 hb.2
  have w2 : IntKind.i64.wrap (T - f) = T - f := wrap_i64 _ (by omega) (by omega)
  obtain ⟨r1, r2, hr2⟩ : ∃ a b, inR (Z + v * (T - f)) = .tup [a, b] ∧ (PV.lt 0 a = true ∧ PV.lt 0 b = true) := by
    unfold inR; split <;> exact ⟨_, _, rfl, rfl, rfl⟩
  unfold S20 eZ
  unfold eZ at h32 h33
  unfold inR at h33 ⊢
  generalize (Z + v * (T - f)) / 18446744073709551616 % 18446744073709551616 = s1 at *
  generalize (Z + v * (T - f)) % 18446744073709551616 = s0 at *
  generalize Z / 18446744073709551616 % 18446744073709551616 = z1 at *
  generalize Z % 18446744073709551616 = z0 at *
  clear hr2
  by_cases c : -1000000000000000 ≤ Z + v * (T - f) ∧ Z + v * (T - f) ≤ 1000000000000000
  · rw [if_pos c] at h33 ⊢
    generalize Z + v * (T - f) = z at *
    unfold c20b0 c20r0
    simp [evCode, evOps, evOne, evOp, evPur, evEff, evPur.chunks, fillP, AOp.isEff, AO.ev, putP, PV.cells, PV.leaf, getB, getM, mapE, keyC, mapRows, mfind, eq1, eqL, scal, binP, unP, minP, maxP, foldP, PV.lt, PV.lt.ltL, endP, expoAll, expo, expo.expoL, frIds, frIds.frIdsL, nodupN, kill, cls, clsFuel, resO, RV.get, loadP, evC_p, evC_s, endS, endT, rowsOf, callP, thinL, unfr, unfr.unfrL, PV.noMem, PV.noMem.noMemL, optI, mapO, norm, trimT, trimB, forget, hasN, blksLt, List.set, eSp, el, w2, h32, h33]
  · rw [if_neg c] at h33 ⊢
    unfold c20b0 c20r0
    simp [evCode, evOps, evOne, evOp, evPur, evEff, evPur.chunks, fillP, AOp.isEff, AO.ev, putP, PV.cells, PV.leaf, getB, getM, mapE, keyC, mapRows, mfind, eq1, eqL, scal, binP, unP, minP, maxP, foldP, PV.lt, PV.lt.ltL, endP, expoAll, expo, expo.expoL, frIds, frIds.frIdsL, nodupN, kill, cls, clsFuel, resO, RV.get, loadP, evC_p, evC_s, endS, endT, rowsOf, callP, thinL, unfr, unfr.unfrL, PV.noMem, PV.noMem.noMemL, optI, mapO, norm, trimT, trimB, forget, hasN, blksLt, List.set, eSp, el, w2, h32, h33]
end Go.Proofs.Ytecmcggnpgjbiaa
