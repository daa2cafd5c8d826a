/- slices.insertionSortCmpFunc: upon the caller's own block. -/
import Derived.Test.YtalmhggbdfjalaaStE
namespace Go.Proofs.Ytalmhggbdfjalaa
open Go Go.RowKit
set_option linter.unusedVariables false
set_option linter.unusedSimpArgs false
set_option maxHeartbeats 8000000

def S51i (B : List Rw → Blks) (b v n g : Nat) (a e i : Nat) (x : Nat × List Rw) : St := ⟨[.own b v 0 n, .int .i64 a, .int .i64 e, .fn g [], .top, .top, .top, .top, .int .i64 i, .int .i64 x.1] ++ List.replicate 43 .top, B x.2⟩
/-- the inner loop has come to its end -/
def X51 (B : List Rw → Blks) (b v n g : Nat) (a e i : Nat) (D : List Rw) (o : Out) : Prop := ∃ j z18 z19 z20 z21 z22 z23 z24 z25 z26 z27 z28 z29 z30 z31 z32 z33 z34 z35 z36 z37 z38 z39 z40 z41 z42 z43 z44 z45 z46 z47 z48 z49 z50 z51 z52, o = .exit 2 ⟨[.own b v 0 n, .int .i64 a, .int .i64 e, .fn g [], .top, .top, .top, .top, .int .i64 i, .int .i64 j, .top, .top, .top, .top, .top, .top, .top, .top, z18, z19, z20, z21, z22, z23, z24, z25, z26, z27, z28, z29, z30, z31, z32, z33, z34, z35, z36, z37, z38, z39, z40, z41, z42, z43, z44, z45, z46, z47, z48, z49, z50, z51, z52], B D⟩
set_option maxRecDepth 100000 in
theorem x51a (B : List Rw → Blks) (b v n g a e i : Nat) (D : List Rw) (f : Nat) : ∃ o, evCode (evC Dg) f c51b0 (S51i B b v n g a e i (a, D)) = some o ∧ X51 B b v n g a e i D o := by
  refine ⟨.exit 2 ⟨[.own b v 0 n, .int .i64 a, .int .i64 e, .fn g [], .top, .top, .top, .top, .int .i64 i, .int .i64 a, .top, .top, .top, .top, .top, .top, .top, .top, .int .i64 a, .int .i64 a, .bool false, .bool false, .v (.tuple #[]), .v (.tuple #[]), .v (.tuple #[]), .v (.tuple #[]), .v (.tuple #[]), .v (.tuple #[]), .v (.tuple #[]), .v (.tuple #[]), .v (.tuple #[]), .v (.tuple #[]), .v (.tuple #[]), .v (.tuple #[]), .bool false, .top, .top, .top, .top, .top, .top, .top, .top, .top, .top, .top, .top, .top, .top, .top, .top, .top, .top], B D⟩, ?_, ?_⟩
  · unfold c51b0
    simp [evCode, evOps, evOne, evOp, evPur, evEff, evPur.chunks, fillP, AOp.isEff, AO.ev, putP, PV.cells, PV.leaf, getB, getM, mapE, iterE, keyC, mapRows, mfind, eq1, eqL, scal, binP, unP, minP, maxP, foldP, PV.lt, PV.lt.ltL, endP, expoAll, expoG, expo, expo.expoL, frIds, frIds.frIdsL, nodupN, kill, cls, clsFuel, resO, RV.get, loadP, evC_p, evC_s, endS, endT, rowsOf, callP, thinL, unfr, unfr.unfrL, PV.noMem, PV.noMem.noMemL, optI, mapO, norm, trimT, trimB, forget, hasN, blksLt, List.set, softChk, softGo, softRd, effTg, rdP, S51i]
  · unfold X51
    exact ⟨_, _, _, _, _, _, _, _, _, _, _, _, _, _, _, _, _, _, _, _, _, _, _, _, _, _, _, _, _, _, _, _, _, _, _, _, rfl⟩
set_option maxRecDepth 100000 in
theorem x51b (B : List Rw → Blks) (b v L n g : Nat) (hB : BB B b v L) (hn : n ≤ 1000000) (a e i j : Nat) (haj : a < j) (hj : j < n) (D : List Rw) (hD : GdL D) (hl : n ≤ D.length) (r s : Rw) (e1 : D[j]? = some r) (e2 : D[j - 1]? = some s) (hr : Gd r) (hs : Gd s) (z : Int) (hz : evE Dg g [.agg r, .agg s] = some (.int .i64 z)) (f : Nat) (hz0 : ¬ z < 0) : ∃ o, evCode (evC Dg) f c51b0 (S51i B b v n g a e i (j, D)) = some o ∧ X51 B b v n g a e i D o := by
  obtain ⟨x1, x2, x3, x4, x5, x6, x7, rfl, ⟨m1, m2, m3, m4, m5, m6, m7⟩, l1, l2, l3, l4, l5, l6, l7⟩ := hr
  obtain ⟨y1, y2, y3, y4, y5, y6, y7, rfl, ⟨p1, p2, p3, p4, p5, p6, p7⟩, q1, q2, q3, q4, q5, q6, q7⟩ := hs
  have w1 : IntKind.i64.wrap ((j : Int) - 1) = ((j - 1 : Nat) : Int) := by rw [wrap_i64 _ (by omega) (by omega)]; omega
  have c0 : (a : Int) < j := by omega
  have c1 : (0 : Int) ≤ j := by omega
  have c2 : (0 : Int) ≤ ((j - 1 : Nat) : Int) := by omega
  have c3 : j - 1 < n := by omega
  have n0 : n ≤ D.length := by omega
  have g0 := hB.len
  have g1 := hB.get
  have g2 := hB.set
  have g3 := hB.tk
  have g4 := hB.lt
  have g5 : Nat.blt b L = true := by simpa [Nat.blt_eq] using hB.hb
  have e1' := gE e1
  have e2' := gE e2
  obtain ⟨w, hw⟩ : ∃ w, j - 1 = w := ⟨_, rfl⟩
  rw [hw] at w1 c2 c3 e2 e2'
  clear hD hw
  suffices h : ∃ p22 p25 p30, evCode (evC Dg) f c51b0 (S51i B b v n g a e i (j, D)) = some (.exit 2 ⟨[.own b v 0 n, .int .i64 a, .int .i64 e, .fn g [], .top, .top, .top, .top, .int .i64 i, .int .i64 j, .top, .top, .top, .top, .top, .top, .top, .top, .int .i64 j, .int .i64 a, .bool true, .bool true, p22, .own b v 0 n, .int .i64 j, p25, .agg [x1, x2, x3, x4, x5, x6, x7], .own b v 0 n, .int .i64 j, .int .i64 w, p30, .agg [y1, y2, y3, y4, y5, y6, y7], .int .i64 z, .bool false, .bool false, .top, .top, .top, .top, .top, .top, .top, .top, .top, .top, .top, .top, .top, .top, .top, .top, .top, .top], B D⟩) by
    obtain ⟨p22, p25, p30, h⟩ := h
    refine ⟨_, h, ?_⟩
    unfold X51
    exact ⟨_, _, _, _, _, _, _, _, _, _, _, _, _, _, _, _, _, _, _, _, _, _, _, _, _, _, _, _, _, _, _, _, _, _, _, _, rfl⟩
  refine ⟨.fn g [], .ptr b v j 0, .ptr b v w 0, ?_⟩
  unfold c51b0
  simp [evCode, evOps, evOne, evOp, evPur, evEff, evPur.chunks, fillP, AOp.isEff, AO.ev, putP, PV.cells, PV.leaf, getB, getM, mapE, iterE, keyC, mapRows, mfind, eq1, eqL, scal, binP, unP, minP, maxP, foldP, PV.lt, PV.lt.ltL, endP, expoAll, expoG, expo, expo.expoL, frIds, frIds.frIdsL, nodupN, kill, cls, clsFuel, resO, RV.get, loadP, evC_p, evC_s, endS, endT, rowsOf, callP, thinL, unfr, unfr.unfrL, PV.noMem, PV.noMem.noMemL, optI, mapO, norm, trimT, trimB, forget, hasN, blksLt, List.set, softChk, softGo, softRd, effTg, rdP, S51i, hz0, hz, w1, c0, c1, c2, c3, e1, e2, e1', e2', hj, n0, g0, g1, g2, g3, g4, g5, ↓l1, ↓l2, ↓l3, ↓l4, ↓l5, ↓l6, ↓l7, ↓q1, ↓q2, ↓q3, ↓q4, ↓q5, ↓q6, ↓q7, ↓m1, ↓m2, ↓m3, ↓m4, ↓m5, ↓m6, ↓m7, ↓p1, ↓p2, ↓p3, ↓p4, ↓p5, ↓p6, ↓p7]
set_option maxRecDepth 100000 in
theorem s51in (B : List Rw → Blks) (b v L n g : Nat) (hB : BB B b v L) (hn : n ≤ 1000000) (a e i j : Nat) (haj : a < j) (hj : j < n) (D : List Rw) (hD : GdL D) (hl : n ≤ D.length) (r s : Rw) (e1 : D[j]? = some r) (e2 : D[j - 1]? = some s) (hr : Gd r) (hs : Gd s) (z : Int) (hz : evE Dg g [.agg r, .agg s] = some (.int .i64 z)) (f : Nat) (hz0 : z < 0) : ∃ s', evCode (evC Dg) f c51b0 (S51i B b v n g a e i (j, D)) = some (.normal s') ∧ norm [0, 1, 2, 3, 8, 9] L s' = S51i B b v n g a e i (j - 1, swapAt D j (j - 1)) := by
  have hr' := hr
  have hs' := hs
  obtain ⟨x1, x2, x3, x4, x5, x6, x7, rfl, ⟨m1, m2, m3, m4, m5, m6, m7⟩, l1, l2, l3, l4, l5, l6, l7⟩ := hr
  obtain ⟨y1, y2, y3, y4, y5, y6, y7, rfl, ⟨p1, p2, p3, p4, p5, p6, p7⟩, q1, q2, q3, q4, q5, q6, q7⟩ := hs
  have w1 : IntKind.i64.wrap ((j : Int) - 1) = ((j - 1 : Nat) : Int) := by rw [wrap_i64 _ (by omega) (by omega)]; omega
  have c0 : (a : Int) < j := by omega
  have c1 : (0 : Int) ≤ j := by omega
  have c2 : (0 : Int) ≤ ((j - 1 : Nat) : Int) := by omega
  have c3 : j - 1 < n := by omega
  have n0 : n ≤ D.length := by omega
  have g0 := hB.len
  have g1 := hB.get
  have g2 := hB.set
  have g3 := hB.tk
  have g4 := hB.lt
  have g5 : Nat.blt b L = true := by simpa [Nat.blt_eq] using hB.hb
  have e1' := gE e1
  have e2' := gE e2
  obtain ⟨t, e3, t1, t2, t3, t4, t5, t6, t7, rfl, _, _⟩ := (hD.set (i := j) hs').get (i := j - 1) (by simp; omega)
  have e3' := gE e3
  unfold swapAt
  rw [e1, e2]
  simp only [Option.getD_some]
  obtain ⟨w, hw⟩ : ∃ w, j - 1 = w := ⟨_, rfl⟩
  rw [hw] at w1 c2 c3 e2 e2' e3 e3' ⊢
  clear hD hw hr' hs'
  unfold c51b0
  simp [evCode, evOps, evOne, evOp, evPur, evEff, evPur.chunks, fillP, AOp.isEff, AO.ev, putP, PV.cells, PV.leaf, getB, getM, mapE, iterE, keyC, mapRows, mfind, eq1, eqL, scal, binP, unP, minP, maxP, foldP, PV.lt, PV.lt.ltL, endP, expoAll, expoG, expo, expo.expoL, frIds, frIds.frIdsL, nodupN, kill, cls, clsFuel, resO, RV.get, loadP, evC_p, evC_s, endS, endT, rowsOf, callP, thinL, unfr, unfr.unfrL, PV.noMem, PV.noMem.noMemL, optI, mapO, norm, trimT, trimB, forget, hasN, blksLt, List.set, softChk, softGo, softRd, effTg, rdP, S51i, hz0, hz, w1, c0, c1, c2, c3, e1, e2, e3, e1', e2', e3', hj, n0, g0, g1, g2, g3, g4, g5, ↓l1, ↓l2, ↓l3, ↓l4, ↓l5, ↓l6, ↓l7, ↓q1, ↓q2, ↓q3, ↓q4, ↓q5, ↓q6, ↓q7, ↓m1, ↓m2, ↓m3, ↓m4, ↓m5, ↓m6, ↓m7, ↓p1, ↓p2, ↓p3, ↓p4, ↓p5, ↓p6, ↓p7]
end Go.Proofs.Ytalmhggbdfjalaa
