/- slices.swapRangeCmpFunc, rotateCmpFunc: upon the caller's own block. -/
import Derived.Test.YtalmhggbdfjalaaEvP
import Derived.Test.YtalmhggbdfjalaaStM
namespace Go.Proofs.Ytalmhggbdfjalaa
open Go Go.RowKit
set_option linter.unusedVariables false
set_option linter.unusedSimpArgs false
set_option maxHeartbeats 4000000

abbrev Rw := List PV
/-- a row of seven cells that speak of no block -/
def Gd (r : Rw) : Prop := ∃ x1 x2 x3 x4 x5 x6 x7 : PV, r = [x1, x2, x3, x4, x5, x6, x7] ∧ (PV.leaf x1 = true ∧ PV.leaf x2 = true ∧ PV.leaf x3 = true ∧ PV.leaf x4 = true ∧ PV.leaf x5 = true ∧ PV.leaf x6 = true ∧ PV.leaf x7 = true) ∧
  (PV.lt 0 x1 = true ∧ PV.lt 0 x2 = true ∧ PV.lt 0 x3 = true ∧ PV.lt 0 x4 = true ∧ PV.lt 0 x5 = true ∧ PV.lt 0 x6 = true ∧ PV.lt 0 x7 = true)
def GdL (D : List Rw) : Prop := ∀ r ∈ D, Gd r
/-- the caller's blocks, one of them open -/
structure BB (B : List Rw → Blks) (b v L : Nat) : Prop where
  len : ∀ D, (B D).length = L
  get : ∀ D, (B D)[b]? = some (some ⟨v, 7, true, D⟩)
  set : ∀ D E, (B D).set b (some ⟨v, 7, true, E⟩) = B E
  tk : ∀ D, (B D).take L = B D
  lt : ∀ D, blksLt L (B D) = true
  hb : b < L
def swapAt (D : List Rw) (i j : Nat) : List Rw := (D.set i (D[j]?.getD [])).set j (D[i]?.getD [])
theorem swapAt_len (D : List Rw) (i j : Nat) : (swapAt D i j).length = D.length := by simp [swapAt]
theorem GdL.set {D : List Rw} (h : GdL D) {i : Nat} {r : Rw} (hr : Gd r) : GdL (D.set i r) := fun x hx => by
  rcases List.mem_or_eq_of_mem_set hx with h1 | h1
  · exact h x h1
  · rw [h1]; exact hr
theorem GdL.get {D : List Rw} (h : GdL D) {i : Nat} (hi : i < D.length) : ∃ r, D[i]? = some r ∧ Gd r := ⟨D[i], List.getElem?_eq_getElem hi, h _ (List.getElem_mem hi)⟩
theorem swapAt_gd {D : List Rw} (h : GdL D) {i j : Nat} (hi : i < D.length) (hj : j < D.length) : GdL (swapAt D i j) := by
  obtain ⟨r, e1, h1⟩ := h.get hi
  obtain ⟨s, e2, h2⟩ := h.get hj
  unfold swapAt
  rw [e1, e2]
  exact (h.set h2).set h1
def swN (D : List Rw) (a c k : Nat) : List Rw := (List.range k).foldl (fun o i => swapAt o (a + i) (c + i)) D
def S71 (B : List Rw → Blks) (b v n : Nat) (a c k : Nat) (i : Nat) (D : List Rw) : St := ⟨[.own b v 0 n, .int .i64 a, .int .i64 c, .int .i64 k, .top, .top, .top, .top, .top, .top, .int .i64 i] ++ List.replicate 27 .top, B D⟩
set_option maxRecDepth 100000 in
theorem step71 (B : List Rw → Blks) (b v L n : Nat) (hB : BB B b v L) (a c k i : Nat) (hn : n ≤ 1000000) (hik : i < k) (ha : a + k ≤ n) (hc : c + k ≤ n) (D : List Rw) (hD : GdL D) (hl : n ≤ D.length) (f : Nat) :
    ∃ s', evCode (evC Dg) f c71b0 (S71 B b v n a c k i D) = some (.normal s') ∧ norm [0, 1, 2, 3, 10] L s' = S71 B b v n a c k (i + 1) (swapAt D (a + i) (c + i)) := by
  obtain ⟨r, e1, h1⟩ := hD.get (i := a + i) (by omega)
  obtain ⟨s, e2, h2⟩ := hD.get (i := c + i) (by omega)
  unfold swapAt
  rw [e1, e2]
  obtain ⟨x1, x2, x3, x4, x5, x6, x7, rfl, ⟨m1, m2, m3, m4, m5, m6, m7⟩, l1, l2, l3, l4, l5, l6, l7⟩ := h1
  obtain ⟨y1, y2, y3, y4, y5, y6, y7, rfl, ⟨p1, p2, p3, p4, p5, p6, p7⟩, q1, q2, q3, q4, q5, q6, q7⟩ := h2
  have hD2 : GdL (D.set (a + i) [y1, y2, y3, y4, y5, y6, y7]) := hD.set ⟨y1, y2, y3, y4, y5, y6, y7, rfl, ⟨p1, p2, p3, p4, p5, p6, p7⟩, q1, q2, q3, q4, q5, q6, q7⟩
  obtain ⟨t, e3, z1, z2, z3, z4, z5, z6, z7, rfl, _, _⟩ := hD2.get (i := c + i) (by simp; omega)
  simp only [Option.getD_some]
  have w1 : IntKind.i64.wrap ((a : Int) + i) = ((a + i : Nat) : Int) := by rw [wrap_i64 _ (by omega) (by omega)]; omega
  have w2 : IntKind.i64.wrap ((c : Int) + i) = ((c + i : Nat) : Int) := by rw [wrap_i64 _ (by omega) (by omega)]; omega
  have w3 : IntKind.i64.wrap ((i : Int) + 1) = ((i + 1 : Nat) : Int) := by rw [wrap_i64 _ (by omega) (by omega)]; omega
  have hik' : (i : Int) < k := by omega
  obtain ⟨p, hp⟩ : ∃ p, a + i = p := ⟨_, rfl⟩
  obtain ⟨q, hq⟩ : ∃ q, c + i = q := ⟨_, rfl⟩
  obtain ⟨j, hj⟩ : ∃ j, i + 1 = j := ⟨_, rfl⟩
  rw [hp] at w1 e1 e3
  rw [hq] at w2 e2 e3
  rw [hj] at w3
  rw [hp, hq, hj]
  have gE : ∀ {D : List Rw} {i : Nat} {r : Rw}, D[i]? = some r → ∀ g, D[i]'g = r := fun h g => by
    rw [List.getElem?_eq_getElem g] at h
    exact Option.some.inj h
  have e1' := gE e1
  have e2' := gE e2
  have e3' := gE e3
  have hpn : p < n := by omega
  have hqn : q < n := by omega
  have c1 : (0 : Int) ≤ p := by omega
  have c2 : (0 : Int) ≤ q := by omega
  have g0 := hB.len
  have g1 := hB.get
  have g2 := hB.set
  have g3 := hB.tk
  have g4 := hB.lt
  have g5 : Nat.blt b L = true := by simpa [Nat.blt_eq] using hB.hb
  have n0 : n ≤ D.length := by omega
  clear hp hq hj ha hc hik hD hD2
  unfold c71b0
  simp [evCode, evOps, evOne, evOp, evPur, evEff, evPur.chunks, fillP, AOp.isEff, AO.ev, putP, PV.cells, PV.leaf, getB, getM, mapE, iterE, keyC, mapRows, mfind, eq1, eqL, scal, binP, unP, minP, maxP, foldP, PV.lt, PV.lt.ltL, endP, expoAll, expoG, expo, expo.expoL, frIds, frIds.frIdsL, nodupN, kill, cls, clsFuel, resO, RV.get, loadP, evC_p, evC_s, endS, endT, rowsOf, callP, thinL, unfr, unfr.unfrL, PV.noMem, PV.noMem.noMemL, optI, mapO, norm, trimT, trimB, forget, hasN, blksLt, List.set, softChk, softGo, softRd, effTg, rdP, S71, hik', w1, w2, w3, e1, e2, e3, e1', e2', e3', hpn, hqn, c1, c2, g0, g1, g2, g3, g4, g5, n0, ↓l1, ↓l2, ↓l3, ↓l4, ↓l5, ↓l6, ↓l7, ↓q1, ↓q2, ↓q3, ↓q4, ↓q5, ↓q6, ↓q7, ↓m1, ↓m2, ↓m3, ↓m4, ↓m5, ↓m6, ↓m7, ↓p1, ↓p2, ↓p3, ↓p4, ↓p5, ↓p6, ↓p7]
theorem swN_succ (D : List Rw) (a c k : Nat) : swN D a c (k + 1) = swapAt (swN D a c k) (a + k) (c + k) := by
  unfold swN
  rw [List.range_succ, List.foldl_append]
  rfl
theorem swN_len (D : List Rw) (a c : Nat) : ∀ k, (swN D a c k).length = D.length
  | 0 => rfl
  | k + 1 => by rw [swN_succ, swapAt_len, swN_len D a c k]
theorem swN_gd {D : List Rw} (h : GdL D) (a c : Nat) : ∀ k, a + k ≤ D.length → c + k ≤ D.length → GdL (swN D a c k)
  | 0, _, _ => h
  | k + 1, h1, h2 => by
    rw [swN_succ]
    exact swapAt_gd (swN_gd h a c k (by omega) (by omega)) (by rw [swN_len]; omega) (by rw [swN_len]; omega)
set_option maxRecDepth 100000 in
theorem s71 (B : List Rw → Blks) (b v L n : Nat) (hB : BB B b v L) (a c k : Nat) (hn : n ≤ 1000000) (ha : a + k ≤ n) (hc : c + k ≤ n) (D : List Rw) (hD : GdL D) (hl : n ≤ D.length) (g : Nat) :
    evS Dg 71 [.own b v 0 n, .int .i64 a, .int .i64 c, .int .i64 k, .fn g []] (B D) = some (.tup [], B (swN D a c k)) := by
  have g0 := hB.len
  have g1 := hB.get
  have g3 := hB.tk
  have g4 := hB.lt
  have g5 : Nat.blt b L = true := by simpa [Nat.blt_eq] using hB.hb
  have H := fun (s0 : St) (E : Option Out) => loop_foldE (body := evCode (evC Dg) (k + 2) c71b0) (keep := [0, 1, 2, 3, 10]) (n0 := L) (fuel := k + 2) (List.range k) (S71 B b v n a c k) (fun o i => swapAt o (a + i) (c + i)) (fun _ o => GdL o ∧ n ≤ o.length) (by
      intro i j o hij hi hI
      rw [List.length_range] at hi
      rw [List.getElem?_range hi] at hij
      obtain rfl := Option.some.inj hij
      obtain ⟨h1, h2⟩ := hI
      refine ⟨⟨swapAt_gd h1 (by omega) (by omega), by rw [swapAt_len]; exact h2⟩, ?_⟩
      exact step71 B b v L n hB a c k i hn hi ha hc o h1 h2 (k + 2)) (by
      intro o _ s
      rw [List.length_range]
      unfold c71b0
      simp [evCode, evOps, evOne, evOp, evPur, evEff, evPur.chunks, fillP, AOp.isEff, AO.ev, putP, PV.cells, PV.leaf, getB, getM, mapE, iterE, keyC, mapRows, mfind, eq1, eqL, scal, binP, unP, minP, maxP, foldP, PV.lt, PV.lt.ltL, endP, expoAll, expoG, expo, expo.expoL, frIds, frIds.frIdsL, nodupN, kill, cls, clsFuel, resO, RV.get, loadP, evC_p, evC_s, endS, endT, rowsOf, callP, thinL, unfr, unfr.unfrL, PV.noMem, PV.noMem.noMemL, optI, mapO, norm, trimT, trimB, forget, hasN, blksLt, List.set, softChk, softGo, softRd, effTg, rdP, S71]) (by rw [List.length_range]; omega) D ⟨hD, hl⟩ s0 E
  refine evS_intro (k + 2) D71 rfl ?_
  unfold c71
  simp [evCode, evOps, evOne, evOp, evPur, evEff, evPur.chunks, fillP, AOp.isEff, AO.ev, putP, PV.cells, PV.leaf, getB, getM, mapE, iterE, keyC, mapRows, mfind, eq1, eqL, scal, binP, unP, minP, maxP, foldP, PV.lt, PV.lt.ltL, endP, expoAll, expoG, expo, expo.expoL, frIds, frIds.frIdsL, nodupN, kill, cls, clsFuel, resO, RV.get, loadP, evC_p, evC_s, endS, endT, rowsOf, callP, thinL, unfr, unfr.unfrL, PV.noMem, PV.noMem.noMemL, optI, mapO, norm, trimT, trimB, forget, hasN, blksLt, List.set, softChk, softGo, softRd, effTg, rdP]
  rw [g0]
  generalize hE : evLoop (evCode (evC Dg) (k + 2) c71b0) [0, 1, 2, 3, 10] L (k + 2) _ = E
  obtain ⟨h, -⟩ := H _ E hE (by simp [evCode, evOps, evOne, evOp, evPur, evEff, evPur.chunks, fillP, AOp.isEff, AO.ev, putP, PV.cells, PV.leaf, getB, getM, mapE, iterE, keyC, mapRows, mfind, eq1, eqL, scal, binP, unP, minP, maxP, foldP, PV.lt, PV.lt.ltL, endP, expoAll, expoG, expo, expo.expoL, frIds, frIds.frIdsL, nodupN, kill, cls, clsFuel, resO, RV.get, loadP, evC_p, evC_s, endS, endT, rowsOf, callP, thinL, unfr, unfr.unfrL, PV.noMem, PV.noMem.noMemL, optI, mapO, norm, trimT, trimB, forget, hasN, blksLt, List.set, softChk, softGo, softRd, effTg, rdP, S71, g0, g3, g4, g5])
  rw [h]
  rw [List.length_range]
  have e : (List.range k).foldl (fun o i => swapAt o (a + i) (c + i)) D = swN D a c k := rfl
  rw [e]
  generalize swN D a c k = D2
  unfold c71b0
  simp [evCode, evOps, evOne, evOp, evPur, evEff, evPur.chunks, fillP, AOp.isEff, AO.ev, putP, PV.cells, PV.leaf, getB, getM, mapE, iterE, keyC, mapRows, mfind, eq1, eqL, scal, binP, unP, minP, maxP, foldP, PV.lt, PV.lt.ltL, endP, expoAll, expoG, expo, expo.expoL, frIds, frIds.frIdsL, nodupN, kill, cls, clsFuel, resO, RV.get, loadP, evC_p, evC_s, endS, endT, rowsOf, callP, thinL, unfr, unfr.unfrL, PV.noMem, PV.noMem.noMemL, optI, mapO, norm, trimT, trimB, forget, hasN, blksLt, List.set, softChk, softGo, softRd, effTg, rdP, S71, g0, g3, g4, g5]
/-- the pieces change places -/
theorem swapAt_app (U V W : List Rw) (x z : Rw) : swapAt (U ++ x :: (V ++ z :: W)) U.length (U.length + 1 + V.length) = U ++ z :: (V ++ x :: W) := by
  have e1 : (U ++ x :: (V ++ z :: W))[U.length]? = some x := by simp
  have e2 : (U ++ x :: (V ++ z :: W))[U.length + 1 + V.length]? = some z := by
    rw [List.getElem?_append_right (by omega), show U.length + 1 + V.length - U.length = V.length + 1 by omega, List.getElem?_cons_succ, List.getElem?_append_right (Nat.le_refl _)]
    simp
  unfold swapAt
  rw [e1, e2]
  simp only [Option.getD_some]
  rw [List.set_append_right _ _ (Nat.le_refl _), Nat.sub_self, List.set_cons_zero, List.set_append_right _ _ (by omega), show U.length + 1 + V.length - U.length = V.length + 1 by omega, List.set_cons_succ, List.set_append_right _ _ (Nat.le_refl _), Nat.sub_self, List.set_cons_zero]
theorem swN_app (P : List Rw) : ∀ (k : Nat) (X Y Z W : List Rw), X.length = k → Z.length = k → swN (P ++ X ++ Y ++ Z ++ W) P.length (P.length + k + Y.length) k = P ++ Z ++ Y ++ X ++ W
  | 0, X, Y, Z, W, hX, hZ => by
    rw [List.length_eq_zero_iff.1 hX, List.length_eq_zero_iff.1 hZ]
    rfl
  | k + 1, X, Y, Z, W, hX, hZ => by
    have hX0 : X ≠ [] := by rintro rfl; simp at hX
    have hZ0 : Z ≠ [] := by rintro rfl; simp at hZ
    obtain ⟨X1, x, rfl⟩ : ∃ X1 x, X = X1 ++ [x] := ⟨_, _, (List.dropLast_concat_getLast hX0).symm⟩
    obtain ⟨Z1, z, rfl⟩ : ∃ Z1 z, Z = Z1 ++ [z] := ⟨_, _, (List.dropLast_concat_getLast hZ0).symm⟩
    have h1 : X1.length = k := by simpa using hX
    have h2 : Z1.length = k := by simpa using hZ
    have ih := swN_app P k X1 (x :: Y) Z1 (z :: W) h1 h2
    have e : P ++ (X1 ++ [x]) ++ Y ++ (Z1 ++ [z]) ++ W = P ++ X1 ++ (x :: Y) ++ Z1 ++ (z :: W) := by simp
    have ec : P.length + (k + 1) + Y.length = P.length + k + (x :: Y).length := by simp; omega
    rw [swN_succ, e, ec, ih]
    have e3 : P ++ Z1 ++ (x :: Y) ++ X1 ++ (z :: W) = (P ++ Z1) ++ x :: ((Y ++ X1) ++ z :: W) := by simp
    have e4 : P.length + k = (P ++ Z1).length := by simp [h2]
    have e5 : P.length + k + (x :: Y).length + k = (P ++ Z1).length + 1 + (Y ++ X1).length := by simp [h1, h2]; omega
    rw [e5, e4, e3, swapAt_app]
    simp
end Go.Proofs.Ytalmhggbdfjalaa
