/- slices.rotateCmpFunc: two neighbouring pieces change places. -/
import Derived.Test.YtalmhggbdfjalaaStA
namespace Go.Proofs.Ytalmhggbdfjalaa
open Go Go.RowKit
set_option linter.unusedVariables false
set_option linter.unusedSimpArgs false
set_option maxHeartbeats 4000000

def S65 (B : List Rw → Blks) (b v n g m : Nat) (x : Nat × Nat × List Rw) : St := ⟨[.own b v 0 n, .top, .int .i64 m, .top, .fn g [], .top, .top, .top, .top, .top, .int .i64 x.1, .int .i64 x.2.1] ++ List.replicate 46 .top, B x.2.2⟩
/-- what remains to be done -/
def I65 (n m : Nat) (G : List Rw) (x : Nat × Nat × List Rw) : Prop := GdL x.2.2 ∧ n ≤ x.2.2.length ∧ m + x.2.1 ≤ n ∧ 0 < x.1 ∧ 0 < x.2.1 ∧ ∃ P U V Q, x.2.2 = P ++ U ++ V ++ Q ∧ P.length + x.1 = m ∧ U.length = x.1 ∧ V.length = x.2.1 ∧ P ++ V ++ U ++ Q = G
def R65 (B : List Rw → Blks) (b v n g m : Nat) (G : List Rw) (o : Out) : Prop := ∃ i D, I65 n m G (i, i, D) ∧ o = .exit 0 ⟨[.own b v 0 n, .top, .int .i64 m, .top, .fn g [], .top, .top, .top, .top, .top, .int .i64 i, .int .i64 i, .top, .top, .top, .top, .top, .top, .int .i64 i, .int .i64 i, .bool false] ++ List.replicate 37 .top, B D⟩
set_option maxRecDepth 100000 in
theorem step65 (B : List Rw → Blks) (b v L n g m : Nat) (hB : BB B b v L) (hn : n ≤ 1000000) (G : List Rw) (f : Nat) (x : Nat × Nat × List Rw) (hI : I65 n m G x) :
    (∃ x' s', evCode (evC Dg) f c65b0 (S65 B b v n g m x) = some (.normal s') ∧ norm [0, 2, 4, 10, 11] L s' = S65 B b v n g m x' ∧ I65 n m G x' ∧ x'.1 + x'.2.1 < x.1 + x.2.1) ∨ ∃ o, evCode (evC Dg) f c65b0 (S65 B b v n g m x) = some o ∧ (∀ s, o ≠ .normal s) ∧ R65 B b v n g m G o := by
  obtain ⟨i, j, D⟩ := x
  obtain ⟨hD, hl, hmj, hi, hj, P, U, V, Q, hDe, hP, hU, hV, hG⟩ := hI
  simp only at hD hl hmj hi hj hDe hP hU hV
  have hlen : P.length + U.length + V.length ≤ n := by omega
  have hle2 : P.length + U.length + V.length + Q.length = D.length := by rw [hDe]; simp; omega
  have g0 := hB.len
  have g3 := hB.tk
  have g4 := hB.lt
  have g5 : Nat.blt b L = true := by simpa [Nat.blt_eq] using hB.hb
  have w1 : IntKind.i64.wrap ((m : Int) - i) = ((m - i : Nat) : Int) := by rw [wrap_i64 _ (by omega) (by omega)]; omega
  by_cases hij : i = j
  · subst hij
    right
    refine ⟨_, ?_, ?_, i, D, ⟨hD, hl, hmj, hi, hj, P, U, V, Q, hDe, hP, hU, hV, hG⟩, rfl⟩
    · unfold c65b0
      simp [evCode, evOps, evOne, evOp, evPur, evEff, evPur.chunks, fillP, AOp.isEff, AO.ev, putP, PV.cells, PV.leaf, getB, getM, mapE, iterE, keyC, mapRows, mfind, eq1, eqL, scal, binP, unP, minP, maxP, foldP, PV.lt, PV.lt.ltL, endP, expoAll, expoG, expo, expo.expoL, frIds, frIds.frIdsL, nodupN, kill, cls, clsFuel, resO, RV.get, loadP, evC_p, evC_s, endS, endT, rowsOf, callP, thinL, unfr, unfr.unfrL, PV.noMem, PV.noMem.noMemL, optI, mapO, norm, trimT, trimB, forget, hasN, blksLt, List.set, softChk, softGo, softRd, effTg, rdP, S65]
    · intro s h; cases h
  · left
    by_cases hlt : j < i
    · have hsw := s71 B b v L n hB (m - i) m j hn (by omega) (by omega) D hD hl g
      have hU1 : (U.take j).length = j := by rw [List.length_take]; omega
      have hU2 : (U.drop j).length = i - j := by rw [List.length_drop]; omega
      have e := swN_app P j (U.take j) (U.drop j) V Q hU1 hV
      have eD : P ++ U.take j ++ U.drop j ++ V ++ Q = D := by rw [hDe, List.append_assoc P, List.take_append_drop]
      rw [eD, hU2, show P.length + j + (i - j) = m by omega, show P.length = m - i by omega] at e
      refine ⟨(i - j, j, swN D (m - i) m j), ?_⟩
      have J : I65 n m G (i - j, j, swN D (m - i) m j) := by
        refine ⟨swN_gd hD _ _ _ (by omega) (by omega), by simp only; rw [swN_len]; exact hl, hmj, by simp only; omega, hj, P ++ V, U.drop j, U.take j, Q, e, by simp only [List.length_append]; omega, hU2, hU1, ?_⟩
        rw [← hG, List.append_assoc (P ++ V), List.take_append_drop]
      suffices h : ∃ s', evCode (evC Dg) f c65b0 (S65 B b v n g m (i, j, D)) = some (.normal s') ∧ norm [0, 2, 4, 10, 11] L s' = S65 B b v n g m (i - j, j, swN D (m - i) m j) by
        obtain ⟨s', x1, x2⟩ := h
        exact ⟨s', x1, x2, J, by simp only; omega⟩
      clear J e eD
      generalize swN D (m - i) m j = D2 at *
      have w2 : IntKind.i64.wrap ((i : Int) - j) = ((i - j : Nat) : Int) := by rw [wrap_i64 _ (by omega) (by omega)]; omega
      have c1 : (j : Int) < i := by omega
      have c2 : ¬ (i : Int) = j := by omega
      generalize m - i = p at *
      generalize i - j = q at *
      unfold c65b0
      simp [evCode, evOps, evOne, evOp, evPur, evEff, evPur.chunks, fillP, AOp.isEff, AO.ev, putP, PV.cells, PV.leaf, getB, getM, mapE, iterE, keyC, mapRows, mfind, eq1, eqL, scal, binP, unP, minP, maxP, foldP, PV.lt, PV.lt.ltL, endP, expoAll, expoG, expo, expo.expoL, frIds, frIds.frIdsL, nodupN, kill, cls, clsFuel, resO, RV.get, loadP, evC_p, evC_s, endS, endT, rowsOf, callP, thinL, unfr, unfr.unfrL, PV.noMem, PV.noMem.noMemL, optI, mapO, norm, trimT, trimB, forget, hasN, blksLt, List.set, softChk, softGo, softRd, effTg, rdP, S65, hij, c1, c2, w1, w2, hsw, g0, g3, g4, g5]
    · have hlt' : i < j := by omega
      have hsw := s71 B b v L n hB (m - i) (m + j - i) i hn (by omega) (by omega) D hD hl g
      have hV1 : (V.take (j - i)).length = j - i := by rw [List.length_take]; omega
      have hV2 : (V.drop (j - i)).length = i := by rw [List.length_drop]; omega
      have e := swN_app P i U (V.take (j - i)) (V.drop (j - i)) Q hU hV2
      have eD : P ++ U ++ V.take (j - i) ++ V.drop (j - i) ++ Q = D := by rw [hDe, List.append_assoc (P ++ U), List.take_append_drop]
      rw [eD, hV1, show P.length + i + (j - i) = m + j - i by omega, show P.length = m - i by omega] at e
      refine ⟨(i, j - i, swN D (m - i) (m + j - i) i), ?_⟩
      have J : I65 n m G (i, j - i, swN D (m - i) (m + j - i) i) := by
        refine ⟨swN_gd hD _ _ _ (by omega) (by omega), by simp only; rw [swN_len]; exact hl, by simp only; omega, hi, by simp only; omega, P, V.drop (j - i), V.take (j - i), U ++ Q, by rw [e, List.append_assoc], hP, hV2, hV1, ?_⟩
        rw [← hG, ← List.append_assoc, List.append_assoc P, List.take_append_drop]
      suffices h : ∃ s', evCode (evC Dg) f c65b0 (S65 B b v n g m (i, j, D)) = some (.normal s') ∧ norm [0, 2, 4, 10, 11] L s' = S65 B b v n g m (i, j - i, swN D (m - i) (m + j - i) i) by
        obtain ⟨s', x1, x2⟩ := h
        exact ⟨s', x1, x2, J, by simp only; omega⟩
      clear J e eD
      generalize swN D (m - i) (m + j - i) i = D2 at *
      have w2 : IntKind.i64.wrap ((j : Int) - i) = ((j - i : Nat) : Int) := by rw [wrap_i64 _ (by omega) (by omega)]; omega
      have w3 : IntKind.i64.wrap ((m : Int) + j) = (m : Int) + j := wrap_i64 _ (by omega) (by omega)
      have w4 : IntKind.i64.wrap ((m : Int) + j - i) = ((m + j - i : Nat) : Int) := by rw [wrap_i64 _ (by omega) (by omega)]; omega
      have c1 : ¬ (j : Int) < i := by omega
      have c2 : ¬ (i : Int) = j := by omega
      generalize m - i = p at *
      generalize m + j - i = r at *
      generalize j - i = q at *
      unfold c65b0
      simp [evCode, evOps, evOne, evOp, evPur, evEff, evPur.chunks, fillP, AOp.isEff, AO.ev, putP, PV.cells, PV.leaf, getB, getM, mapE, iterE, keyC, mapRows, mfind, eq1, eqL, scal, binP, unP, minP, maxP, foldP, PV.lt, PV.lt.ltL, endP, expoAll, expoG, expo, expo.expoL, frIds, frIds.frIdsL, nodupN, kill, cls, clsFuel, resO, RV.get, loadP, evC_p, evC_s, endS, endT, rowsOf, callP, thinL, unfr, unfr.unfrL, PV.noMem, PV.noMem.noMemL, optI, mapO, norm, trimT, trimB, forget, hasN, blksLt, List.set, softChk, softGo, softRd, effTg, rdP, S65, hij, c1, c2, w1, w2, w3, w4, hsw, g0, g3, g4, g5]
set_option maxRecDepth 100000 in
theorem s65 (B : List Rw → Blks) (b v L n g : Nat) (hB : BB B b v L) (hn : n ≤ 1000000) (P U V Q : List Rw) (hU : 0 < U.length) (hV : 0 < V.length) (hD : GdL (P ++ U ++ V ++ Q)) (hl : n ≤ (P ++ U ++ V ++ Q).length) (hen : P.length + U.length + V.length ≤ n) (a m e : Nat) (ha : a = P.length) (hm : m = P.length + U.length) (he : e = P.length + U.length + V.length) :
    evS Dg 65 [.own b v 0 n, .int .i64 a, .int .i64 m, .int .i64 e, .fn g []] (B (P ++ U ++ V ++ Q)) = some (.tup [], B (P ++ V ++ U ++ Q)) := by
  have hlen : P.length + U.length + V.length ≤ n := by omega
  have g0 := hB.len
  have g3 := hB.tk
  have g4 := hB.lt
  have g5 : Nat.blt b L = true := by simpa [Nat.blt_eq] using hB.hb
  have w1 : IntKind.i64.wrap ((m : Int) - a) = (U.length : Int) := by rw [wrap_i64 _ (by omega) (by omega)]; omega
  have w2 : IntKind.i64.wrap ((e : Int) - m) = (V.length : Int) := by rw [wrap_i64 _ (by omega) (by omega)]; omega
  have H := fun (s0 : St) (E : Option Out) => loop_while (body := evCode (evC Dg) (n + 2) c65b0) (keep := [0, 2, 4, 10, 11]) (n0 := L) (fuel := n + 2) (S65 B b v n g m) (fun x => x.1 + x.2.1) (I65 n m (P ++ V ++ U ++ Q)) (R65 B b v n g m (P ++ V ++ U ++ Q))
    (fun x hI => step65 B b v L n g m hB hn _ (n + 2) x hI) (U.length, V.length, P ++ U ++ V ++ Q) ⟨hD, hl, by simp only; omega, hU, hV, P, U, V, Q, rfl, hm.symm, rfl, rfl, rfl⟩ (by simp only; omega) s0 E
  generalize P ++ U ++ V ++ Q = D0 at *
  refine evS_intro (n + 2) D65 rfl ?_
  unfold c65
  simp [evCode, evOps, evOne, evOp, evPur, evEff, evPur.chunks, fillP, AOp.isEff, AO.ev, putP, PV.cells, PV.leaf, getB, getM, mapE, iterE, keyC, mapRows, mfind, eq1, eqL, scal, binP, unP, minP, maxP, foldP, PV.lt, PV.lt.ltL, endP, expoAll, expoG, expo, expo.expoL, frIds, frIds.frIdsL, nodupN, kill, cls, clsFuel, resO, RV.get, loadP, evC_p, evC_s, endS, endT, rowsOf, callP, thinL, unfr, unfr.unfrL, PV.noMem, PV.noMem.noMemL, optI, mapO, norm, trimT, trimB, forget, hasN, blksLt, List.set, softChk, softGo, softRd, effTg, rdP, w1, w2]
  rw [g0]
  generalize hE : evLoop (evCode (evC Dg) (n + 2) c65b0) [0, 2, 4, 10, 11] L (n + 2) _ = E
  obtain ⟨o, rfl, i, D, ⟨hD2, hl2, hmj2, hi, -, P2, U2, V2, Q2, hDe, hP, hU2, hV2, hG⟩, rfl⟩ := H _ E hE (by simp [evCode, evOps, evOne, evOp, evPur, evEff, evPur.chunks, fillP, AOp.isEff, AO.ev, putP, PV.cells, PV.leaf, getB, getM, mapE, iterE, keyC, mapRows, mfind, eq1, eqL, scal, binP, unP, minP, maxP, foldP, PV.lt, PV.lt.ltL, endP, expoAll, expoG, expo, expo.expoL, frIds, frIds.frIdsL, nodupN, kill, cls, clsFuel, resO, RV.get, loadP, evC_p, evC_s, endS, endT, rowsOf, callP, thinL, unfr, unfr.unfrL, PV.noMem, PV.noMem.noMemL, optI, mapO, norm, trimT, trimB, forget, hasN, blksLt, List.set, softChk, softGo, softRd, effTg, rdP, S65, g0, g3, g4, g5])
  simp only at hD2 hl2 hmj2 hi hDe hP hU2 hV2
  have hlen2 : P2.length + U2.length + V2.length ≤ n := by omega
  have hsw := s71 B b v L n hB (m - i) m i hn (by omega) (by omega) D hD2 hl2 g
  have e2 := swN_app P2 i U2 [] V2 Q2 hU2 hV2
  have w3 : IntKind.i64.wrap ((m : Int) - i) = ((m - i : Nat) : Int) := by rw [wrap_i64 _ (by omega) (by omega)]; omega
  rw [List.append_nil, ← hDe, List.append_nil, hG, List.length_nil, Nat.add_zero, hP, show P2.length = m - i by omega] at e2
  rw [e2] at hsw
  generalize m - i = p at *
  unfold c65r0
  simp [evCode, evOps, evOne, evOp, evPur, evEff, evPur.chunks, fillP, AOp.isEff, AO.ev, putP, PV.cells, PV.leaf, getB, getM, mapE, iterE, keyC, mapRows, mfind, eq1, eqL, scal, binP, unP, minP, maxP, foldP, PV.lt, PV.lt.ltL, endP, expoAll, expoG, expo, expo.expoL, frIds, frIds.frIdsL, nodupN, kill, cls, clsFuel, resO, RV.get, loadP, evC_p, evC_s, endS, endT, rowsOf, callP, thinL, unfr, unfr.unfrL, PV.noMem, PV.noMem.noMemL, optI, mapO, norm, trimT, trimB, forget, hasN, blksLt, List.set, softChk, softGo, softRd, effTg, rdP, w3, hsw, g0, g3, g4, g5]
end Go.Proofs.Ytalmhggbdfjalaa
