/- ring: Put of the program, done. -/
import Derived.Test.YthoncigfbhinlaaRhE
namespace Go.Proofs.Ythoncigfbhinlaa
open Go Go.RowKit
set_option linter.unusedVariables false
set_option linter.unusedSimpArgs false
set_option maxHeartbeats 8000000

theorem bR_all (l : List Nat) : (bR l).all (PV.lt.ltL 0) = true := List.all_eq_true.2 ((bR_lt l).2 trivial)
set_option maxRecDepth 100000 in
theorem p23_run (x : Bool) (p : Int) (D b : List Nat) (s e f m : Int) (hD : D.length ≤ 100000) (ok : okB D) (h : errF p D s e f m = 0) (hb : ¬ 2000 < b.length) (hb2 : ¬ D.length < (putF b.length ++ b).length) (hf : p = 2 → ¬ freF p D s e f m < (putF b.length ++ b).length)
    (hr1 : ¬ 1000000000000000 < e + (putF b.length ++ b).length) (hr2 : ¬ m = 1000000000000000) (K Z : Nat) (hKZ : lstF (putF b.length ++ b).length (rmF D s e) (goodL p D s e f m) = (K, Z)) :
    evE Dg 23 [eR p (eB x D) s e f m, eB false b] = some (pR (eR p (.fr 1 (bR (wrF D e.toNat (putF b.length ++ b) (putF b.length ++ b).length))) (s + Z) (e + (putF b.length ++ b).length) (f + K) (m + 1)) K 0) := by
  have h27 := f27 x p D s e f m hD ok
  obtain ⟨hp, n0, n0', n1, n2, n3, n4, n5, n6, n7⟩ := err_nums h
  obtain ⟨r1, r2⟩ := rm_fre h
  obtain ⟨g1, g2, g3⟩ := good_sz h
  have gl := good_len p D s e f m
  have h28 := f28 x p D s e f m (rmF D s e) hD (by omega) (by omega) r1
  rw [h] at h27
  rw [r2] at hf
  obtain ⟨S, rfl⟩ : ∃ q : Nat, s = q := ⟨s.toNat, by omega⟩
  obtain ⟨T, rfl⟩ : ∃ q : Nat, e = q := ⟨e.toNat, by omega⟩
  have h33 := f33 x D hD (by omega)
  have c' : ¬ (2000 : Int) < b.length := by omega
  have h32 := f32s b.length (by omega)
  obtain ⟨z, Q, hP⟩ := putF_cons b.length
  have hQ := putF_len b.length
  have h31 := f31 true (putF b.length) b (by rw [hP]; simp) (by omega) (by omega)
  have hG : (putF b.length ++ b).length ≤ 10000 := by rw [List.length_append]; omega
  generalize goodL p D S T f m = l at *
  have L := loop23 x p D (putF b.length ++ b) S T f m (rmF D S T) l (by omega) g2 (by omega) hD (by omega) (by omega) (by omega) (by omega) g1 r1
  rw [hKZ] at L
  generalize rmF D S T = a at *
  generalize putF b.length ++ b = G at *
  generalize putF b.length = P at *
  have e1 := bR_len b
  have e2 := bR_len G
  have e3 := bR_len D
  have el := rcR_len l
  simp only [Int.toNat_natCast]
  simp only [eR, eB] at h27 h28 h33
  have d' : ¬ (D.length : Int) < G.length := by omega
  have w : IntKind.i64.wrap (1000000000000000 - (G.length : Int)) = 1000000000000000 - (G.length : Int) := wrap_i64 _ (by omega) (by omega)
  have q1 : ¬ 1000000000000000 - (G.length : Int) < T := by omega
  have w2 : IntKind.i64.wrap (m + 1) = m + 1 := wrap_i64 _ (by omega) (by omega)
  have w3 : IntKind.i64.wrap ((T : Int) + G.length) = T + G.length := wrap_i64 _ (by omega) (by omega)
  have fin : ∀ E s0, evLoop (evCode (evC Dg) 70010 c23b0) [2, 4, 7, 9, 10, 11] 3 70010 s0 = E → norm [2, 4, 7, 9, 10, 11] 3 s0 = S23 x p D G S T f m l (0, 0) → ((T : Int) - (S + Z) ≥ 0 ∧ (K : Int) ≤ 70000) ∧ ¬ ((a + Z : Nat) : Int) < G.length ∧ E = evCode (evC Dg) 70010 c23b0 (S23 x p D G S T f m l (K, Z)) := by
    intro E s0 q1 q2
    obtain ⟨q3, q4, q5⟩ := L E s0 q1 q2
    have h1 := q5.1
    have h2 := q5.2.1
    simp only at h1 h2 q4
    exact ⟨⟨by omega, by omega⟩, by omega, q3⟩
  clear L
  -- where the copy starts
  have ht : Int.tmod (T : Int) (D.length : Int) = ((T % D.length : Nat) : Int) := by rw [Int.tmod_eq_emod_of_nonneg (by omega), Int.natCast_emod]
  have ha : T % D.length < D.length := Nat.mod_lt T (by omega)
  have w1 := wrF_one (D := D) (G := G) (T := T) (a := T % D.length) rfl (by omega)
  have w1' := wrF_two (D := D) (G := G) (T := T) (a := T % D.length) rfl (by omega)
  generalize hWW : wrF D T G G.length = W at *
  generalize T % D.length = y at *
  have k2 : List.take G.length (bR G) = bR G := List.take_of_length_le (by rw [e2]; exact Nat.le_refl _)
  have n0 : ¬ D.length = 0 := by omega
  have n0' : ¬ (D.length : Int) = 0 := by omega
  have n0'' : ¬ D = [] := fun h => n0 (by rw [h]; rfl)
  have p1 : (y : Int) ≤ D.length := by omega
  have p2 : y ≤ D.length := by omega
  have aG := bR_all G
  have lW : W.length = D.length := by rw [← hWW, wrF_len]
  have eW := bR_len W
  rw [lW] at eW
  have go : ∀ P : Int, (P = p) → (P = 1 ∨ P = 2) → evE Dg 23 [eR p (eB x D) S T f m, eB false b] = some (pR (eR p (.fr 1 (bR W)) (S + Z) (T + G.length) (f + K) (m + 1)) K 0) := by
    rintro P rfl hP
    have hpre : P = 2 → ¬ a < G.length := by intro h; have := hf h; omega
    by_cases cw : G.length ≤ D.length - y
    · have c1 : Nat.min G.length (D.length - y) = G.length := Nat.min_eq_left cw
      have c1' : min G.length (D.length - y) = G.length := c1
      have k4 : List.drop G.length (bR G) = [] := List.drop_eq_nil_of_le (by rw [e2]; exact Nat.le_refl _)
      have k3 : List.take y (bR D) ++ (bR G ++ List.drop (y + G.length) (bR D)) = bR W := by
        rw [w1 cw, bR_app, bR_app, bR_take, bR_drop, List.append_assoc]
      have q3 : y + (D.length - y) = D.length := by omega
      rcases hP with rfl | rfl
      · refine evE_intro 70010 D23 rfl ?_
        unfold c23
        simp [evCode, evOps, evOne, evOp, evPur, evEff, evPur.chunks, fillP, AOp.isEff, AO.ev, putP, PV.cells, PV.leaf, getB, getM, mapE, keyC, mapRows, mfind, eq1, eqL, scal, binP, unP, minP, maxP, foldP, PV.lt, PV.lt.ltL, endP, expoAll, expo, expo.expoL, frIds, frIds.frIdsL, nodupN, kill, cls, clsFuel, resO, RV.get, loadP, evC_p, evC_s, endS, endT, rowsOf, callP, thinL, unfr, unfr.unfrL, PV.noMem, PV.noMem.noMemL, optI, mapO, norm, trimT, trimB, forget, hasN, blksLt, List.set, eR, eB, pR, h27, h28, h31, h32, e1, e2, e3, hb, c', hb2, d', w, q1, hr2]
        generalize hE : evLoop _ _ _ _ _ = E
        obtain ⟨⟨hK, hK2⟩, hZ, h⟩ := fin _ _ hE (by simp [evCode, evOps, evOne, evOp, evPur, evEff, evPur.chunks, fillP, AOp.isEff, AO.ev, putP, PV.cells, PV.leaf, getB, getM, mapE, keyC, mapRows, mfind, eq1, eqL, scal, binP, unP, minP, maxP, foldP, PV.lt, PV.lt.ltL, endP, expoAll, expo, expo.expoL, frIds, frIds.frIdsL, nodupN, kill, cls, clsFuel, resO, RV.get, loadP, evC_p, evC_s, endS, endT, rowsOf, callP, thinL, unfr, unfr.unfrL, PV.noMem, PV.noMem.noMemL, optI, mapO, norm, trimT, trimB, forget, hasN, blksLt, List.set, S23, cl, eB])
        rw [h]
        have h28b := f28 x 1 D (S + Z) T (f + K) m (a + Z) hD (by omega) (by omega) (by omega)
        simp only [eR, eB] at h28b
        have w5 : IntKind.i64.wrap (f + K) = f + K := wrap_i64 _ (by omega) (by omega)
        obtain ⟨t, ht2⟩ := ex_eq (a + Z)
        rw [ht2] at hZ h28b
        unfold c23b0 c23r0
        simp [evCode, evOps, evOne, evOp, evPur, evEff, evPur.chunks, fillP, AOp.isEff, AO.ev, putP, PV.cells, PV.leaf, getB, getM, mapE, keyC, mapRows, mfind, eq1, eqL, scal, binP, unP, minP, maxP, foldP, PV.lt, PV.lt.ltL, endP, expoAll, expo, expo.expoL, frIds, frIds.frIdsL, nodupN, kill, cls, clsFuel, resO, RV.get, loadP, evC_p, evC_s, endS, endT, rowsOf, callP, thinL, unfr, unfr.unfrL, PV.noMem, PV.noMem.noMemL, optI, mapO, norm, trimT, trimB, forget, hasN, blksLt, List.set, S23, cl, eB, eR, e1, e2, e3, h28b, hZ, h33, impV, impB, bR_lt, ht, n0, n0', n0'', p1, p2, w2, w3, c1, c1', k2, k4, k3, q3, aG, eW]
      · have hf' := hf rfl
        have hf2 := hpre rfl
        refine evE_intro 70010 D23 rfl ?_
        unfold c23
        simp [evCode, evOps, evOne, evOp, evPur, evEff, evPur.chunks, fillP, AOp.isEff, AO.ev, putP, PV.cells, PV.leaf, getB, getM, mapE, keyC, mapRows, mfind, eq1, eqL, scal, binP, unP, minP, maxP, foldP, PV.lt, PV.lt.ltL, endP, expoAll, expo, expo.expoL, frIds, frIds.frIdsL, nodupN, kill, cls, clsFuel, resO, RV.get, loadP, evC_p, evC_s, endS, endT, rowsOf, callP, thinL, unfr, unfr.unfrL, PV.noMem, PV.noMem.noMemL, optI, mapO, norm, trimT, trimB, forget, hasN, blksLt, List.set, eR, eB, pR, h27, h28, h31, h32, e1, e2, e3, hb, c', hb2, d', w, q1, hr2, hf', hf2]
        generalize hE : evLoop _ _ _ _ _ = E
        obtain ⟨⟨hK, hK2⟩, hZ, h⟩ := fin _ _ hE (by simp [evCode, evOps, evOne, evOp, evPur, evEff, evPur.chunks, fillP, AOp.isEff, AO.ev, putP, PV.cells, PV.leaf, getB, getM, mapE, keyC, mapRows, mfind, eq1, eqL, scal, binP, unP, minP, maxP, foldP, PV.lt, PV.lt.ltL, endP, expoAll, expo, expo.expoL, frIds, frIds.frIdsL, nodupN, kill, cls, clsFuel, resO, RV.get, loadP, evC_p, evC_s, endS, endT, rowsOf, callP, thinL, unfr, unfr.unfrL, PV.noMem, PV.noMem.noMemL, optI, mapO, norm, trimT, trimB, forget, hasN, blksLt, List.set, S23, cl, eB])
        rw [h]
        have h28b := f28 x 2 D (S + Z) T (f + K) m (a + Z) hD (by omega) (by omega) (by omega)
        simp only [eR, eB] at h28b
        have w5 : IntKind.i64.wrap (f + K) = f + K := wrap_i64 _ (by omega) (by omega)
        obtain ⟨t, ht2⟩ := ex_eq (a + Z)
        rw [ht2] at hZ h28b
        unfold c23b0 c23r0
        simp [evCode, evOps, evOne, evOp, evPur, evEff, evPur.chunks, fillP, AOp.isEff, AO.ev, putP, PV.cells, PV.leaf, getB, getM, mapE, keyC, mapRows, mfind, eq1, eqL, scal, binP, unP, minP, maxP, foldP, PV.lt, PV.lt.ltL, endP, expoAll, expo, expo.expoL, frIds, frIds.frIdsL, nodupN, kill, cls, clsFuel, resO, RV.get, loadP, evC_p, evC_s, endS, endT, rowsOf, callP, thinL, unfr, unfr.unfrL, PV.noMem, PV.noMem.noMemL, optI, mapO, norm, trimT, trimB, forget, hasN, blksLt, List.set, S23, cl, eB, eR, e1, e2, e3, h28b, hZ, h33, impV, impB, bR_lt, ht, n0, n0', n0'', p1, p2, w2, w3, c1, c1', k2, k4, k3, q3, aG, eW]
    · obtain ⟨q, hq⟩ := ex_eq (D.length - y)
      have w2' := w1' (by omega) (by omega)
      rw [hq] at w2'
      have c1 : Nat.min G.length (D.length - y) = q := by rw [hq]; exact Nat.min_eq_right (by omega)
      have c1' : min G.length (D.length - y) = q := c1
      have q3 : y + (D.length - y) = D.length := by omega
      have q4 : y + q = D.length := by omega
      have k5 : List.drop D.length (bR D) = [] := List.drop_eq_nil_of_le (by rw [e3]; exact Nat.le_refl _)
      obtain ⟨V, hV⟩ := ex_eq (D.take y ++ G.take q)
      have lV : V.length = D.length := by rw [← hV, List.length_append, List.length_take, List.length_take]; omega
      have eV := bR_len V
      rw [lV] at eV
      have k3 : List.take y (bR D) ++ List.take q (bR G) = bR V := by rw [← hV, bR_app, bR_take, bR_take]
      obtain ⟨U, hU⟩ := ex_eq (G.drop q)
      obtain ⟨u, hu⟩ := ex_eq U.length
      have lU : u = G.length - q := by rw [← hu, ← hU, List.length_drop]
      have eU := bR_len U
      rw [hu] at eU
      have k6 : List.drop q (bR G) = bR U := by rw [← hU, bR_drop]
      have k7 : List.take u (bR U) = bR U := List.take_of_length_le (by rw [eU]; exact Nat.le_refl _)
      have c2 : Nat.min u D.length = u := Nat.min_eq_left (by omega)
      have c2' : min u D.length = u := c2
      have c3 : Nat.min (G.length - q) D.length = u := by rw [← lU]; exact c2
      have c3' : min (G.length - q) D.length = u := c3
      have k8 : bR U ++ List.drop u (bR V) = bR W := by rw [w2', hU, hV, ← lU, bR_app, bR_drop]
      have aU := bR_all U
      have r3 : q ≤ G.length := by omega
      have r3' : (q : Int) ≤ G.length := by omega
      rcases hP with rfl | rfl
      · refine evE_intro 70010 D23 rfl ?_
        unfold c23
        simp [evCode, evOps, evOne, evOp, evPur, evEff, evPur.chunks, fillP, AOp.isEff, AO.ev, putP, PV.cells, PV.leaf, getB, getM, mapE, keyC, mapRows, mfind, eq1, eqL, scal, binP, unP, minP, maxP, foldP, PV.lt, PV.lt.ltL, endP, expoAll, expo, expo.expoL, frIds, frIds.frIdsL, nodupN, kill, cls, clsFuel, resO, RV.get, loadP, evC_p, evC_s, endS, endT, rowsOf, callP, thinL, unfr, unfr.unfrL, PV.noMem, PV.noMem.noMemL, optI, mapO, norm, trimT, trimB, forget, hasN, blksLt, List.set, eR, eB, pR, h27, h28, h31, h32, e1, e2, e3, hb, c', hb2, d', w, q1, hr2]
        generalize hE : evLoop _ _ _ _ _ = E
        obtain ⟨⟨hK, hK2⟩, hZ, h⟩ := fin _ _ hE (by simp [evCode, evOps, evOne, evOp, evPur, evEff, evPur.chunks, fillP, AOp.isEff, AO.ev, putP, PV.cells, PV.leaf, getB, getM, mapE, keyC, mapRows, mfind, eq1, eqL, scal, binP, unP, minP, maxP, foldP, PV.lt, PV.lt.ltL, endP, expoAll, expo, expo.expoL, frIds, frIds.frIdsL, nodupN, kill, cls, clsFuel, resO, RV.get, loadP, evC_p, evC_s, endS, endT, rowsOf, callP, thinL, unfr, unfr.unfrL, PV.noMem, PV.noMem.noMemL, optI, mapO, norm, trimT, trimB, forget, hasN, blksLt, List.set, S23, cl, eB])
        rw [h]
        have h28b := f28 x 1 D (S + Z) T (f + K) m (a + Z) hD (by omega) (by omega) (by omega)
        simp only [eR, eB] at h28b
        obtain ⟨t, ht2⟩ := ex_eq (a + Z)
        rw [ht2] at hZ h28b
        unfold c23b0 c23r0
        simp [evCode, evOps, evOne, evOp, evPur, evEff, evPur.chunks, fillP, AOp.isEff, AO.ev, putP, PV.cells, PV.leaf, getB, getM, mapE, keyC, mapRows, mfind, eq1, eqL, scal, binP, unP, minP, maxP, foldP, PV.lt, PV.lt.ltL, endP, expoAll, expo, expo.expoL, frIds, frIds.frIdsL, nodupN, kill, cls, clsFuel, resO, RV.get, loadP, evC_p, evC_s, endS, endT, rowsOf, callP, thinL, unfr, unfr.unfrL, PV.noMem, PV.noMem.noMemL, optI, mapO, norm, trimT, trimB, forget, hasN, blksLt, List.set, S23, cl, eB, eR, e1, e2, e3, h28b, hZ, h33, impV, impB, bR_lt, ht, n0, n0', n0'', p1, p2, w2, w3, c1, c1', k2, k3, q3, q4, k5, k6, k7, c2, c2', c3, c3', k8, r3, r3', eV, eU, aG, aU, eW]
      · have hf' := hf rfl
        have hf2 := hpre rfl
        refine evE_intro 70010 D23 rfl ?_
        unfold c23
        simp [evCode, evOps, evOne, evOp, evPur, evEff, evPur.chunks, fillP, AOp.isEff, AO.ev, putP, PV.cells, PV.leaf, getB, getM, mapE, keyC, mapRows, mfind, eq1, eqL, scal, binP, unP, minP, maxP, foldP, PV.lt, PV.lt.ltL, endP, expoAll, expo, expo.expoL, frIds, frIds.frIdsL, nodupN, kill, cls, clsFuel, resO, RV.get, loadP, evC_p, evC_s, endS, endT, rowsOf, callP, thinL, unfr, unfr.unfrL, PV.noMem, PV.noMem.noMemL, optI, mapO, norm, trimT, trimB, forget, hasN, blksLt, List.set, eR, eB, pR, h27, h28, h31, h32, e1, e2, e3, hb, c', hb2, d', w, q1, hr2, hf', hf2]
        generalize hE : evLoop _ _ _ _ _ = E
        obtain ⟨⟨hK, hK2⟩, hZ, h⟩ := fin _ _ hE (by simp [evCode, evOps, evOne, evOp, evPur, evEff, evPur.chunks, fillP, AOp.isEff, AO.ev, putP, PV.cells, PV.leaf, getB, getM, mapE, keyC, mapRows, mfind, eq1, eqL, scal, binP, unP, minP, maxP, foldP, PV.lt, PV.lt.ltL, endP, expoAll, expo, expo.expoL, frIds, frIds.frIdsL, nodupN, kill, cls, clsFuel, resO, RV.get, loadP, evC_p, evC_s, endS, endT, rowsOf, callP, thinL, unfr, unfr.unfrL, PV.noMem, PV.noMem.noMemL, optI, mapO, norm, trimT, trimB, forget, hasN, blksLt, List.set, S23, cl, eB])
        rw [h]
        have h28b := f28 x 2 D (S + Z) T (f + K) m (a + Z) hD (by omega) (by omega) (by omega)
        simp only [eR, eB] at h28b
        obtain ⟨t, ht2⟩ := ex_eq (a + Z)
        rw [ht2] at hZ h28b
        unfold c23b0 c23r0
        simp [evCode, evOps, evOne, evOp, evPur, evEff, evPur.chunks, fillP, AOp.isEff, AO.ev, putP, PV.cells, PV.leaf, getB, getM, mapE, keyC, mapRows, mfind, eq1, eqL, scal, binP, unP, minP, maxP, foldP, PV.lt, PV.lt.ltL, endP, expoAll, expo, expo.expoL, frIds, frIds.frIdsL, nodupN, kill, cls, clsFuel, resO, RV.get, loadP, evC_p, evC_s, endS, endT, rowsOf, callP, thinL, unfr, unfr.unfrL, PV.noMem, PV.noMem.noMemL, optI, mapO, norm, trimT, trimB, forget, hasN, blksLt, List.set, S23, cl, eB, eR, e1, e2, e3, h28b, hZ, h33, impV, impB, bR_lt, ht, n0, n0', n0'', p1, p2, w2, w3, c1, c1', k2, k3, q3, q4, k5, k6, k7, c2, c2', c3, c3', k8, r3, r3', eV, eU, aG, aU, eW]
  exact go p rfl hp
end Go.Proofs.Ythoncigfbhinlaa
