/- ring: Put of the reference, done. -/
import Derived.Test.YthoncigfbhinlaaRgY
namespace Go.Proofs.Ythoncigfbhinlaa
open Go Go.RowKit
set_option linter.unusedVariables false
set_option linter.unusedSimpArgs false
set_option maxHeartbeats 8000000

/-- the bytes that are free -/
def rmF (D : List Nat) (s e : Int) : Nat := (D.length - (e - s)).toNat
theorem good_sz {p : Int} {D : List Nat} {s e f m : Int} (h : errF p D s e f m = 0) : rmF D s e + szsF (goodL p D s e f m) = D.length ∧ (∀ r ∈ goodL p D s e f m, r.length ≤ 2000) ∧ ((goodL p D s e f m).length : Int) = m - f := by
  have hr := good_rec h
  obtain ⟨a, b⟩ := err_nums h
  have h' := h
  unfold errF at h'
  rw [if_pos a, if_pos b, hr] at h'
  obtain ⟨n0, n0', n1, n2, n3, n4, n5, n6, n7⟩ := b
  unfold recsF at hr
  obtain ⟨h1, h2⟩ := recF_sz _ _ _ hr
  rw [contF_len (by omega)] at h1
  refine ⟨by unfold rmF; omega, h2, ?_⟩
  simp only at h'
  by_cases c : ((goodL p D s e f m).length : Int) = m - f
  · exact c
  · rw [if_neg c] at h'; cases h'
set_option maxRecDepth 100000 in
theorem p24_run (x : Bool) (p : Int) (D b G : List Nat) (s e f m : Int) (hD : D.length ≤ 100000) (ok : okB D) (h : errF p D s e f m = 0) (h34 : evE Dg 34 [eB false b] = some (.fr 1 (bR G))) (hb : ¬ 2000 < b.length) (hb2 : ¬ D.length < G.length) (hG : G.length ≤ 10000) (hf : p = 2 → ¬ freF p D s e f m < G.length)
    (hr1 : ¬ 1000000000000000 < e + G.length) (hr2 : ¬ m = 1000000000000000) (K Z : Nat) (hKZ : lstF G.length (rmF D s e) (goodL p D s e f m) = (K, Z)) : evE Dg 24 [eR p (eB x D) s e f m, eB false b] = some (pR (eR p (eB false (wrF D e.toNat G G.length)) (s + Z) (e + G.length) (f + K) (m + 1)) K 0) := by
  have h18 := f18 x p D s e f m hD ok
  have h20 := f20 x p D s e f m hD ok
  obtain ⟨hp, n0, n0', n1, n2, n3, n4, n5, n6, n7⟩ := err_nums h
  obtain ⟨g1, g2, g3⟩ := good_sz h
  have hrec := good_rec h
  have gl := good_len p D s e f m
  rw [h] at h18
  obtain ⟨S, rfl⟩ : ∃ q : Nat, s = q := ⟨s.toNat, by omega⟩
  obtain ⟨T, rfl⟩ : ∃ q : Nat, e = q := ⟨e.toNat, by omega⟩
  have h30 := f30 x p f m D S T (by omega) (by omega) (by omega) (by omega) (by omega)
  have okc := contF_ok (D := D) (s := S) (L := T - S) ok
  have lc := contF_len (D := D) (s := S) (L := T - S) (by omega)
  have hrec2 : recsF D S T = recF ((contF D S (T - S)).length + 1) (contF D S (T - S)) := by unfold recsF; simp
  have h29 := f29 (contF D S (T - S)) okc (by omega)
  unfold rs29 at h29
  rw [← hrec2, hrec] at h29
  simp only at h29
  generalize contF D S (T - S) = C at *
  have h35 := f35 x D G T (by omega) (by omega) hG (by omega)
  have ha : (rmF D S T : Int) = D.length - ((T : Int) - S) := by unfold rmF; omega
  generalize goodL p D S T f m = l at *
  have L := loop24 x p D G S T f m (rmF D S T) D.length l (by omega) g2 (by omega) hD (by omega) (by omega) g1
  rw [hKZ] at L
  generalize rmF D S T = a at *
  generalize freF p D S T f m = fr at *
  have e1 := bR_len b
  have e2 := bR_len G
  have e3 := bR_len D
  have el := rcN_len l
  simp only [Int.toNat_natCast]
  generalize hWW : wrF D T G G.length = W at *
  simp only [eR, eB] at h18 h34 h20 h30 h35
  have c' : ¬ (2000 : Int) < b.length := by omega
  have d' : ¬ (D.length : Int) < G.length := by omega
  have w : IntKind.i64.wrap ((T : Int) + G.length) = T + G.length := wrap_i64 _ (by omega) (by omega)
  have w2 : IntKind.i64.wrap (m + 1) = m + 1 := wrap_i64 _ (by omega) (by omega)
  have r2 : ¬ (1000000000000000 : Int) < m + 1 := by omega
  have w3 : IntKind.i64.wrap ((T : Int) - S) = T - S := wrap_i64 _ (by omega) (by omega)
  have w4 : IntKind.i64.wrap ((D.length : Int) - ((T : Int) - S)) = a := by rw [wrap_i64 _ (by omega) (by omega)]; omega
  have fin : ∀ E s0, evLoop (evCode (evC Dg) 70010 c24b0) [2, 4, 8, 9, 11, 12] 2 70010 s0 = E → norm [2, 4, 8, 9, 11, 12] 2 s0 = S24 x p D G S T f m a l (0, 0) → (K : Int) ≤ 70000 ∧ ¬ ((a + Z : Nat) : Int) < G.length ∧ E = evCode (evC Dg) 70010 c24b0 (S24 x p D G S T f m a l (K, Z)) := by
    intro E s0 q1 q2
    obtain ⟨q3, q4, q5⟩ := L E s0 q1 q2
    have := q5.1
    simp only at this q4
    exact ⟨by omega, by omega, q3⟩
  clear L
  have go : ∀ P : Int, (p = P) → (P = 1 ∨ P = 2) → evE Dg 24 [eR p (eB x D) S T f m, eB false b] = some (pR (eR p (eB false W) (S + Z) (T + G.length) (f + K) (m + 1)) K 0) := by
    rintro P rfl (rfl | rfl)
    · refine evE_intro 70010 D24 rfl ?_
      unfold c24
      simp [evCode, evOps, evOne, evOp, evPur, evEff, evPur.chunks, fillP, AOp.isEff, AO.ev, putP, PV.cells, PV.leaf, getB, getM, mapE, keyC, mapRows, mfind, eq1, eqL, scal, binP, unP, minP, maxP, foldP, PV.lt, PV.lt.ltL, endP, expoAll, expo, expo.expoL, frIds, frIds.frIdsL, nodupN, kill, cls, clsFuel, resO, RV.get, loadP, evC_p, evC_s, endS, endT, rowsOf, callP, thinL, unfr, unfr.unfrL, PV.noMem, PV.noMem.noMemL, optI, mapO, norm, trimT, trimB, forget, hasN, blksLt, List.set, eR, eB, pR, h18, h34, h20, h30, h29, e1, e2, e3, hb, c', hb2, d', w, w2, hr1, r2, w3, w4]
      generalize hE : evLoop _ _ _ _ _ = E
      obtain ⟨hK, hZ, h⟩ := fin _ _ hE (by simp [evCode, evOps, evOne, evOp, evPur, evEff, evPur.chunks, fillP, AOp.isEff, AO.ev, putP, PV.cells, PV.leaf, getB, getM, mapE, keyC, mapRows, mfind, eq1, eqL, scal, binP, unP, minP, maxP, foldP, PV.lt, PV.lt.ltL, endP, expoAll, expo, expo.expoL, frIds, frIds.frIdsL, nodupN, kill, cls, clsFuel, resO, RV.get, loadP, evC_p, evC_s, endS, endT, rowsOf, callP, thinL, unfr, unfr.unfrL, PV.noMem, PV.noMem.noMemL, optI, mapO, norm, trimT, trimB, forget, hasN, blksLt, List.set, S24, cl, eB])
      rw [h]
      have w5 : IntKind.i64.wrap (f + K) = f + K := wrap_i64 _ (by omega) (by omega)
      obtain ⟨t, ht⟩ := ex_eq (a + Z)
      rw [ht] at hZ
      unfold c24b0 c24r0
      simp [evCode, evOps, evOne, evOp, evPur, evEff, evPur.chunks, fillP, AOp.isEff, AO.ev, putP, PV.cells, PV.leaf, getB, getM, mapE, keyC, mapRows, mfind, eq1, eqL, scal, binP, unP, minP, maxP, foldP, PV.lt, PV.lt.ltL, endP, expoAll, expo, expo.expoL, frIds, frIds.frIdsL, nodupN, kill, cls, clsFuel, resO, RV.get, loadP, evC_p, evC_s, endS, endT, rowsOf, callP, thinL, unfr, unfr.unfrL, PV.noMem, PV.noMem.noMemL, optI, mapO, norm, trimT, trimB, forget, hasN, blksLt, List.set, S24, cl, eB, e2, e3, ht, hZ, h35, w, w2, w5]
    · have hf := hf rfl
      refine evE_intro 70010 D24 rfl ?_
      unfold c24
      simp [evCode, evOps, evOne, evOp, evPur, evEff, evPur.chunks, fillP, AOp.isEff, AO.ev, putP, PV.cells, PV.leaf, getB, getM, mapE, keyC, mapRows, mfind, eq1, eqL, scal, binP, unP, minP, maxP, foldP, PV.lt, PV.lt.ltL, endP, expoAll, expo, expo.expoL, frIds, frIds.frIdsL, nodupN, kill, cls, clsFuel, resO, RV.get, loadP, evC_p, evC_s, endS, endT, rowsOf, callP, thinL, unfr, unfr.unfrL, PV.noMem, PV.noMem.noMemL, optI, mapO, norm, trimT, trimB, forget, hasN, blksLt, List.set, eR, eB, pR, h18, h34, h20, h30, h29, e1, e2, e3, hb, c', hb2, d', hf, w, w2, hr1, r2, w3, w4]
      generalize hE : evLoop _ _ _ _ _ = E
      obtain ⟨hK, hZ, h⟩ := fin _ _ hE (by simp [evCode, evOps, evOne, evOp, evPur, evEff, evPur.chunks, fillP, AOp.isEff, AO.ev, putP, PV.cells, PV.leaf, getB, getM, mapE, keyC, mapRows, mfind, eq1, eqL, scal, binP, unP, minP, maxP, foldP, PV.lt, PV.lt.ltL, endP, expoAll, expo, expo.expoL, frIds, frIds.frIdsL, nodupN, kill, cls, clsFuel, resO, RV.get, loadP, evC_p, evC_s, endS, endT, rowsOf, callP, thinL, unfr, unfr.unfrL, PV.noMem, PV.noMem.noMemL, optI, mapO, norm, trimT, trimB, forget, hasN, blksLt, List.set, S24, cl, eB])
      rw [h]
      have w5 : IntKind.i64.wrap (f + K) = f + K := wrap_i64 _ (by omega) (by omega)
      obtain ⟨t, ht⟩ := ex_eq (a + Z)
      rw [ht] at hZ
      unfold c24b0 c24r0
      simp [evCode, evOps, evOne, evOp, evPur, evEff, evPur.chunks, fillP, AOp.isEff, AO.ev, putP, PV.cells, PV.leaf, getB, getM, mapE, keyC, mapRows, mfind, eq1, eqL, scal, binP, unP, minP, maxP, foldP, PV.lt, PV.lt.ltL, endP, expoAll, expo, expo.expoL, frIds, frIds.frIdsL, nodupN, kill, cls, clsFuel, resO, RV.get, loadP, evC_p, evC_s, endS, endT, rowsOf, callP, thinL, unfr, unfr.unfrL, PV.noMem, PV.noMem.noMemL, optI, mapO, norm, trimT, trimB, forget, hasN, blksLt, List.set, S24, cl, eB, e2, e3, ht, hZ, h35, w, w2, w5]
  rcases hp with hp | hp
  · exact go 1 hp (.inl rfl)
  · exact go 2 hp (.inr rfl)
end Go.Proofs.Ythoncigfbhinlaa
