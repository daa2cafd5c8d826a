/- frac: Add, Sub, Mul, Cmp. -/
import Derived.Test.YtddglikicokpeaaDoorFrQ
namespace Go.Proofs.YtddglikicokpeaaDoor
open Go Go.RowKit
set_option linter.unusedVariables false
set_option linter.unusedSimpArgs false
set_option maxHeartbeats 4000000

theorem wI (n m : Nat) (h : n ≤ m) (hm : m ≤ 9223372036854775807) : IntKind.i64.wrap (n : Int) = n := wrap_i64 _ (by omega) (by omega)
theorem wU (n m : Nat) (h : n ≤ m) (hm : m < 18446744073709551616) : IntKind.u64.wrap (n : Int) = n := wrapN _ (by omega)
theorem i64N (n m : Nat) (h : n ≤ m) (hm : m ≤ 9223372036854775807) : i64 (n : Int) := ⟨by omega, by omega⟩
theorem lt64 (n m : Nat) (h : n ≤ m) (hm : m < 18446744073709551616) : n < 18446744073709551616 := by omega
theorem tdivN (a b : Nat) : ((a : Nat) : Int).tdiv ((b : Nat) : Int) = ((a / b : Nat) : Int) := by rw [Int.tdiv_eq_ediv_of_nonneg (by omega)]; simp
def gS (a b : Fr) : Nat := Nat.gcd a.2.natAbs b.2.natAbs
def sS (a b : Fr) : Int := a.1 * ((b.2.natAbs / gS a b : Nat) : Int) + b.1 * ((a.2.natAbs / gS a b : Nat) : Int)
def hS (a b : Fr) : Nat := Nat.gcd (sS a b).natAbs (gS a b)
theorem sgn_of (z : Int) (neg : Bool) (h : neg = decide (z < 0)) : sgn neg z.natAbs = z := by
  subst h
  unfold sgn
  by_cases h0 : z < 0
  · simp only [h0, decide_true, if_true]; omega
  · simp only [h0, decide_false, Bool.false_eq_true, if_false]; omega
theorem addS_out {a b : Fr} (ha : validF a) (hb : validF b) : addS a b = outF (decide (sS a b < 0)) ((sS a b).natAbs / hS a b) (a.2.natAbs / gS a b * (b.2.natAbs / hS a b)) ∧ 0 < hS a b ∧ 0 < gS a b ∧ (sS a b).natAbs < 85070591730234615865843651857942052864 := by
  rw [addS_val ha hb, ← mk_add ha hb]
  obtain ⟨a1, a2, a3, a4, a5⟩ := ha
  obtain ⟨b1, b2, b3, b4, b5⟩ := hb
  obtain ⟨k1, k2, k3, k4, k5⟩ := add_low a.1 b.1 a.2.natAbs b.2.natAbs (by omega) (by omega) a5 b5 (sS a b) rfl (hS a b) rfl
  have hg : 0 < gS a b := Nat.gcd_pos_of_pos_left _ (by omega)
  have e2 : (a.2.natAbs : Int) = a.2 := by omega
  have e3 : (b.2.natAbs : Int) = b.2 := by omega
  have hbig : (sS a b).natAbs < 85070591730234615865843651857942052864 := by
    have x1 : (a.1 * ((b.2.natAbs / gS a b : Nat) : Int)).natAbs ≤ 4611686018427387904 * 1000000000000000 := by
      rw [Int.natAbs_mul, Int.natAbs_natCast]
      exact Nat.mul_le_mul (by omega) (Nat.le_trans (Nat.div_le_self _ _) (by omega))
    have x2 : (b.1 * ((a.2.natAbs / gS a b : Nat) : Int)).natAbs ≤ 4611686018427387904 * 1000000000000000 := by
      rw [Int.natAbs_mul, Int.natAbs_natCast]
      exact Nat.mul_le_mul (by omega) (Nat.le_trans (Nat.div_le_self _ _) (by omega))
    have x3 := Int.natAbs_add_le (a.1 * ((b.2.natAbs / gS a b : Nat) : Int)) (b.1 * ((a.2.natAbs / gS a b : Nat) : Int))
    unfold sS
    omega
  refine ⟨?_, k4, hg, hbig⟩
  rw [e2, e3] at k2 k3
  have hneg : (decide (sS a b < 0)) = decide (a.1 * b.2 + b.1 * a.2 < 0) := by
    rw [k3]
    have : ((Nat.gcd a.2.natAbs b.2.natAbs : Nat) : Int) > 0 := by unfold gS at hg; omega
    by_cases h : sS a b < 0
    · have h2 : ((Nat.gcd a.2.natAbs b.2.natAbs : Nat) : Int) * sS a b < 0 := Int.mul_neg_of_pos_of_neg this h
      simp [h, h2]
    · have h2 : ¬ ((Nat.gcd a.2.natAbs b.2.natAbs : Nat) : Int) * sS a b < 0 := by
        have := Int.mul_nonneg (Int.le_of_lt this) (show 0 ≤ sS a b by omega)
        omega
      simp [h, h2]
  have hD : a.2.toNat * b.2.toNat = a.2.natAbs * b.2.natAbs := by rw [show a.2.toNat = a.2.natAbs by omega, show b.2.toNat = b.2.natAbs by omega]
  rw [hD]
  conv => lhs; rw [← sgn_of (a.1 * b.2 + b.1 * a.2) (decide (sS a b < 0)) hneg]
  rw [← made_toF (Nat.mul_pos (by omega) (by omega))]
  exact made_eq (Nat.mul_pos (by omega) (by omega)) k5 k1 k2
theorem outF_big {neg : Bool} {p q : Nat} (h : ¬ p < 18446744073709551616 ∨ ¬ q < 18446744073709551616) : outF neg p q = ((0, 0), false) := by
  unfold outF
  rw [if_neg (by omega)]
theorem valid64 {a : Fr} (h : validF a) : i64 a.1 ∧ i64 a.2 := by
  obtain ⟨a1, a2, a3, a4, a5⟩ := h
  exact ⟨⟨by omega, by omega⟩, ⟨by omega, by omega⟩⟩

set_option maxRecDepth 100000 in
theorem f18 (a b : Fr) (ha : i64F a) (hb : i64F b) : evE Dg 18 [eF a, eF b] = some (eR (addS a b)) := by
  have v1 := f13 a ha
  have v2 := f13 b hb
  refine evE_intro 1 D18 rfl ?_
  by_cases hva : validF a
  rotate_left
  · have e : addS a b = ((0, 0), false) := if_neg (fun h => hva h.1)
    rw [e]
    simp only [eF, hva, decide_false] at v1
    unfold c18
    simp [evCode, evOps, evOne, evOp, evPur, evEff, evPur.chunks, fillP, AOp.isEff, AO.ev, putP, PV.cells, PV.leaf, getB, getM, mapE, iterE, keyC, mapRows, mfind, eq1, eqL, scal, binP, unP, minP, maxP, foldP, PV.lt, PV.lt.ltL, endP, expoAll, expoG, expo, expo.expoL, frIds, frIds.frIdsL, nodupN, kill, cls, clsFuel, resO, RV.get, loadP, evC_p, evC_s, endS, endT, rowsOf, callP, thinL, unfr, unfr.unfrL, PV.noMem, PV.noMem.noMemL, optI, mapO, norm, trimT, trimB, forget, hasN, blksLt, List.set, softChk, softGo, softRd, effTg, rdP, eF, eR, v1]
  by_cases hvb : validF b
  rotate_left
  · have e : addS a b = ((0, 0), false) := if_neg (fun h => hvb h.2)
    rw [e]
    simp only [eF, hva, hvb, decide_false, decide_true] at v1 v2
    unfold c18
    simp [evCode, evOps, evOne, evOp, evPur, evEff, evPur.chunks, fillP, AOp.isEff, AO.ev, putP, PV.cells, PV.leaf, getB, getM, mapE, iterE, keyC, mapRows, mfind, eq1, eqL, scal, binP, unP, minP, maxP, foldP, PV.lt, PV.lt.ltL, endP, expoAll, expoG, expo, expo.expoL, frIds, frIds.frIdsL, nodupN, kill, cls, clsFuel, resO, RV.get, loadP, evC_p, evC_s, endS, endT, rowsOf, callP, thinL, unfr, unfr.unfrL, PV.noMem, PV.noMem.noMemL, optI, mapO, norm, trimT, trimB, forget, hasN, blksLt, List.set, softChk, softGo, softRd, effTg, rdP, eF, eR, v1, v2]
  obtain ⟨eA, h0, g0, hbig⟩ := addS_out hva hvb
  simp only [eF, hva, hvb, decide_true] at v1 v2
  obtain ⟨a1, a2, a3, a4, a5⟩ := hva
  obtain ⟨b1, b2, b3, b4, b5⟩ := hvb
  have w1 : IntKind.u64.wrap a.2 = ((a.2.natAbs : Nat) : Int) := by rw [wrap_u64']; omega
  have w2 : IntKind.u64.wrap b.2 = ((b.2.natAbs : Nat) : Int) := by rw [wrap_u64']; omega
  have q1 : evE Dg 32 [.int .u64 ((a.2.natAbs : Nat) : Int), .int .u64 ((b.2.natAbs : Nat) : Int)] = some (.int .u64 ((gS a b : Nat) : Int)) := f32 _ _ (by omega) (by omega)
  have hgle : gS a b ≤ 1000000000000000 := Nat.le_trans (Nat.le_of_dvd (by omega) (Nat.gcd_dvd_left a.2.natAbs b.2.natAbs)) (by omega)
  have w3 := wrap_i64 ((gS a b : Nat) : Int) (by omega) (by omega)
  have w3' : IntKind.u64.wrap ((gS a b : Nat) : Int) = ((gS a b : Nat) : Int) := wrapN _ (by omega)
  have t1 : b.2.tdiv ((gS a b : Nat) : Int) = ((b.2.natAbs / gS a b : Nat) : Int) := by rw [← tdivN]; congr 1; omega
  have t2 : a.2.tdiv ((gS a b : Nat) : Int) = ((a.2.natAbs / gS a b : Nat) : Int) := by rw [← tdivN]; congr 1; omega
  have l1 : b.2.natAbs / gS a b ≤ b.2.natAbs := Nat.div_le_self _ _
  have l2 : a.2.natAbs / gS a b ≤ a.2.natAbs := Nat.div_le_self _ _
  have w4 := wI _ _ l1 (by omega)
  have w5 := wI _ _ l2 (by omega)
  have w6 := wU _ _ l2 (by omega)
  have q2 := f39 a.1 ((b.2.natAbs / gS a b : Nat) : Int) ⟨by omega, by omega⟩ (i64N _ _ l1 (by omega)) (Int.natCast_nonneg _)
  have q3 := f39 b.1 ((a.2.natAbs / gS a b : Nat) : Int) ⟨by omega, by omega⟩ (i64N _ _ l2 (by omega)) (Int.natCast_nonneg _)
  have q4 := f40 (a.1 * ((b.2.natAbs / gS a b : Nat) : Int)) (b.1 * ((a.2.natAbs / gS a b : Nat) : Int))
  rw [show a.1 * ((b.2.natAbs / gS a b : Nat) : Int) + b.1 * ((a.2.natAbs / gS a b : Nat) : Int) = sS a b from rfl] at q4
  have q5 := f41 (sS a b) (by omega) (by omega)
  have q6 := f42 0 (sS a b)
  have q7 := f43 (sS a b).natAbs (gS a b) (by omega) (by omega) g0
  have hml : (sS a b).natAbs % gS a b < gS a b := Nat.mod_lt _ g0
  have q8 := f32 ((sS a b).natAbs % gS a b) (gS a b) (lt64 _ _ (Nat.le_of_lt hml) (by omega)) (by omega)
  rw [← Nat.gcd_rec, Nat.gcd_comm, show Nat.gcd (sS a b).natAbs (gS a b) = hS a b from rfl] at q8
  have hhle : hS a b ≤ gS a b := Nat.le_of_dvd g0 (Nat.gcd_dvd_right _ _)
  have q9 := f44 (sS a b).natAbs (hS a b) (by omega) (by omega) h0
  have t3 : ((b.2.natAbs : Nat) : Int).tdiv ((hS a b : Nat) : Int) = ((b.2.natAbs / hS a b : Nat) : Int) := tdivN _ _
  have l3 : b.2.natAbs / hS a b ≤ b.2.natAbs := Nat.div_le_self _ _
  have w7 := wU _ _ l3 (by omega)
  have q10 := f45 (a.2.natAbs / gS a b) (b.2.natAbs / hS a b) (lt64 _ _ l2 (by omega)) (lt64 _ _ l3 (by omega))
  have gne : ¬ ((gS a b : Nat) : Int) = 0 := by omega
  have gne' : ¬ gS a b = 0 := by omega
  have hne : ¬ ((hS a b : Nat) : Int) = 0 := by omega
  have hne' : ¬ hS a b = 0 := by omega
  have q11 := fun (hp : (sS a b).natAbs / hS a b < 18446744073709551616) (hq : a.2.natAbs / gS a b * (b.2.natAbs / hS a b) < 18446744073709551616) => f33 (decide (sS a b < 0)) ((sS a b).natAbs / hS a b) (a.2.natAbs / gS a b * (b.2.natAbs / hS a b)) hp hq
  rw [eA]
  unfold divR at q9
  have hb1 := @outF_big (decide (sS a b < 0)) ((sS a b).natAbs / hS a b) (a.2.natAbs / gS a b * (b.2.natAbs / hS a b))
  clear eA
  generalize a.2.natAbs / gS a b = X at *
  generalize b.2.natAbs / gS a b = Y at *
  generalize b.2.natAbs / hS a b = Z at *
  generalize (sS a b).natAbs / hS a b = U at *
  generalize (sS a b).natAbs % gS a b = M at *
  generalize gS a b = G at *
  generalize hS a b = H at *
  generalize sS a b = S at *
  generalize X * Z = W at *
  generalize a.2.natAbs = A at *
  generalize b.2.natAbs = B at *
  clear l1 l2 l3 hml hhle hgle a1 a2 a3 a4 a5 b1 b2 b3 b4 b5
  simp only [eF] at v1 v2 ⊢
  rw [eZ0] at q6
  by_cases hs : S < 0
  · have e0 : sgI S = -1 := if_pos hs
    have e1 : 0 - S = ((S.natAbs : Nat) : Int) := by omega
    rw [e0] at q5
    rw [e1] at q6
    have hd : decide (S < 0) = true := decide_eq_true hs
    rw [hd] at hb1 q11 ⊢
    simp only [eZ] at q2 q3 q4 q5 q6 q7 q9
    by_cases hu : U < 18446744073709551616
    · rw [if_pos hu] at q9
      by_cases hw : W < 18446744073709551616
      · have q12 := q11 hu hw
        have hmod : W % 18446744073709551616 = W := Nat.mod_eq_of_lt hw
        rw [hmod] at q10
        simp only [hw, decide_true] at q10
        generalize outF true U W = r at *
        obtain ⟨⟨r1, r2⟩, r3⟩ := r
        simp only [eR, eF] at q12 ⊢
        unfold c18
        simp [evCode, evOps, evOne, evOp, evPur, evEff, evPur.chunks, fillP, AOp.isEff, AO.ev, putP, PV.cells, PV.leaf, getB, getM, mapE, iterE, keyC, mapRows, mfind, eq1, eqL, scal, binP, unP, minP, maxP, foldP, PV.lt, PV.lt.ltL, endP, expoAll, expoG, expo, expo.expoL, frIds, frIds.frIdsL, nodupN, kill, cls, clsFuel, resO, RV.get, loadP, evC_p, evC_s, endS, endT, rowsOf, callP, thinL, unfr, unfr.unfrL, PV.noMem, PV.noMem.noMemL, optI, mapO, norm, trimT, trimB, forget, hasN, blksLt, List.set, softChk, softGo, softRd, effTg, rdP, v1, v2, w1, w2, q1, w3, w3', t1, t2, w4, w5, w6, q2, q3, q4, q5, q6, q7, q8, q9, t3, w7, q10, gne, gne', hne, hne', q12]
      · have hbad := hb1 (.inr hw)
        rw [hbad]
        simp only [hw, decide_false] at q10
        generalize W % 18446744073709551616 = W' at *
        simp only [eR, eF]
        unfold c18
        simp [evCode, evOps, evOne, evOp, evPur, evEff, evPur.chunks, fillP, AOp.isEff, AO.ev, putP, PV.cells, PV.leaf, getB, getM, mapE, iterE, keyC, mapRows, mfind, eq1, eqL, scal, binP, unP, minP, maxP, foldP, PV.lt, PV.lt.ltL, endP, expoAll, expoG, expo, expo.expoL, frIds, frIds.frIdsL, nodupN, kill, cls, clsFuel, resO, RV.get, loadP, evC_p, evC_s, endS, endT, rowsOf, callP, thinL, unfr, unfr.unfrL, PV.noMem, PV.noMem.noMemL, optI, mapO, norm, trimT, trimB, forget, hasN, blksLt, List.set, softChk, softGo, softRd, effTg, rdP, v1, v2, w1, w2, q1, w3, w3', t1, t2, w4, w5, w6, q2, q3, q4, q5, q6, q7, q8, q9, t3, w7, q10, gne, gne', hne, hne']
    · have hbad := hb1 (.inl hu)
      rw [hbad]
      rw [if_neg hu] at q9
      generalize W % 18446744073709551616 = W' at *
      generalize decide (W < 18446744073709551616) = W2 at *
      simp only [eR, eF]
      unfold c18
      simp [evCode, evOps, evOne, evOp, evPur, evEff, evPur.chunks, fillP, AOp.isEff, AO.ev, putP, PV.cells, PV.leaf, getB, getM, mapE, iterE, keyC, mapRows, mfind, eq1, eqL, scal, binP, unP, minP, maxP, foldP, PV.lt, PV.lt.ltL, endP, expoAll, expoG, expo, expo.expoL, frIds, frIds.frIdsL, nodupN, kill, cls, clsFuel, resO, RV.get, loadP, evC_p, evC_s, endS, endT, rowsOf, callP, thinL, unfr, unfr.unfrL, PV.noMem, PV.noMem.noMemL, optI, mapO, norm, trimT, trimB, forget, hasN, blksLt, List.set, softChk, softGo, softRd, effTg, rdP, v1, v2, w1, w2, q1, w3, w3', t1, t2, w4, w5, w6, q2, q3, q4, q5, q6, q7, q8, q9, t3, w7, q10, gne, gne', hne, hne']
  · have e0 : ¬ sgI S < 0 := by unfold sgI; rw [if_neg hs]; split <;> omega
    have e1 : ((S.natAbs : Nat) : Int) = S := by omega
    rw [e1] at q7 q9
    generalize sgI S = sg0 at *
    have hd : decide (S < 0) = false := decide_eq_false hs
    rw [hd] at hb1 q11 ⊢
    simp only [eZ] at q2 q3 q4 q5 q7 q9
    by_cases hu : U < 18446744073709551616
    · rw [if_pos hu] at q9
      by_cases hw : W < 18446744073709551616
      · have q12 := q11 hu hw
        have hmod : W % 18446744073709551616 = W := Nat.mod_eq_of_lt hw
        rw [hmod] at q10
        simp only [hw, decide_true] at q10
        generalize outF false U W = r at *
        obtain ⟨⟨r1, r2⟩, r3⟩ := r
        simp only [eR, eF] at q12 ⊢
        unfold c18
        simp [evCode, evOps, evOne, evOp, evPur, evEff, evPur.chunks, fillP, AOp.isEff, AO.ev, putP, PV.cells, PV.leaf, getB, getM, mapE, iterE, keyC, mapRows, mfind, eq1, eqL, scal, binP, unP, minP, maxP, foldP, PV.lt, PV.lt.ltL, endP, expoAll, expoG, expo, expo.expoL, frIds, frIds.frIdsL, nodupN, kill, cls, clsFuel, resO, RV.get, loadP, evC_p, evC_s, endS, endT, rowsOf, callP, thinL, unfr, unfr.unfrL, PV.noMem, PV.noMem.noMemL, optI, mapO, norm, trimT, trimB, forget, hasN, blksLt, List.set, softChk, softGo, softRd, effTg, rdP, e0, v1, v2, w1, w2, q1, w3, w3', t1, t2, w4, w5, w6, q2, q3, q4, q5, q7, q8, q9, t3, w7, q10, gne, gne', hne, hne', q12]
      · have hbad := hb1 (.inr hw)
        rw [hbad]
        simp only [hw, decide_false] at q10
        generalize W % 18446744073709551616 = W' at *
        simp only [eR, eF]
        unfold c18
        simp [evCode, evOps, evOne, evOp, evPur, evEff, evPur.chunks, fillP, AOp.isEff, AO.ev, putP, PV.cells, PV.leaf, getB, getM, mapE, iterE, keyC, mapRows, mfind, eq1, eqL, scal, binP, unP, minP, maxP, foldP, PV.lt, PV.lt.ltL, endP, expoAll, expoG, expo, expo.expoL, frIds, frIds.frIdsL, nodupN, kill, cls, clsFuel, resO, RV.get, loadP, evC_p, evC_s, endS, endT, rowsOf, callP, thinL, unfr, unfr.unfrL, PV.noMem, PV.noMem.noMemL, optI, mapO, norm, trimT, trimB, forget, hasN, blksLt, List.set, softChk, softGo, softRd, effTg, rdP, e0, v1, v2, w1, w2, q1, w3, w3', t1, t2, w4, w5, w6, q2, q3, q4, q5, q7, q8, q9, t3, w7, q10, gne, gne', hne, hne']
    · have hbad := hb1 (.inl hu)
      rw [hbad]
      rw [if_neg hu] at q9
      generalize W % 18446744073709551616 = W' at *
      generalize decide (W < 18446744073709551616) = W2 at *
      simp only [eR, eF]
      unfold c18
      simp [evCode, evOps, evOne, evOp, evPur, evEff, evPur.chunks, fillP, AOp.isEff, AO.ev, putP, PV.cells, PV.leaf, getB, getM, mapE, iterE, keyC, mapRows, mfind, eq1, eqL, scal, binP, unP, minP, maxP, foldP, PV.lt, PV.lt.ltL, endP, expoAll, expoG, expo, expo.expoL, frIds, frIds.frIdsL, nodupN, kill, cls, clsFuel, resO, RV.get, loadP, evC_p, evC_s, endS, endT, rowsOf, callP, thinL, unfr, unfr.unfrL, PV.noMem, PV.noMem.noMemL, optI, mapO, norm, trimT, trimB, forget, hasN, blksLt, List.set, softChk, softGo, softRd, effTg, rdP, e0, v1, v2, w1, w2, q1, w3, w3', t1, t2, w4, w5, w6, q2, q3, q4, q5, q7, q8, q9, t3, w7, q10, gne, gne', hne, hne']
end Go.Proofs.YtddglikicokpeaaDoor
