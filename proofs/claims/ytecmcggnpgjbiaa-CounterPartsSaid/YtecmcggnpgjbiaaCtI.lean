/- Wide sums of the program. -/
import Derived.Test.YtecmcggnpgjbiaaCtH
namespace Go.Proofs.Ytecmcggnpgjbiaa
open Go Go.RowKit
set_option linter.unusedVariables false
set_option linter.unusedSimpArgs false
set_option maxHeartbeats 4000000

theorem f50 (x y c : Int) (hx : 0 ≤ x) (hy : 0 ≤ y) (h0 : 0 ≤ c) (h1 : c ≤ 1) : evE Dg 50 [.int .u64 x, .int .u64 y, .int .u64 c] = some (.tup [.int .u64 ((x + y + c) % 18446744073709551616), .int .u64 ((x + y + c) / 18446744073709551616)]) :=
  evE_ext D50 rfl (by simp only [xAdd64]; rw [if_pos ⟨hx, hy, h0, h1⟩])
/-- a number in two's complement -/
def eZ (Z : Int) : PV := .agg [.int .u64 (Z / 18446744073709551616 % 18446744073709551616), .int .u64 (Z % 18446744073709551616)]
theorem wide_pos {Z p z1 z0 hi lo q1 s0 : Int} (h1 : Z / 18446744073709551616 % 18446744073709551616 = z1) (h0 : Z % 18446744073709551616 = z0) (hh : p / 18446744073709551616 = hi) (hl : p % 18446744073709551616 = lo)
    (hs : (z0 + lo + 0) % 18446744073709551616 = s0) (hc : (z0 + lo + 0) / 18446744073709551616 = q1) : (Z + p) % 18446744073709551616 = s0 ∧ (Z + p) / 18446744073709551616 % 18446744073709551616 = (z1 + hi + q1) % 18446744073709551616 := by
  constructor <;> omega
theorem wide_neg {Z p d z1 z0 hi lo q1 s0 : Int} (h1 : Z / 18446744073709551616 % 18446744073709551616 = z1) (h0 : Z % 18446744073709551616 = z0) (hh : (p + 18446744073709551616 * d) / 18446744073709551616 = hi) (hl : (p + 18446744073709551616 * d) % 18446744073709551616 = lo)
    (hs : (z0 + lo + 0) % 18446744073709551616 = s0) (hc : (z0 + lo + 0) / 18446744073709551616 = q1) : (Z + p) % 18446744073709551616 = s0 ∧ (Z + p) / 18446744073709551616 % 18446744073709551616 = (z1 + (hi - d) % 18446744073709551616 + q1) % 18446744073709551616 := by
  constructor <;> omega
set_option maxRecDepth 100000 in
theorem f32 (Z v d : Int) (hv1 : -9223372036854775808 ≤ v) (hv2 : v ≤ 9223372036854775807) (hd1 : 0 ≤ d) (hd2 : d ≤ 9223372036854775807) : evE Dg 32 [eZ Z, .int .i64 v, .int .i64 d] = some (eZ (Z + v * d)) := by
  have wd : IntKind.u64.wrap d = d := wrap_u64 _ (by omega) (by omega)
  obtain ⟨dn, rfl⟩ : ∃ q : Nat, d = q := ⟨d.toNat, by omega⟩
  unfold eZ
  obtain ⟨z1, h1⟩ := ex_eq (Z / 18446744073709551616 % 18446744073709551616)
  obtain ⟨z0, h0⟩ := ex_eq (Z % 18446744073709551616)
  obtain ⟨p, hp⟩ := ex_eq (v * (dn : Int))
  have z1a : 0 ≤ z1 ∧ z1 < 18446744073709551616 := by omega
  have z0a : 0 ≤ z0 ∧ z0 < 18446744073709551616 := by omega
  by_cases c : v < 0
  · have wv : IntKind.u64.wrap v = ((v + 18446744073709551616).toNat : Nat) := by rw [wrap_u64']; omega
    have h49 := f49 (v + 18446744073709551616).toNat dn (by omega) (by omega)
    have hP : (((v + 18446744073709551616).toNat * dn : Nat) : Int) = p + 18446744073709551616 * dn := by
      rw [Int.natCast_mul, show (((v + 18446744073709551616).toNat : Nat) : Int) = v + 18446744073709551616 by omega, Int.add_mul, hp]
    obtain ⟨P, hPn⟩ := ex_eq ((v + 18446744073709551616).toNat * dn)
    rw [hPn] at hP h49
    obtain ⟨u, hu⟩ := ex_eq ((v + 18446744073709551616).toNat)
    rw [hu] at wv h49
    obtain ⟨hi, hh⟩ := ex_eq (P / 18446744073709551616)
    obtain ⟨lo, hl⟩ := ex_eq (P % 18446744073709551616)
    rw [hh, hl] at h49
    obtain ⟨s0, hs⟩ := ex_eq ((z0 + (lo : Int) + 0) % 18446744073709551616)
    obtain ⟨q1, hq⟩ := ex_eq ((z0 + (lo : Int) + 0) / 18446744073709551616)
    have ll : lo < 18446744073709551616 := by omega
    obtain ⟨e0, e1⟩ := wide_neg (d := dn) (p := p) (hi := (hi : Int)) (lo := (lo : Int)) h1 h0 (by rw [← hP]; omega) (by rw [← hP]; omega) hs hq
    have hPl : P ≤ 18446744073709551615 * 9223372036854775807 := by rw [← hPn]; exact Nat.mul_le_mul (by omega) (by omega)
    have hil : hi ≤ 18446744073709551615 := by omega
    have w3 : IntKind.u64.wrap ((hi : Int) - dn) = ((hi : Int) - dn) % 18446744073709551616 := wrap_u64' _
    obtain ⟨g, hg⟩ := ex_eq (((hi : Int) - dn) % 18446744073709551616)
    have g0 : 0 ≤ g := by omega
    rw [hg] at w3 e1
    have q0 : 0 ≤ q1 ∧ q1 ≤ 1 := by omega
    have a1 := f50 z0 lo 0 z0a.1 (by omega) (by omega) (by omega)
    have a2 := f50 z1 g q1 z1a.1 g0 q0.1 q0.2
    rw [hs, hq] at a1
    rw [hp, h1, h0, e0, e1]
    obtain ⟨r1, hr⟩ := ex_eq ((z1 + g + q1) % 18446744073709551616)
    obtain ⟨r2, hr2⟩ := ex_eq ((z1 + g + q1) / 18446744073709551616)
    rw [hr, hr2] at a2
    rw [hr]
    clear e0 e1 hr hr2 hs hq hg hh hl hP hPn hPl h1 h0 hp
    refine evE_intro 3 D32 rfl ?_
    unfold c32
    simp [evCode, evOps, evOne, evOp, evPur, evEff, evPur.chunks, fillP, AOp.isEff, AO.ev, putP, PV.cells, PV.leaf, getB, getM, mapE, keyC, mapRows, mfind, eq1, eqL, scal, binP, unP, minP, maxP, foldP, PV.lt, PV.lt.ltL, endP, expoAll, expo, expo.expoL, frIds, frIds.frIdsL, nodupN, kill, cls, clsFuel, resO, RV.get, loadP, evC_p, evC_s, endS, endT, rowsOf, callP, thinL, unfr, unfr.unfrL, PV.noMem, PV.noMem.noMemL, optI, mapO, norm, trimT, trimB, forget, hasN, blksLt, List.set, wd, wv, h49, c, w3, a1, a2]
  · have wv : IntKind.u64.wrap v = (v.toNat : Nat) := by rw [wrap_u64']; omega
    have h49 := f49 v.toNat dn (by omega) (by omega)
    have hP : ((v.toNat * dn : Nat) : Int) = p := by
      rw [Int.natCast_mul, show ((v.toNat : Nat) : Int) = v by omega, hp]
    have hPl : v.toNat * dn ≤ 9223372036854775807 * 9223372036854775807 := Nat.mul_le_mul (by omega) (by omega)
    obtain ⟨P, hPn⟩ := ex_eq (v.toNat * dn)
    rw [hPn] at hP h49 hPl
    obtain ⟨u, hu⟩ := ex_eq v.toNat
    rw [hu] at wv h49
    obtain ⟨hi, hh⟩ := ex_eq (P / 18446744073709551616)
    obtain ⟨lo, hl⟩ := ex_eq (P % 18446744073709551616)
    rw [hh, hl] at h49
    obtain ⟨s0, hs⟩ := ex_eq ((z0 + (lo : Int) + 0) % 18446744073709551616)
    obtain ⟨q1, hq⟩ := ex_eq ((z0 + (lo : Int) + 0) / 18446744073709551616)
    have ll : lo < 18446744073709551616 := by omega
    obtain ⟨e0, e1⟩ := wide_pos (p := p) (hi := (hi : Int)) (lo := (lo : Int)) h1 h0 (by rw [← hP]; omega) (by rw [← hP]; omega) hs hq
    have q0 : 0 ≤ q1 ∧ q1 ≤ 1 := by omega
    have a1 := f50 z0 lo 0 z0a.1 (by omega) (by omega) (by omega)
    have a2 := f50 z1 hi q1 z1a.1 (by omega) q0.1 q0.2
    rw [hs, hq] at a1
    rw [hp, h1, h0, e0, e1]
    obtain ⟨r1, hr⟩ := ex_eq ((z1 + (hi : Int) + q1) % 18446744073709551616)
    obtain ⟨r2, hr2⟩ := ex_eq ((z1 + (hi : Int) + q1) / 18446744073709551616)
    rw [hr, hr2] at a2
    rw [hr]
    clear e0 e1 hr hr2 hs hq hh hl hP hPn hPl h1 h0 hp
    refine evE_intro 3 D32 rfl ?_
    unfold c32
    simp [evCode, evOps, evOne, evOp, evPur, evEff, evPur.chunks, fillP, AOp.isEff, AO.ev, putP, PV.cells, PV.leaf, getB, getM, mapE, keyC, mapRows, mfind, eq1, eqL, scal, binP, unP, minP, maxP, foldP, PV.lt, PV.lt.ltL, endP, expoAll, expo, expo.expoL, frIds, frIds.frIdsL, nodupN, kill, cls, clsFuel, resO, RV.get, loadP, evC_p, evC_s, endS, endT, rowsOf, callP, thinL, unfr, unfr.unfrL, PV.noMem, PV.noMem.noMemL, optI, mapO, norm, trimT, trimB, forget, hasN, blksLt, List.set, wd, wv, h49, c, a1, a2]
theorem f33_pos {Z : Int} (h1 : -170141183460469231731687303715884105728 ≤ Z) (h2 : Z < 170141183460469231731687303715884105728) (n : Int) (hn : IntKind.i64.wrap (Z % 18446744073709551616) = n) :
    (Z / 18446744073709551616 % 18446744073709551616 = IntKind.u64.wrap (n.fdiv 9223372036854775808) ∧ -1000000000000000 ≤ n ∧ n ≤ 1000000000000000 ↔ -1000000000000000 ≤ Z ∧ Z ≤ 1000000000000000) ∧ (-1000000000000000 ≤ Z ∧ Z ≤ 1000000000000000 → n = Z) := by
  have hn' : n = if Z % 18446744073709551616 < 9223372036854775808 then Z % 18446744073709551616 else Z % 18446744073709551616 - 18446744073709551616 := by
    rw [← hn]
    unfold IntKind.wrap
    simp only [IntKind.bits, IntKind.signed]
    simp
    omega
  have hd : IntKind.u64.wrap (n.fdiv 9223372036854775808) = if n < 0 then 18446744073709551615 else 0 := by
    rw [Int.fdiv_eq_ediv_of_nonneg _ (by omega), wrap_u64']
    split <;> omega
  rw [hd]
  refine ⟨⟨fun ⟨a, b, c⟩ => ?_, fun ⟨a, b⟩ => ⟨?_, ?_, ?_⟩⟩, fun ⟨a, b⟩ => ?_⟩
  · split at a <;> split at hn' <;> constructor <;> omega
  · split <;> split at hn' <;> omega
  · split at hn' <;> omega
  · split at hn' <;> omega
  · split at hn' <;> omega
set_option maxRecDepth 100000 in
theorem f33 (Z : Int) (h1 : -170141183460469231731687303715884105728 ≤ Z) (h2 : Z < 170141183460469231731687303715884105728) : evE Dg 33 [eZ Z] = some (inR Z) := by
  obtain ⟨n, hn⟩ := ex_eq (IntKind.i64.wrap (Z % 18446744073709551616))
  obtain ⟨k1, k2⟩ := f33_pos h1 h2 n hn
  have h30 := f30 n
  have m1 : Nat.min 63 IntKind.i64.bits = 63 := by decide
  have m2 : min 63 IntKind.i64.bits = 63 := by decide
  unfold eZ inR
  obtain ⟨z1, hz1⟩ := ex_eq (Z / 18446744073709551616 % 18446744073709551616)
  obtain ⟨z0, hz0⟩ := ex_eq (Z % 18446744073709551616)
  rw [hz1] at k1 ⊢
  rw [hz0] at hn ⊢
  obtain ⟨f, hf⟩ := ex_eq (n.fdiv 9223372036854775808)
  rw [hf] at k1
  obtain ⟨g, hg⟩ := ex_eq (IntKind.u64.wrap f)
  rw [hg] at k1
  clear hz1 hz0
  by_cases c : -1000000000000000 ≤ Z ∧ Z ≤ 1000000000000000
  · rw [if_pos c]
    obtain ⟨e1, e2⟩ := k1.2 c
    have e3 := k2 c
    subst e1
    rw [decide_eq_true e2] at h30
    subst e3
    refine evE_intro 3 D33 rfl ?_
    unfold c33
    simp [evCode, evOps, evOne, evOp, evPur, evEff, evPur.chunks, fillP, AOp.isEff, AO.ev, putP, PV.cells, PV.leaf, getB, getM, mapE, keyC, mapRows, mfind, eq1, eqL, scal, binP, unP, minP, maxP, foldP, PV.lt, PV.lt.ltL, endP, expoAll, expo, expo.expoL, frIds, frIds.frIdsL, nodupN, kill, cls, clsFuel, resO, RV.get, loadP, evC_p, evC_s, endS, endT, rowsOf, callP, thinL, unfr, unfr.unfrL, PV.noMem, PV.noMem.noMemL, optI, mapO, norm, trimT, trimB, forget, hasN, blksLt, List.set, hn, m1, m2, hf, hg, h30]
  · rw [if_neg c]
    by_cases e1 : z1 = g
    · subst e1
      have e2 : ¬ (-1000000000000000 ≤ n ∧ n ≤ 1000000000000000) := fun h => c (k1.1 ⟨rfl, h⟩)
      rw [decide_eq_false e2] at h30
      refine evE_intro 3 D33 rfl ?_
      unfold c33
      simp [evCode, evOps, evOne, evOp, evPur, evEff, evPur.chunks, fillP, AOp.isEff, AO.ev, putP, PV.cells, PV.leaf, getB, getM, mapE, keyC, mapRows, mfind, eq1, eqL, scal, binP, unP, minP, maxP, foldP, PV.lt, PV.lt.ltL, endP, expoAll, expo, expo.expoL, frIds, frIds.frIdsL, nodupN, kill, cls, clsFuel, resO, RV.get, loadP, evC_p, evC_s, endS, endT, rowsOf, callP, thinL, unfr, unfr.unfrL, PV.noMem, PV.noMem.noMemL, optI, mapO, norm, trimT, trimB, forget, hasN, blksLt, List.set, hn, m1, m2, hf, hg, h30]
    · refine evE_intro 3 D33 rfl ?_
      unfold c33
      simp [evCode, evOps, evOne, evOp, evPur, evEff, evPur.chunks, fillP, AOp.isEff, AO.ev, putP, PV.cells, PV.leaf, getB, getM, mapE, keyC, mapRows, mfind, eq1, eqL, scal, binP, unP, minP, maxP, foldP, PV.lt, PV.lt.ltL, endP, expoAll, expo, expo.expoL, frIds, frIds.frIdsL, nodupN, kill, cls, clsFuel, resO, RV.get, loadP, evC_p, evC_s, endS, endT, rowsOf, callP, thinL, unfr, unfr.unfrL, PV.noMem, PV.noMem.noMemL, optI, mapO, norm, trimT, trimB, forget, hasN, blksLt, List.set, hn, m1, m2, hf, hg, e1]
theorem f34 (a b : Int) : evE Dg 34 [.agg [.int .i64 a, .int .i64 b]] = some (.bool (decide (0 ≤ a ∧ a < b ∧ b ≤ 1000000000000))) := by
  refine evE_intro 3 D34 rfl ?_
  unfold c34
  by_cases c1 : 0 ≤ a
  · by_cases c2 : a < b
    · by_cases c3 : b ≤ 1000000000000
      · simp [evCode, evOps, evOne, evOp, evPur, evEff, evPur.chunks, fillP, AOp.isEff, AO.ev, putP, PV.cells, PV.leaf, getB, getM, mapE, keyC, mapRows, mfind, eq1, eqL, scal, binP, unP, minP, maxP, foldP, PV.lt, PV.lt.ltL, endP, expoAll, expo, expo.expoL, frIds, frIds.frIdsL, nodupN, kill, cls, clsFuel, resO, RV.get, loadP, evC_p, evC_s, endS, endT, rowsOf, callP, thinL, unfr, unfr.unfrL, PV.noMem, PV.noMem.noMemL, optI, mapO, norm, trimT, trimB, forget, hasN, blksLt, List.set, c1, c2, c3]
      · simp [evCode, evOps, evOne, evOp, evPur, evEff, evPur.chunks, fillP, AOp.isEff, AO.ev, putP, PV.cells, PV.leaf, getB, getM, mapE, keyC, mapRows, mfind, eq1, eqL, scal, binP, unP, minP, maxP, foldP, PV.lt, PV.lt.ltL, endP, expoAll, expo, expo.expoL, frIds, frIds.frIdsL, nodupN, kill, cls, clsFuel, resO, RV.get, loadP, evC_p, evC_s, endS, endT, rowsOf, callP, thinL, unfr, unfr.unfrL, PV.noMem, PV.noMem.noMemL, optI, mapO, norm, trimT, trimB, forget, hasN, blksLt, List.set, c1, c2, c3]
    · simp [evCode, evOps, evOne, evOp, evPur, evEff, evPur.chunks, fillP, AOp.isEff, AO.ev, putP, PV.cells, PV.leaf, getB, getM, mapE, keyC, mapRows, mfind, eq1, eqL, scal, binP, unP, minP, maxP, foldP, PV.lt, PV.lt.ltL, endP, expoAll, expo, expo.expoL, frIds, frIds.frIdsL, nodupN, kill, cls, clsFuel, resO, RV.get, loadP, evC_p, evC_s, endS, endT, rowsOf, callP, thinL, unfr, unfr.unfrL, PV.noMem, PV.noMem.noMemL, optI, mapO, norm, trimT, trimB, forget, hasN, blksLt, List.set, c1, c2]
  · simp [evCode, evOps, evOne, evOp, evPur, evEff, evPur.chunks, fillP, AOp.isEff, AO.ev, putP, PV.cells, PV.leaf, getB, getM, mapE, keyC, mapRows, mfind, eq1, eqL, scal, binP, unP, minP, maxP, foldP, PV.lt, PV.lt.ltL, endP, expoAll, expo, expo.expoL, frIds, frIds.frIdsL, nodupN, kill, cls, clsFuel, resO, RV.get, loadP, evC_p, evC_s, endS, endT, rowsOf, callP, thinL, unfr, unfr.unfrL, PV.noMem, PV.noMem.noMemL, optI, mapO, norm, trimT, trimB, forget, hasN, blksLt, List.set, c1]
/-- until when a step holds -/
def unt (l : List Stp) (i : Nat) (a : Stp) : Int := match l[i + 1]? with
  | some b => if b.1 = a.1 then b.2.1 else 1000000000000
  | none => 1000000000000
set_option maxRecDepth 100000 in
theorem f35 (x : Bool) (l : List Stp) (hl : l.length ≤ 1000000) (i : Nat) (a : Stp) (ha : l[i]? = some a) (hi : i < l.length) : evE Dg 35 [eSp x l, .int .i64 (i : Int)] = some (.int .i64 (unt l i a)) := by
  have el : (l.map row).length = l.length := by simp
  have w : IntKind.i64.wrap ((i : Int) + 1) = ((i + 1 : Nat) : Int) := by rw [wrap_i64 _ (by omega) (by omega)]; omega
  have g1 := map_get (f := row) ha
  have g2 := sp_got ha
  have hi' : (i : Int) < l.length := by omega
  obtain ⟨a1, a2, a3⟩ := a
  simp only [row] at g1 g2
  unfold unt
  obtain ⟨j, hj⟩ := ex_eq (i + 1)
  rw [hj] at w ⊢
  by_cases c : j < l.length
  · have c' : (j : Int) < l.length := by omega
    obtain ⟨b, hb⟩ : ∃ b, l[j]? = some b := ⟨_, List.getElem?_eq_getElem c⟩
    have p1 := map_get (f := row) hb
    have p2 := sp_got hb
    rw [hb]
    obtain ⟨b1, b2, b3⟩ := b
    simp only [row] at p1 p2 ⊢
    by_cases d : b1 = a1
    · subst d
      refine evE_intro 3 D35 rfl ?_
      unfold c35
      simp [evCode, evOps, evOne, evOp, evPur, evEff, evPur.chunks, fillP, AOp.isEff, AO.ev, putP, PV.cells, PV.leaf, getB, getM, mapE, keyC, mapRows, mfind, eq1, eqL, scal, binP, unP, minP, maxP, foldP, PV.lt, PV.lt.ltL, endP, expoAll, expo, expo.expoL, frIds, frIds.frIdsL, nodupN, kill, cls, clsFuel, resO, RV.get, loadP, evC_p, evC_s, endS, endT, rowsOf, callP, thinL, unfr, unfr.unfrL, PV.noMem, PV.noMem.noMemL, optI, mapO, norm, trimT, trimB, forget, hasN, blksLt, List.set, eSp, el, w, c, c', g1, g2, hi, hi', p1, p2]
    · refine evE_intro 3 D35 rfl ?_
      unfold c35
      simp [evCode, evOps, evOne, evOp, evPur, evEff, evPur.chunks, fillP, AOp.isEff, AO.ev, putP, PV.cells, PV.leaf, getB, getM, mapE, keyC, mapRows, mfind, eq1, eqL, scal, binP, unP, minP, maxP, foldP, PV.lt, PV.lt.ltL, endP, expoAll, expo, expo.expoL, frIds, frIds.frIdsL, nodupN, kill, cls, clsFuel, resO, RV.get, loadP, evC_p, evC_s, endS, endT, rowsOf, callP, thinL, unfr, unfr.unfrL, PV.noMem, PV.noMem.noMemL, optI, mapO, norm, trimT, trimB, forget, hasN, blksLt, List.set, eSp, el, w, c, c', g1, g2, hi, hi', p1, p2, d]
  · have c' : ¬ (j : Int) < l.length := by omega
    rw [List.getElem?_eq_none (by omega)]
    refine evE_intro 3 D35 rfl ?_
    unfold c35
    simp [evCode, evOps, evOne, evOp, evPur, evEff, evPur.chunks, fillP, AOp.isEff, AO.ev, putP, PV.cells, PV.leaf, getB, getM, mapE, keyC, mapRows, mfind, eq1, eqL, scal, binP, unP, minP, maxP, foldP, PV.lt, PV.lt.ltL, endP, expoAll, expo, expo.expoL, frIds, frIds.frIdsL, nodupN, kill, cls, clsFuel, resO, RV.get, loadP, evC_p, evC_s, endS, endT, rowsOf, callP, thinL, unfr, unfr.unfrL, PV.noMem, PV.noMem.noMemL, optI, mapO, norm, trimT, trimB, forget, hasN, blksLt, List.set, eSp, el, w, c, c']
end Go.Proofs.Ytecmcggnpgjbiaa
