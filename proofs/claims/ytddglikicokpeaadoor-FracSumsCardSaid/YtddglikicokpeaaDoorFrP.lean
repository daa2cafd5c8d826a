/- frac: sizes, the greatest common divisor, wide numbers of the program. -/
import Derived.Test.YtddglikicokpeaaDoorFrE
import Derived.Test.YtddglikicokpeaaDoorFrS
namespace Go.Proofs.YtddglikicokpeaaDoor
open Go Go.RowKit
set_option linter.unusedVariables false
set_option linter.unusedSimpArgs false
set_option maxHeartbeats 4000000

def i64 (n : Int) : Prop := -9223372036854775808 ≤ n ∧ n ≤ 9223372036854775807
theorem f31 (n : Int) (h : i64 n) : evE Dg 31 [.int .i64 n] = some (.int .u64 (n.natAbs : Nat)) := by
  obtain ⟨h1, h2⟩ := h
  refine evE_intro 1 D31 rfl ?_
  unfold c31
  by_cases h0 : n < 0
  · have w1 : IntKind.u64.wrap n = n + 18446744073709551616 := by rw [wrap_u64']; omega
    have w2 : IntKind.u64.wrap (-(n + 18446744073709551616)) = (n.natAbs : Int) := by rw [wrap_u64']; omega
    have w3 : IntKind.u64.wrap (0 - (n + 18446744073709551616)) = (n.natAbs : Int) := by rw [wrap_u64']; omega
    simp [evCode, evOps, evOne, evOp, evPur, evEff, evPur.chunks, fillP, AOp.isEff, AO.ev, putP, PV.cells, PV.leaf, getB, getM, mapE, iterE, keyC, mapRows, mfind, eq1, eqL, scal, binP, unP, minP, maxP, foldP, PV.lt, PV.lt.ltL, endP, expoAll, expoG, expo, expo.expoL, frIds, frIds.frIdsL, nodupN, kill, cls, clsFuel, resO, RV.get, loadP, evC_p, evC_s, endS, endT, rowsOf, callP, thinL, unfr, unfr.unfrL, PV.noMem, PV.noMem.noMemL, optI, mapO, norm, trimT, trimB, forget, hasN, blksLt, List.set, softChk, softGo, softRd, effTg, rdP, h0, w1, w2, w3]
  · have w1 : IntKind.u64.wrap n = (n.natAbs : Int) := by rw [wrap_u64']; omega
    simp [evCode, evOps, evOne, evOp, evPur, evEff, evPur.chunks, fillP, AOp.isEff, AO.ev, putP, PV.cells, PV.leaf, getB, getM, mapE, iterE, keyC, mapRows, mfind, eq1, eqL, scal, binP, unP, minP, maxP, foldP, PV.lt, PV.lt.ltL, endP, expoAll, expoG, expo, expo.expoL, frIds, frIds.frIdsL, nodupN, kill, cls, clsFuel, resO, RV.get, loadP, evC_p, evC_s, endS, endT, rowsOf, callP, thinL, unfr, unfr.unfrL, PV.noMem, PV.noMem.noMemL, optI, mapO, norm, trimT, trimB, forget, hasN, blksLt, List.set, softChk, softGo, softRd, effTg, rdP, h0, w1]

def SG (x : Nat × Nat) : St := ⟨[.int .u64 x.1, .int .u64 x.2] ++ List.replicate 10 .top, []⟩
theorem f32 (a b : Nat) (ha : a < 18446744073709551616) (hb : b < 18446744073709551616) : evE Dg 32 [.int .u64 a, .int .u64 b] = some (.int .u64 (Nat.gcd a b : Nat)) := by
  refine evE_intro (b + 10) D32 rfl ?_
  unfold c32
  simp [evCode, evOps, evOne, evOp, evPur, evEff, evPur.chunks, fillP, AOp.isEff, AO.ev, putP, PV.cells, PV.leaf, getB, getM, mapE, iterE, keyC, mapRows, mfind, eq1, eqL, scal, binP, unP, minP, maxP, foldP, PV.lt, PV.lt.ltL, endP, expoAll, expoG, expo, expo.expoL, frIds, frIds.frIdsL, nodupN, kill, cls, clsFuel, resO, RV.get, loadP, evC_p, evC_s, endS, endT, rowsOf, callP, thinL, unfr, unfr.unfrL, PV.noMem, PV.noMem.noMemL, optI, mapO, norm, trimT, trimB, forget, hasN, blksLt, List.set, softChk, softGo, softRd, effTg, rdP]
  generalize hE : evLoop (evCode (evC Dg) (b + 10) c32b0) [0, 1] 0 (b + 10) _ = E
  have H := loop_while (body := evCode (evC Dg) (b + 10) c32b0) (keep := [0, 1]) (n0 := 0) (fuel := b + 10) SG (fun x => x.2) (fun x => x.1 < 18446744073709551616 ∧ x.2 < 18446744073709551616 ∧ Nat.gcd x.1 x.2 = Nat.gcd a b)
    (fun o => o = .exit 0 ⟨[.int .u64 (Nat.gcd a b : Nat), .int .u64 0, .top, .top, .top, .int .u64 0, .bool false] ++ List.replicate 5 .top, []⟩) ?_ (a, b) ⟨ha, hb, rfl⟩ (by show b < b + 10; omega) _ E hE (by simp [evCode, evOps, evOne, evOp, evPur, evEff, evPur.chunks, fillP, AOp.isEff, AO.ev, putP, PV.cells, PV.leaf, getB, getM, mapE, iterE, keyC, mapRows, mfind, eq1, eqL, scal, binP, unP, minP, maxP, foldP, PV.lt, PV.lt.ltL, endP, expoAll, expoG, expo, expo.expoL, frIds, frIds.frIdsL, nodupN, kill, cls, clsFuel, resO, RV.get, loadP, evC_p, evC_s, endS, endT, rowsOf, callP, thinL, unfr, unfr.unfrL, PV.noMem, PV.noMem.noMemL, optI, mapO, norm, trimT, trimB, forget, hasN, blksLt, List.set, softChk, softGo, softRd, effTg, rdP, SG])
  · obtain ⟨o, rfl, rfl⟩ := H
    simp [evCode, evOps, evOne, evOp, evPur, evEff, evPur.chunks, fillP, AOp.isEff, AO.ev, putP, PV.cells, PV.leaf, getB, getM, mapE, iterE, keyC, mapRows, mfind, eq1, eqL, scal, binP, unP, minP, maxP, foldP, PV.lt, PV.lt.ltL, endP, expoAll, expoG, expo, expo.expoL, frIds, frIds.frIdsL, nodupN, kill, cls, clsFuel, resO, RV.get, loadP, evC_p, evC_s, endS, endT, rowsOf, callP, thinL, unfr, unfr.unfrL, PV.noMem, PV.noMem.noMemL, optI, mapO, norm, trimT, trimB, forget, hasN, blksLt, List.set, softChk, softGo, softRd, effTg, rdP]
  · rintro ⟨x, y⟩ ⟨h1, h2, h3⟩
    simp only at h1 h2 h3
    by_cases hy : y = 0
    · subst hy
      right
      rw [Nat.gcd_zero_right] at h3
      subst h3
      refine ⟨_, (by unfold c32b0; simp [evCode, evOps, evOne, evOp, evPur, evEff, evPur.chunks, fillP, AOp.isEff, AO.ev, putP, PV.cells, PV.leaf, getB, getM, mapE, iterE, keyC, mapRows, mfind, eq1, eqL, scal, binP, unP, minP, maxP, foldP, PV.lt, PV.lt.ltL, endP, expoAll, expoG, expo, expo.expoL, frIds, frIds.frIdsL, nodupN, kill, cls, clsFuel, resO, RV.get, loadP, evC_p, evC_s, endS, endT, rowsOf, callP, thinL, unfr, unfr.unfrL, PV.noMem, PV.noMem.noMemL, optI, mapO, norm, trimT, trimB, forget, hasN, blksLt, List.set, softChk, softGo, softRd, effTg, rdP, SG]), (fun s h => by cases h), rfl⟩
    · left
      have hy' : ¬ (y : Int) = 0 := by omega
      have hm : ((x : Int).tmod (y : Int)) = ((x % y : Nat) : Int) := by rw [Int.tmod_eq_emod_of_nonneg (by omega)]; simp
      have hlt : x % y < y := Nat.mod_lt _ (by omega)
      refine ⟨(y, x % y), ?_⟩
      have J : ((y, x % y).1 < 18446744073709551616 ∧ (y, x % y).2 < 18446744073709551616 ∧ Nat.gcd (y, x % y).1 (y, x % y).2 = Nat.gcd a b) ∧ (y, x % y).2 < (x, y).2 := by
        refine ⟨⟨h2, by simp only; omega, ?_⟩, hlt⟩
        simp only
        rw [← h3, Nat.gcd_comm y, ← Nat.gcd_rec, Nat.gcd_comm]
      refine (fun ⟨s', q1, q2⟩ => ⟨s', q1, q2, J⟩ : (∃ s', _ ∧ _) → _) ?_
      unfold c32b0
      simp [evCode, evOps, evOne, evOp, evPur, evEff, evPur.chunks, fillP, AOp.isEff, AO.ev, putP, PV.cells, PV.leaf, getB, getM, mapE, iterE, keyC, mapRows, mfind, eq1, eqL, scal, binP, unP, minP, maxP, foldP, PV.lt, PV.lt.ltL, endP, expoAll, expoG, expo, expo.expoL, frIds, frIds.frIdsL, nodupN, kill, cls, clsFuel, resO, RV.get, loadP, evC_p, evC_s, endS, endT, rowsOf, callP, thinL, unfr, unfr.unfrL, PV.noMem, PV.noMem.noMemL, optI, mapO, norm, trimT, trimB, forget, hasN, blksLt, List.set, softChk, softGo, softRd, effTg, rdP, SG, hy, hy', hm]

def eF (a : Int × Int) : PV := .agg [.int .i64 a.1, .int .i64 a.2]
def eR (r : (Int × Int) × Bool) : PV := .tup [eF r.1, .bool r.2]
theorem f33 (neg : Bool) (p q : Nat) (hp : p < 18446744073709551616) (hq : q < 18446744073709551616) : evE Dg 33 [.bool neg, .int .u64 p, .int .u64 q] = some (eR (outF neg p q)) := by
  refine evE_intro 1 D33 rfl ?_
  unfold c33 outF eR eF sgn
  by_cases h1 : p ≤ 4611686018427387904
  · have h1' : ¬ (4611686018427387904 : Int) < p := by omega
    by_cases h2 : q ≤ 1000000000000000
    · have h2' : ¬ (1000000000000000 : Int) < q := by omega
      have w1 := wrap_i64 (p : Int) (by omega) (by omega)
      have w2 := wrap_i64 (q : Int) (by omega) (by omega)
      have w3 := wrap_i64 (-(p : Int)) (by omega) (by omega)
      have w4 := wrap_i64 (0 - (p : Int)) (by omega) (by omega)
      cases neg <;> simp [evCode, evOps, evOne, evOp, evPur, evEff, evPur.chunks, fillP, AOp.isEff, AO.ev, putP, PV.cells, PV.leaf, getB, getM, mapE, iterE, keyC, mapRows, mfind, eq1, eqL, scal, binP, unP, minP, maxP, foldP, PV.lt, PV.lt.ltL, endP, expoAll, expoG, expo, expo.expoL, frIds, frIds.frIdsL, nodupN, kill, cls, clsFuel, resO, RV.get, loadP, evC_p, evC_s, endS, endT, rowsOf, callP, thinL, unfr, unfr.unfrL, PV.noMem, PV.noMem.noMemL, optI, mapO, norm, trimT, trimB, forget, hasN, blksLt, List.set, softChk, softGo, softRd, effTg, rdP, h1, h1', h2, h2', w1, w2, w3, w4]
    · have h2' : (1000000000000000 : Int) < q := by omega
      simp [evCode, evOps, evOne, evOp, evPur, evEff, evPur.chunks, fillP, AOp.isEff, AO.ev, putP, PV.cells, PV.leaf, getB, getM, mapE, iterE, keyC, mapRows, mfind, eq1, eqL, scal, binP, unP, minP, maxP, foldP, PV.lt, PV.lt.ltL, endP, expoAll, expoG, expo, expo.expoL, frIds, frIds.frIdsL, nodupN, kill, cls, clsFuel, resO, RV.get, loadP, evC_p, evC_s, endS, endT, rowsOf, callP, thinL, unfr, unfr.unfrL, PV.noMem, PV.noMem.noMemL, optI, mapO, norm, trimT, trimB, forget, hasN, blksLt, List.set, softChk, softGo, softRd, effTg, rdP, h1, h1', h2, h2']
  · have h1' : (4611686018427387904 : Int) < p := by omega
    simp [evCode, evOps, evOne, evOp, evPur, evEff, evPur.chunks, fillP, AOp.isEff, AO.ev, putP, PV.cells, PV.leaf, getB, getM, mapE, iterE, keyC, mapRows, mfind, eq1, eqL, scal, binP, unP, minP, maxP, foldP, PV.lt, PV.lt.ltL, endP, expoAll, expoG, expo, expo.expoL, frIds, frIds.frIdsL, nodupN, kill, cls, clsFuel, resO, RV.get, loadP, evC_p, evC_s, endS, endT, rowsOf, callP, thinL, unfr, unfr.unfrL, PV.noMem, PV.noMem.noMemL, optI, mapO, norm, trimT, trimB, forget, hasN, blksLt, List.set, softChk, softGo, softRd, effTg, rdP, h1, h1']

/-- a wide number of the program -/
def hiZ (z : Int) : Int := z % 340282366920938463463374607431768211456 / 18446744073709551616
def loZ (z : Int) : Int := z % 18446744073709551616
def eZ (z : Int) : PV := .agg [.int .u64 (hiZ z), .int .u64 (loZ z)]
theorem hi_rng (z : Int) : 0 ≤ hiZ z ∧ hiZ z < 18446744073709551616 := by unfold hiZ; omega
theorem lo_rng (z : Int) : 0 ≤ loZ z ∧ loZ z < 18446744073709551616 := by unfold loZ; omega
theorem hilo (z : Int) : ∃ k : Int, z = k * 340282366920938463463374607431768211456 + hiZ z * 18446744073709551616 + loZ z := ⟨z / 340282366920938463463374607431768211456, by unfold hiZ loZ; omega⟩
theorem split_of {z h l k : Int} (hz : z = k * 340282366920938463463374607431768211456 + h * 18446744073709551616 + l) (h0 : 0 ≤ h) (h1 : h < 18446744073709551616) (l0 : 0 ≤ l) (l1 : l < 18446744073709551616) : hiZ z = h ∧ loZ z = l := by
  unfold hiZ loZ; omega
theorem plusZ (a b : Int) : (loZ a + loZ b + 0) % 18446744073709551616 = loZ (a + b) ∧ (hiZ a + hiZ b + (loZ a + loZ b + 0) / 18446744073709551616) % 18446744073709551616 = hiZ (a + b) ∧ 0 ≤ (loZ a + loZ b + 0) / 18446744073709551616 ∧ (loZ a + loZ b + 0) / 18446744073709551616 ≤ 1 := by
  obtain ⟨k, hk⟩ := hilo a
  obtain ⟨j, hj⟩ := hilo b
  have h1 := hi_rng a
  have h2 := hi_rng b
  have h3 := lo_rng a
  have h4 := lo_rng b
  generalize hiZ a = x at *
  generalize hiZ b = y at *
  generalize loZ a = u at *
  generalize loZ b = v at *
  obtain ⟨e1, e2⟩ := split_of (z := a + b) (h := (x + y + (u + v) / 18446744073709551616) % 18446744073709551616) (l := (u + v) % 18446744073709551616) (k := k + j + (x + y + (u + v) / 18446744073709551616) / 18446744073709551616) (by omega) (by omega) (by omega) (by omega) (by omega)
  rw [e1, e2]
  simp only [Int.add_zero]
  refine ⟨trivial, trivial, by omega, by omega⟩
theorem minusZ (a b : Int) : (loZ a - loZ b - 0) % 18446744073709551616 = loZ (a - b) ∧ (hiZ a - hiZ b - (if loZ a - loZ b - 0 < 0 then 1 else 0)) % 18446744073709551616 = hiZ (a - b) := by
  obtain ⟨k, hk⟩ := hilo a
  obtain ⟨j, hj⟩ := hilo b
  have h1 := hi_rng a
  have h2 := hi_rng b
  have h3 := lo_rng a
  have h4 := lo_rng b
  generalize hiZ a = x at *
  generalize hiZ b = y at *
  generalize loZ a = u at *
  generalize loZ b = v at *
  obtain ⟨c, hc⟩ : ∃ c : Int, (if u - v - 0 < 0 then 1 else 0) = c := ⟨_, rfl⟩
  rw [hc]
  have hc' : c = - ((u - v) / 18446744073709551616) := by rw [← hc]; split <;> omega
  obtain ⟨e1, e2⟩ := split_of (z := a - b) (h := (x - y - c) % 18446744073709551616) (l := (u - v) % 18446744073709551616) (k := k - j + (x - y - c) / 18446744073709551616) (by omega) (by omega) (by omega) (by omega) (by omega)
  rw [e1, e2]
  simp only [Int.sub_zero, and_self]
theorem f57 (x y c : Int) (hx : 0 ≤ x) (hy : 0 ≤ y) (h0 : 0 ≤ c) (h1 : c ≤ 1) : evE Dg 57 [.int .u64 x, .int .u64 y, .int .u64 c] = some (.tup [.int .u64 ((x + y + c) % 18446744073709551616), .int .u64 ((x + y + c) / 18446744073709551616)]) := by
  refine evE_ext D57 rfl ?_
  unfold xAdd64
  simp only
  rw [if_pos ⟨hx, hy, h0, h1⟩]
theorem f58 (x y c : Int) (hx : 0 ≤ x) (hx1 : x < 18446744073709551616) (hy : 0 ≤ y) (hy1 : y < 18446744073709551616) (h0 : 0 ≤ c) (h1 : c ≤ 1) : evE Dg 58 [.int .u64 x, .int .u64 y, .int .u64 c] = some (.tup [.int .u64 ((x - y - c) % 18446744073709551616), .int .u64 (if x - y - c < 0 then 1 else 0)]) := by
  refine evE_ext D58 rfl ?_
  unfold xSub64
  simp only
  rw [if_pos ⟨hx, hx1, hy, hy1, h0, h1⟩]
theorem f40 (a b : Int) : evE Dg 40 [eZ a, eZ b] = some (eZ (a + b)) := by
  obtain ⟨p1, p2, p3, p4⟩ := plusZ a b
  have h1 := hi_rng a
  have h2 := hi_rng b
  have h3 := lo_rng a
  have h4 := lo_rng b
  have q1 := f57 (loZ a) (loZ b) 0 h3.1 h4.1 (by omega) (by omega)
  have q2 := f57 (hiZ a) (hiZ b) ((loZ a + loZ b + 0) / 18446744073709551616) h1.1 h2.1 p3 p4
  rw [p1] at q1
  rw [p2] at q2
  refine evE_intro 1 D40 rfl ?_
  unfold c40
  generalize (loZ a + loZ b + 0) / 18446744073709551616 = c at *
  simp [evCode, evOps, evOne, evOp, evPur, evEff, evPur.chunks, fillP, AOp.isEff, AO.ev, putP, PV.cells, PV.leaf, getB, getM, mapE, iterE, keyC, mapRows, mfind, eq1, eqL, scal, binP, unP, minP, maxP, foldP, PV.lt, PV.lt.ltL, endP, expoAll, expoG, expo, expo.expoL, frIds, frIds.frIdsL, nodupN, kill, cls, clsFuel, resO, RV.get, loadP, evC_p, evC_s, endS, endT, rowsOf, callP, thinL, unfr, unfr.unfrL, PV.noMem, PV.noMem.noMemL, optI, mapO, norm, trimT, trimB, forget, hasN, blksLt, List.set, softChk, softGo, softRd, effTg, rdP, eZ, q1, q2]
theorem f42 (a b : Int) : evE Dg 42 [eZ a, eZ b] = some (eZ (a - b)) := by
  obtain ⟨p1, p2⟩ := minusZ a b
  have h1 := hi_rng a
  have h2 := hi_rng b
  have h3 := lo_rng a
  have h4 := lo_rng b
  have q1 := f58 (loZ a) (loZ b) 0 h3.1 h3.2 h4.1 h4.2 (by omega) (by omega)
  have hc : 0 ≤ (if loZ a - loZ b - 0 < 0 then (1 : Int) else 0) ∧ (if loZ a - loZ b - 0 < 0 then (1 : Int) else 0) ≤ 1 := by split <;> omega
  have q2 := f58 (hiZ a) (hiZ b) _ h1.1 h1.2 h2.1 h2.2 hc.1 hc.2
  rw [p1] at q1
  rw [p2] at q2
  refine evE_intro 1 D42 rfl ?_
  unfold c42
  generalize (if loZ a - loZ b - 0 < 0 then (1 : Int) else 0) = c at *
  simp [evCode, evOps, evOne, evOp, evPur, evEff, evPur.chunks, fillP, AOp.isEff, AO.ev, putP, PV.cells, PV.leaf, getB, getM, mapE, iterE, keyC, mapRows, mfind, eq1, eqL, scal, binP, unP, minP, maxP, foldP, PV.lt, PV.lt.ltL, endP, expoAll, expoG, expo, expo.expoL, frIds, frIds.frIdsL, nodupN, kill, cls, clsFuel, resO, RV.get, loadP, evC_p, evC_s, endS, endT, rowsOf, callP, thinL, unfr, unfr.unfrL, PV.noMem, PV.noMem.noMemL, optI, mapO, norm, trimT, trimB, forget, hasN, blksLt, List.set, softChk, softGo, softRd, effTg, rdP, eZ, q1, q2]
end Go.Proofs.YtddglikicokpeaaDoor
