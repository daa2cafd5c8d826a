/- num: the reference's long division. -/
import Derived.Test.YtnodcoemjojlhaaDoorNuF
namespace Go.Proofs.YtnodcoemjojlhaaDoor
open Go Go.RowKit
set_option linter.unusedVariables false
set_option linter.unusedSimpArgs false
set_option maxHeartbeats 8000000

theorem f45 (x y : Nat) (hx : x < 18446744073709551616) (hy : y < 18446744073709551616) :
    evE Dg 45 [.int .u64 x, .int .u64 y] = some (.tup [.int .u64 ((x * y / 18446744073709551616 : Nat) : Int), .int .u64 ((x * y % 18446744073709551616 : Nat) : Int)]) := by
  have key := mul_parts x y
  obtain ⟨x1, hx1⟩ := ex_eq (x / 4294967296)
  obtain ⟨x0, hx0⟩ := ex_eq (x % 4294967296)
  obtain ⟨y1, hy1⟩ := ex_eq (y / 4294967296)
  obtain ⟨y0, hy0⟩ := ex_eq (y % 4294967296)
  rw [hx1, hx0, hy1, hy0] at key
  have b1 : x1 ≤ 4294967295 := by omega
  have b0 : x0 ≤ 4294967295 := by omega
  have d1 : y1 ≤ 4294967295 := by omega
  have d0 : y0 ≤ 4294967295 := by omega
  have q00 := Nat.mul_le_mul b0 d0
  have q01 := Nat.mul_le_mul b0 d1
  have q10 := Nat.mul_le_mul b1 d0
  have q11 := Nat.mul_le_mul b1 d1
  obtain ⟨p00, h00⟩ := ex_eq (x0 * y0)
  obtain ⟨p01, h01⟩ := ex_eq (x0 * y1)
  obtain ⟨p10, h10⟩ := ex_eq (x1 * y0)
  obtain ⟨p11, h11⟩ := ex_eq (x1 * y1)
  rw [h00, h01, h10, h11] at key
  rw [h00] at q00
  rw [h01] at q01
  rw [h10] at q10
  rw [h11] at q11
  obtain ⟨w0, hw0⟩ := ex_eq (p00 / 4294967296)
  obtain ⟨z0, hz0⟩ := ex_eq (p00 % 4294967296)
  obtain ⟨t, ht⟩ := ex_eq (p10 + w0)
  obtain ⟨w1, hw1⟩ := ex_eq (t % 4294967296)
  obtain ⟨w2, hw2⟩ := ex_eq (t / 4294967296)
  obtain ⟨w3, hw3⟩ := ex_eq (p01 + w1)
  obtain ⟨w4, hw4⟩ := ex_eq (p11 + w2)
  obtain ⟨w5, hw5⟩ := ex_eq (w3 / 4294967296)
  obtain ⟨z3, hz3⟩ := ex_eq (w3 % 4294967296)
  obtain ⟨w6, hw6⟩ := ex_eq (w4 + w5)
  obtain ⟨z4, hz4⟩ := ex_eq (z3 * 4294967296)
  obtain ⟨z5, hz5⟩ := ex_eq (z4 + z0)
  obtain ⟨P, hP⟩ := ex_eq (x * y)
  rw [hP] at key ⊢
  have e1 : P / 18446744073709551616 = w6 := by omega
  have e2 : P % 18446744073709551616 = z5 := by omega
  have dv : ∀ (a c : Nat), a < 18446744073709551616 → a / 4294967296 = c → IntKind.u64.wrap ((a : Int).tdiv 4294967296) = c := fun a c h hc => by rw [Int.tdiv_eq_ediv_of_nonneg (by omega), wrap_u64 _ (by omega) (by omega)]; omega
  have dv' : ∀ (a c : Nat), a < 18446744073709551616 → a / 4294967296 = c → IntKind.u64.wrap ((a : Int) / 4294967296) = c := fun a c h hc => by rw [wrap_u64 _ (by omega) (by omega)]; omega
  have md' : ∀ (a c : Nat), a % 4294967296 = c → (a : Int) % 4294967296 = c := fun a c hc => by omega
  have md : ∀ (a c : Nat), a % 4294967296 = c → (a : Int).tmod 4294967296 = c := fun a c hc => by rw [Int.tmod_eq_emod_of_nonneg (by omega)]; omega
  have a1 := md x x0 hx0
  have a2 := md y y0 hy0
  have a3 := dv x x1 hx hx1
  have a4 := dv y y1 hy hy1
  have a5 := u_mul x0 y0 p00 h00 (by omega)
  have a6 := u_mul x1 y0 p10 h10 (by omega)
  have a7 := dv p00 w0 (by omega) hw0
  have a8 := u_add p10 w0 t ht (by omega)
  have a9 := md t w1 hw1
  have a10 := dv t w2 (by omega) hw2
  have a11 := u_mul x0 y1 p01 h01 (by omega)
  have a12 := u_add p01 w1 w3 hw3 (by omega)
  have a13 := u_mul x1 y1 p11 h11 (by omega)
  have a14 := u_add p11 w2 w4 hw4 (by omega)
  have a15 := dv w3 w5 (by omega) hw5
  have a16 := u_add w4 w5 w6 hw6 (by omega)
  have a17 := md w3 z3 hz3
  have a18 : IntKind.u64.wrap ((z3 : Int) * 4294967296) = z4 := by rw [wrap_u64 _ (by omega) (by omega)]; omega
  have a19 := md p00 z0 hz0
  have a20 := u_add z4 z0 z5 hz5 (by omega)
  have a1' := md' x x0 hx0
  have a2' := md' y y0 hy0
  have a3' := dv' x x1 hx hx1
  have a4' := dv' y y1 hy hy1
  have a7' := dv' p00 w0 (by omega) hw0
  have a9' := md' t w1 hw1
  have a10' := dv' t w2 (by omega) hw2
  have a15' := dv' w3 w5 (by omega) hw5
  have a17' := md' w3 z3 hz3
  have a19' := md' p00 z0 hz0
  clear dv md dv' md'
  rw [e1, e2]
  refine evE_intro 1 D45 rfl ?_
  unfold c45
  simp [evCode, evOps, evOne, evOp, evPur, evEff, evPur.chunks, fillP, AOp.isEff, AO.ev, putP, PV.cells, PV.leaf, getB, getM, mapE, keyC, mapRows, mfind, eq1, eqL, scal, binP, unP, minP, maxP, foldP, PV.lt, PV.lt.ltL, endP, expoAll, expo, expo.expoL, frIds, frIds.frIdsL, nodupN, kill, cls, clsFuel, resO, RV.get, loadP, evC_p, evC_s, endS, endT, rowsOf, callP, thinL, unfr, unfr.unfrL, PV.noMem, PV.noMem.noMemL, optI, mapO, norm, trimT, trimB, forget, hasN, blksLt, List.set, a1, a2, a3, a4, a5, a6, a7, a8, a9, a10, a11, a12, a13, a14, a15, a16, a17, a18, a19, a20, a1', a2', a3', a4', a7', a9', a10', a15', a17', a19']

/-- one bit more -/
theorem bit_next (N k : Nat) (hk : k < 128) : N / 2 ^ (127 - k) = 2 * (N / 2 ^ (128 - k)) + (N * 2 ^ k % 340282366920938463463374607431768211456) / 170141183460469231731687303715884105728 := by
  have e1 : (N * 2 ^ k % 340282366920938463463374607431768211456) / 170141183460469231731687303715884105728 = N / 2 ^ (127 - k) % 2 := by
    have : N * 2 ^ k / 170141183460469231731687303715884105728 = N / 2 ^ (127 - k) := by
      rw [show (170141183460469231731687303715884105728 : Nat) = 2 ^ (127 - k) * 2 ^ k by rw [← Nat.pow_add, show 127 - k + k = 127 by omega]]
      exact Nat.mul_div_mul_right _ _ (Nat.pow_pos (by omega))
    rw [← this]
    omega
  rw [e1, show 128 - k = (127 - k) + 1 by omega, Nat.pow_succ, ← Nat.div_div_eq_div_mul]
  omega

def S37 (c : Nat) (N : Nat) (x : Nat × Nat) : St := ⟨[.top, .top, .int .u64 c, .top, .top, .top, .top, .top, .int .u64 ((N * 2 ^ x.1 % 340282366920938463463374607431768211456) / 18446744073709551616 : Nat), .int .u64 ((N * 2 ^ x.1) % 18446744073709551616 : Nat), .int .u64 x.2, .int .u64 (N / 2 ^ (128 - x.1) % c : Nat), .int .i64 x.1] ++ List.replicate 36 .top, []⟩
/-- the quotient so far, or a great number -/
def Sat (Q q : Nat) : Prop := q ≤ 4000000000000001 ∧ (q = Q ∨ (4000000000000000 ≤ q ∧ 4000000000000000 ≤ Q))
theorem Sat.next {Q q : Nat} (h : Sat Q q) (t : Nat) (ht : t ≤ 1) : Sat (2 * Q + t) (min (2 * q) 4000000000000000 + t) := by
  obtain ⟨h1, h2⟩ := h
  unfold Sat
  omega

set_option maxRecDepth 100000 in
theorem f37 (a b c : Nat) (ha : a ≤ 1000000000000000) (hb : b ≤ 1000000000000000) (hc : 1 ≤ c) (hc2 : c ≤ 1000000000000000) :
    ∃ q, evE Dg 37 [.int .u64 a, .int .u64 b, .int .u64 c] = some (.tup [.int .u64 (q : Nat), .bool (decide (0 < a * b % c))]) ∧ Sat (a * b / c) q := by
  obtain ⟨N, hN⟩ := ex_eq (a * b)
  have lN : N ≤ 1000000000000000 * 1000000000000000 := by rw [← hN]; exact Nat.mul_le_mul ha hb
  have h45 := f45 a b (by omega) (by omega)
  rw [hN] at h45 ⊢
  have hp : N / 2 ^ 128 = 0 := Nat.div_eq_of_lt (by omega)
  have H := loop_stop (body := evCode (evC Dg) 130 c37b0) (keep := [2, 8, 9, 10, 11, 12]) (n0 := 0) (fuel := 130) (S37 c N) (fun x => 128 - x.1) (fun x => x.1 ≤ 128 ∧ Sat (N / 2 ^ (128 - x.1) / c) x.2) (fun x => x.1 = 128)
    (by
      rintro ⟨k, q⟩ ⟨i1, i2⟩ hs
      simp only at i1 i2 hs
      have hk : k < 128 := by omega
      have hb' := bit_next N k hk
      obtain ⟨X, hX⟩ := ex_eq (N * 2 ^ k)
      obtain ⟨t, ht⟩ := ex_eq ((X % 340282366920938463463374607431768211456) / 170141183460469231731687303715884105728)
      have ht1 : t ≤ 1 := by omega
      obtain ⟨P, hP⟩ := ex_eq (N / 2 ^ (128 - k))
      obtain ⟨P', hP'⟩ := ex_eq (N / 2 ^ (127 - k))
      rw [hP', hP, hX, ht] at hb'
      have hX' : N * 2 ^ (k + 1) = 2 * X := by rw [Nat.pow_succ, ← Nat.mul_assoc, hX, Nat.mul_comm]
      obtain ⟨hi, hhi⟩ := ex_eq ((X % 340282366920938463463374607431768211456) / 18446744073709551616)
      obtain ⟨lo, hlo⟩ := ex_eq (X % 18446744073709551616)
      obtain ⟨hi', hhi'⟩ := ex_eq ((2 * X % 340282366920938463463374607431768211456) / 18446744073709551616)
      obtain ⟨lo', hlo'⟩ := ex_eq (2 * X % 18446744073709551616)
      obtain ⟨r, hr⟩ := ex_eq (P % c)
      have hrl : r < c := by rw [← hr]; exact Nat.mod_lt _ hc
      obtain ⟨Q, hQ⟩ := ex_eq (P / c)
      rw [hP, hQ] at i2
      have hPd := Nat.div_add_mod P c
      rw [hQ, hr] at hPd
      have hk' : (k : Int) < 128 := by omega
      have w0 := wrap_i64 ((k : Int) + 1) (by omega) (by omega)
      have w1 : IntKind.u64.wrap (2 * (r : Int)) = ((2 * r : Nat) : Int) := by rw [wrap_u64 _ (by omega) (by omega)]; omega
      have w2' : IntKind.u64.wrap ((hi : Int) / 9223372036854775808) = (t : Int) := by rw [wrap_u64 _ (by omega) (by omega)]; omega
      have w4' : IntKind.u64.wrap (IntKind.u64.wrap (2 * (hi : Int)) + IntKind.u64.wrap ((lo : Int) / 9223372036854775808)) = (hi' : Int) := by
        simp only [wrap_u64']; omega
      have w2 : IntKind.u64.wrap ((hi : Int).tdiv 9223372036854775808) = (t : Int) := by rw [Int.tdiv_eq_ediv_of_nonneg (by omega), wrap_u64 _ (by omega) (by omega)]; omega
      have w3 : IntKind.u64.wrap (2 * (r : Int) + t) = ((2 * r + t : Nat) : Int) := by rw [wrap_u64 _ (by omega) (by omega)]; omega
      have w4 : IntKind.u64.wrap (IntKind.u64.wrap (2 * (hi : Int)) + IntKind.u64.wrap ((lo : Int).tdiv 9223372036854775808)) = (hi' : Int) := by
        rw [Int.tdiv_eq_ediv_of_nonneg (by omega)]; simp only [wrap_u64']; omega
      have w5 : IntKind.u64.wrap (2 * (lo : Int)) = (lo' : Int) := by simp only [wrap_u64']; omega
      have w6 : IntKind.u64.wrap (2 * (q : Int)) = ((2 * q : Nat) : Int) := by
        have := i2.1
        rw [wrap_u64 _ (by omega) (by omega)]; omega
      obtain ⟨m, hm⟩ := ex_eq (min (2 * q) 4000000000000000)
      have hmin : (if (4000000000000000 : Int) < 2 * (q : Int) then (4000000000000000 : Int) else 2 * (q : Int)) = (m : Int) := by split <;> omega
      have n0 := Sat.next i2 0 (by omega)
      have n1 := Sat.next i2 1 (by omega)
      rw [hm] at n0 n1
      simp only [Nat.add_zero] at n0
      have e128 : 128 - (k + 1) = 127 - k := by omega
      by_cases hge : c ≤ 2 * r + t
      · have hge' : (c : Int) ≤ 2 * (r : Int) + t := by omega
        have w7 : IntKind.u64.wrap (2 * (r : Int) + t - c) = ((2 * r + t - c : Nat) : Int) := by rw [wrap_u64 _ (by omega) (by omega)]; omega
        have w8 : IntKind.u64.wrap ((m : Int) + 1) = ((m + 1 : Nat) : Int) := by rw [wrap_u64 _ (by omega) (by omega)]; omega
        have hP2 : P' = c * (2 * Q + 1) + (2 * r + t - c) := by
          have e2 : c * (2 * Q) = 2 * (c * Q) := Nat.mul_left_comm _ _ _
          rw [Nat.mul_add, e2, hb', ← hPd]; omega
        have hm2 : P' % c = 2 * r + t - c := by rw [hP2, Nat.mul_add_mod]; exact Nat.mod_eq_of_lt (by omega)
        have hd2 : P' / c = 2 * Q + 1 := by rw [hP2, Nat.mul_add_div hc, Nat.div_eq_of_lt (by omega)]; try omega
        refine ⟨(k + 1, m + 1), ?_⟩
        simp only [S37, hX, hX', hP, hhi, hlo, hhi', hlo', hr, e128, hP', hm2, hd2]
        unfold c37b0
        simp [evCode, evOps, evOne, evOp, evPur, evEff, evPur.chunks, fillP, AOp.isEff, AO.ev, putP, PV.cells, PV.leaf, getB, getM, mapE, keyC, mapRows, mfind, eq1, eqL, scal, binP, unP, minP, maxP, foldP, PV.lt, PV.lt.ltL, endP, expoAll, expo, expo.expoL, frIds, frIds.frIdsL, nodupN, kill, cls, clsFuel, resO, RV.get, loadP, evC_p, evC_s, endS, endT, rowsOf, callP, thinL, unfr, unfr.unfrL, PV.noMem, PV.noMem.noMemL, optI, mapO, norm, trimT, trimB, forget, hasN, blksLt, List.set, hk', w0, w1, w2, w2', w3, w4, w4', w5, w6, hmin, hge', w7, w8, n1]
        omega
      · have hge' : ¬ (c : Int) ≤ 2 * (r : Int) + t := by omega
        have hP2 : P' = c * (2 * Q) + (2 * r + t) := by
          have e2 : c * (2 * Q) = 2 * (c * Q) := Nat.mul_left_comm _ _ _
          rw [e2, hb', ← hPd]; omega
        have hm2 : P' % c = 2 * r + t := by rw [hP2, Nat.mul_add_mod]; exact Nat.mod_eq_of_lt (by omega)
        have hd2 : P' / c = 2 * Q := by rw [hP2, Nat.mul_add_div hc, Nat.div_eq_of_lt (by omega)]; try omega
        refine ⟨(k + 1, m), ?_⟩
        simp only [S37, hX, hX', hP, hhi, hlo, hhi', hlo', hr, e128, hP', hm2, hd2]
        unfold c37b0
        simp [evCode, evOps, evOne, evOp, evPur, evEff, evPur.chunks, fillP, AOp.isEff, AO.ev, putP, PV.cells, PV.leaf, getB, getM, mapE, keyC, mapRows, mfind, eq1, eqL, scal, binP, unP, minP, maxP, foldP, PV.lt, PV.lt.ltL, endP, expoAll, expo, expo.expoL, frIds, frIds.frIdsL, nodupN, kill, cls, clsFuel, resO, RV.get, loadP, evC_p, evC_s, endS, endT, rowsOf, callP, thinL, unfr, unfr.unfrL, PV.noMem, PV.noMem.noMemL, optI, mapO, norm, trimT, trimB, forget, hasN, blksLt, List.set, hk', w0, w1, w2, w2', w3, w4, w4', w5, w6, hmin, hge', n0]
        omega)
    (by
      rintro ⟨k, q⟩ hI hs st
      simp only at hs
      subst hs
      unfold c37b0
      simp [evCode, evOps, evOne, evOp, evPur, evEff, evPur.chunks, fillP, AOp.isEff, AO.ev, putP, PV.cells, PV.leaf, getB, getM, mapE, keyC, mapRows, mfind, eq1, eqL, scal, binP, unP, minP, maxP, foldP, PV.lt, PV.lt.ltL, endP, expoAll, expo, expo.expoL, frIds, frIds.frIdsL, nodupN, kill, cls, clsFuel, resO, RV.get, loadP, evC_p, evC_s, endS, endT, rowsOf, callP, thinL, unfr, unfr.unfrL, PV.noMem, PV.noMem.noMemL, optI, mapO, norm, trimT, trimB, forget, hasN, blksLt, List.set, S37]) (0, 0) (by simp only [Nat.sub_zero, hp]; exact ⟨by omega, by unfold Sat; simp⟩) (by simp)
  obtain ⟨X, hX⟩ := ex_eq (endP c37.res (evCode (evC Dg) 130 c37.code ⟨[.int .u64 a, .int .u64 b, .int .u64 c] ++ List.replicate (c37.nt - c37.np) .top, []⟩))
  have hlt : N % 340282366920938463463374607431768211456 = N := Nat.mod_eq_of_lt (by omega)
  have hz : N / 2 ^ (128 - 0) % c = 0 := by simp only [Nat.sub_zero, hp]; simp
  have hX0 := hX
  unfold c37 at hX
  simp [evCode, evOps, evOne, evOp, evPur, evEff, evPur.chunks, fillP, AOp.isEff, AO.ev, putP, PV.cells, PV.leaf, getB, getM, mapE, keyC, mapRows, mfind, eq1, eqL, scal, binP, unP, minP, maxP, foldP, PV.lt, PV.lt.ltL, endP, expoAll, expo, expo.expoL, frIds, frIds.frIdsL, nodupN, kill, cls, clsFuel, resO, RV.get, loadP, evC_p, evC_s, endS, endT, rowsOf, callP, thinL, unfr, unfr.unfrL, PV.noMem, PV.noMem.noMemL, optI, mapO, norm, trimT, trimB, forget, hasN, blksLt, List.set, h45] at hX
  generalize hE : evLoop _ _ _ _ _ = E at hX
  obtain ⟨⟨k, q⟩, ⟨i1, i2⟩, hs, hb⟩ := H _ _ hE (by simp only [S37, Nat.pow_zero, Nat.mul_one, hlt, hz]; simp [evCode, evOps, evOne, evOp, evPur, evEff, evPur.chunks, fillP, AOp.isEff, AO.ev, putP, PV.cells, PV.leaf, getB, getM, mapE, keyC, mapRows, mfind, eq1, eqL, scal, binP, unP, minP, maxP, foldP, PV.lt, PV.lt.ltL, endP, expoAll, expo, expo.expoL, frIds, frIds.frIdsL, nodupN, kill, cls, clsFuel, resO, RV.get, loadP, evC_p, evC_s, endS, endT, rowsOf, callP, thinL, unfr, unfr.unfrL, PV.noMem, PV.noMem.noMemL, optI, mapO, norm, trimT, trimB, forget, hasN, blksLt, List.set])
  simp only at hs i2
  subst hs
  rw [hb] at hX
  simp only [Nat.sub_self, Nat.pow_zero, Nat.div_one] at i2
  refine ⟨q, ?_, i2⟩
  refine evE_intro 130 D37 rfl (hX0.trans ?_)
  rw [← hX]
  unfold c37b0
  simp [evCode, evOps, evOne, evOp, evPur, evEff, evPur.chunks, fillP, AOp.isEff, AO.ev, putP, PV.cells, PV.leaf, getB, getM, mapE, keyC, mapRows, mfind, eq1, eqL, scal, binP, unP, minP, maxP, foldP, PV.lt, PV.lt.ltL, endP, expoAll, expo, expo.expoL, frIds, frIds.frIdsL, nodupN, kill, cls, clsFuel, resO, RV.get, loadP, evC_p, evC_s, endS, endT, rowsOf, callP, thinL, unfr, unfr.unfrL, PV.noMem, PV.noMem.noMemL, optI, mapO, norm, trimT, trimB, forget, hasN, blksLt, List.set, S37]
  rw [← Int.natCast_emod]
  exact Int.natCast_pos
end Go.Proofs.YtnodcoemjojlhaaDoor
