/- column: PutInt, PutText. -/
import Derived.Test.YtimipbbcmiblkaaCoB
namespace Go.Proofs.Ytimipbbcmiblkaa
open Go Go.RowKit
set_option linter.unusedVariables false
set_option linter.unusedSimpArgs false
set_option maxHeartbeats 4000000

def R45 (u m g : Nat) (o : Out) : Prop := ∃ z1 z2, o = .exit 0 ⟨[.nilS, .top, .top, .top, .top, .int .u64 (g : Int), .ptr 1 10 0 0, .int .i64 (m : Int)] ++ List.replicate 7 .top ++ [z1, z2] ++ List.replicate 23 .top, [some ⟨0, 1, true, []⟩, some ⟨10, 1, true, bR (arr u m)⟩]⟩
set_option maxRecDepth 100000 in
theorem loop45 (u m : Nat) (hu : u < 18446744073709551616) (hm : m ≤ 9) (h1 : u / 128 ^ m < 128) (h2 : ∀ j, j < m → 128 ≤ u / 128 ^ j) (f : Nat) : ∀ s0 E, evLoop (evCode (evC Dg) f c45b0) [0, 5, 6, 7] 2 11 s0 = E → norm [0, 5, 6, 7] 2 s0 = S45 u 0 → ∃ out, E = some out ∧ R45 u m (u / 128 ^ m) out := by
  intro s0 E hE h0
  have H := loop_while (body := evCode (evC Dg) f c45b0) (keep := [0, 5, 6, 7]) (n0 := 2) (fuel := 11) (S45 u) (fun k => m - k) (fun k => k ≤ m) (R45 u m (u / 128 ^ m))
    (by
      rintro k hk
      by_cases e : k = m
      · subst e
        right
        have c1 : ¬ (128 : Int) ≤ ((u / 128 ^ k : Nat) : Int) := by omega
        unfold S45 R45
        generalize u / 128 ^ k = q at *
        unfold c45b0
        simp [evCode, evOps, evOne, evOp, evPur, evEff, evPur.chunks, fillP, AOp.isEff, AO.ev, putP, PV.cells, PV.leaf, getB, getM, mapE, iterE, keyC, mapRows, mfind, eq1, eqL, scal, binP, unP, minP, maxP, foldP, PV.lt, PV.lt.ltL, endP, expoAll, expoG, expo, expo.expoL, frIds, frIds.frIdsL, nodupN, kill, cls, clsFuel, resO, RV.get, loadP, evC_p, evC_s, endS, endT, rowsOf, callP, thinL, unfr, unfr.unfrL, PV.noMem, PV.noMem.noMemL, optI, mapO, norm, trimT, trimB, forget, hasN, blksLt, List.set, softChk, softGo, softRd, effTg, rdP, c1]
      · left
        obtain ⟨s', q1, q2⟩ := step45 u k hu (by omega) (h2 k (by omega)) f
        exact ⟨k + 1, s', q1, q2, by omega, by omega⟩)
    0 (Nat.zero_le _) (by omega) s0 E hE h0
  exact H
theorem u64_small (q : Int) (h0 : 0 ≤ q) (h1 : q < 18446744073709551616) : IntKind.u64.wrap q = q := by simp [IntKind.wrap, IntKind.signed, IntKind.bits]; omega
set_option maxRecDepth 100000 in
theorem f45 (n : Int) (h1 : -9223372036854775808 ≤ n) (h2 : n ≤ 9223372036854775807) : evE Dg 45 [.nilS, .int .i64 n] = some (.fr 1 (bR (putI n))) := by
  obtain ⟨m, m1, m2, m3, m4⟩ := putI_gps h1 h2
  have hu := zz_lt h1 h2
  have hL := loop45 (zz n) m hu m1 m2 m3 11
  have lA := bR_len (arr (zz n) m)
  rw [arr_len (by omega)] at lA
  have gA := bR_get (arr_get (u := zz n) (show m < 10 by omega))
  have gA' := bR_got (arr_get (u := zz n) (show m < 10 by omega))
  have sA := bR_set (arr (zz n) m) m (zz n / 128 ^ m)
  rw [arr_set (by omega)] at sA
  have tA : ((bR (arr (zz n) m)).set m [PV.int .u8 ((zz n / 128 ^ m : Nat) : Int)]).take (m + 1) = bR (putI n) := by
    rw [sA, bR_take, m4, List.take_append_of_le_length (by simp [gps_len]), List.take_of_length_le (by simp [gps_len])]
  have eP := bR_len (putI n)
  have lP : (putI n).length = m + 1 := by rw [m4]; simp [gps_len]
  rw [lP] at eP
  have aP := bR_all (putI n)
  have z10 : bR (arr (zz n) 0) = [[PV.int .u8 0], [PV.int .u8 0], [PV.int .u8 0], [PV.int .u8 0], [PV.int .u8 0], [PV.int .u8 0], [PV.int .u8 0], [PV.int .u8 0], [PV.int .u8 0], [PV.int .u8 0]] := rfl
  have z0 : ((zz n / 128 ^ 0 : Nat) : Int) = (zz n : Int) := by simp
  have w6 : IntKind.i64.wrap ((m : Int) + 1) = (m : Int) + 1 := wrap_i64 _ (by omega) (by omega)
  generalize zz n / 128 ^ m = g at *
  have w7 : IntKind.u8.wrap (g : Int) = (g : Int) := by rw [u8_of]; omega
  have k1 : (m : Int) < 10 := by omega
  have k2 : m < 10 := by omega
  have k3 : (m : Int) + 1 ≤ 10 := by omega
  have k4 : m + 1 ≤ 10 := by omega
  have k5 : (0 : Int) ≤ (m : Int) + 1 := by omega
  have k6 : ((m : Int) + 1).toNat = m + 1 := by omega
  have b1 : m + 1 ≤ 140737488355328 := by omega
  have hb0 : ∀ b, Nat.blt b 0 = false := fun b => by cases b <;> rfl
  refine evE_intro 11 D45 rfl ?_
  unfold c45
  have s3' : IntKind.u64.wrap 0 = 0 := rfl
  have hz : IntKind.u64.wrap ((zz n : Nat) : Int) = ((zz n : Nat) : Int) := u64_small _ (by omega) (by omega)
  by_cases hn : 0 ≤ n
  · have s1 : IntKind.u64.wrap n = n := u64_small _ hn (by omega)
    have s2 : IntKind.u64.wrap (n * 2 ^ Nat.min 1 IntKind.u64.bits) = ((zz n : Nat) : Int) := by
      show IntKind.u64.wrap (n * 2) = _
      rw [u64_small _ (by omega) (by omega)]
      unfold zz
      rw [if_pos hn]; omega
    have s3 : n.fdiv (2 ^ Nat.min 63 IntKind.i64.bits) = 0 := by
      show n.fdiv 9223372036854775808 = 0
      rw [Int.fdiv_eq_ediv_of_nonneg _ (by omega)]; omega
    have s4 : (((zz n : Nat) : Int) % 2 ^ IntKind.u64.bits).toNat = zz n := by
      show (((zz n : Nat) : Int) % 18446744073709551616).toNat = zz n
      omega
    have s6 : IntKind.u64.wrap (((zz n : Nat) : Int) % 2 ^ IntKind.u64.bits) = ((zz n : Nat) : Int) := by
      show IntKind.u64.wrap (((zz n : Nat) : Int) % 18446744073709551616) = _
      rw [show ((zz n : Nat) : Int) % 18446744073709551616 = ((zz n : Nat) : Int) by omega]; exact hz
    simp [evCode, evOps, evOne, evOp, evPur, evEff, evPur.chunks, fillP, AOp.isEff, AO.ev, putP, PV.cells, PV.leaf, getB, getM, mapE, iterE, keyC, mapRows, mfind, eq1, eqL, scal, binP, unP, minP, maxP, foldP, PV.lt, PV.lt.ltL, endP, expoAll, expoG, expo, expo.expoL, frIds, frIds.frIdsL, nodupN, kill, cls, clsFuel, resO, RV.get, loadP, evC_p, evC_s, endS, endT, rowsOf, callP, thinL, unfr, unfr.unfrL, PV.noMem, PV.noMem.noMemL, optI, mapO, norm, trimT, trimB, forget, hasN, blksLt, List.set, softChk, softGo, softRd, effTg, rdP, s1, s2, s3, s3', s4, s6, hz]
    generalize hE : evLoop _ _ _ _ _ = E
    obtain ⟨out, rfl, y1, y2, rfl⟩ := hL _ E hE (by simp [evCode, evOps, evOne, evOp, evPur, evEff, evPur.chunks, fillP, AOp.isEff, AO.ev, putP, PV.cells, PV.leaf, getB, getM, mapE, iterE, keyC, mapRows, mfind, eq1, eqL, scal, binP, unP, minP, maxP, foldP, PV.lt, PV.lt.ltL, endP, expoAll, expoG, expo, expo.expoL, frIds, frIds.frIdsL, nodupN, kill, cls, clsFuel, resO, RV.get, loadP, evC_p, evC_s, endS, endT, rowsOf, callP, thinL, unfr, unfr.unfrL, PV.noMem, PV.noMem.noMemL, optI, mapO, norm, trimT, trimB, forget, hasN, blksLt, List.set, softChk, softGo, softRd, effTg, rdP, S45, z10])
    simp [evCode, evOps, evOne, evOp, evPur, evEff, evPur.chunks, fillP, AOp.isEff, AO.ev, putP, PV.cells, PV.leaf, getB, getM, mapE, iterE, keyC, mapRows, mfind, eq1, eqL, scal, binP, unP, minP, maxP, foldP, PV.lt, PV.lt.ltL, endP, expoAll, expoG, expo, expo.expoL, frIds, frIds.frIdsL, nodupN, kill, cls, clsFuel, resO, RV.get, loadP, evC_p, evC_s, endS, endT, rowsOf, callP, thinL, unfr, unfr.unfrL, PV.noMem, PV.noMem.noMemL, optI, mapO, norm, trimT, trimB, forget, hasN, blksLt, List.set, softChk, softGo, softRd, effTg, rdP, w6, w7, k1, k2, k3, k4, k5, k6, lA, gA, gA', tA, eP, aP, b1, hb0, bR_lt]
  · have s1 : IntKind.u64.wrap n = n + 18446744073709551616 := by
      simp [IntKind.wrap, IntKind.signed, IntKind.bits]; omega
    have s2 : IntKind.u64.wrap ((n + 18446744073709551616) * 2 ^ Nat.min 1 IntKind.u64.bits) = 2 * n + 18446744073709551616 := by
      show IntKind.u64.wrap ((n + 18446744073709551616) * 2) = _
      simp [IntKind.wrap, IntKind.signed, IntKind.bits]; omega
    have s3 : n.fdiv (2 ^ Nat.min 63 IntKind.i64.bits) = -1 := by
      show n.fdiv 9223372036854775808 = -1
      rw [Int.fdiv_eq_ediv_of_nonneg _ (by omega)]; omega
    have s4 : IntKind.u64.wrap (-1) = 18446744073709551615 := rfl
    have s5 : ((2 * n + 18446744073709551616) % 2 ^ IntKind.u64.bits).toNat ^^^ 18446744073709551615 % 2 ^ IntKind.u64.bits = zz n := by
      show ((2 * n + 18446744073709551616) % 18446744073709551616).toNat ^^^ 18446744073709551615 = zz n
      have h := xor_ones (2 * n + 18446744073709551616) (by omega) (by omega)
      rw [BitVec.toNat_xor, BitVec.toNat_ofInt, show (BitVec.ofInt 64 18446744073709551615).toNat = 18446744073709551615 by decide] at h
      have e : ((2 * n + 18446744073709551616) % 18446744073709551616).toNat = ((2 * n + 18446744073709551616) % ((2 ^ 64 : Nat) : Int)).toNat := rfl
      rw [e, h]
      unfold zz
      rw [if_neg hn]; omega
    simp [evCode, evOps, evOne, evOp, evPur, evEff, evPur.chunks, fillP, AOp.isEff, AO.ev, putP, PV.cells, PV.leaf, getB, getM, mapE, iterE, keyC, mapRows, mfind, eq1, eqL, scal, binP, unP, minP, maxP, foldP, PV.lt, PV.lt.ltL, endP, expoAll, expoG, expo, expo.expoL, frIds, frIds.frIdsL, nodupN, kill, cls, clsFuel, resO, RV.get, loadP, evC_p, evC_s, endS, endT, rowsOf, callP, thinL, unfr, unfr.unfrL, PV.noMem, PV.noMem.noMemL, optI, mapO, norm, trimT, trimB, forget, hasN, blksLt, List.set, softChk, softGo, softRd, effTg, rdP, s1, s2, s3, s4, s5, hz]
    generalize hE : evLoop _ _ _ _ _ = E
    obtain ⟨out, rfl, y1, y2, rfl⟩ := hL _ E hE (by simp [evCode, evOps, evOne, evOp, evPur, evEff, evPur.chunks, fillP, AOp.isEff, AO.ev, putP, PV.cells, PV.leaf, getB, getM, mapE, iterE, keyC, mapRows, mfind, eq1, eqL, scal, binP, unP, minP, maxP, foldP, PV.lt, PV.lt.ltL, endP, expoAll, expoG, expo, expo.expoL, frIds, frIds.frIdsL, nodupN, kill, cls, clsFuel, resO, RV.get, loadP, evC_p, evC_s, endS, endT, rowsOf, callP, thinL, unfr, unfr.unfrL, PV.noMem, PV.noMem.noMemL, optI, mapO, norm, trimT, trimB, forget, hasN, blksLt, List.set, softChk, softGo, softRd, effTg, rdP, S45, z10])
    simp [evCode, evOps, evOne, evOp, evPur, evEff, evPur.chunks, fillP, AOp.isEff, AO.ev, putP, PV.cells, PV.leaf, getB, getM, mapE, iterE, keyC, mapRows, mfind, eq1, eqL, scal, binP, unP, minP, maxP, foldP, PV.lt, PV.lt.ltL, endP, expoAll, expoG, expo, expo.expoL, frIds, frIds.frIdsL, nodupN, kill, cls, clsFuel, resO, RV.get, loadP, evC_p, evC_s, endS, endT, rowsOf, callP, thinL, unfr, unfr.unfrL, PV.noMem, PV.noMem.noMemL, optI, mapO, norm, trimT, trimB, forget, hasN, blksLt, List.set, softChk, softGo, softRd, effTg, rdP, w6, w7, k1, k2, k3, k4, k5, k6, lA, gA, gA', tA, eP, aP, b1, hb0, bR_lt]
end Go.Proofs.Ytimipbbcmiblkaa
