/- Products and signed sums of the reference. -/
import Derived.Test.YtddglikicokpeaaDoorFwF
namespace Go.Proofs.YtddglikicokpeaaDoor
open Go Go.RowKit
set_option linter.unusedVariables false
set_option linter.unusedSimpArgs false
set_option maxHeartbeats 4000000

theorem bit_step (a b k : Nat) (hk : k < 64) : a * (b / 2 ^ (63 - k)) = a * (b / 2 ^ (64 - k)) + a * (b / 2 ^ (64 - k)) + (if b / 2 ^ (63 - k) % 2 = 1 then a else 0) := by
  have e : b / 2 ^ (64 - k) = b / 2 ^ (63 - k) / 2 := by
    rw [show 64 - k = (63 - k) + 1 by omega, Nat.pow_succ, Nat.div_div_eq_div_mul]
  rw [e]
  generalize b / 2 ^ (63 - k) = q
  obtain ⟨z, hz⟩ : ∃ z, q / 2 = z := ⟨_, rfl⟩
  rw [hz]
  split
  · have : q = z + z + 1 := by omega
    rw [this, Nat.mul_add, Nat.mul_add, Nat.mul_one]
  · have : q = z + z := by omega
    rw [this, Nat.mul_add, Nat.add_zero]
def S48 (a b k : Nat) : St := ⟨[.int .u64 (a : Int), .int .u64 (b : Int), .top, .top, .ptr 0 1 0 0, .ptr 1 1 0 0, .int .i64 (63 - (k : Int))] ++ List.replicate 18 .top,
  [some ⟨1, 2, true, [[.int .u64 0, .int .u64 0]]⟩, some ⟨1, 2, true, [(eW (a * (b / 2 ^ (64 - k)))).cells]⟩]⟩
set_option maxRecDepth 100000 in
theorem f48 (a b : Nat) (ha : a < 18446744073709551616) (hb : b < 18446744073709551616) : evE Dg 48 [.int .u64 (a : Int), .int .u64 (b : Int)] = some (eW (a * b)) := by
  have hlt : ∀ k, a * (b / 2 ^ k) < 340282366920938463463374607431768211456 := fun k => by
    have h1 : b / 2 ^ k ≤ b := Nat.div_le_self _ _
    have h2 : a * (b / 2 ^ k) ≤ 18446744073709551615 * 18446744073709551615 := Nat.mul_le_mul (by omega) (by omega)
    omega
  have H := loop_foldE (body := evCode (evC Dg) 70 c48b0) (keep := [0, 1, 4, 5, 6]) (n0 := 2) (fuel := 70) (List.replicate 64 ()) (fun k (_ : Unit) => S48 a b k) (fun _ _ => ()) (fun _ _ => True)
    (by
      rintro k _ _ - hk -
      simp only [List.length_replicate] at hk
      refine ⟨trivial, ?_⟩
      have hs := bit_step a b k hk
      have l1 := hlt (63 - k)
      have i0 : (63 : Int) - k = ((63 - k : Nat) : Int) := by omega
      have h68 := f64 b (63 - k) (by omega)
      have w1 : IntKind.i64.wrap (((63 - k : Nat) : Int) - 1) = 63 - ((k + 1 : Nat) : Int) := by rw [wrap_i64 _ (by omega) (by omega)]; omega
      have e1 : 64 - (k + 1) = 63 - k := by omega
      unfold S48
      rw [e1, i0]
      generalize b / 2 ^ (63 - k) = q at *
      obtain ⟨i, hi⟩ := ex_eqw (63 - k)
      rw [hi] at h68 w1 ⊢
      have hi0 : (0 : Int) ≤ i := by omega
      generalize a * (b / 2 ^ (64 - k)) = P at *
      by_cases c : q % 2 = 1
      · rw [if_pos c] at hs
        rw [c] at h68
        have g1 := f61 P P (by omega)
        have g2 := f61 (P + P) a (by omega)
        have ea : eW a = .agg [.int .u64 0, .int .u64 (a : Int)] := by
          unfold eW
          rw [Nat.div_eq_of_lt ha, Nat.mod_eq_of_lt ha]; rfl
        rw [← hs] at g2
        rw [ea] at g2
        unfold eW at g1 g2 ⊢
        clear hs l1 hlt
        generalize (P + P) / 18446744073709551616 = s1 at *
        generalize (P + P) % 18446744073709551616 = s0 at *
        generalize P / 18446744073709551616 = p1 at *
        generalize P % 18446744073709551616 = p0 at *
        generalize a * q / 18446744073709551616 = r1 at *
        generalize a * q % 18446744073709551616 = r0 at *
        unfold c48b0
        simp [evCode, evOps, evOne, evOp, evPur, evEff, evPur.chunks, fillP, AOp.isEff, AO.ev, putP, PV.cells, PV.leaf, getB, getM, mapE, iterE, keyC, mapRows, mfind, eq1, eqL, scal, binP, unP, minP, maxP, foldP, PV.lt, PV.lt.ltL, endP, expoAll, expoG, expo, expo.expoL, frIds, frIds.frIdsL, nodupN, kill, cls, clsFuel, resO, RV.get, loadP, evC_p, evC_s, endS, endT, rowsOf, callP, thinL, unfr, unfr.unfrL, PV.noMem, PV.noMem.noMemL, optI, mapO, norm, trimT, trimB, forget, hasN, blksLt, List.set, softChk, softGo, softRd, effTg, rdP, hi0, g1, g2, h68, w1]
      · have c0 : q % 2 = 0 := by omega
        rw [if_neg c, Nat.add_zero] at hs
        rw [c0] at h68
        have g1 := f61 P P (by omega)
        rw [← hs] at g1
        unfold eW at g1 ⊢
        clear hs l1 hlt
        generalize P / 18446744073709551616 = p1 at *
        generalize P % 18446744073709551616 = p0 at *
        generalize a * q / 18446744073709551616 = r1 at *
        generalize a * q % 18446744073709551616 = r0 at *
        unfold c48b0
        simp [evCode, evOps, evOne, evOp, evPur, evEff, evPur.chunks, fillP, AOp.isEff, AO.ev, putP, PV.cells, PV.leaf, getB, getM, mapE, iterE, keyC, mapRows, mfind, eq1, eqL, scal, binP, unP, minP, maxP, foldP, PV.lt, PV.lt.ltL, endP, expoAll, expoG, expo, expo.expoL, frIds, frIds.frIdsL, nodupN, kill, cls, clsFuel, resO, RV.get, loadP, evC_p, evC_s, endS, endT, rowsOf, callP, thinL, unfr, unfr.unfrL, PV.noMem, PV.noMem.noMemL, optI, mapO, norm, trimT, trimB, forget, hasN, blksLt, List.set, softChk, softGo, softRd, effTg, rdP, hi0, g1, h68, w1])
    (by
      intro _ _ s
      have i0 : (63 : Int) - ((List.replicate 64 ()).length : Nat) = -1 := by simp
      unfold S48
      rw [i0]
      unfold c48b0
      simp [evCode, evOps, evOne, evOp, evPur, evEff, evPur.chunks, fillP, AOp.isEff, AO.ev, putP, PV.cells, PV.leaf, getB, getM, mapE, iterE, keyC, mapRows, mfind, eq1, eqL, scal, binP, unP, minP, maxP, foldP, PV.lt, PV.lt.ltL, endP, expoAll, expoG, expo, expo.expoL, frIds, frIds.frIdsL, nodupN, kill, cls, clsFuel, resO, RV.get, loadP, evC_p, evC_s, endS, endT, rowsOf, callP, thinL, unfr, unfr.unfrL, PV.noMem, PV.noMem.noMemL, optI, mapO, norm, trimT, trimB, forget, hasN, blksLt, List.set, softChk, softGo, softRd, effTg, rdP])
    (by simp) () trivial
  refine evE_intro 70 D48 rfl ?_
  unfold c48
  simp [evCode, evOps, evOne, evOp, evPur, evEff, evPur.chunks, fillP, AOp.isEff, AO.ev, putP, PV.cells, PV.leaf, getB, getM, mapE, iterE, keyC, mapRows, mfind, eq1, eqL, scal, binP, unP, minP, maxP, foldP, PV.lt, PV.lt.ltL, endP, expoAll, expoG, expo, expo.expoL, frIds, frIds.frIdsL, nodupN, kill, cls, clsFuel, resO, RV.get, loadP, evC_p, evC_s, endS, endT, rowsOf, callP, thinL, unfr, unfr.unfrL, PV.noMem, PV.noMem.noMemL, optI, mapO, norm, trimT, trimB, forget, hasN, blksLt, List.set, softChk, softGo, softRd, effTg, rdP]
  generalize hE : evLoop _ _ _ _ _ = E
  have hb0 : b / 2 ^ 64 = 0 := Nat.div_eq_of_lt (by omega)
  obtain ⟨h, _⟩ := H _ _ hE (by
    unfold S48 eW
    rw [Nat.sub_zero, hb0, Nat.mul_zero]
    simp [evCode, evOps, evOne, evOp, evPur, evEff, evPur.chunks, fillP, AOp.isEff, AO.ev, putP, PV.cells, PV.leaf, getB, getM, mapE, iterE, keyC, mapRows, mfind, eq1, eqL, scal, binP, unP, minP, maxP, foldP, PV.lt, PV.lt.ltL, endP, expoAll, expoG, expo, expo.expoL, frIds, frIds.frIdsL, nodupN, kill, cls, clsFuel, resO, RV.get, loadP, evC_p, evC_s, endS, endT, rowsOf, callP, thinL, unfr, unfr.unfrL, PV.noMem, PV.noMem.noMemL, optI, mapO, norm, trimT, trimB, forget, hasN, blksLt, List.set, softChk, softGo, softRd, effTg, rdP])
  rw [h]
  have i0 : (63 : Int) - ((List.replicate 64 ()).length : Nat) = -1 := by simp
  have i1 : 64 - (List.replicate 64 ()).length = 0 := by simp
  unfold S48
  rw [i0, i1, Nat.pow_zero, Nat.div_one]
  unfold eW
  generalize a * b / 18446744073709551616 = r1
  generalize a * b % 18446744073709551616 = r0
  unfold c48b0
  simp [evCode, evOps, evOne, evOp, evPur, evEff, evPur.chunks, fillP, AOp.isEff, AO.ev, putP, PV.cells, PV.leaf, getB, getM, mapE, iterE, keyC, mapRows, mfind, eq1, eqL, scal, binP, unP, minP, maxP, foldP, PV.lt, PV.lt.ltL, endP, expoAll, expoG, expo, expo.expoL, frIds, frIds.frIdsL, nodupN, kill, cls, clsFuel, resO, RV.get, loadP, evC_p, evC_s, endS, endT, rowsOf, callP, thinL, unfr, unfr.unfrL, PV.noMem, PV.noMem.noMemL, optI, mapO, norm, trimT, trimB, forget, hasN, blksLt, List.set, softChk, softGo, softRd, effTg, rdP]
theorem f35 (n : Int) (h1 : -9223372036854775808 ≤ n) (h2 : n ≤ 9223372036854775807) : evE Dg 35 [.int .i64 n] = some (.int .u64 (n.natAbs : Nat)) := by
  refine evE_intro 3 D35 rfl ?_
  unfold c35
  by_cases c : n < 0
  · have w1 : IntKind.i64.wrap (n + 1) = n + 1 := wrap_i64 _ (by omega) (by omega)
    have w2 : IntKind.i64.wrap (0 - (n + 1)) = 0 - (n + 1) := wrap_i64 _ (by omega) (by omega)
    have w2' : IntKind.i64.wrap (-(n + 1)) = 0 - (n + 1) := by rw [wrap_i64 _ (by omega) (by omega)]; omega
    have w3 : IntKind.u64.wrap (0 - (n + 1)) = 0 - (n + 1) := wrap_u64 _ (by omega) (by omega)
    have w3' : IntKind.u64.wrap (-(n + 1)) = 0 - (n + 1) := by rw [wrap_u64 _ (by omega) (by omega)]; omega
    have w4 : IntKind.u64.wrap (0 - (n + 1) + 1) = (n.natAbs : Nat) := by rw [wrap_u64 _ (by omega) (by omega)]; omega
    have w4' : IntKind.u64.wrap (-(n + 1) + 1) = (n.natAbs : Nat) := by rw [wrap_u64 _ (by omega) (by omega)]; omega
    obtain ⟨q, hq⟩ := ex_eqw (n.natAbs)
    rw [hq] at w4 w4' ⊢
    simp [evCode, evOps, evOne, evOp, evPur, evEff, evPur.chunks, fillP, AOp.isEff, AO.ev, putP, PV.cells, PV.leaf, getB, getM, mapE, iterE, keyC, mapRows, mfind, eq1, eqL, scal, binP, unP, minP, maxP, foldP, PV.lt, PV.lt.ltL, endP, expoAll, expoG, expo, expo.expoL, frIds, frIds.frIdsL, nodupN, kill, cls, clsFuel, resO, RV.get, loadP, evC_p, evC_s, endS, endT, rowsOf, callP, thinL, unfr, unfr.unfrL, PV.noMem, PV.noMem.noMemL, optI, mapO, norm, trimT, trimB, forget, hasN, blksLt, List.set, softChk, softGo, softRd, effTg, rdP, c, w1, w2, w2', w3, w3', w4, w4']
  · have w1 : IntKind.u64.wrap n = (n.natAbs : Nat) := by rw [wrap_u64 _ (by omega) (by omega)]; omega
    obtain ⟨q, hq⟩ := ex_eqw (n.natAbs)
    rw [hq] at w1 ⊢
    simp [evCode, evOps, evOne, evOp, evPur, evEff, evPur.chunks, fillP, AOp.isEff, AO.ev, putP, PV.cells, PV.leaf, getB, getM, mapE, iterE, keyC, mapRows, mfind, eq1, eqL, scal, binP, unP, minP, maxP, foldP, PV.lt, PV.lt.ltL, endP, expoAll, expoG, expo, expo.expoL, frIds, frIds.frIdsL, nodupN, kill, cls, clsFuel, resO, RV.get, loadP, evC_p, evC_s, endS, endT, rowsOf, callP, thinL, unfr, unfr.unfrL, PV.noMem, PV.noMem.noMemL, optI, mapO, norm, trimT, trimB, forget, hasN, blksLt, List.set, softChk, softGo, softRd, effTg, rdP, c, w1]
end Go.Proofs.YtddglikicokpeaaDoor
