/- Numbers of 128 bits, of the reference. -/
import Derived.Test.YtddglikicokpeaaDoorFrA
namespace Go.Proofs.YtddglikicokpeaaDoor
open Go Go.RowKit
set_option linter.unusedVariables false
set_option linter.unusedSimpArgs false
set_option maxHeartbeats 4000000

theorem ex_eqw {α : Type} (a : α) : ∃ b, a = b := ⟨a, rfl⟩
def eW (W : Nat) : PV := .agg [.int .u64 ((W / 18446744073709551616 : Nat) : Int), .int .u64 ((W % 18446744073709551616 : Nat) : Int)]
theorem plus_a {A B : Nat} : (A + B) % 18446744073709551616 = (A % 18446744073709551616 + B % 18446744073709551616) % 18446744073709551616 := Nat.add_mod _ _ _
theorem plus_b {A B : Nat} (h : (A + B) % 18446744073709551616 < A % 18446744073709551616) : (A + B) / 18446744073709551616 = A / 18446744073709551616 + B / 18446744073709551616 + 1 := by omega
theorem plus_c {A B : Nat} (h : ¬ (A + B) % 18446744073709551616 < A % 18446744073709551616) : (A + B) / 18446744073709551616 = A / 18446744073709551616 + B / 18446744073709551616 := by omega
theorem hi_lt {A : Nat} (h : A < 340282366920938463463374607431768211456) : A / 18446744073709551616 < 18446744073709551616 := by omega
theorem lo_lt (A : Nat) : A % 18446744073709551616 < 18446744073709551616 := Nat.mod_lt _ (by decide)
set_option maxRecDepth 100000 in
theorem f61 (A B : Nat) (h : A + B < 340282366920938463463374607431768211456) : evE Dg 61 [eW A, eW B] = some (eW (A + B)) := by
  have pa := plus_a (A := A) (B := B)
  have pb := plus_b (A := A) (B := B)
  have pc := plus_c (A := A) (B := B)
  have hs := hi_lt h
  have ls := lo_lt (A + B)
  have la := lo_lt A
  have lb := lo_lt B
  unfold eW
  generalize (A + B) / 18446744073709551616 = s1 at *
  generalize (A + B) % 18446744073709551616 = s0 at *
  generalize A / 18446744073709551616 = a1 at *
  generalize A % 18446744073709551616 = a0 at *
  generalize B / 18446744073709551616 = b1 at *
  generalize B % 18446744073709551616 = b0 at *
  clear h
  have w0 : IntKind.u64.wrap ((a0 : Int) + b0) = (s0 : Int) := by rw [wrap_u64']; omega
  by_cases c : s0 < a0
  · have e := pb c
    have c' : (s0 : Int) < a0 := by omega
    have w1 : IntKind.u64.wrap ((a1 : Int) + b1) = (a1 : Int) + b1 := wrap_u64 _ (by omega) (by omega)
    have w2 : IntKind.u64.wrap ((a1 : Int) + b1 + 1) = (s1 : Int) := by rw [wrap_u64 _ (by omega) (by omega)]; omega
    refine evE_intro 3 D61 rfl ?_
    unfold c61
    simp [evCode, evOps, evOne, evOp, evPur, evEff, evPur.chunks, fillP, AOp.isEff, AO.ev, putP, PV.cells, PV.leaf, getB, getM, mapE, iterE, keyC, mapRows, mfind, eq1, eqL, scal, binP, unP, minP, maxP, foldP, PV.lt, PV.lt.ltL, endP, expoAll, expoG, expo, expo.expoL, frIds, frIds.frIdsL, nodupN, kill, cls, clsFuel, resO, RV.get, loadP, evC_p, evC_s, endS, endT, rowsOf, callP, thinL, unfr, unfr.unfrL, PV.noMem, PV.noMem.noMemL, optI, mapO, norm, trimT, trimB, forget, hasN, blksLt, List.set, softChk, softGo, softRd, effTg, rdP, w0, w1, w2, c, c']
  · have e := pc c
    have c' : ¬ (s0 : Int) < a0 := by omega
    have w1 : IntKind.u64.wrap ((a1 : Int) + b1) = (s1 : Int) := by rw [wrap_u64 _ (by omega) (by omega)]; omega
    refine evE_intro 3 D61 rfl ?_
    unfold c61
    simp [evCode, evOps, evOne, evOp, evPur, evEff, evPur.chunks, fillP, AOp.isEff, AO.ev, putP, PV.cells, PV.leaf, getB, getM, mapE, iterE, keyC, mapRows, mfind, eq1, eqL, scal, binP, unP, minP, maxP, foldP, PV.lt, PV.lt.ltL, endP, expoAll, expoG, expo, expo.expoL, frIds, frIds.frIdsL, nodupN, kill, cls, clsFuel, resO, RV.get, loadP, evC_p, evC_s, endS, endT, rowsOf, callP, thinL, unfr, unfr.unfrL, PV.noMem, PV.noMem.noMemL, optI, mapO, norm, trimT, trimB, forget, hasN, blksLt, List.set, softChk, softGo, softRd, effTg, rdP, w0, w1, c, c']
theorem less_a {A B : Nat} : A < B ↔ A / 18446744073709551616 < B / 18446744073709551616 ∨ (A / 18446744073709551616 = B / 18446744073709551616 ∧ A % 18446744073709551616 < B % 18446744073709551616) := by omega
set_option maxRecDepth 100000 in
theorem f62 (A B : Nat) : evE Dg 62 [eW A, eW B] = some (.bool (decide (A < B))) := by
  have pa := less_a (A := A) (B := B)
  have hr := (decide_eq_true_iff (p := A < B)).trans pa
  unfold eW
  obtain ⟨r, hR⟩ : ∃ r, decide (A < B) = r := ⟨_, rfl⟩
  simp only [hR] at hr ⊢
  clear hR pa
  generalize A / 18446744073709551616 = a1 at *
  generalize A % 18446744073709551616 = a0 at *
  generalize B / 18446744073709551616 = b1 at *
  generalize B % 18446744073709551616 = b0 at *
  refine evE_intro 3 D62 rfl ?_
  unfold c62
  by_cases c : a1 < b1
  · have c' : (a1 : Int) < b1 := by omega
    have e : r = true := hr.2 (.inl c)
    subst e
    simp [evCode, evOps, evOne, evOp, evPur, evEff, evPur.chunks, fillP, AOp.isEff, AO.ev, putP, PV.cells, PV.leaf, getB, getM, mapE, iterE, keyC, mapRows, mfind, eq1, eqL, scal, binP, unP, minP, maxP, foldP, PV.lt, PV.lt.ltL, endP, expoAll, expoG, expo, expo.expoL, frIds, frIds.frIdsL, nodupN, kill, cls, clsFuel, resO, RV.get, loadP, evC_p, evC_s, endS, endT, rowsOf, callP, thinL, unfr, unfr.unfrL, PV.noMem, PV.noMem.noMemL, optI, mapO, norm, trimT, trimB, forget, hasN, blksLt, List.set, softChk, softGo, softRd, effTg, rdP, c, c']
  · have c' : ¬ (a1 : Int) < b1 := by omega
    by_cases d : a1 = b1
    · subst d
      by_cases e : a0 < b0
      · have e' : (a0 : Int) < b0 := by omega
        have h : r = true := hr.2 (.inr ⟨rfl, e⟩)
        subst h
        simp [evCode, evOps, evOne, evOp, evPur, evEff, evPur.chunks, fillP, AOp.isEff, AO.ev, putP, PV.cells, PV.leaf, getB, getM, mapE, iterE, keyC, mapRows, mfind, eq1, eqL, scal, binP, unP, minP, maxP, foldP, PV.lt, PV.lt.ltL, endP, expoAll, expoG, expo, expo.expoL, frIds, frIds.frIdsL, nodupN, kill, cls, clsFuel, resO, RV.get, loadP, evC_p, evC_s, endS, endT, rowsOf, callP, thinL, unfr, unfr.unfrL, PV.noMem, PV.noMem.noMemL, optI, mapO, norm, trimT, trimB, forget, hasN, blksLt, List.set, softChk, softGo, softRd, effTg, rdP, c, c', e, e']
      · have e' : ¬ (a0 : Int) < b0 := by omega
        have h : r = false := by cases r with
          | false => rfl
          | true => exact absurd (hr.1 rfl) (by omega)
        subst h
        simp [evCode, evOps, evOne, evOp, evPur, evEff, evPur.chunks, fillP, AOp.isEff, AO.ev, putP, PV.cells, PV.leaf, getB, getM, mapE, iterE, keyC, mapRows, mfind, eq1, eqL, scal, binP, unP, minP, maxP, foldP, PV.lt, PV.lt.ltL, endP, expoAll, expoG, expo, expo.expoL, frIds, frIds.frIdsL, nodupN, kill, cls, clsFuel, resO, RV.get, loadP, evC_p, evC_s, endS, endT, rowsOf, callP, thinL, unfr, unfr.unfrL, PV.noMem, PV.noMem.noMemL, optI, mapO, norm, trimT, trimB, forget, hasN, blksLt, List.set, softChk, softGo, softRd, effTg, rdP, c, c', e, e']
    · have d' : ¬ (a1 : Int) = b1 := by omega
      have h : r = false := by cases r with
        | false => rfl
        | true => exact absurd (hr.1 rfl) (by omega)
      subst h
      simp [evCode, evOps, evOne, evOp, evPur, evEff, evPur.chunks, fillP, AOp.isEff, AO.ev, putP, PV.cells, PV.leaf, getB, getM, mapE, iterE, keyC, mapRows, mfind, eq1, eqL, scal, binP, unP, minP, maxP, foldP, PV.lt, PV.lt.ltL, endP, expoAll, expoG, expo, expo.expoL, frIds, frIds.frIdsL, nodupN, kill, cls, clsFuel, resO, RV.get, loadP, evC_p, evC_s, endS, endT, rowsOf, callP, thinL, unfr, unfr.unfrL, PV.noMem, PV.noMem.noMemL, optI, mapO, norm, trimT, trimB, forget, hasN, blksLt, List.set, softChk, softGo, softRd, effTg, rdP, c, c', d, d']
theorem minus_b {A B : Nat} (h : B ≤ A) (hc : A % 18446744073709551616 < B % 18446744073709551616) : (A - B) / 18446744073709551616 + 1 + B / 18446744073709551616 = A / 18446744073709551616 ∧ (A - B) % 18446744073709551616 + B % 18446744073709551616 = A % 18446744073709551616 + 18446744073709551616 := by omega
theorem minus_c {A B : Nat} (h : B ≤ A) (hc : ¬ A % 18446744073709551616 < B % 18446744073709551616) : (A - B) / 18446744073709551616 + B / 18446744073709551616 = A / 18446744073709551616 ∧ (A - B) % 18446744073709551616 + B % 18446744073709551616 = A % 18446744073709551616 := by omega
set_option maxRecDepth 100000 in
theorem f63 (A B : Nat) (h : B ≤ A) (hA : A < 340282366920938463463374607431768211456) : evE Dg 63 [eW A, eW B] = some (eW (A - B)) := by
  have pb := minus_b h
  have pc := minus_c h
  have ha := hi_lt hA
  have ls := lo_lt (A - B)
  have la := lo_lt A
  have lb := lo_lt B
  unfold eW
  generalize (A - B) / 18446744073709551616 = s1 at *
  generalize (A - B) % 18446744073709551616 = s0 at *
  generalize A / 18446744073709551616 = a1 at *
  generalize A % 18446744073709551616 = a0 at *
  generalize B / 18446744073709551616 = b1 at *
  generalize B % 18446744073709551616 = b0 at *
  clear h hA
  by_cases c : a0 < b0
  · obtain ⟨e1, e0⟩ := pb c
    have c' : (a0 : Int) < b0 := by omega
    have w0 : IntKind.u64.wrap ((a0 : Int) - b0) = (s0 : Int) := by rw [wrap_u64']; omega
    have w1 : IntKind.u64.wrap ((a1 : Int) - b1) = (a1 : Int) - b1 := wrap_u64 _ (by omega) (by omega)
    have w2 : IntKind.u64.wrap ((a1 : Int) - b1 - 1) = (s1 : Int) := by rw [wrap_u64 _ (by omega) (by omega)]; omega
    refine evE_intro 3 D63 rfl ?_
    unfold c63
    simp [evCode, evOps, evOne, evOp, evPur, evEff, evPur.chunks, fillP, AOp.isEff, AO.ev, putP, PV.cells, PV.leaf, getB, getM, mapE, iterE, keyC, mapRows, mfind, eq1, eqL, scal, binP, unP, minP, maxP, foldP, PV.lt, PV.lt.ltL, endP, expoAll, expoG, expo, expo.expoL, frIds, frIds.frIdsL, nodupN, kill, cls, clsFuel, resO, RV.get, loadP, evC_p, evC_s, endS, endT, rowsOf, callP, thinL, unfr, unfr.unfrL, PV.noMem, PV.noMem.noMemL, optI, mapO, norm, trimT, trimB, forget, hasN, blksLt, List.set, softChk, softGo, softRd, effTg, rdP, w0, w1, w2, c, c']
  · obtain ⟨e1, e0⟩ := pc c
    have c' : ¬ (a0 : Int) < b0 := by omega
    have w0 : IntKind.u64.wrap ((a0 : Int) - b0) = (s0 : Int) := by rw [wrap_u64']; omega
    have w1 : IntKind.u64.wrap ((a1 : Int) - b1) = (s1 : Int) := by rw [wrap_u64 _ (by omega) (by omega)]; omega
    refine evE_intro 3 D63 rfl ?_
    unfold c63
    simp [evCode, evOps, evOne, evOp, evPur, evEff, evPur.chunks, fillP, AOp.isEff, AO.ev, putP, PV.cells, PV.leaf, getB, getM, mapE, iterE, keyC, mapRows, mfind, eq1, eqL, scal, binP, unP, minP, maxP, foldP, PV.lt, PV.lt.ltL, endP, expoAll, expoG, expo, expo.expoL, frIds, frIds.frIdsL, nodupN, kill, cls, clsFuel, resO, RV.get, loadP, evC_p, evC_s, endS, endT, rowsOf, callP, thinL, unfr, unfr.unfrL, PV.noMem, PV.noMem.noMemL, optI, mapO, norm, trimT, trimB, forget, hasN, blksLt, List.set, softChk, softGo, softRd, effTg, rdP, w0, w1, c, c']
set_option maxRecDepth 100000 in
theorem f64 (b i : Nat) (hi : i < 64) : evE Dg 64 [.agg [.int .u64 0, .int .u64 (b : Int)], .int .i64 (i : Int)] = some (.int .u64 ((b / 2 ^ i % 2 : Nat) : Int)) := by
  have c : ¬ (64 : Int) ≤ i := by omega
  have w : IntKind.u64.wrap (i : Int) = i := wrap_u64 _ (by omega) (by omega)
  have m1 := min_bits i (by omega)
  have m2 := min_bits' i (by omega)
  have s1 : Int.fdiv (b : Int) (2 ^ i) = ((b / 2 ^ i : Nat) : Int) := by
    rw [Int.fdiv_eq_ediv_of_nonneg _ (by have : (0 : Int) ≤ ((2 ^ i : Nat) : Int) := Int.natCast_nonneg _; simpa using this)]
    simp
  generalize b / 2 ^ i = q at *
  have s2 : Int.tmod (q : Int) 2 = ((q % 2 : Nat) : Int) := by rw [Int.tmod_eq_emod_of_nonneg (by omega)]; omega
  refine evE_intro 3 D64 rfl ?_
  unfold c64
  simp [evCode, evOps, evOne, evOp, evPur, evEff, evPur.chunks, fillP, AOp.isEff, AO.ev, putP, PV.cells, PV.leaf, getB, getM, mapE, iterE, keyC, mapRows, mfind, eq1, eqL, scal, binP, unP, minP, maxP, foldP, PV.lt, PV.lt.ltL, endP, expoAll, expoG, expo, expo.expoL, frIds, frIds.frIdsL, nodupN, kill, cls, clsFuel, resO, RV.get, loadP, evC_p, evC_s, endS, endT, rowsOf, callP, thinL, unfr, unfr.unfrL, PV.noMem, PV.noMem.noMemL, optI, mapO, norm, trimT, trimB, forget, hasN, blksLt, List.set, softChk, softGo, softRd, effTg, rdP, c, w, m1, m2, s1, s2]
end Go.Proofs.YtddglikicokpeaaDoor
