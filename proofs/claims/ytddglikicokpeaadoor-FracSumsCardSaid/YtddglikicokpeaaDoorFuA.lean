/- The reference's long division and greatest common divisor. -/
import Derived.Test.YtddglikicokpeaaDoorFwH
import Derived.Test.YtddglikicokpeaaDoorFrQ
namespace Go.Proofs.YtddglikicokpeaaDoor
open Go Go.RowKit
set_option linter.unusedVariables false
set_option linter.unusedSimpArgs false
set_option maxHeartbeats 4000000

def hW (W : Nat) : Int := ((W / 18446744073709551616 : Nat) : Int)
def lW (W : Nat) : Int := ((W % 18446744073709551616 : Nat) : Int)
theorem eW_eq (W : Nat) : eW W = .agg [.int .u64 (hW W), .int .u64 (lW W)] := rfl
theorem eG_eq (m : Bool) (W : Nat) : eG m W = .agg [.bool m, .int .u64 (hW W), .int .u64 (lW W)] := rfl
theorem hW_small {W : Nat} (h : W < 18446744073709551616) : hW W = 0 := by unfold hW; omega
theorem lW_small {W : Nat} (h : W < 18446744073709551616) : lW W = W := by unfold lW; omega
theorem eW_small {W : Nat} (h : W < 18446744073709551616) : eW W = .agg [.int .u64 0, .int .u64 (W : Int)] := by rw [eW_eq, hW_small h, lW_small h]
theorem hW_rng {W : Nat} (h : W < 340282366920938463463374607431768211456) : 0 ≤ hW W ∧ hW W < 18446744073709551616 := by unfold hW; omega
theorem lW_rng (W : Nat) : 0 ≤ lW W ∧ lW W < 18446744073709551616 := by unfold lW; omega
theorem pow64i (i : Nat) (h : 64 ≤ i) : 18446744073709551616 * 2 ^ (i - 64) = 2 ^ i := by
  rw [show (18446744073709551616 : Nat) = 2 ^ 64 from rfl, ← Nat.pow_add]
  congr 1
  omega
theorem bit_lo (W i : Nat) (h : i < 64) : W % 18446744073709551616 / 2 ^ i % 2 = W / 2 ^ i % 2 := by
  rw [← Nat.toNat_testBit, ← Nat.toNat_testBit, show (18446744073709551616 : Nat) = 2 ^ 64 from rfl, Nat.testBit_mod_two_pow]
  simp [h]
theorem fdivN (b i : Nat) : Int.fdiv (b : Int) (2 ^ i) = ((b / 2 ^ i : Nat) : Int) := by
  rw [Int.fdiv_eq_ediv_of_nonneg _ (by have : (0 : Int) ≤ ((2 ^ i : Nat) : Int) := Int.natCast_nonneg _; simpa using this)]
  simp
set_option maxRecDepth 100000 in
theorem f64w (W i : Nat) (hi : i < 128) : evE Dg 64 [eW W, .int .i64 (i : Int)] = some (.int .u64 ((W / 2 ^ i % 2 : Nat) : Int)) := by
  by_cases c : 64 ≤ i
  · have c' : (64 : Int) ≤ i := by omega
    have w0 : IntKind.i64.wrap ((i : Int) - 64) = (((i - 64 : Nat)) : Int) := by rw [wrap_i64 _ (by omega) (by omega)]; omega
    have w : IntKind.u64.wrap (((i - 64 : Nat)) : Int) = ((i - 64 : Nat) : Int) := wrap_u64 _ (by omega) (by omega)
    have m1 := min_bits (i - 64) (by omega)
    have m2 := min_bits' (i - 64) (by omega)
    have s1 := fdivN (W / 18446744073709551616) (i - 64)
    rw [Nat.div_div_eq_div_mul, pow64i i c] at s1
    have e : hW W = ((W / 18446744073709551616 : Nat) : Int) := rfl
    rw [← e] at s1
    have hj : 0 ≤ ((i - 64 : Nat) : Int) := by omega
    generalize W / 2 ^ i = q at *
    rw [eW_eq]
    generalize hW W = x at *
    generalize lW W = y at *
    generalize i - 64 = j at *
    have s2 : Int.tmod (q : Int) 2 = ((q % 2 : Nat) : Int) := by rw [Int.tmod_eq_emod_of_nonneg (by omega)]; omega
    refine evE_intro 3 D64 rfl ?_
    unfold c64
    simp [evCode, evOps, evOne, evOp, evPur, evEff, evPur.chunks, fillP, AOp.isEff, AO.ev, putP, PV.cells, PV.leaf, getB, getM, mapE, iterE, keyC, mapRows, mfind, eq1, eqL, scal, binP, unP, minP, maxP, foldP, PV.lt, PV.lt.ltL, endP, expoAll, expoG, expo, expo.expoL, frIds, frIds.frIdsL, nodupN, kill, cls, clsFuel, resO, RV.get, loadP, evC_p, evC_s, endS, endT, rowsOf, callP, thinL, unfr, unfr.unfrL, PV.noMem, PV.noMem.noMemL, optI, mapO, norm, trimT, trimB, forget, hasN, blksLt, List.set, softChk, softGo, softRd, effTg, rdP, c', w0, w, m1, m2, s1, s2, hj]
  · have hb := bit_lo W i (by omega)
    have c' : ¬ (64 : Int) ≤ i := by omega
    have w : IntKind.u64.wrap (i : Int) = i := wrap_u64 _ (by omega) (by omega)
    have m1 := min_bits i (by omega)
    have m2 := min_bits' i (by omega)
    have s1 := fdivN (W % 18446744073709551616) i
    have e : lW W = ((W % 18446744073709551616 : Nat) : Int) := rfl
    rw [← e] at s1
    rw [← hb]
    clear hb
    generalize W % 18446744073709551616 / 2 ^ i = q at *
    rw [eW_eq]
    generalize hW W = x at *
    generalize lW W = y at *
    have s2 : Int.tmod (q : Int) 2 = ((q % 2 : Nat) : Int) := by rw [Int.tmod_eq_emod_of_nonneg (by omega)]; omega
    refine evE_intro 3 D64 rfl ?_
    unfold c64
    simp [evCode, evOps, evOne, evOp, evPur, evEff, evPur.chunks, fillP, AOp.isEff, AO.ev, putP, PV.cells, PV.leaf, getB, getM, mapE, iterE, keyC, mapRows, mfind, eq1, eqL, scal, binP, unP, minP, maxP, foldP, PV.lt, PV.lt.ltL, endP, expoAll, expoG, expo, expo.expoL, frIds, frIds.frIdsL, nodupN, kill, cls, clsFuel, resO, RV.get, loadP, evC_p, evC_s, endS, endT, rowsOf, callP, thinL, unfr, unfr.unfrL, PV.noMem, PV.noMem.noMemL, optI, mapO, norm, trimT, trimB, forget, hasN, blksLt, List.set, softChk, softGo, softRd, effTg, rdP, c', w, m1, m2, s1, s2]

theorem div_step (P B : Nat) (hB : 0 < B) :
    (¬ P / 2 % B + P / 2 % B + P % 2 < B → P / B = P / 2 / B + P / 2 / B + 1 ∧ P % B = P / 2 % B + P / 2 % B + P % 2 - B) ∧
    (P / 2 % B + P / 2 % B + P % 2 < B → P / B = P / 2 / B + P / 2 / B ∧ P % B = P / 2 % B + P / 2 % B + P % 2) := by
  have h1 := Nat.div_add_mod (P / 2) B
  have h2 : P / 2 % B < B := Nat.mod_lt _ hB
  have h3 := Nat.div_add_mod P 2
  have h4 : P % 2 < 2 := Nat.mod_lt _ (by omega)
  generalize P / 2 / B = q at *
  generalize P / 2 % B = r at *
  generalize P / 2 = h at *
  generalize P % 2 = b at *
  subst h1
  constructor
  · intro h
    have e : P = B * (q + q + 1) + (r + r + b - B) := by
      rw [Nat.mul_add, Nat.mul_add, Nat.mul_one]; omega
    have hl : r + r + b - B < B := by omega
    generalize r + r + b - B = x at *
    rw [e, Nat.mul_add_div hB, Nat.mul_add_mod, Nat.div_eq_of_lt hl, Nat.mod_eq_of_lt hl]
    exact ⟨rfl, rfl⟩
  · intro h
    have e : P = B * (q + q) + (r + r + b) := by
      rw [Nat.mul_add]; omega
    generalize r + r + b = x at *
    rw [e, Nat.mul_add_div hB, Nat.mul_add_mod, Nat.div_eq_of_lt h, Nat.mod_eq_of_lt h]
    exact ⟨rfl, rfl⟩
theorem odd_up {q : Nat} (h : q + q + 1 < 340282366920938463463374607431768211456) : hW (q + q + 1) = hW (q + q) ∧ IntKind.u64.wrap (lW (q + q) + 1) = lW (q + q + 1) := by
  unfold hW lW
  refine ⟨by omega, ?_⟩
  rw [wrap_u64 _ (by omega) (by omega)]
  omega
def S54 (A B k : Nat) : St := ⟨[.top, .top, .ptr 0 1 0 0, .ptr 1 1 0 0, .ptr 2 1 0 0, .ptr 3 1 0 0, .ptr 4 1 0 0, .ptr 5 1 0 0, .int .i64 (127 - (k : Int))] ++ List.replicate 30 .top,
  [some ⟨1, 2, true, [[.int .u64 (hW A), .int .u64 (lW A)]]⟩, some ⟨1, 2, true, [[.int .u64 (hW B), .int .u64 (lW B)]]⟩,
   some ⟨1, 2, true, [[.int .u64 0, .int .u64 0]]⟩, some ⟨1, 2, true, [[.int .u64 0, .int .u64 0]]⟩,
   some ⟨1, 2, true, [[.int .u64 (hW (A / 2 ^ (128 - k) / B)), .int .u64 (lW (A / 2 ^ (128 - k) / B))]]⟩,
   some ⟨1, 2, true, [[.int .u64 (hW (A / 2 ^ (128 - k) % B)), .int .u64 (lW (A / 2 ^ (128 - k) % B))]]⟩]⟩
set_option maxRecDepth 100000 in
theorem f54 (A B : Nat) (hA : A < 340282366920938463463374607431768211456) (hB0 : 0 < B) (hB : B < 170141183460469231731687303715884105728) :
    evE Dg 54 [eW A, eW B] = some (.tup [eW (A / B), eW (A % B)]) := by
  have H := loop_foldE (body := evCode (evC Dg) 140 c54b0) (keep := [2, 3, 4, 5, 6, 7, 8]) (n0 := 6) (fuel := 140) (List.replicate 128 ()) (fun k (_ : Unit) => S54 A B k) (fun _ _ => ()) (fun _ _ => True)
    (by
      rintro k _ _ - hk -
      simp only [List.length_replicate] at hk
      refine ⟨trivial, ?_⟩
      have nb1 : Nat.beq 5 2 = false := rfl
      have nb2 : Nat.beq 5 3 = false := rfl
      have i0 : (127 : Int) - k = ((127 - k : Nat) : Int) := by omega
      have h64 := f64w A (127 - k) (by omega)
      have w1 : IntKind.i64.wrap (((127 - k : Nat) : Int) - 1) = 127 - ((k + 1 : Nat) : Int) := by rw [wrap_i64 _ (by omega) (by omega)]; omega
      have e1 : 128 - (k + 1) = 127 - k := by omega
      have e2 : A / 2 ^ (128 - k) = A / 2 ^ (127 - k) / 2 := by
        rw [show 128 - k = (127 - k) + 1 by omega, Nat.pow_succ, Nat.div_div_eq_div_mul]
      have hP : A / 2 ^ (127 - k) ≤ A := Nat.div_le_self _ _
      unfold S54
      rw [e1, e2, i0]
      obtain ⟨i, hi⟩ := ex_eqw (127 - k)
      rw [hi] at h64 w1 ⊢
      rw [hi] at hP
      have hi0 : (0 : Int) ≤ i := by omega
      generalize A / 2 ^ i = P at *
      obtain ⟨d1, d2⟩ := div_step P B hB0
      have hr : P / 2 % B < B := Nat.mod_lt _ hB0
      have hq : P / 2 / B ≤ P / 2 := Nat.div_le_self _ _
      generalize P / 2 / B = q at *
      generalize P / 2 % B = r at *
      have hb : P % 2 < 2 := Nat.mod_lt _ (by omega)
      have hqb : q + q + 1 < 340282366920938463463374607431768211456 := by omega
      generalize P % 2 = b at *
      have g1 := f61 q q (by omega)
      have g2 := f61 r r (by omega)
      have g3 := f61 (r + r) b (by omega)
      have eb := eW_small (W := b) (by omega)
      rw [eb] at g3
      have g4 := f62 (r + r + b) B
      by_cases c : r + r + b < B
      · obtain ⟨p1, p2⟩ := d2 c
        rw [p1, p2]
        rw [decide_eq_true c] at g4
        clear d1 d2 p1 p2 hP hA hB c
        simp only [eW_eq] at *
        generalize r + r + b = x at *
        generalize r + r = y at *
        generalize q + q = z at *
        generalize hW A = hA at *
        generalize lW A = lA at *
        unfold c54b0
        simp [evCode, evOps, evOne, evOp, evPur, evEff, evPur.chunks, fillP, AOp.isEff, AO.ev, putP, PV.cells, PV.leaf, getB, getM, mapE, iterE, keyC, mapRows, mfind, eq1, eqL, scal, binP, unP, minP, maxP, foldP, PV.lt, PV.lt.ltL, endP, expoAll, expoG, expo, expo.expoL, frIds, frIds.frIdsL, nodupN, kill, cls, clsFuel, resO, RV.get, loadP, evC_p, evC_s, endS, endT, rowsOf, callP, thinL, unfr, unfr.unfrL, PV.noMem, PV.noMem.noMemL, optI, mapO, norm, trimT, trimB, forget, hasN, blksLt, List.set, softChk, softGo, softRd, effTg, rdP, hi0, g1, g2, g3, g4, h64, w1, nb1, nb2]
      · obtain ⟨p1, p2⟩ := d1 c
        rw [p1, p2]
        rw [decide_eq_false c] at g4
        have g5 := f63 (r + r + b) B (by omega) (by omega)
        obtain ⟨o1, o2⟩ := odd_up hqb
        rw [o1]
        clear d1 d2 p1 p2 hP hA hB c
        simp only [eW_eq] at *
        generalize r + r + b - B = v at *
        generalize r + r + b = x at *
        generalize r + r = y at *
        generalize lW (q + q + 1) = u at *
        generalize q + q = z at *
        generalize hW A = hA at *
        generalize lW A = lA at *
        unfold c54b0
        simp [evCode, evOps, evOne, evOp, evPur, evEff, evPur.chunks, fillP, AOp.isEff, AO.ev, putP, PV.cells, PV.leaf, getB, getM, mapE, iterE, keyC, mapRows, mfind, eq1, eqL, scal, binP, unP, minP, maxP, foldP, PV.lt, PV.lt.ltL, endP, expoAll, expoG, expo, expo.expoL, frIds, frIds.frIdsL, nodupN, kill, cls, clsFuel, resO, RV.get, loadP, evC_p, evC_s, endS, endT, rowsOf, callP, thinL, unfr, unfr.unfrL, PV.noMem, PV.noMem.noMemL, optI, mapO, norm, trimT, trimB, forget, hasN, blksLt, List.set, softChk, softGo, softRd, effTg, rdP, hi0, g1, g2, g3, g4, g5, h64, w1, o2, nb1, nb2])
    (by
      intro _ _ s
      have i0 : (127 : Int) - ((List.replicate 128 ()).length : Nat) = -1 := by simp
      unfold S54
      rw [i0]
      unfold c54b0
      simp [evCode, evOps, evOne, evOp, evPur, evEff, evPur.chunks, fillP, AOp.isEff, AO.ev, putP, PV.cells, PV.leaf, getB, getM, mapE, iterE, keyC, mapRows, mfind, eq1, eqL, scal, binP, unP, minP, maxP, foldP, PV.lt, PV.lt.ltL, endP, expoAll, expoG, expo, expo.expoL, frIds, frIds.frIdsL, nodupN, kill, cls, clsFuel, resO, RV.get, loadP, evC_p, evC_s, endS, endT, rowsOf, callP, thinL, unfr, unfr.unfrL, PV.noMem, PV.noMem.noMemL, optI, mapO, norm, trimT, trimB, forget, hasN, blksLt, List.set, softChk, softGo, softRd, effTg, rdP])
    (by simp) () trivial
  refine evE_intro 140 D54 rfl ?_
  unfold c54
  simp only [eW_eq]
  simp [evCode, evOps, evOne, evOp, evPur, evEff, evPur.chunks, fillP, AOp.isEff, AO.ev, putP, PV.cells, PV.leaf, getB, getM, mapE, iterE, keyC, mapRows, mfind, eq1, eqL, scal, binP, unP, minP, maxP, foldP, PV.lt, PV.lt.ltL, endP, expoAll, expoG, expo, expo.expoL, frIds, frIds.frIdsL, nodupN, kill, cls, clsFuel, resO, RV.get, loadP, evC_p, evC_s, endS, endT, rowsOf, callP, thinL, unfr, unfr.unfrL, PV.noMem, PV.noMem.noMemL, optI, mapO, norm, trimT, trimB, forget, hasN, blksLt, List.set, softChk, softGo, softRd, effTg, rdP]
  generalize hE : evLoop _ _ _ _ _ = E
  have hb0 : A / 2 ^ 128 = 0 := Nat.div_eq_of_lt (by omega)
  obtain ⟨h, _⟩ := H _ _ hE (by
    unfold S54
    rw [Nat.sub_zero, hb0, Nat.zero_div, Nat.zero_mod]
    have e0 : hW 0 = 0 := rfl
    have e1 : lW 0 = 0 := rfl
    rw [e0, e1]
    simp [evCode, evOps, evOne, evOp, evPur, evEff, evPur.chunks, fillP, AOp.isEff, AO.ev, putP, PV.cells, PV.leaf, getB, getM, mapE, iterE, keyC, mapRows, mfind, eq1, eqL, scal, binP, unP, minP, maxP, foldP, PV.lt, PV.lt.ltL, endP, expoAll, expoG, expo, expo.expoL, frIds, frIds.frIdsL, nodupN, kill, cls, clsFuel, resO, RV.get, loadP, evC_p, evC_s, endS, endT, rowsOf, callP, thinL, unfr, unfr.unfrL, PV.noMem, PV.noMem.noMemL, optI, mapO, norm, trimT, trimB, forget, hasN, blksLt, List.set, softChk, softGo, softRd, effTg, rdP])
  rw [h]
  have i0 : (127 : Int) - ((List.replicate 128 ()).length : Nat) = -1 := by simp
  have i1 : 128 - (List.replicate 128 ()).length = 0 := by simp
  unfold S54
  rw [i0, i1, Nat.pow_zero, Nat.div_one]
  generalize A / B = x
  generalize A % B = y
  unfold c54b0
  have nb1 : Nat.beq 5 2 = false := rfl
  have nb2 : Nat.beq 5 3 = false := rfl
  simp [evCode, evOps, evOne, evOp, evPur, evEff, evPur.chunks, fillP, AOp.isEff, AO.ev, putP, PV.cells, PV.leaf, getB, getM, mapE, iterE, keyC, mapRows, mfind, eq1, eqL, scal, binP, unP, minP, maxP, foldP, PV.lt, PV.lt.ltL, endP, expoAll, expoG, expo, expo.expoL, frIds, frIds.frIdsL, nodupN, kill, cls, clsFuel, resO, RV.get, loadP, evC_p, evC_s, endS, endT, rowsOf, callP, thinL, unfr, unfr.unfrL, PV.noMem, PV.noMem.noMemL, optI, mapO, norm, trimT, trimB, forget, hasN, blksLt, List.set, softChk, softGo, softRd, effTg, rdP, nb1, nb2]
theorem z_of {W : Nat} : W = 0 ↔ hW W = 0 ∧ lW W = 0 := by unfold hW lW; omega
def S36 (x : Nat × Nat) : St := ⟨[.top, .top, .ptr 0 1 0 0, .ptr 1 1 0 0, .ptr 2 1 0 0] ++ List.replicate 14 .top,
  [some ⟨1, 2, true, [[.int .u64 (hW x.1), .int .u64 (lW x.1)]]⟩, some ⟨1, 2, true, [[.int .u64 (hW x.2), .int .u64 (lW x.2)]]⟩, some ⟨1, 2, true, [[.int .u64 0, .int .u64 0]]⟩]⟩
set_option maxRecDepth 100000 in
theorem f36 (A B : Nat) (hA : A < 340282366920938463463374607431768211456) (hB : B < 170141183460469231731687303715884105728) :
    evE Dg 36 [eW A, eW B] = some (eW (Nat.gcd A B)) := by
  refine evE_intro (B + 10) D36 rfl ?_
  unfold c36
  simp only [eW_eq]
  simp [evCode, evOps, evOne, evOp, evPur, evEff, evPur.chunks, fillP, AOp.isEff, AO.ev, putP, PV.cells, PV.leaf, getB, getM, mapE, iterE, keyC, mapRows, mfind, eq1, eqL, scal, binP, unP, minP, maxP, foldP, PV.lt, PV.lt.ltL, endP, expoAll, expoG, expo, expo.expoL, frIds, frIds.frIdsL, nodupN, kill, cls, clsFuel, resO, RV.get, loadP, evC_p, evC_s, endS, endT, rowsOf, callP, thinL, unfr, unfr.unfrL, PV.noMem, PV.noMem.noMemL, optI, mapO, norm, trimT, trimB, forget, hasN, blksLt, List.set, softChk, softGo, softRd, effTg, rdP]
  generalize hE : evLoop (evCode (evC Dg) (B + 10) c36b0) [2, 3, 4] 3 (B + 10) _ = E
  have H := loop_while (body := evCode (evC Dg) (B + 10) c36b0) (keep := [2, 3, 4]) (n0 := 3) (fuel := B + 10) S36 (fun x => x.2) (fun x => x.1 < 340282366920938463463374607431768211456 ∧ x.2 < 170141183460469231731687303715884105728 ∧ Nat.gcd x.1 x.2 = Nat.gcd A B)
    (fun o => o = .exit 0 ⟨[.top, .top, .ptr 0 1 0 0, .ptr 1 1 0 0, .ptr 2 1 0 0, .top, .top, .agg [.int .u64 0, .int .u64 0], .agg [.int .u64 0, .int .u64 0], .bool false] ++ List.replicate 9 .top,
      [some ⟨1, 2, true, [[.int .u64 (hW (Nat.gcd A B)), .int .u64 (lW (Nat.gcd A B))]]⟩, some ⟨1, 2, true, [[.int .u64 0, .int .u64 0]]⟩, some ⟨1, 2, true, [[.int .u64 0, .int .u64 0]]⟩]⟩) ?_ (A, B) ⟨hA, hB, rfl⟩ (by show B < B + 10; omega) _ E hE (by simp [evCode, evOps, evOne, evOp, evPur, evEff, evPur.chunks, fillP, AOp.isEff, AO.ev, putP, PV.cells, PV.leaf, getB, getM, mapE, iterE, keyC, mapRows, mfind, eq1, eqL, scal, binP, unP, minP, maxP, foldP, PV.lt, PV.lt.ltL, endP, expoAll, expoG, expo, expo.expoL, frIds, frIds.frIdsL, nodupN, kill, cls, clsFuel, resO, RV.get, loadP, evC_p, evC_s, endS, endT, rowsOf, callP, thinL, unfr, unfr.unfrL, PV.noMem, PV.noMem.noMemL, optI, mapO, norm, trimT, trimB, forget, hasN, blksLt, List.set, softChk, softGo, softRd, effTg, rdP, S36])
  · obtain ⟨o, rfl, rfl⟩ := H
    simp [evCode, evOps, evOne, evOp, evPur, evEff, evPur.chunks, fillP, AOp.isEff, AO.ev, putP, PV.cells, PV.leaf, getB, getM, mapE, iterE, keyC, mapRows, mfind, eq1, eqL, scal, binP, unP, minP, maxP, foldP, PV.lt, PV.lt.ltL, endP, expoAll, expoG, expo, expo.expoL, frIds, frIds.frIdsL, nodupN, kill, cls, clsFuel, resO, RV.get, loadP, evC_p, evC_s, endS, endT, rowsOf, callP, thinL, unfr, unfr.unfrL, PV.noMem, PV.noMem.noMemL, optI, mapO, norm, trimT, trimB, forget, hasN, blksLt, List.set, softChk, softGo, softRd, effTg, rdP]
  · rintro ⟨x, y⟩ ⟨h1, h2, h3⟩
    simp only at h1 h2 h3
    by_cases hy : y = 0
    · subst hy
      right
      rw [Nat.gcd_zero_right] at h3
      subst h3
      have e0 : hW 0 = 0 := rfl
      have e1 : lW 0 = 0 := rfl
      refine ⟨_, (by unfold c36b0; simp [evCode, evOps, evOne, evOp, evPur, evEff, evPur.chunks, fillP, AOp.isEff, AO.ev, putP, PV.cells, PV.leaf, getB, getM, mapE, iterE, keyC, mapRows, mfind, eq1, eqL, scal, binP, unP, minP, maxP, foldP, PV.lt, PV.lt.ltL, endP, expoAll, expoG, expo, expo.expoL, frIds, frIds.frIdsL, nodupN, kill, cls, clsFuel, resO, RV.get, loadP, evC_p, evC_s, endS, endT, rowsOf, callP, thinL, unfr, unfr.unfrL, PV.noMem, PV.noMem.noMemL, optI, mapO, norm, trimT, trimB, forget, hasN, blksLt, List.set, softChk, softGo, softRd, effTg, rdP, S36, e0, e1]), (fun s h => by cases h), rfl⟩
    · left
      have hlt : x % y < y := Nat.mod_lt _ (by omega)
      refine ⟨(y, x % y), ?_⟩
      have J : ((y, x % y).1 < 340282366920938463463374607431768211456 ∧ (y, x % y).2 < 170141183460469231731687303715884105728 ∧ Nat.gcd (y, x % y).1 (y, x % y).2 = Nat.gcd A B) ∧ (y, x % y).2 < (x, y).2 := by
        refine ⟨⟨by simp only; omega, by simp only; omega, ?_⟩, hlt⟩
        simp only
        rw [← h3, Nat.gcd_comm y, ← Nat.gcd_rec, Nat.gcd_comm]
      refine (fun ⟨s', q1, q2⟩ => ⟨s', q1, q2, J⟩ : (∃ s', _ ∧ _) → _) ?_
      clear J
      have q := f54 x y h1 (by omega) h2
      have hz : ¬ (hW y = 0 ∧ lW y = 0) := fun h => hy (z_of.2 h)
      simp only [eW_eq] at q
      unfold S36
      simp only
      generalize hW (x % y) = r1 at *
      generalize lW (x % y) = r2 at *
      generalize hW x = x1 at *
      generalize lW x = x2 at *
      generalize hW (x / y) = p1 at *
      generalize lW (x / y) = p2 at *
      clear h1 h2 h3 hlt hy
      unfold c36b0
      by_cases hz1 : hW y = 0
      · have hz2 : ¬ lW y = 0 := fun h => hz ⟨hz1, h⟩
        rw [hz1] at q ⊢
        generalize lW y = y2 at *
        clear hz hz1
        simp [evCode, evOps, evOne, evOp, evPur, evEff, evPur.chunks, fillP, AOp.isEff, AO.ev, putP, PV.cells, PV.leaf, getB, getM, mapE, iterE, keyC, mapRows, mfind, eq1, eqL, scal, binP, unP, minP, maxP, foldP, PV.lt, PV.lt.ltL, endP, expoAll, expoG, expo, expo.expoL, frIds, frIds.frIdsL, nodupN, kill, cls, clsFuel, resO, RV.get, loadP, evC_p, evC_s, endS, endT, rowsOf, callP, thinL, unfr, unfr.unfrL, PV.noMem, PV.noMem.noMemL, optI, mapO, norm, trimT, trimB, forget, hasN, blksLt, List.set, softChk, softGo, softRd, effTg, rdP, q, hz2]
      · generalize lW y = y2 at *
        generalize hW y = y1 at *
        clear hz
        simp [evCode, evOps, evOne, evOp, evPur, evEff, evPur.chunks, fillP, AOp.isEff, AO.ev, putP, PV.cells, PV.leaf, getB, getM, mapE, iterE, keyC, mapRows, mfind, eq1, eqL, scal, binP, unP, minP, maxP, foldP, PV.lt, PV.lt.ltL, endP, expoAll, expoG, expo, expo.expoL, frIds, frIds.frIdsL, nodupN, kill, cls, clsFuel, resO, RV.get, loadP, evC_p, evC_s, endS, endT, rowsOf, callP, thinL, unfr, unfr.unfrL, PV.noMem, PV.noMem.noMemL, optI, mapO, norm, trimT, trimB, forget, hasN, blksLt, List.set, softChk, softGo, softRd, effTg, rdP, q, hz1]
end Go.Proofs.YtddglikicokpeaaDoor
