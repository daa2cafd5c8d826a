/- num: Floor, Ceil, Mul; the reference's. -/
import Derived.Test.YtnodcoemjojlhaaDoorNuF
namespace Go.Proofs.YtnodcoemjojlhaaDoor
open Go Go.RowKit
set_option linter.unusedVariables false
set_option linter.unusedSimpArgs false
set_option maxHeartbeats 8000000

theorem inB_false (n : Int) : inB n = false ↔ (n < -1000000000000000 ∨ 1000000000000000 < n) := by
  cases h : inB n
  · simp
    have : ¬ (-1000000000000000 ≤ n ∧ n ≤ 1000000000000000) := fun hh => by rw [(inB_iff n).2 hh] at h; cases h
    omega
  · rw [inB_iff] at h; simp; omega
theorem inB_neg (n : Int) : inB (-n) = inB n := by
  cases h : inB n
  · rw [inB_false] at h ⊢; omega
  · rw [inB_iff] at h ⊢; omega

/-- the sizes of the operands -/
structure Ops (a b c : Int) (A B k Q R : Nat) : Prop where
  ha : inB a = true
  hb : inB b = true
  hc : c = k
  k1 : 1 ≤ k
  k2 : k ≤ 1000000000000000
  hA : a.natAbs = A
  hB : b.natAbs = B
  hQ : A * B / k = Q
  hR : A * B % k = R
theorem Ops.mk' {a b c : Int} (ha : inB a = true) (hb : inB b = true) (h1 : 1 ≤ c) (h2 : c ≤ 1000000000000000) : ∃ A B k Q R, Ops a b c A B k Q R :=
  ⟨_, _, c.toNat, _, _, ha, hb, by omega, by omega, by omega, rfl, rfl, rfl, rfl⟩
theorem Ops.lA {a b c : Int} {A B k Q R : Nat} (o : Ops a b c A B k Q R) : A ≤ 1000000000000000 ∧ B ≤ 1000000000000000 := by
  have h1 := (inB_iff a).1 o.ha
  have h2 := (inB_iff b).1 o.hb
  have := o.hA; have := o.hB
  omega
theorem Ops.quot {a b c : Int} {A B k Q R : Nat} (o : Ops a b c A B k Q R) : a * b / c = if (a < 0) = (b < 0) then (Q : Int) else -(Q : Int) - (if R = 0 then 0 else 1) := by
  have hc : 1 ≤ c := by have := o.k1; have := o.hc; omega
  have hk : c.toNat = k := by have := o.hc; omega
  split
  · rename_i h
    rw [quot_pos hc h, o.hA, o.hB, hk, o.hQ]
  · rename_i h
    rw [quot_neg hc h, o.hA, o.hB, hk, o.hQ, o.hR]
theorem bnd_tup (n : Int) : ∃ u v, bnd n = .tup [.int .i64 u, .bool v] := by
  unfold bnd; split
  · exact ⟨_, _, rfl⟩
  · exact ⟨_, _, rfl⟩
theorem pr_tup (o : Option Int) : ∃ u v, pr o = .tup [.int .i64 u, .bool v] := by
  cases o with
  | none => exact ⟨_, _, rfl⟩
  | some n => exact ⟨_, _, rfl⟩
theorem pr_flr {a b c : Int} {A B k Q R : Nat} (o : Ops a b c A B k Q R) : pr (flr a b c) = bnd (a * b / c) := by
  have hc : 1 ≤ c ∧ c ≤ 1000000000000000 := by have := o.k1; have := o.k2; have := o.hc; omega
  unfold flr bnd
  rw [o.ha, o.hb, decide_eq_true hc.1, decide_eq_true hc.2]
  simp only [Bool.and_self, Bool.true_and]
  split <;> rfl
theorem big_out {a b c : Int} {A B k Q R : Nat} (o : Ops a b c A B k Q R) (h : 1000000000000000 < Q) : inB (a * b / c) = false := by
  rw [inB_false, o.quot]
  split <;> (try split) <;> omega

set_option maxRecDepth 100000 in
theorem f17 (a b c : Int) (hc64 : -9223372036854775808 ≤ c ∧ c ≤ 9223372036854775807) : evE Dg 17 [.int .i64 a, .int .i64 b, .int .i64 c] = some (pr (flr a b c)) := by
  have ha := f14 a
  have hb := f14 b
  refine evE_intro 1 D17 rfl ?_
  cases h1 : inB a
  · rw [h1] at ha
    unfold c17
    simp [evCode, evOps, evOne, evOp, evPur, evEff, evPur.chunks, fillP, AOp.isEff, AO.ev, putP, PV.cells, PV.leaf, getB, getM, mapE, keyC, mapRows, mfind, eq1, eqL, scal, binP, unP, minP, maxP, foldP, PV.lt, PV.lt.ltL, endP, expoAll, expo, expo.expoL, frIds, frIds.frIdsL, nodupN, kill, cls, clsFuel, resO, RV.get, loadP, evC_p, evC_s, endS, endT, rowsOf, callP, thinL, unfr, unfr.unfrL, PV.noMem, PV.noMem.noMemL, optI, mapO, norm, trimT, trimB, forget, hasN, blksLt, List.set, flr, pr, h1, ha]
  · cases h2 : inB b
    · rw [h1] at ha; rw [h2] at hb
      unfold c17
      simp [evCode, evOps, evOne, evOp, evPur, evEff, evPur.chunks, fillP, AOp.isEff, AO.ev, putP, PV.cells, PV.leaf, getB, getM, mapE, keyC, mapRows, mfind, eq1, eqL, scal, binP, unP, minP, maxP, foldP, PV.lt, PV.lt.ltL, endP, expoAll, expo, expo.expoL, frIds, frIds.frIdsL, nodupN, kill, cls, clsFuel, resO, RV.get, loadP, evC_p, evC_s, endS, endT, rowsOf, callP, thinL, unfr, unfr.unfrL, PV.noMem, PV.noMem.noMemL, optI, mapO, norm, trimT, trimB, forget, hasN, blksLt, List.set, flr, pr, h1, h2, ha, hb]
    · rw [h1] at ha; rw [h2] at hb
      by_cases h3 : c < 1
      · have h3' : ¬ 1 ≤ c := by omega
        unfold c17
        simp [evCode, evOps, evOne, evOp, evPur, evEff, evPur.chunks, fillP, AOp.isEff, AO.ev, putP, PV.cells, PV.leaf, getB, getM, mapE, keyC, mapRows, mfind, eq1, eqL, scal, binP, unP, minP, maxP, foldP, PV.lt, PV.lt.ltL, endP, expoAll, expo, expo.expoL, frIds, frIds.frIdsL, nodupN, kill, cls, clsFuel, resO, RV.get, loadP, evC_p, evC_s, endS, endT, rowsOf, callP, thinL, unfr, unfr.unfrL, PV.noMem, PV.noMem.noMemL, optI, mapO, norm, trimT, trimB, forget, hasN, blksLt, List.set, flr, pr, h1, h2, ha, hb, h3, h3']
      · by_cases h4 : 1000000000000000 < c
        · have h4' : ¬ c ≤ 1000000000000000 := by omega
          unfold c17
          simp [evCode, evOps, evOne, evOp, evPur, evEff, evPur.chunks, fillP, AOp.isEff, AO.ev, putP, PV.cells, PV.leaf, getB, getM, mapE, keyC, mapRows, mfind, eq1, eqL, scal, binP, unP, minP, maxP, foldP, PV.lt, PV.lt.ltL, endP, expoAll, expo, expo.expoL, frIds, frIds.frIdsL, nodupN, kill, cls, clsFuel, resO, RV.get, loadP, evC_p, evC_s, endS, endT, rowsOf, callP, thinL, unfr, unfr.unfrL, PV.noMem, PV.noMem.noMemL, optI, mapO, norm, trimT, trimB, forget, hasN, blksLt, List.set, flr, pr, h1, h2, ha, hb, h3, h4, h4']
        · obtain ⟨A, B, k, Q, R, o⟩ := Ops.mk' h1 h2 (by omega : 1 ≤ c) (by omega)
          have h29a := f29 a h1
          have h29b := f29 b h2
          rw [o.hA] at h29a
          rw [o.hB] at h29b
          obtain ⟨lA, lB⟩ := o.lA
          have h28 := f28 A B (by omega) (by omega)
          obtain ⟨N, hN⟩ := ex_eq (A * B)
          have lN : N ≤ 1000000000000000 * 1000000000000000 := by rw [← hN]; exact Nat.mul_le_mul lA lB
          rw [hN] at h28
          obtain ⟨hi, hhi⟩ := ex_eq (N / 18446744073709551616)
          obtain ⟨lo, hlo⟩ := ex_eq (N % 18446744073709551616)
          rw [hhi, hlo] at h28
          have wc : IntKind.u64.wrap c = (k : Int) := by
            have := o.hc; have := o.k2; have := o.k1
            rw [wrap_u64 _ (by omega) (by omega)]; omega
          have hq := o.hQ
          have hr := o.hR
          rw [hN] at hq hr
          rw [pr_flr o]
          have g3 : ¬ c < 1 := h3
          by_cases h5 : k ≤ hi
          · have h5' : (k : Int) ≤ hi := by omega
            have hbig : 18446744073709551616 ≤ Q := by
              rw [← hq]
              refine (Nat.le_div_iff_mul_le o.k1).2 ?_
              have : 18446744073709551616 * k ≤ 18446744073709551616 * hi := Nat.mul_le_mul_left _ h5
              omega
            have hout := big_out o (by omega)
            unfold c17
            simp [evCode, evOps, evOne, evOp, evPur, evEff, evPur.chunks, fillP, AOp.isEff, AO.ev, putP, PV.cells, PV.leaf, getB, getM, mapE, keyC, mapRows, mfind, eq1, eqL, scal, binP, unP, minP, maxP, foldP, PV.lt, PV.lt.ltL, endP, expoAll, expo, expo.expoL, frIds, frIds.frIdsL, nodupN, kill, cls, clsFuel, resO, RV.get, loadP, evC_p, evC_s, endS, endT, rowsOf, callP, thinL, unfr, unfr.unfrL, PV.noMem, PV.noMem.noMemL, optI, mapO, norm, trimT, trimB, forget, hasN, blksLt, List.set, bnd, hout, ha, hb, h3, h4, h29a, h29b, h28, wc, h5']
          · have h5' : ¬ (k : Int) ≤ hi := by omega
            have h30 := f30 hi lo k (by omega) (by omega) (by have := o.k2; omega)
            have hNN : hi * 18446744073709551616 + lo = N := by omega
            rw [hNN, hq, hr] at h30
            by_cases h6 : 1000000000000000 < Q
            · have h6' : (1000000000000000 : Int) < Q := by omega
              have hout := big_out o h6
              unfold c17
              simp [evCode, evOps, evOne, evOp, evPur, evEff, evPur.chunks, fillP, AOp.isEff, AO.ev, putP, PV.cells, PV.leaf, getB, getM, mapE, keyC, mapRows, mfind, eq1, eqL, scal, binP, unP, minP, maxP, foldP, PV.lt, PV.lt.ltL, endP, expoAll, expo, expo.expoL, frIds, frIds.frIdsL, nodupN, kill, cls, clsFuel, resO, RV.get, loadP, evC_p, evC_s, endS, endT, rowsOf, callP, thinL, unfr, unfr.unfrL, PV.noMem, PV.noMem.noMemL, optI, mapO, norm, trimT, trimB, forget, hasN, blksLt, List.set, bnd, hout, ha, hb, h3, h4, h29a, h29b, h28, wc, h5', h30, h6']
            · have h6' : ¬ (1000000000000000 : Int) < Q := by omega
              have w1 : IntKind.i64.wrap (Q : Int) = Q := wrap_i64 _ (by omega) (by omega)
              have w2 : IntKind.i64.wrap (-(Q : Int)) = -(Q : Int) := wrap_i64 _ (by omega) (by omega)
              have w3 : IntKind.i64.wrap (-(Q : Int) - 1) = -(Q : Int) - 1 := wrap_i64 _ (by omega) (by omega)
              have hz := o.quot
              have h27 := f27 (a * b / c)
              obtain ⟨u, v, hW⟩ := bnd_tup (a * b / c)
              rw [hW] at h27 ⊢
              have same : (a < 0) = (b < 0) → a * b / c = Q := fun e => by rw [hz, if_pos e]
              have diff0 : ¬ (a < 0) = (b < 0) → R = 0 → a * b / c = -(Q : Int) := fun e h0 => by rw [hz, if_neg e, if_pos h0]; omega
              have diff1 : ¬ (a < 0) = (b < 0) → ¬ R = 0 → a * b / c = -(Q : Int) - 1 := fun e h0 => by rw [hz, if_neg e, if_neg h0]
              clear hz hW
              by_cases s1 : a < 0
              · by_cases s2 : b < 0
                · rw [same (by simp [s1, s2])] at h27
                  unfold c17
                  simp [evCode, evOps, evOne, evOp, evPur, evEff, evPur.chunks, fillP, AOp.isEff, AO.ev, putP, PV.cells, PV.leaf, getB, getM, mapE, keyC, mapRows, mfind, eq1, eqL, scal, binP, unP, minP, maxP, foldP, PV.lt, PV.lt.ltL, endP, expoAll, expo, expo.expoL, frIds, frIds.frIdsL, nodupN, kill, cls, clsFuel, resO, RV.get, loadP, evC_p, evC_s, endS, endT, rowsOf, callP, thinL, unfr, unfr.unfrL, PV.noMem, PV.noMem.noMemL, optI, mapO, norm, trimT, trimB, forget, hasN, blksLt, List.set, ha, hb, h3, h4, h29a, h29b, h28, wc, h5', h30, h6', w1, w2, w3, h27, s1, s2]
                · by_cases r0 : R = 0
                  · rw [diff0 (by simp [s1, s2]) r0] at h27
                    subst r0
                    unfold c17
                    simp [evCode, evOps, evOne, evOp, evPur, evEff, evPur.chunks, fillP, AOp.isEff, AO.ev, putP, PV.cells, PV.leaf, getB, getM, mapE, keyC, mapRows, mfind, eq1, eqL, scal, binP, unP, minP, maxP, foldP, PV.lt, PV.lt.ltL, endP, expoAll, expo, expo.expoL, frIds, frIds.frIdsL, nodupN, kill, cls, clsFuel, resO, RV.get, loadP, evC_p, evC_s, endS, endT, rowsOf, callP, thinL, unfr, unfr.unfrL, PV.noMem, PV.noMem.noMemL, optI, mapO, norm, trimT, trimB, forget, hasN, blksLt, List.set, ha, hb, h3, h4, h29a, h29b, h28, wc, h5', h30, h6', w1, w2, w3, h27, s1, s2]
                  · have r1 : (0 : Int) < R := by omega
                    have r2 : 0 < R := by omega
                    rw [diff1 (by simp [s1, s2]) r0] at h27
                    unfold c17
                    simp [evCode, evOps, evOne, evOp, evPur, evEff, evPur.chunks, fillP, AOp.isEff, AO.ev, putP, PV.cells, PV.leaf, getB, getM, mapE, keyC, mapRows, mfind, eq1, eqL, scal, binP, unP, minP, maxP, foldP, PV.lt, PV.lt.ltL, endP, expoAll, expo, expo.expoL, frIds, frIds.frIdsL, nodupN, kill, cls, clsFuel, resO, RV.get, loadP, evC_p, evC_s, endS, endT, rowsOf, callP, thinL, unfr, unfr.unfrL, PV.noMem, PV.noMem.noMemL, optI, mapO, norm, trimT, trimB, forget, hasN, blksLt, List.set, ha, hb, h3, h4, h29a, h29b, h28, wc, h5', h30, h6', w1, w2, w3, h27, s1, s2, r1, r2]
              · by_cases s2 : b < 0
                · by_cases r0 : R = 0
                  · rw [diff0 (by simp [s1, s2]) r0] at h27
                    subst r0
                    unfold c17
                    simp [evCode, evOps, evOne, evOp, evPur, evEff, evPur.chunks, fillP, AOp.isEff, AO.ev, putP, PV.cells, PV.leaf, getB, getM, mapE, keyC, mapRows, mfind, eq1, eqL, scal, binP, unP, minP, maxP, foldP, PV.lt, PV.lt.ltL, endP, expoAll, expo, expo.expoL, frIds, frIds.frIdsL, nodupN, kill, cls, clsFuel, resO, RV.get, loadP, evC_p, evC_s, endS, endT, rowsOf, callP, thinL, unfr, unfr.unfrL, PV.noMem, PV.noMem.noMemL, optI, mapO, norm, trimT, trimB, forget, hasN, blksLt, List.set, ha, hb, h3, h4, h29a, h29b, h28, wc, h5', h30, h6', w1, w2, w3, h27, s1, s2]
                  · have r1 : (0 : Int) < R := by omega
                    have r2 : 0 < R := by omega
                    rw [diff1 (by simp [s1, s2]) r0] at h27
                    unfold c17
                    simp [evCode, evOps, evOne, evOp, evPur, evEff, evPur.chunks, fillP, AOp.isEff, AO.ev, putP, PV.cells, PV.leaf, getB, getM, mapE, keyC, mapRows, mfind, eq1, eqL, scal, binP, unP, minP, maxP, foldP, PV.lt, PV.lt.ltL, endP, expoAll, expo, expo.expoL, frIds, frIds.frIdsL, nodupN, kill, cls, clsFuel, resO, RV.get, loadP, evC_p, evC_s, endS, endT, rowsOf, callP, thinL, unfr, unfr.unfrL, PV.noMem, PV.noMem.noMemL, optI, mapO, norm, trimT, trimB, forget, hasN, blksLt, List.set, ha, hb, h3, h4, h29a, h29b, h28, wc, h5', h30, h6', w1, w2, w3, h27, s1, s2, r1, r2]
                · rw [same (by simp [s1, s2])] at h27
                  unfold c17
                  simp [evCode, evOps, evOne, evOp, evPur, evEff, evPur.chunks, fillP, AOp.isEff, AO.ev, putP, PV.cells, PV.leaf, getB, getM, mapE, keyC, mapRows, mfind, eq1, eqL, scal, binP, unP, minP, maxP, foldP, PV.lt, PV.lt.ltL, endP, expoAll, expo, expo.expoL, frIds, frIds.frIdsL, nodupN, kill, cls, clsFuel, resO, RV.get, loadP, evC_p, evC_s, endS, endT, rowsOf, callP, thinL, unfr, unfr.unfrL, PV.noMem, PV.noMem.noMemL, optI, mapO, norm, trimT, trimB, forget, hasN, blksLt, List.set, ha, hb, h3, h4, h29a, h29b, h28, wc, h5', h30, h6', w1, w2, w3, h27, s1, s2]

theorem f11 (a b : Int) : evE Dg 11 [.int .i64 a, .int .i64 b] = some (pr (flr a b 1)) := by
  have h17 := f17 a b 1 (by omega)
  obtain ⟨u, v, hW⟩ := pr_tup (flr a b 1)
  rw [hW] at h17 ⊢
  refine evE_intro 1 D11 rfl ?_
  unfold c11
  simp [evCode, evOps, evOne, evOp, evPur, evEff, evPur.chunks, fillP, AOp.isEff, AO.ev, putP, PV.cells, PV.leaf, getB, getM, mapE, keyC, mapRows, mfind, eq1, eqL, scal, binP, unP, minP, maxP, foldP, PV.lt, PV.lt.ltL, endP, expoAll, expo, expo.expoL, frIds, frIds.frIdsL, nodupN, kill, cls, clsFuel, resO, RV.get, loadP, evC_p, evC_s, endS, endT, rowsOf, callP, thinL, unfr, unfr.unfrL, PV.noMem, PV.noMem.noMemL, optI, mapO, norm, trimT, trimB, forget, hasN, blksLt, List.set, h17]
theorem cel_flr (a b c : Int) : cel a b c = (flr (-a) b c).map (fun x => -x) := by
  unfold cel flr
  rw [inB_neg, Int.neg_mul, inB_neg]
  split <;> rfl
theorem f18 (a b c : Int) (hc64 : -9223372036854775808 ≤ c ∧ c ≤ 9223372036854775807) : evE Dg 18 [.int .i64 a, .int .i64 b, .int .i64 c] = some (pr (cel a b c)) := by
  have ha := f14 a
  have h17 := f17 (-a) b c hc64
  rw [cel_flr]
  refine evE_intro 1 D18 rfl ?_
  unfold c18
  cases h1 : inB a
  · rw [h1] at ha
    have : flr (-a) b c = none := by unfold flr; rw [inB_neg, h1]; rfl
    rw [this]
    simp [evCode, evOps, evOne, evOp, evPur, evEff, evPur.chunks, fillP, AOp.isEff, AO.ev, putP, PV.cells, PV.leaf, getB, getM, mapE, keyC, mapRows, mfind, eq1, eqL, scal, binP, unP, minP, maxP, foldP, PV.lt, PV.lt.ltL, endP, expoAll, expo, expo.expoL, frIds, frIds.frIdsL, nodupN, kill, cls, clsFuel, resO, RV.get, loadP, evC_p, evC_s, endS, endT, rowsOf, callP, thinL, unfr, unfr.unfrL, PV.noMem, PV.noMem.noMemL, optI, mapO, norm, trimT, trimB, forget, hasN, blksLt, List.set, pr, ha]
  · rw [h1] at ha
    have h2 := (inB_iff a).1 h1
    have w := wrap_i64 (-a) (by omega) (by omega)
    cases hf : flr (-a) b c with
    | none =>
      rw [hf] at h17
      simp only [pr] at h17
      have w0 : IntKind.i64.wrap 0 = 0 := rfl
      simp [evCode, evOps, evOne, evOp, evPur, evEff, evPur.chunks, fillP, AOp.isEff, AO.ev, putP, PV.cells, PV.leaf, getB, getM, mapE, keyC, mapRows, mfind, eq1, eqL, scal, binP, unP, minP, maxP, foldP, PV.lt, PV.lt.ltL, endP, expoAll, expo, expo.expoL, frIds, frIds.frIdsL, nodupN, kill, cls, clsFuel, resO, RV.get, loadP, evC_p, evC_s, endS, endT, rowsOf, callP, thinL, unfr, unfr.unfrL, PV.noMem, PV.noMem.noMemL, optI, mapO, norm, trimT, trimB, forget, hasN, blksLt, List.set, pr, ha, w, h17, w0]
    | some x =>
      rw [hf] at h17
      simp only [pr] at h17
      have hx : inB x = true := by
        unfold flr at hf
        split at hf
        · cases hf; rename_i h; simp only [Bool.and_eq_true] at h; exact h.2
        · cases hf
      rw [inB_iff] at hx
      have w2 := wrap_i64 (-x) (by omega) (by omega)
      simp [evCode, evOps, evOne, evOp, evPur, evEff, evPur.chunks, fillP, AOp.isEff, AO.ev, putP, PV.cells, PV.leaf, getB, getM, mapE, keyC, mapRows, mfind, eq1, eqL, scal, binP, unP, minP, maxP, foldP, PV.lt, PV.lt.ltL, endP, expoAll, expo, expo.expoL, frIds, frIds.frIdsL, nodupN, kill, cls, clsFuel, resO, RV.get, loadP, evC_p, evC_s, endS, endT, rowsOf, callP, thinL, unfr, unfr.unfrL, PV.noMem, PV.noMem.noMemL, optI, mapO, norm, trimT, trimB, forget, hasN, blksLt, List.set, pr, ha, w, h17, w2]
end Go.Proofs.YtnodcoemjojlhaaDoor
