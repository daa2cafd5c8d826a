/- num: Div64. -/
import Derived.Test.YtddglikicokpeaaDoorFrC
namespace Go.Proofs.YtddglikicokpeaaDoor
open Go Go.RowKit
set_option linter.unusedVariables false
set_option linter.unusedSimpArgs false
set_option maxHeartbeats 8000000
set_option maxRecDepth 100000

def SD1 (y s y1 y0 u d d0 : Nat) (x : Nat × Nat) : St := ⟨[.top, .top, .int .u64 y, .top, .top, .top, .top, .top, .int .u64 s, .int .u64 y1, .int .u64 y0, .int .u64 u, .top, .int .u64 d, .int .u64 d0, .int .u64 x.1, .int .u64 x.2] ++ List.replicate 118 .top, []⟩
def SD2 (y s y1 y0 q1 u d0 : Nat) (x : Nat × Nat) : St := ⟨[.top, .top, .int .u64 y, .top, .top, .top, .top, .top, .int .u64 s, .int .u64 y1, .int .u64 y0, .top, .top, .top, .int .u64 d0, .int .u64 q1, .int .u64 x.2, .int .u64 u, .int .u64 x.1] ++ List.replicate 116 .top, []⟩

theorem loopD1 (y s y1 y0 u d d0 : Nat) (c : DigC y y1 y0 u d) (hy : y < 18446744073709551616) (f : Nat) (hf : 4294967298 < f) (s0 : St) (E : Option Out) (hE : evLoop (evCode (evC Dg) f c60b1) [2, 8, 9, 10, 11, 13, 14, 15, 16] 0 f s0 = E) (h0 : norm [2, 8, 9, 10, 11, 13, 14, 15, 16] 0 s0 = SD1 y s y1 y0 u d d0 (u / y1, u % y1)) :
    ∃ x, Dig y y1 y0 u d x ∧ digStop y1 y0 d x ∧ E = evCode (evC Dg) f c60b1 (SD1 y s y1 y0 u d d0 x) := by
  refine loop_stop (fuel := f) (SD1 y s y1 y0 u d d0) (fun x => x.1) (fun x => Dig y y1 y0 u d x) (fun x => digStop y1 y0 d x) ?_ ?_ (u / y1, u % y1) (Dig.first c) (by have := (Dig.first c).q; omega) s0 E hE h0
  · rintro ⟨q, r⟩ hI hs
    unfold digStop at hs
    have ht : tooBig y0 d (q, r) := Classical.byContradiction fun h => hs (.inl h)
    have hr : r + y1 < 4294967296 := by
      have : ¬ 4294967296 ≤ r + y1 := fun h => hs (.inr h)
      omega
    have hn := Dig.next c hI ht hr
    obtain ⟨_, g1⟩ := Dig.big c hI ht
    have hq := hI.q
    have e0 := c.h0; have e1 := c.h1; have e2 := c.hd
    simp only at g1 hq hn
    obtain ⟨q', rfl⟩ : ∃ q', q = q' + 1 := ⟨q - 1, by omega⟩
    obtain ⟨r', hr'⟩ : ∃ r', r + y1 = r' := ⟨_, rfl⟩
    have w1 : IntKind.u64.wrap ((q' : Int) + 1 - 1) = (q' : Int) := by rw [wrap_u64 _ (by omega) (by omega)]; omega
    have w1' : IntKind.u64.wrap (q' : Int) = (q' : Int) := wrap_u64 _ (by omega) (by omega)
    have w2 := u_add r y1 r' hr' (by omega)
    have b2 : ¬ (4294967296 : Int) ≤ r' := by omega
    refine ⟨(q', r'), ?_⟩
    rw [← hr']
    rw [hr']
    simp only [Nat.add_sub_cancel, hr'] at hn
    by_cases hb : 4294967296 ≤ q' + 1
    · have b1 : (4294967296 : Int) ≤ (q' : Int) + 1 := by omega
      unfold c60b1
      simp [evCode, evOps, evOne, evOp, evPur, evEff, evPur.chunks, fillP, AOp.isEff, AO.ev, putP, PV.cells, PV.leaf, getB, getM, mapE, iterE, keyC, mapRows, mfind, eq1, eqL, scal, binP, unP, minP, maxP, foldP, PV.lt, PV.lt.ltL, endP, expoAll, expoG, expo, expo.expoL, frIds, frIds.frIdsL, nodupN, kill, cls, clsFuel, resO, RV.get, loadP, evC_p, evC_s, endS, endT, rowsOf, callP, thinL, unfr, unfr.unfrL, PV.noMem, PV.noMem.noMemL, optI, mapO, norm, trimT, trimB, forget, hasN, blksLt, List.set, softChk, softGo, softRd, effTg, rdP, SD1, b1, w1, w1', w2, b2, hn]
    · have b1 : ¬ (4294967296 : Int) ≤ (q' : Int) + 1 := by omega
      have ht2 : ¬ (q' + 1) * y0 ≤ 4294967296 * r + d := by
        rcases ht with ht | ht
        · exact absurd ht hb
        · exact ht
      obtain ⟨P, hP⟩ : ∃ P, (q' + 1) * y0 = P := ⟨_, rfl⟩
      have hPl : P ≤ 4294967295 * 4294967295 := by rw [← hP]; exact Nat.mul_le_mul (by omega) (by omega)
      have w3 : IntKind.u64.wrap (((q' : Int) + 1) * y0) = P := u_mul (q' + 1) y0 P hP (by omega)
      obtain ⟨R, hR⟩ : ∃ R, 4294967296 * r = R := ⟨_, rfl⟩
      have w4 : IntKind.u64.wrap (4294967296 * (r : Int)) = R := by rw [wrap_u64 _ (by omega) (by omega)]; omega
      obtain ⟨A, hA⟩ : ∃ A, R + d = A := ⟨_, rfl⟩
      have w5 := u_add R d A hA (by omega)
      have b3 : (A : Int) < P := by omega
      unfold c60b1
      simp [evCode, evOps, evOne, evOp, evPur, evEff, evPur.chunks, fillP, AOp.isEff, AO.ev, putP, PV.cells, PV.leaf, getB, getM, mapE, iterE, keyC, mapRows, mfind, eq1, eqL, scal, binP, unP, minP, maxP, foldP, PV.lt, PV.lt.ltL, endP, expoAll, expoG, expo, expo.expoL, frIds, frIds.frIdsL, nodupN, kill, cls, clsFuel, resO, RV.get, loadP, evC_p, evC_s, endS, endT, rowsOf, callP, thinL, unfr, unfr.unfrL, PV.noMem, PV.noMem.noMemL, optI, mapO, norm, trimT, trimB, forget, hasN, blksLt, List.set, softChk, softGo, softRd, effTg, rdP, SD1, b1, w1, w1', w2, b2, hn, w3, w4, w5, b3]
  · rintro ⟨q, r⟩ hI hs st
    have hq := hI.q
    have e0 := c.h0; have e1 := c.h1; have e2 := c.hd
    have hr0 := hI.r
    simp only at hq hr0
    obtain ⟨r', hr'⟩ : ∃ r', r + y1 = r' := ⟨_, rfl⟩
    have w2 := u_add r y1 r' hr' (by omega)
    by_cases hb : 4294967296 ≤ q
    · have b1 : (4294967296 : Int) ≤ (q : Int) := by omega
      have b2 : (4294967296 : Int) ≤ r' := by
        rcases hs with hs | hs
        · exact absurd (.inl hb) hs
        · simp only at hs; omega
      unfold c60b1
      simp [evCode, evOps, evOne, evOp, evPur, evEff, evPur.chunks, fillP, AOp.isEff, AO.ev, putP, PV.cells, PV.leaf, getB, getM, mapE, iterE, keyC, mapRows, mfind, eq1, eqL, scal, binP, unP, minP, maxP, foldP, PV.lt, PV.lt.ltL, endP, expoAll, expoG, expo, expo.expoL, frIds, frIds.frIdsL, nodupN, kill, cls, clsFuel, resO, RV.get, loadP, evC_p, evC_s, endS, endT, rowsOf, callP, thinL, unfr, unfr.unfrL, PV.noMem, PV.noMem.noMemL, optI, mapO, norm, trimT, trimB, forget, hasN, blksLt, List.set, softChk, softGo, softRd, effTg, rdP, SD1, b1, w2, b2]
    · have b1 : ¬ (4294967296 : Int) ≤ (q : Int) := by omega
      obtain ⟨P, hP⟩ : ∃ P, q * y0 = P := ⟨_, rfl⟩
      have hPl : P ≤ 4294967295 * 4294967295 := by rw [← hP]; exact Nat.mul_le_mul (by omega) (by omega)
      have w3 := u_mul q y0 P hP (by omega)
      obtain ⟨R, hR⟩ : ∃ R, 4294967296 * r = R := ⟨_, rfl⟩
      have w4 : IntKind.u64.wrap (4294967296 * (r : Int)) = R := by rw [wrap_u64 _ (by omega) (by omega)]; omega
      obtain ⟨A, hA⟩ : ∃ A, R + d = A := ⟨_, rfl⟩
      have w5 := u_add R d A hA (by omega)
      by_cases hPA : P ≤ A
      · have b3 : ¬ (A : Int) < P := by omega
        unfold c60b1
        simp [evCode, evOps, evOne, evOp, evPur, evEff, evPur.chunks, fillP, AOp.isEff, AO.ev, putP, PV.cells, PV.leaf, getB, getM, mapE, iterE, keyC, mapRows, mfind, eq1, eqL, scal, binP, unP, minP, maxP, foldP, PV.lt, PV.lt.ltL, endP, expoAll, expoG, expo, expo.expoL, frIds, frIds.frIdsL, nodupN, kill, cls, clsFuel, resO, RV.get, loadP, evC_p, evC_s, endS, endT, rowsOf, callP, thinL, unfr, unfr.unfrL, PV.noMem, PV.noMem.noMemL, optI, mapO, norm, trimT, trimB, forget, hasN, blksLt, List.set, softChk, softGo, softRd, effTg, rdP, SD1, b1, w3, w4, w5, b3]
      · have b3 : (A : Int) < P := by omega
        have b2 : (4294967296 : Int) ≤ r' := by
          rcases hs with hs | hs
          · refine absurd (.inr ?_) hs
            simp only [hP, hR, hA]; exact hPA
          · simp only at hs; omega
        unfold c60b1
        simp [evCode, evOps, evOne, evOp, evPur, evEff, evPur.chunks, fillP, AOp.isEff, AO.ev, putP, PV.cells, PV.leaf, getB, getM, mapE, iterE, keyC, mapRows, mfind, eq1, eqL, scal, binP, unP, minP, maxP, foldP, PV.lt, PV.lt.ltL, endP, expoAll, expoG, expo, expo.expoL, frIds, frIds.frIdsL, nodupN, kill, cls, clsFuel, resO, RV.get, loadP, evC_p, evC_s, endS, endT, rowsOf, callP, thinL, unfr, unfr.unfrL, PV.noMem, PV.noMem.noMemL, optI, mapO, norm, trimT, trimB, forget, hasN, blksLt, List.set, softChk, softGo, softRd, effTg, rdP, SD1, b1, w2, w3, w4, w5, b3, b2]

theorem loopD2 (y s y1 y0 q1 u d : Nat) (c : DigC y y1 y0 u d) (hy : y < 18446744073709551616) (f : Nat) (hf : 4294967298 < f) (s0 : St) (E : Option Out) (hE : evLoop (evCode (evC Dg) f c60b0) [2, 8, 9, 10, 14, 15, 16, 17, 18] 0 f s0 = E) (h0 : norm [2, 8, 9, 10, 14, 15, 16, 17, 18] 0 s0 = SD2 y s y1 y0 q1 u d (u / y1, u % y1)) :
    ∃ x, Dig y y1 y0 u d x ∧ digStop y1 y0 d x ∧ E = evCode (evC Dg) f c60b0 (SD2 y s y1 y0 q1 u d x) := by
  refine loop_stop (fuel := f) (SD2 y s y1 y0 q1 u d) (fun x => x.1) (fun x => Dig y y1 y0 u d x) (fun x => digStop y1 y0 d x) ?_ ?_ (u / y1, u % y1) (Dig.first c) (by have := (Dig.first c).q; omega) s0 E hE h0
  · rintro ⟨q, r⟩ hI hs
    unfold digStop at hs
    have ht : tooBig y0 d (q, r) := Classical.byContradiction fun h => hs (.inl h)
    have hr : r + y1 < 4294967296 := by
      have : ¬ 4294967296 ≤ r + y1 := fun h => hs (.inr h)
      omega
    have hn := Dig.next c hI ht hr
    obtain ⟨_, g1⟩ := Dig.big c hI ht
    have hq := hI.q
    have e0 := c.h0; have e1 := c.h1; have e2 := c.hd
    simp only at g1 hq hn
    obtain ⟨q', rfl⟩ : ∃ q', q = q' + 1 := ⟨q - 1, by omega⟩
    obtain ⟨r', hr'⟩ : ∃ r', r + y1 = r' := ⟨_, rfl⟩
    have w1 : IntKind.u64.wrap ((q' : Int) + 1 - 1) = (q' : Int) := by rw [wrap_u64 _ (by omega) (by omega)]; omega
    have w1' : IntKind.u64.wrap (q' : Int) = (q' : Int) := wrap_u64 _ (by omega) (by omega)
    have w2 := u_add r y1 r' hr' (by omega)
    have b2 : ¬ (4294967296 : Int) ≤ r' := by omega
    refine ⟨(q', r'), ?_⟩
    rw [← hr']
    rw [hr']
    simp only [Nat.add_sub_cancel, hr'] at hn
    by_cases hb : 4294967296 ≤ q' + 1
    · have b1 : (4294967296 : Int) ≤ (q' : Int) + 1 := by omega
      unfold c60b0
      simp [evCode, evOps, evOne, evOp, evPur, evEff, evPur.chunks, fillP, AOp.isEff, AO.ev, putP, PV.cells, PV.leaf, getB, getM, mapE, iterE, keyC, mapRows, mfind, eq1, eqL, scal, binP, unP, minP, maxP, foldP, PV.lt, PV.lt.ltL, endP, expoAll, expoG, expo, expo.expoL, frIds, frIds.frIdsL, nodupN, kill, cls, clsFuel, resO, RV.get, loadP, evC_p, evC_s, endS, endT, rowsOf, callP, thinL, unfr, unfr.unfrL, PV.noMem, PV.noMem.noMemL, optI, mapO, norm, trimT, trimB, forget, hasN, blksLt, List.set, softChk, softGo, softRd, effTg, rdP, SD2, b1, w1, w1', w2, b2, hn]
    · have b1 : ¬ (4294967296 : Int) ≤ (q' : Int) + 1 := by omega
      have ht2 : ¬ (q' + 1) * y0 ≤ 4294967296 * r + d := by
        rcases ht with ht | ht
        · exact absurd ht hb
        · exact ht
      obtain ⟨P, hP⟩ : ∃ P, (q' + 1) * y0 = P := ⟨_, rfl⟩
      have hPl : P ≤ 4294967295 * 4294967295 := by rw [← hP]; exact Nat.mul_le_mul (by omega) (by omega)
      have w3 : IntKind.u64.wrap (((q' : Int) + 1) * y0) = P := u_mul (q' + 1) y0 P hP (by omega)
      obtain ⟨R, hR⟩ : ∃ R, 4294967296 * r = R := ⟨_, rfl⟩
      have w4 : IntKind.u64.wrap (4294967296 * (r : Int)) = R := by rw [wrap_u64 _ (by omega) (by omega)]; omega
      obtain ⟨A, hA⟩ : ∃ A, R + d = A := ⟨_, rfl⟩
      have w5 := u_add R d A hA (by omega)
      have b3 : (A : Int) < P := by omega
      unfold c60b0
      simp [evCode, evOps, evOne, evOp, evPur, evEff, evPur.chunks, fillP, AOp.isEff, AO.ev, putP, PV.cells, PV.leaf, getB, getM, mapE, iterE, keyC, mapRows, mfind, eq1, eqL, scal, binP, unP, minP, maxP, foldP, PV.lt, PV.lt.ltL, endP, expoAll, expoG, expo, expo.expoL, frIds, frIds.frIdsL, nodupN, kill, cls, clsFuel, resO, RV.get, loadP, evC_p, evC_s, endS, endT, rowsOf, callP, thinL, unfr, unfr.unfrL, PV.noMem, PV.noMem.noMemL, optI, mapO, norm, trimT, trimB, forget, hasN, blksLt, List.set, softChk, softGo, softRd, effTg, rdP, SD2, b1, w1, w1', w2, b2, hn, w3, w4, w5, b3]
  · rintro ⟨q, r⟩ hI hs st
    have hq := hI.q
    have e0 := c.h0; have e1 := c.h1; have e2 := c.hd
    have hr0 := hI.r
    simp only at hq hr0
    obtain ⟨r', hr'⟩ : ∃ r', r + y1 = r' := ⟨_, rfl⟩
    have w2 := u_add r y1 r' hr' (by omega)
    by_cases hb : 4294967296 ≤ q
    · have b1 : (4294967296 : Int) ≤ (q : Int) := by omega
      have b2 : (4294967296 : Int) ≤ r' := by
        rcases hs with hs | hs
        · exact absurd (.inl hb) hs
        · simp only at hs; omega
      unfold c60b0
      simp [evCode, evOps, evOne, evOp, evPur, evEff, evPur.chunks, fillP, AOp.isEff, AO.ev, putP, PV.cells, PV.leaf, getB, getM, mapE, iterE, keyC, mapRows, mfind, eq1, eqL, scal, binP, unP, minP, maxP, foldP, PV.lt, PV.lt.ltL, endP, expoAll, expoG, expo, expo.expoL, frIds, frIds.frIdsL, nodupN, kill, cls, clsFuel, resO, RV.get, loadP, evC_p, evC_s, endS, endT, rowsOf, callP, thinL, unfr, unfr.unfrL, PV.noMem, PV.noMem.noMemL, optI, mapO, norm, trimT, trimB, forget, hasN, blksLt, List.set, softChk, softGo, softRd, effTg, rdP, SD2, b1, w2, b2]
    · have b1 : ¬ (4294967296 : Int) ≤ (q : Int) := by omega
      obtain ⟨P, hP⟩ : ∃ P, q * y0 = P := ⟨_, rfl⟩
      have hPl : P ≤ 4294967295 * 4294967295 := by rw [← hP]; exact Nat.mul_le_mul (by omega) (by omega)
      have w3 := u_mul q y0 P hP (by omega)
      obtain ⟨R, hR⟩ : ∃ R, 4294967296 * r = R := ⟨_, rfl⟩
      have w4 : IntKind.u64.wrap (4294967296 * (r : Int)) = R := by rw [wrap_u64 _ (by omega) (by omega)]; omega
      obtain ⟨A, hA⟩ : ∃ A, R + d = A := ⟨_, rfl⟩
      have w5 := u_add R d A hA (by omega)
      by_cases hPA : P ≤ A
      · have b3 : ¬ (A : Int) < P := by omega
        unfold c60b0
        simp [evCode, evOps, evOne, evOp, evPur, evEff, evPur.chunks, fillP, AOp.isEff, AO.ev, putP, PV.cells, PV.leaf, getB, getM, mapE, iterE, keyC, mapRows, mfind, eq1, eqL, scal, binP, unP, minP, maxP, foldP, PV.lt, PV.lt.ltL, endP, expoAll, expoG, expo, expo.expoL, frIds, frIds.frIdsL, nodupN, kill, cls, clsFuel, resO, RV.get, loadP, evC_p, evC_s, endS, endT, rowsOf, callP, thinL, unfr, unfr.unfrL, PV.noMem, PV.noMem.noMemL, optI, mapO, norm, trimT, trimB, forget, hasN, blksLt, List.set, softChk, softGo, softRd, effTg, rdP, SD2, b1, w3, w4, w5, b3]
      · have b3 : (A : Int) < P := by omega
        have b2 : (4294967296 : Int) ≤ r' := by
          rcases hs with hs | hs
          · refine absurd (.inr ?_) hs
            simp only [hP, hR, hA]; exact hPA
          · simp only at hs; omega
        unfold c60b0
        simp [evCode, evOps, evOne, evOp, evPur, evEff, evPur.chunks, fillP, AOp.isEff, AO.ev, putP, PV.cells, PV.leaf, getB, getM, mapE, iterE, keyC, mapRows, mfind, eq1, eqL, scal, binP, unP, minP, maxP, foldP, PV.lt, PV.lt.ltL, endP, expoAll, expoG, expo, expo.expoL, frIds, frIds.frIdsL, nodupN, kill, cls, clsFuel, resO, RV.get, loadP, evC_p, evC_s, endS, endT, rowsOf, callP, thinL, unfr, unfr.unfrL, PV.noMem, PV.noMem.noMemL, optI, mapO, norm, trimT, trimB, forget, hasN, blksLt, List.set, softChk, softGo, softRd, effTg, rdP, SD2, b1, w2, w3, w4, w5, b3, b2]
end Go.Proofs.YtddglikicokpeaaDoor
