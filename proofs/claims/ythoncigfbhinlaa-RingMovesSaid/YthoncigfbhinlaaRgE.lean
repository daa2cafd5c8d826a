/- ring: Int of the reference. -/
import Derived.Test.YthoncigfbhinlaaRgD
namespace Go.Proofs.Ythoncigfbhinlaa
open Go Go.RowKit
set_option linter.unusedVariables false
set_option linter.unusedSimpArgs false
set_option maxHeartbeats 8000000

def S38 (x : Bool) (l : List Nat) (k : Nat) (u : Nat × Int) : St := ⟨[eB x l, .top, .top, .top, .top, .int .u64 u.1, .int .u64 u.2, .int .i64 k] ++ List.replicate 44 .top, []⟩
set_option maxRecDepth 100000 in
theorem f38 (x : Bool) (l : List Nat) (hl : l.length ≤ 1000000) (hb : okB l) : evE Dg 38 [eB x l] = some (tr3 (dec l)) := by
  have e1 := bR_len l
  have H := loop_inv (body := evCode (evC Dg) 20 c38b0) (keep := [0, 5, 6, 7]) (n0 := 0) (fuel := 20) (List.replicate 10 ()) (S38 x l) (fun k u => dec l = decGo (10 - k) k u.1 (l.drop k) ∧ u.1 < 128 ^ k ∧ k ≤ l.length ∧ (k < 10 → u.2 = ((128 ^ k : Nat) : Int))) (isR (dec l))
    (by
      rintro k _ ⟨u, t⟩ - hk ⟨hd, hu, hkl, ht⟩
      simp only [List.length_replicate] at hk
      simp only at hd hu ht
      have ht := ht hk
      subst ht
      have hk10 : (k : Int) < 10 := by omega
      by_cases hlen : k = l.length
      · right
        rw [decGo_short hk (by omega)] at hd
        rw [hd]
        unfold c38b0
        rw [hlen]
        have hk10' : (l.length : Int) < 10 := by omega
        have hk10'' : l.length < 10 := by omega
        simp [evCode, evOps, evOne, evOp, evPur, evEff, evPur.chunks, fillP, AOp.isEff, AO.ev, putP, PV.cells, PV.leaf, getB, getM, mapE, keyC, mapRows, mfind, eq1, eqL, scal, binP, unP, minP, maxP, foldP, PV.lt, PV.lt.ltL, endP, expoAll, expo, expo.expoL, frIds, frIds.frIdsL, nodupN, kill, cls, clsFuel, resO, RV.get, loadP, evC_p, evC_s, endS, endT, rowsOf, callP, thinL, unfr, unfr.unfrL, PV.noMem, PV.noMem.noMemL, optI, mapO, norm, trimT, trimB, forget, hasN, blksLt, List.set, S38, eB, e1, isR, hk10', hk10'']
      · have hlt : k < l.length := by omega
        have hlt' : (k : Int) < l.length := by omega
        have hnle : ¬ ((l.length : Int) ≤ k) := by omega
        have hnle' : ¬ (l.length ≤ k) := by omega
        obtain ⟨z, hz⟩ : ∃ z, l[k]? = some z := ⟨_, List.getElem?_eq_getElem hlt⟩
        have hz255 := hb z (List.mem_of_getElem? hz)
        have r1 := bR_get hz
        have g1 := bR_got hz
        rw [decGo_step hk hz] at hd
        have w1 := wrap_i64 ((k : Int) + 1) (by omega) (by omega)
        have wz : IntKind.u64.wrap (z : Int) = z := wrap_u64 _ (by omega) (by omega)
        by_cases h9 : k = 9 ∧ 1 < z
        · right
          rw [if_pos h9] at hd
          rw [hd]
          obtain ⟨rfl, h1⟩ := h9
          have h1' : (1 : Int) < z := by omega
          have hnle9 : ¬ ((l.length : Int) ≤ 9) := by omega
          have hnle9' : ¬ (l.length ≤ 9) := by omega
          unfold c38b0
          simp [evCode, evOps, evOne, evOp, evPur, evEff, evPur.chunks, fillP, AOp.isEff, AO.ev, putP, PV.cells, PV.leaf, getB, getM, mapE, keyC, mapRows, mfind, eq1, eqL, scal, binP, unP, minP, maxP, foldP, PV.lt, PV.lt.ltL, endP, expoAll, expo, expo.expoL, frIds, frIds.frIdsL, nodupN, kill, cls, clsFuel, resO, RV.get, loadP, evC_p, evC_s, endS, endT, rowsOf, callP, thinL, unfr, unfr.unfrL, PV.noMem, PV.noMem.noMemL, optI, mapO, norm, trimT, trimB, forget, hasN, blksLt, List.set, S38, eB, e1, isR, hlt, hnle9, hnle9', r1, g1, wz, h1, h1']
        · rw [if_neg h9] at hd
          have h9' : k = 9 → z ≤ 1 := fun h => by
            rcases Nat.lt_or_ge 1 z with h' | h'
            · exact absurd ⟨h, h'⟩ h9
            · exact h'
          obtain ⟨gl, gl2⟩ := gather_64 (z := z) hk hu h9'
          have hgl := gather_lt (z := z) hu
          have hr : Int.tmod (z : Int) 128 = ((z % 128 : Nat) : Int) := by rw [Int.tmod_eq_emod_of_nonneg (by omega)]; omega
          have hr' : (z : Int) % 128 = ((z % 128 : Nat) : Int) := by omega
          have hm : IntKind.u64.wrap (((z % 128 : Nat) : Int) * ((128 ^ k : Nat) : Int)) = ((z % 128 * 128 ^ k : Nat) : Int) := by
            rw [← Int.natCast_mul, wrap_u64 _ (by omega) (by omega)]
          have hnext : k + 1 < 10 → IntKind.u64.wrap (((128 ^ k : Nat) : Int) * 128) = ((128 ^ (k + 1) : Nat) : Int) := fun h => by
            have h2 := pow128_le (k := k + 1) (by omega)
            have e : (((128 ^ k : Nat) : Int) * 128) = ((128 ^ (k + 1) : Nat) : Int) := by rw [Nat.pow_succ, Int.natCast_mul]; rfl
            rw [e, wrap_u64 _ (by omega) (by omega)]
          obtain ⟨p, hp⟩ := ex_eq (128 ^ k)
          rw [hp] at hd gl gl2 hgl hm hnext
          obtain ⟨M, hM⟩ := ex_eq (z % 128 * p)
          rw [hM] at hd gl gl2 hgl hm
          obtain ⟨g, hg⟩ := ex_eq (z % 128)
          rw [hg] at hr hr' hm
          have ha : IntKind.u64.wrap ((u : Int) + M) = ((u + M : Nat) : Int) := by rw [wrap_u64 _ (by omega) (by omega)]; omega
          obtain ⟨V, hV⟩ := ex_eq (u + M)
          rw [hV] at hd gl2 hgl ha
          obtain ⟨t', ht'⟩ := ex_eq (IntKind.u64.wrap ((p : Int) * 128))
          rw [ht'] at hnext
          by_cases h128 : 128 ≤ z
          · left
            rw [if_pos h128] at hd
            have h128' : ¬ (z : Int) < 128 := by omega
            have h128'' : ¬ z < 128 := by omega
            refine ⟨(V, t'), ?_⟩
            have k9 : ¬ k = 9 := fun h => absurd (h9' h) (by omega)
            have k9' : ¬ (k : Int) = 9 := by omega
            unfold c38b0
            rw [hp]
            simp [evCode, evOps, evOne, evOp, evPur, evEff, evPur.chunks, fillP, AOp.isEff, AO.ev, putP, PV.cells, PV.leaf, getB, getM, mapE, keyC, mapRows, mfind, eq1, eqL, scal, binP, unP, minP, maxP, foldP, PV.lt, PV.lt.ltL, endP, expoAll, expo, expo.expoL, frIds, frIds.frIdsL, nodupN, kill, cls, clsFuel, resO, RV.get, loadP, evC_p, evC_s, endS, endT, rowsOf, callP, thinL, unfr, unfr.unfrL, PV.noMem, PV.noMem.noMemL, optI, mapO, norm, trimT, trimB, forget, hasN, blksLt, List.set, S38, eB, e1, hlt, hnle, hnle', r1, g1, hk10, hk, k9, k9', wz, hr, hr', hm, ha, ht', h128', h128'', w1]
            exact ⟨by rw [show 9 - k = 10 - (k + 1) by omega]; exact hd, hgl, by omega, fun h => by rw [hnext (by omega)]; simp⟩
          · right
            rw [if_neg h128] at hd
            have h128' : (z : Int) < 128 := by omega
            have h128'' : z < 128 := by omega
            have zn : k = 9 → (1 < (z : Int)) = False := fun h => eq_false (by have := h9' h; omega)
            have f42' := f42 V (by omega)
            rcases Classical.em ((k : Int) = 9) with k9 | k9
            all_goals first | have k9t := eq_false k9 | have k9t := eq_true k9
            all_goals first | have zn' := zn (by omega) | have zn' := True.intro
            all_goals by_cases z0 : z = 0 ∧ 0 < k
            all_goals first | (rw [if_pos z0] at hd; rw [hd]) | (rw [if_neg z0] at hd; rw [hd])
            all_goals rw [hp]
            all_goals unfold c38b0
            all_goals first
              | (have hz0t := eq_true z0.1
                 have hk0 := z0.2
                 have hk0' : (0 : Int) < k := by omega
                 simp [evCode, evOps, evOne, evOp, evPur, evEff, evPur.chunks, fillP, AOp.isEff, AO.ev, putP, PV.cells, PV.leaf, getB, getM, mapE, keyC, mapRows, mfind, eq1, eqL, scal, binP, unP, minP, maxP, foldP, PV.lt, PV.lt.ltL, endP, expoAll, expo, expo.expoL, frIds, frIds.frIdsL, nodupN, kill, cls, clsFuel, resO, RV.get, loadP, evC_p, evC_s, endS, endT, rowsOf, callP, thinL, unfr, unfr.unfrL, PV.noMem, PV.noMem.noMemL, optI, mapO, norm, trimT, trimB, forget, hasN, blksLt, List.set, S38, eB, e1, isR, hlt, hnle, hnle', r1, g1, hk10, hk, k9t, zn', wz, hr, hr', hm, ha, ht', h128', h128'', hz0t, hk0, hk0']
                 done)
              | (have hzk : z = 0 → ¬ 0 < k := fun h h' => z0 ⟨h, h'⟩
                 have hzi : z = 0 → ¬ (0 : Int) < k := fun h h' => z0 ⟨h, by omega⟩
                 rcases Classical.em (z = 0) with hz0 | hz0
                 · have hz0t := eq_true hz0
                   have q1 := eq_false (hzk hz0)
                   have q2 := eq_false (hzi hz0)
                   simp [evCode, evOps, evOne, evOp, evPur, evEff, evPur.chunks, fillP, AOp.isEff, AO.ev, putP, PV.cells, PV.leaf, getB, getM, mapE, keyC, mapRows, mfind, eq1, eqL, scal, binP, unP, minP, maxP, foldP, PV.lt, PV.lt.ltL, endP, expoAll, expo, expo.expoL, frIds, frIds.frIdsL, nodupN, kill, cls, clsFuel, resO, RV.get, loadP, evC_p, evC_s, endS, endT, rowsOf, callP, thinL, unfr, unfr.unfrL, PV.noMem, PV.noMem.noMemL, optI, mapO, norm, trimT, trimB, forget, hasN, blksLt, List.set, S38, eB, e1, isR, hlt, hnle, hnle', r1, g1, hk10, hk, k9t, zn', wz, hr, hr', hm, ha, ht', h128', h128'', hz0t, q1, q2, f42', w1]
                 · have hz0t := eq_false hz0
                   simp [evCode, evOps, evOne, evOp, evPur, evEff, evPur.chunks, fillP, AOp.isEff, AO.ev, putP, PV.cells, PV.leaf, getB, getM, mapE, keyC, mapRows, mfind, eq1, eqL, scal, binP, unP, minP, maxP, foldP, PV.lt, PV.lt.ltL, endP, expoAll, expo, expo.expoL, frIds, frIds.frIdsL, nodupN, kill, cls, clsFuel, resO, RV.get, loadP, evC_p, evC_s, endS, endT, rowsOf, callP, thinL, unfr, unfr.unfrL, PV.noMem, PV.noMem.noMemL, optI, mapO, norm, trimT, trimB, forget, hasN, blksLt, List.set, S38, eB, e1, isR, hlt, hnle, hnle', r1, g1, hk10, hk, k9t, zn', wz, hr, hr', hm, ha, ht', h128', h128'', hz0t, f42', w1]))
    (by
      rintro ⟨u, t⟩ hu s
      unfold c38b0
      simp [evCode, evOps, evOne, evOp, evPur, evEff, evPur.chunks, fillP, AOp.isEff, AO.ev, putP, PV.cells, PV.leaf, getB, getM, mapE, keyC, mapRows, mfind, eq1, eqL, scal, binP, unP, minP, maxP, foldP, PV.lt, PV.lt.ltL, endP, expoAll, expo, expo.expoL, frIds, frIds.frIdsL, nodupN, kill, cls, clsFuel, resO, RV.get, loadP, evC_p, evC_s, endS, endT, rowsOf, callP, thinL, unfr, unfr.unfrL, PV.noMem, PV.noMem.noMemL, optI, mapO, norm, trimT, trimB, forget, hasN, blksLt, List.set, S38])
    (by simp) (0, 1) ⟨rfl, by decide, Nat.zero_le _, fun _ => rfl⟩
  refine evE_intro 20 D38 rfl ?_
  unfold c38
  simp [evCode, evOps, evOne, evOp, evPur, evEff, evPur.chunks, fillP, AOp.isEff, AO.ev, putP, PV.cells, PV.leaf, getB, getM, mapE, keyC, mapRows, mfind, eq1, eqL, scal, binP, unP, minP, maxP, foldP, PV.lt, PV.lt.ltL, endP, expoAll, expo, expo.expoL, frIds, frIds.frIdsL, nodupN, kill, cls, clsFuel, resO, RV.get, loadP, evC_p, evC_s, endS, endT, rowsOf, callP, thinL, unfr, unfr.unfrL, PV.noMem, PV.noMem.noMemL, optI, mapO, norm, trimT, trimB, forget, hasN, blksLt, List.set, eB]
  generalize hE : evLoop _ _ _ _ _ = E
  rcases H _ _ hE (by simp [evCode, evOps, evOne, evOp, evPur, evEff, evPur.chunks, fillP, AOp.isEff, AO.ev, putP, PV.cells, PV.leaf, getB, getM, mapE, keyC, mapRows, mfind, eq1, eqL, scal, binP, unP, minP, maxP, foldP, PV.lt, PV.lt.ltL, endP, expoAll, expo, expo.expoL, frIds, frIds.frIdsL, nodupN, kill, cls, clsFuel, resO, RV.get, loadP, evC_p, evC_s, endS, endT, rowsOf, callP, thinL, unfr, unfr.unfrL, PV.noMem, PV.noMem.noMemL, optI, mapO, norm, trimT, trimB, forget, hasN, blksLt, List.set, S38, eB]) with ⟨⟨u, t⟩, ⟨hd, _, _⟩, h⟩ | ⟨s, h, h1, h2, h3⟩
  · simp only [List.length_replicate] at hd h
    rw [h, hd]
    unfold c38b0
    simp [evCode, evOps, evOne, evOp, evPur, evEff, evPur.chunks, fillP, AOp.isEff, AO.ev, putP, PV.cells, PV.leaf, getB, getM, mapE, keyC, mapRows, mfind, eq1, eqL, scal, binP, unP, minP, maxP, foldP, PV.lt, PV.lt.ltL, endP, expoAll, expo, expo.expoL, frIds, frIds.frIdsL, nodupN, kill, cls, clsFuel, resO, RV.get, loadP, evC_p, evC_s, endS, endT, rowsOf, callP, thinL, unfr, unfr.unfrL, PV.noMem, PV.noMem.noMemL, optI, mapO, norm, trimT, trimB, forget, hasN, blksLt, List.set, S38, eB, decGo, tr3]
  · rw [h]
    simp [evCode, evOps, evOne, evOp, evPur, evEff, evPur.chunks, fillP, AOp.isEff, AO.ev, putP, PV.cells, PV.leaf, getB, getM, mapE, keyC, mapRows, mfind, eq1, eqL, scal, binP, unP, minP, maxP, foldP, PV.lt, PV.lt.ltL, endP, expoAll, expo, expo.expoL, frIds, frIds.frIdsL, nodupN, kill, cls, clsFuel, resO, RV.get, loadP, evC_p, evC_s, endS, endT, rowsOf, callP, thinL, unfr, unfr.unfrL, PV.noMem, PV.noMem.noMemL, optI, mapO, norm, trimT, trimB, forget, hasN, blksLt, List.set, h1, h2, h3, tr3]
end Go.Proofs.Ythoncigfbhinlaa
