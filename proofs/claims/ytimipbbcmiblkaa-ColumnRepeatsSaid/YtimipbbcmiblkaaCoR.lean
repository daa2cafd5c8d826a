/- column: Int of codec. -/
import Derived.Test.YtimipbbcmiblkaaCoQ
namespace Go.Proofs.Ytimipbbcmiblkaa
open Go Go.RowKit
set_option linter.unusedVariables false
set_option linter.unusedSimpArgs false
set_option maxHeartbeats 8000000

theorem xor_zero (n : Int) (h0 : -9223372036854775808 ≤ n) (h1 : n ≤ 9223372036854775807) : IntKind.i64.wrap ((BitVec.ofInt IntKind.i64.bits n ^^^ BitVec.ofInt IntKind.i64.bits 0).toNat : Int) = n := by
  show IntKind.i64.wrap ((BitVec.ofInt 64 n ^^^ BitVec.ofInt 64 0).toNat : Int) = n
  rw [show BitVec.ofInt 64 0 = 0#64 by decide, BitVec.xor_zero, BitVec.toNat_ofInt, IntKind.wrap_i64]
  omega
theorem xor_neg1 (n : Int) (h0 : -9223372036854775808 ≤ n) (h1 : n ≤ 9223372036854775807) : IntKind.i64.wrap ((BitVec.ofInt IntKind.i64.bits n ^^^ BitVec.ofInt IntKind.i64.bits (-1)).toNat : Int) = -n - 1 := by
  show IntKind.i64.wrap ((BitVec.ofInt 64 n ^^^ BitVec.ofInt 64 (-1)).toNat : Int) = -n - 1
  rw [show BitVec.ofInt 64 (-1) = BitVec.allOnes 64 by decide, BitVec.xor_allOnes, BitVec.toNat_not, BitVec.toNat_ofInt, IntKind.wrap_i64]
  omega
theorem xor_neg1' (n : Nat) (h1 : n ≤ 9223372036854775807) : IntKind.i64.wrap ((n % 2 ^ IntKind.i64.bits ^^^ ((-1 : Int) % 2 ^ IntKind.i64.bits).toNat : Nat) : Int) = -(n : Int) - 1 := by
  have h := xor_neg1 (n : Int) (by omega) (by omega)
  rw [BitVec.toNat_xor, BitVec.toNat_ofInt, BitVec.toNat_ofInt] at h
  have e : ((n : Int) % ((2 ^ IntKind.i64.bits : Nat) : Int)).toNat = n % 2 ^ IntKind.i64.bits := by
    show ((n : Int) % 18446744073709551616).toNat = n % 18446744073709551616
    omega
  rw [e] at h
  exact h
def isR (r : Int × Nat × Int) (t : St) : Prop := t.sl[2]?.getD .top = .int .i64 r.1 ∧ t.sl[3]?.getD .top = .int .i64 r.2.1 ∧ t.sl[4]?.getD .top = .int .i64 r.2.2
def S57 (x : Bool) (l : List Nat) (k : Nat) (u : Nat) : St := ⟨[eB x l, .top, .top, .top, .top, .int .u64 u, .top, .int .i64 k] ++ List.replicate 51 .top, []⟩
set_option maxRecDepth 100000 in
theorem f57 (x : Bool) (l : List Nat) (hl : l.length ≤ 1000000) (hb : okB l) : evE Dg 57 [eB x l] = some (tr3 (dec l)) := by
  have e1 := bR_len l
  have H := loop_inv (body := evCode (evC Dg) 20 c57b0) (keep := [0, 5, 7]) (n0 := 0) (fuel := 20) (List.replicate 10 ()) (S57 x l) (fun k u => dec l = decGo (10 - k) k u (l.drop k) ∧ u < 128 ^ k ∧ k ≤ l.length) (isR (dec l))
    (by
      rintro k _ u - hk ⟨hd, hu, hkl⟩
      simp only [List.length_replicate] at hk
      have hk10 : (k : Int) < 10 := by omega
      by_cases hlen : k = l.length
      · right
        have hkk : (k : Int) = l.length := by omega
        rw [decGo_short hk (by omega)] at hd
        rw [hd]
        unfold c57b0
        rw [hlen]
        have hk10' : (l.length : Int) < 10 := by omega
        have hk10'' : l.length < 10 := by omega
        simp [evCode, evOps, evOne, evOp, evPur, evEff, evPur.chunks, fillP, AOp.isEff, AO.ev, putP, PV.cells, PV.leaf, getB, getM, mapE, iterE, keyC, mapRows, mfind, eq1, eqL, scal, binP, unP, minP, maxP, foldP, PV.lt, PV.lt.ltL, endP, expoAll, expoG, expo, expo.expoL, frIds, frIds.frIdsL, nodupN, kill, cls, clsFuel, resO, RV.get, loadP, evC_p, evC_s, endS, endT, rowsOf, callP, thinL, unfr, unfr.unfrL, PV.noMem, PV.noMem.noMemL, optI, mapO, norm, trimT, trimB, forget, hasN, blksLt, List.set, softChk, softGo, softRd, effTg, rdP, S57, eB, e1, isR, hk10', hk10'']
      · have hlt : k < l.length := by omega
        have hlt' : (k : Int) < l.length := by omega
        have hne : ¬ ((k : Int) = l.length) := by omega
        obtain ⟨z, hz⟩ : ∃ z, l[k]? = some z := ⟨_, List.getElem?_eq_getElem hlt⟩
        have hz255 := hb z (List.mem_of_getElem? hz)
        have r1 := bR_get hz
        have g1 := bR_got hz
        rw [decGo_step hk hz] at hd
        have w1 := wrap_i64 ((k : Int) + 1) (by omega) (by omega)
        by_cases h9 : k = 9 ∧ 1 < z
        · right
          rw [if_pos h9] at hd
          rw [hd]
          obtain ⟨rfl, h1⟩ := h9
          have h1' : (1 : Int) < z := by omega
          have hne9 : ¬ ((9 : Int) = l.length) := by omega
          have hlt9 : (9 : Int) < l.length := by omega
          unfold c57b0
          simp [evCode, evOps, evOne, evOp, evPur, evEff, evPur.chunks, fillP, AOp.isEff, AO.ev, putP, PV.cells, PV.leaf, getB, getM, mapE, iterE, keyC, mapRows, mfind, eq1, eqL, scal, binP, unP, minP, maxP, foldP, PV.lt, PV.lt.ltL, endP, expoAll, expoG, expo, expo.expoL, frIds, frIds.frIdsL, nodupN, kill, cls, clsFuel, resO, RV.get, loadP, evC_p, evC_s, endS, endT, rowsOf, callP, thinL, unfr, unfr.unfrL, PV.noMem, PV.noMem.noMemL, optI, mapO, norm, trimT, trimB, forget, hasN, blksLt, List.set, softChk, softGo, softRd, effTg, rdP, S57, eB, e1, isR, hlt, hlt9, hlen, hne9, r1, g1, h1, h1']
        · rw [if_neg h9] at hd
          have h9' : k = 9 → z ≤ 1 := fun h => by
            rcases Nat.lt_or_ge 1 z with h' | h'
            · exact absurd ⟨h, h'⟩ h9
            · exact h'
          obtain ⟨gl, gl2⟩ := gather_64 (z := z) hk hu h9'
          have ho := or_gather hk hu h9'
          have hgl := gather_lt (z := z) hu
          have ha : IntKind.u8.wrap ((z % 2 ^ IntKind.u8.bits &&& 127 % 2 ^ IntKind.u8.bits : Nat) : Int) = ((z % 128 : Nat) : Int) := by
            have e : z % 2 ^ IntKind.u8.bits &&& 127 % 2 ^ IntKind.u8.bits = z % 128 := by
              have : z % 2 ^ IntKind.u8.bits = z := Nat.mod_eq_of_lt (by show z < 256; omega)
              rw [this]
              exact Nat.and_two_pow_sub_one_eq_mod z 7
            rw [e, wrap_u8 _ (by omega) (by omega)]
          have hs : IntKind.u64.wrap (((z % 128 : Nat) : Int) * 2 ^ (7 * k)) = ((z % 128 * 128 ^ k : Nat) : Int) := by
            have e : (((z % 128 : Nat) : Int) * 2 ^ (7 * k)) = ((z % 128 * 128 ^ k : Nat) : Int) := by rw [pow128]; simp
            rw [e, wrap_u64 _ (by omega) (by omega)]
          have hb1 : IntKind.u64.wrap ((z % 128 : Nat) : Int) = ((z % 128 : Nat) : Int) := wrap_u64 _ (by omega) (by omega)
          have w7 : IntKind.i64.wrap (7 * (k : Int)) = 7 * (k : Int) := wrap_i64 _ (by omega) (by omega)
          have p7 : (0 : Int) ≤ 7 * (k : Int) := by omega
          have t7 : (7 * (k : Int)).toNat = 7 * k := by omega
          have m7 : Nat.min (7 * k) IntKind.u64.bits = 7 * k := Nat.min_eq_left (by show 7 * k ≤ 64; omega)
          have m7' : min (7 * k) IntKind.u64.bits = 7 * k := m7
          obtain ⟨M, hM⟩ := ex_eq (z % 128 * 128 ^ k)
          obtain ⟨g, hg⟩ := ex_eq (z % 128)
          rw [hg] at hM ha hs hb1 ho gl gl2 hgl hd
          rw [hM] at hs ho gl gl2 hgl
          rw [hM] at hd
          obtain ⟨V, hV⟩ := ex_eq (u + M)
          rw [hV] at hd ho gl2 hgl
          have c9 : (k : Int) = 9 → ¬ (1 : Int) < z := fun h => by have := h9' (by omega); omega
          have c9' : k = 9 → ¬ 1 < z := fun h => by have := h9' h; omega
          by_cases h128 : 128 ≤ z
          · left
            rw [if_pos h128] at hd
            have h128' : (128 : Int) ≤ z := by omega
            refine ⟨V, ?_⟩
            unfold c57b0
            by_cases k9 : k = 9
            · exact absurd (h9' k9) (by omega)
            · have k9' : ¬ (k : Int) = 9 := by omega
              simp [evCode, evOps, evOne, evOp, evPur, evEff, evPur.chunks, fillP, AOp.isEff, AO.ev, putP, PV.cells, PV.leaf, getB, getM, mapE, iterE, keyC, mapRows, mfind, eq1, eqL, scal, binP, unP, minP, maxP, foldP, PV.lt, PV.lt.ltL, endP, expoAll, expoG, expo, expo.expoL, frIds, frIds.frIdsL, nodupN, kill, cls, clsFuel, resO, RV.get, loadP, evC_p, evC_s, endS, endT, rowsOf, callP, thinL, unfr, unfr.unfrL, PV.noMem, PV.noMem.noMemL, optI, mapO, norm, trimT, trimB, forget, hasN, blksLt, List.set, softChk, softGo, softRd, effTg, rdP, S57, eB, e1, hlt, hlt', hlen, hne, r1, g1, hk10, hk, k9, k9', ha, hb1, w7, p7, t7, m7, m7', hs, ho, h128, h128', w1]
              exact ⟨by rw [show 9 - k = 10 - (k + 1) by omega]; exact hd, hgl, by omega⟩
          · right
            rw [if_neg h128] at hd
            have h128' : ¬ (128 : Int) ≤ z := by omega
            have zn : k = 9 → (1 < (z : Int)) = False := fun h => eq_false (by have := h9' h; omega)
            by_cases z0 : z = 0 ∧ 0 < k
            · rw [if_pos z0] at hd
              rw [hd]
              obtain ⟨rfl, hk0⟩ := z0
              have hk0' : (0 : Int) < k := by omega
              rcases Classical.em ((k : Int) = 9) with k9 | k9
              · have k9t := eq_true k9
                unfold c57b0
                simp [evCode, evOps, evOne, evOp, evPur, evEff, evPur.chunks, fillP, AOp.isEff, AO.ev, putP, PV.cells, PV.leaf, getB, getM, mapE, iterE, keyC, mapRows, mfind, eq1, eqL, scal, binP, unP, minP, maxP, foldP, PV.lt, PV.lt.ltL, endP, expoAll, expoG, expo, expo.expoL, frIds, frIds.frIdsL, nodupN, kill, cls, clsFuel, resO, RV.get, loadP, evC_p, evC_s, endS, endT, rowsOf, callP, thinL, unfr, unfr.unfrL, PV.noMem, PV.noMem.noMemL, optI, mapO, norm, trimT, trimB, forget, hasN, blksLt, List.set, softChk, softGo, softRd, effTg, rdP, S57, eB, e1, isR, hlt, hlt', hlen, hne, r1, g1, hk10, hk, k9t, ha, hb1, w7, p7, t7, m7, m7', hs, ho, hk0, hk0']
              · have k9t := eq_false k9
                unfold c57b0
                simp [evCode, evOps, evOne, evOp, evPur, evEff, evPur.chunks, fillP, AOp.isEff, AO.ev, putP, PV.cells, PV.leaf, getB, getM, mapE, iterE, keyC, mapRows, mfind, eq1, eqL, scal, binP, unP, minP, maxP, foldP, PV.lt, PV.lt.ltL, endP, expoAll, expoG, expo, expo.expoL, frIds, frIds.frIdsL, nodupN, kill, cls, clsFuel, resO, RV.get, loadP, evC_p, evC_s, endS, endT, rowsOf, callP, thinL, unfr, unfr.unfrL, PV.noMem, PV.noMem.noMemL, optI, mapO, norm, trimT, trimB, forget, hasN, blksLt, List.set, softChk, softGo, softRd, effTg, rdP, S57, eB, e1, isR, hlt, hlt', hlen, hne, r1, g1, hk10, hk, k9t, ha, hb1, w7, p7, t7, m7, m7', hs, ho, hk0, hk0']
            · rw [if_neg z0] at hd
              rw [hd]
              have hzk : z = 0 → ¬ 0 < k := fun h h' => z0 ⟨h, h'⟩
              have hzi : z = 0 → ¬ (0 : Int) < k := fun h h' => z0 ⟨h, by omega⟩
              have b1 : Nat.min 1 IntKind.u64.bits = 1 := rfl
              have b1' : min 1 IntKind.u64.bits = 1 := rfl
              have hf : Int.fdiv (V : Int) 2 = ((V / 2 : Nat) : Int) := by rw [Int.fdiv_eq_ediv_of_nonneg _ (by omega)]; omega
              have wH : IntKind.i64.wrap ((V / 2 : Nat) : Int) = ((V / 2 : Nat) : Int) := wrap_i64 _ (by omega) (by omega)
              have h1 : IntKind.u64.wrap ((V % 2 ^ IntKind.u64.bits &&& 1 % 2 ^ IntKind.u64.bits : Nat) : Int) = ((V % 2 : Nat) : Int) := by
                rw [mod_bits V (by omega)]
                have e : V &&& 1 % 2 ^ IntKind.u64.bits = V % 2 := Nat.and_two_pow_sub_one_eq_mod V 1
                rw [e, wrap_u64 _ (by omega) (by omega)]
              have x0 : IntKind.i64.wrap ((BitVec.ofInt IntKind.i64.bits ((V / 2 : Nat) : Int) ^^^ BitVec.ofInt IntKind.i64.bits 0).toNat : Int) = ((V / 2 : Nat) : Int) := xor_zero _ (by omega) (by omega)
              have x1 : IntKind.i64.wrap ((BitVec.ofInt IntKind.i64.bits ((V / 2 : Nat) : Int) ^^^ BitVec.ofInt IntKind.i64.bits (-1)).toNat : Int) = -((V / 2 : Nat) : Int) - 1 := xor_neg1 _ (by omega) (by omega)
              have x0' : IntKind.i64.wrap (((V / 2 : Nat) : Int) % 2 ^ IntKind.i64.bits) = ((V / 2 : Nat) : Int) := by rw [IntKind.wrap_i64]; show ((((V / 2 : Nat) : Int) % 18446744073709551616 + 9223372036854775808) % 18446744073709551616 - 9223372036854775808) = _; omega
              have x1' : IntKind.i64.wrap ((V / 2 % 2 ^ IntKind.i64.bits ^^^ ((-1 : Int) % 2 ^ IntKind.i64.bits).toNat : Nat) : Int) = -((V / 2 : Nat) : Int) - 1 := xor_neg1' _ (by omega)
              have wn0 : IntKind.i64.wrap 0 = 0 := rfl
              have wn1 : IntKind.i64.wrap 1 = 1 := rfl
              have wn2 : IntKind.i64.wrap (-1) = -1 := rfl
              have hun : unzig V = if V % 2 = 1 then -((V / 2 : Nat) : Int) - 1 else ((V / 2 : Nat) : Int) := rfl
              rw [hun]
              have hV2 : V % 2 = 0 ∨ V % 2 = 1 := by omega
              obtain ⟨Hh, hHh⟩ := ex_eq (V / 2)
              rw [hHh] at hf wH x0 x1 x0' x1' ⊢
              rcases Classical.em ((k : Int) = 9) with k9 | k9 <;> rcases Classical.em (z = 0) with hz0 | hz0 <;> rcases hV2 with hv | hv
              all_goals first | have k9t := eq_false k9 | have k9t := eq_true k9
              all_goals first | have hz0t := eq_false hz0 | have hz0t := eq_true hz0
              all_goals rw [hv] at h1
              all_goals first | have zn' := zn (by omega) | have zn' := True.intro
              all_goals first | have hzk' := eq_false (hzk hz0) | have hzk' := True.intro
              all_goals first | have hzi' := eq_false (hzi hz0) | have hzi' := True.intro
              all_goals unfold c57b0
              all_goals simp [evCode, evOps, evOne, evOp, evPur, evEff, evPur.chunks, fillP, AOp.isEff, AO.ev, putP, PV.cells, PV.leaf, getB, getM, mapE, iterE, keyC, mapRows, mfind, eq1, eqL, scal, binP, unP, minP, maxP, foldP, PV.lt, PV.lt.ltL, endP, expoAll, expoG, expo, expo.expoL, frIds, frIds.frIdsL, nodupN, kill, cls, clsFuel, resO, RV.get, loadP, evC_p, evC_s, endS, endT, rowsOf, callP, thinL, unfr, unfr.unfrL, PV.noMem, PV.noMem.noMemL, optI, mapO, norm, trimT, trimB, forget, hasN, blksLt, List.set, softChk, softGo, softRd, effTg, rdP, S57, eB, e1, isR, hlt, hlt', hlen, hne, r1, g1, hk10, hk, k9t, hz0t, zn', hzk', hzi', ha, hb1, w7, p7, t7, m7, m7', hs, ho, b1, b1', hf, wH, h1, x0, x1, x0', x1', wn0, wn1, wn2, w1, hv, h128'])
    (by
      intro u hu s
      unfold c57b0
      simp [evCode, evOps, evOne, evOp, evPur, evEff, evPur.chunks, fillP, AOp.isEff, AO.ev, putP, PV.cells, PV.leaf, getB, getM, mapE, iterE, keyC, mapRows, mfind, eq1, eqL, scal, binP, unP, minP, maxP, foldP, PV.lt, PV.lt.ltL, endP, expoAll, expoG, expo, expo.expoL, frIds, frIds.frIdsL, nodupN, kill, cls, clsFuel, resO, RV.get, loadP, evC_p, evC_s, endS, endT, rowsOf, callP, thinL, unfr, unfr.unfrL, PV.noMem, PV.noMem.noMemL, optI, mapO, norm, trimT, trimB, forget, hasN, blksLt, List.set, softChk, softGo, softRd, effTg, rdP, S57])
    (by simp) 0 ⟨rfl, by decide, Nat.zero_le _⟩
  refine evE_intro 20 D57 rfl ?_
  unfold c57
  simp [evCode, evOps, evOne, evOp, evPur, evEff, evPur.chunks, fillP, AOp.isEff, AO.ev, putP, PV.cells, PV.leaf, getB, getM, mapE, iterE, keyC, mapRows, mfind, eq1, eqL, scal, binP, unP, minP, maxP, foldP, PV.lt, PV.lt.ltL, endP, expoAll, expoG, expo, expo.expoL, frIds, frIds.frIdsL, nodupN, kill, cls, clsFuel, resO, RV.get, loadP, evC_p, evC_s, endS, endT, rowsOf, callP, thinL, unfr, unfr.unfrL, PV.noMem, PV.noMem.noMemL, optI, mapO, norm, trimT, trimB, forget, hasN, blksLt, List.set, softChk, softGo, softRd, effTg, rdP, eB]
  generalize hE : evLoop _ _ _ _ _ = E
  rcases H _ _ hE (by simp [evCode, evOps, evOne, evOp, evPur, evEff, evPur.chunks, fillP, AOp.isEff, AO.ev, putP, PV.cells, PV.leaf, getB, getM, mapE, iterE, keyC, mapRows, mfind, eq1, eqL, scal, binP, unP, minP, maxP, foldP, PV.lt, PV.lt.ltL, endP, expoAll, expoG, expo, expo.expoL, frIds, frIds.frIdsL, nodupN, kill, cls, clsFuel, resO, RV.get, loadP, evC_p, evC_s, endS, endT, rowsOf, callP, thinL, unfr, unfr.unfrL, PV.noMem, PV.noMem.noMemL, optI, mapO, norm, trimT, trimB, forget, hasN, blksLt, List.set, softChk, softGo, softRd, effTg, rdP, S57, eB]) with ⟨u, ⟨hd, _, _⟩, h⟩ | ⟨s, h, h1, h2, h3⟩
  · simp only [List.length_replicate] at hd h
    rw [h, hd]
    unfold c57b0
    simp [evCode, evOps, evOne, evOp, evPur, evEff, evPur.chunks, fillP, AOp.isEff, AO.ev, putP, PV.cells, PV.leaf, getB, getM, mapE, iterE, keyC, mapRows, mfind, eq1, eqL, scal, binP, unP, minP, maxP, foldP, PV.lt, PV.lt.ltL, endP, expoAll, expoG, expo, expo.expoL, frIds, frIds.frIdsL, nodupN, kill, cls, clsFuel, resO, RV.get, loadP, evC_p, evC_s, endS, endT, rowsOf, callP, thinL, unfr, unfr.unfrL, PV.noMem, PV.noMem.noMemL, optI, mapO, norm, trimT, trimB, forget, hasN, blksLt, List.set, softChk, softGo, softRd, effTg, rdP, S57, eB, decGo, tr3]
  · rw [h]
    simp [evCode, evOps, evOne, evOp, evPur, evEff, evPur.chunks, fillP, AOp.isEff, AO.ev, putP, PV.cells, PV.leaf, getB, getM, mapE, iterE, keyC, mapRows, mfind, eq1, eqL, scal, binP, unP, minP, maxP, foldP, PV.lt, PV.lt.ltL, endP, expoAll, expoG, expo, expo.expoL, frIds, frIds.frIdsL, nodupN, kill, cls, clsFuel, resO, RV.get, loadP, evC_p, evC_s, endS, endT, rowsOf, callP, thinL, unfr, unfr.unfrL, PV.noMem, PV.noMem.noMemL, optI, mapO, norm, trimT, trimB, forget, hasN, blksLt, List.set, softChk, softGo, softRd, effTg, rdP, h1, h2, h3, tr3]
end Go.Proofs.Ytimipbbcmiblkaa
