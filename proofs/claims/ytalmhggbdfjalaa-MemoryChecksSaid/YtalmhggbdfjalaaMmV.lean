/- The reference's Check, whole. -/
import Derived.Test.YtalmhggbdfjalaaMmV1
import Derived.Test.YtalmhggbdfjalaaMmV2
import Derived.Test.YtalmhggbdfjalaaMmV3
import Derived.Test.YtalmhggbdfjalaaMmN
namespace Go.Proofs.Ytalmhggbdfjalaa
open Go Go.RowKit
set_option linter.unusedVariables false
set_option linter.unusedSectionVars false
set_option linter.unusedSimpArgs false
set_option maxHeartbeats 4000000

section
variable (l : List Bk) (k : Nat) (b : Bk) (hb : l[k]? = some b) (hl : l.length ≤ 1000) (f : Nat)
include hb hl
theorem c15_rng (h : rngBad b) : ∃ s, evCode (evC Dg) f c15b1 (S15 l k) = some (.ret s) ∧ R15 2 s := by
  by_cases h0 : b.i < 0
  · exact c15_0 l k b hb hl f h0
  by_cases h1 : 1000000000000000 < b.i
  · exact c15_1 l k b hb hl f h0 h1
  by_cases h2 : b.t < 0
  · exact c15_2 l k b hb hl f h0 h1 h2
  by_cases h3 : 1000000000000000 < b.t
  · exact c15_3 l k b hb hl f h0 h1 h2 h3
  by_cases h4 : b.s < 1
  · exact c15_4 l k b hb hl f h0 h1 h2 h3 h4
  by_cases h5 : 1000000000000 < b.s
  · exact c15_5 l k b hb hl f h0 h1 h2 h3 h4 h5
  by_cases h6 : b.f < 0
  · exact c15_6 l k b hb hl f h0 h1 h2 h3 h4 h5 h6
  by_cases h7 : b.e ≤ b.f
  · exact c15_7 l k b hb hl f h0 h1 h2 h3 h4 h5 h6 h7
  by_cases h8 : 1000000000000 < b.e
  · exact c15_8 l k b hb hl f h0 h1 h2 h3 h4 h5 h6 h7 h8
  unfold rngBad at h
  exfalso
  omega
theorem c15_step (hG : ∀ j, j < k → errZ l j = 0) (hff : k < f) : (∃ s, evCode (evC Dg) f c15b1 (S15 l k) = some (.ret s) ∧ R15 (chkL l) s) ∨ (errZ l k = 0 ∧ ∃ s, evCode (evC Dg) f c15b1 (S15 l k) = some (.normal s) ∧ norm [0, 3] 0 s = S15 l (k + 1)) := by
  have hk : k < l.length := (List.getElem?_eq_some_iff.1 hb).1
  have hz : errZ l k = errAt l k b := by unfold errZ; rw [hb]
  have hbad : ∀ z : Int, errAt l k b = z → z ≠ 0 → chkL l = z := by
    intro z h1 h2
    rw [chkL_err hk (by rw [hz, h1]; exact h2) hG, hz, h1]
  by_cases hr : rngBad b
  · have : errAt l k b = 2 := by unfold errAt; rw [if_pos hr]
    rw [hbad 2 this (by decide)]
    exact .inl (c15_rng l k b hb hl f hr)
  · have hn := hr
    unfold rngBad at hn
    simp only [not_or] at hn
    obtain ⟨h0, h1, h2, h3, h4, h5, h6, h7, h8⟩ := hn
    by_cases hf : framesE b.st = 0
    · by_cases ho : 0 < k ∧ b.f < fAt l (k - 1)
      · have : errAt l k b = 11 := by unfold errAt; rw [if_neg hr, if_neg (by simp [hf]), if_pos ho]
        rw [hbad 11 this (by decide)]
        exact .inl (c15_or l k b hb hl f h0 h1 h2 h3 h4 h5 h6 h7 h8 hf ho.1 ho.2)
      · have hsrt : ∀ (n j : Nat) (c d : Bk), n ≤ k → j ≤ n → l[j]? = some c → l[n]? = some d → c.f ≤ d.f := by
          intro n
          induction n with
          | zero =>
            intro j c d _ hj hc hd
            obtain rfl : j = 0 := by omega
            rw [hc] at hd; cases hd; omega
          | succ n ih =>
            intro j c d hn hj hc hd
            rcases Nat.lt_or_ge n j with h11 | h11
            · obtain rfl : j = n + 1 := by omega
              rw [hc] at hd; cases hd; omega
            · obtain ⟨u, hu⟩ : ∃ u, l[n]? = some u := ⟨_, List.getElem?_eq_getElem (by omega)⟩
              have h12 := ih j c u (by omega) h11 hc hu
              have h13 : ¬ (0 < n + 1 ∧ d.f < fAt l (n + 1 - 1)) := by
                rcases Nat.lt_or_ge (n + 1) k with h14 | h14
                · intro h15
                  have h16 : errAt l (n + 1) d = 0 := by
                    have h20 := hG (n + 1) h14
                    unfold errZ at h20
                    rw [hd] at h20
                    exact h20
                  unfold errAt at h16
                  split at h16
                  · cases h16
                  · split at h16
                    · rename_i h17; exact h17 h16
                    · first | (cases h16; done) | (rw [if_pos h15] at h16; cases h16)
                · obtain rfl : n + 1 = k := by omega
                  rw [hb] at hd
                  cases hd
                  exact ho
              have h18 : fAt l (n + 1 - 1) = u.f := by
                unfold fAt
                rw [Nat.add_sub_cancel, hu]
              rw [h18] at h13
              omega
        have hcb : ∀ j c, j < k → l[j]? = some c → c.f < b.e := by
          intro j c hj hc
          have := hsrt k j c b (Nat.le_refl _) (by omega) hc hb
          omega
        have hgo : (twB l k b = true → ∃ s, evCode (evC Dg) f c15b1 (S15 l k) = some (.ret s) ∧ R15 4 s) ∧ (¬ twB l k b = true → ∃ s, evCode (evC Dg) f c15b1 (S15 l k) = some (.normal s) ∧ norm [0, 3] 0 s = S15 l (k + 1)) := by
          by_cases h9 : k = 0
          · exact c15_goz l k b hb hl f h0 h1 h2 h3 h4 h5 h6 h7 h8 hf h9 hcb hff
          · exact c15_gop l k b hb hl f h0 h1 h2 h3 h4 h5 h6 h7 h8 hf (by omega) (fun h => ho ⟨by omega, h⟩) hcb hff
        by_cases ht : twB l k b = true
        · have : errAt l k b = 4 := by unfold errAt; rw [if_neg hr, if_neg (by simp [hf]), if_neg ho, if_pos ht]
          rw [hbad 4 this (by decide)]
          exact .inl (hgo.1 ht)
        · exact .inr ⟨by rw [hz]; unfold errAt; rw [if_neg hr, if_neg (by simp [hf]), if_neg ho, if_neg ht], hgo.2 ht⟩
    · have : errAt l k b = framesE b.st := by unfold errAt; rw [if_neg hr, if_pos hf]
      rw [hbad _ this hf]
      exact .inl (c15_fr l k b hb hl f h0 h1 h2 h3 h4 h5 h6 h7 h8 hf)
end
set_option maxRecDepth 100000 in
theorem f15 (l : List Bk) (hl : l.length ≤ 1000) : evE Dg 15 [.sl false 7 (bRows l)] = some (.int .i64 (chkL l)) := by
  have eL := bRows_len l
  have H := fun (s0 : St) (E : Option Out) => loop_inv (body := evCode (evC Dg) 3000 c15b1) (keep := [0, 3]) (n0 := 0) (fuel := 3000) l (fun k (_ : Unit) => S15 l k) (fun k _ => ∀ j, j < k → errZ l j = 0) (R15 (chkL l)) (by
    intro k b x hb hk hG
    rcases c15_step l k b hb hl 3000 hG (by omega) with ⟨s, h1, h2⟩ | ⟨h0, s, h1, h2⟩
    · exact .inr ⟨s, h1, h2⟩
    · refine .inl ⟨(), s, h1, h2, fun j hj => ?_⟩
      rcases Nat.lt_or_ge j k with h3 | h3
      · exact hG j h3
      · obtain rfl : j = k := by omega
        exact h0) (by
    intro x _ s
    unfold c15b1
    simp [evCode, evOps, evOne, evOp, evPur, evEff, evPur.chunks, fillP, AOp.isEff, AO.ev, putP, PV.cells, PV.leaf, getB, getM, mapE, iterE, keyC, mapRows, mfind, eq1, eqL, scal, binP, unP, minP, maxP, foldP, PV.lt, PV.lt.ltL, endP, expoAll, expoG, expo, expo.expoL, frIds, frIds.frIdsL, nodupN, kill, cls, clsFuel, resO, RV.get, loadP, evC_p, evC_s, endS, endT, rowsOf, callP, thinL, unfr, unfr.unfrL, PV.noMem, PV.noMem.noMemL, optI, mapO, norm, trimT, trimB, forget, hasN, blksLt, List.set, softChk, softGo, softRd, effTg, rdP, S15, eL]) (by omega) () (fun j h => by omega) s0 E
  refine evE_intro 3000 D15 rfl ?_
  unfold c15
  simp [evCode, evOps, evOne, evOp, evPur, evEff, evPur.chunks, fillP, AOp.isEff, AO.ev, putP, PV.cells, PV.leaf, getB, getM, mapE, iterE, keyC, mapRows, mfind, eq1, eqL, scal, binP, unP, minP, maxP, foldP, PV.lt, PV.lt.ltL, endP, expoAll, expoG, expo, expo.expoL, frIds, frIds.frIdsL, nodupN, kill, cls, clsFuel, resO, RV.get, loadP, evC_p, evC_s, endS, endT, rowsOf, callP, thinL, unfr, unfr.unfrL, PV.noMem, PV.noMem.noMemL, optI, mapO, norm, trimT, trimB, forget, hasN, blksLt, List.set, softChk, softGo, softRd, effTg, rdP]
  generalize hE : evLoop (evCode (evC Dg) 3000 c15b1) [0, 3] 0 3000 _ = E
  rcases H _ E hE (by simp [evCode, evOps, evOne, evOp, evPur, evEff, evPur.chunks, fillP, AOp.isEff, AO.ev, putP, PV.cells, PV.leaf, getB, getM, mapE, iterE, keyC, mapRows, mfind, eq1, eqL, scal, binP, unP, minP, maxP, foldP, PV.lt, PV.lt.ltL, endP, expoAll, expoG, expo, expo.expoL, frIds, frIds.frIdsL, nodupN, kill, cls, clsFuel, resO, RV.get, loadP, evC_p, evC_s, endS, endT, rowsOf, callP, thinL, unfr, unfr.unfrL, PV.noMem, PV.noMem.noMemL, optI, mapO, norm, trimT, trimB, forget, hasN, blksLt, List.set, softChk, softGo, softRd, effTg, rdP, S15]) with ⟨x, h4, rfl⟩ | ⟨s, rfl, h4⟩
  · rw [chkL_ok h4]
    unfold c15b1
    simp [evCode, evOps, evOne, evOp, evPur, evEff, evPur.chunks, fillP, AOp.isEff, AO.ev, putP, PV.cells, PV.leaf, getB, getM, mapE, iterE, keyC, mapRows, mfind, eq1, eqL, scal, binP, unP, minP, maxP, foldP, PV.lt, PV.lt.ltL, endP, expoAll, expoG, expo, expo.expoL, frIds, frIds.frIdsL, nodupN, kill, cls, clsFuel, resO, RV.get, loadP, evC_p, evC_s, endS, endT, rowsOf, callP, thinL, unfr, unfr.unfrL, PV.noMem, PV.noMem.noMemL, optI, mapO, norm, trimT, trimB, forget, hasN, blksLt, List.set, softChk, softGo, softRd, effTg, rdP, S15, eL]
  · obtain ⟨sl, bl⟩ := s
    unfold R15 at h4
    simp only at h4
    simp [evCode, evOps, evOne, evOp, evPur, evEff, evPur.chunks, fillP, AOp.isEff, AO.ev, putP, PV.cells, PV.leaf, getB, getM, mapE, iterE, keyC, mapRows, mfind, eq1, eqL, scal, binP, unP, minP, maxP, foldP, PV.lt, PV.lt.ltL, endP, expoAll, expoG, expo, expo.expoL, frIds, frIds.frIdsL, nodupN, kill, cls, clsFuel, resO, RV.get, loadP, evC_p, evC_s, endS, endT, rowsOf, callP, thinL, unfr, unfr.unfrL, PV.noMem, PV.noMem.noMemL, optI, mapO, norm, trimT, trimB, forget, hasN, blksLt, List.set, softChk, softGo, softRd, effTg, rdP, h4]
end Go.Proofs.Ytalmhggbdfjalaa
