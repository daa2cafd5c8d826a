/- memory.Check, whole. -/
import Derived.Test.YtalmhggbdfjalaaMmN1
import Derived.Test.YtalmhggbdfjalaaMmN2
import Derived.Test.YtalmhggbdfjalaaMmN3
import Derived.Test.YtalmhggbdfjalaaMmN4
namespace Go.Proofs.Ytalmhggbdfjalaa
open Go Go.RowKit
set_option linter.unusedVariables false
set_option linter.unusedSectionVars false
set_option linter.unusedSimpArgs false
set_option maxHeartbeats 4000000

def J14 (l : List Bk) (k : Nat) (ms : List (Int × Int)) : Prop := ∀ n, match nget n ms with
  | some v => (∃ c ∈ l.take k, c.i = n ∧ c.e = v) ∧ ∀ c ∈ l.take k, c.i = n → c.e ≤ v
  | none => ∀ c ∈ l.take k, c.i ≠ n
theorem twB_iff {l : List Bk} {k : Nat} {b : Bk} : twB l k b = true ↔ ∃ c ∈ l.take k, c.i = b.i ∧ b.f < c.e := by
  unfold twB
  rw [List.any_eq_true]
  constructor
  · rintro ⟨c, h1, h2⟩
    simp at h2
    exact ⟨c, h1, h2⟩
  · rintro ⟨c, h1, h2, h3⟩
    exact ⟨c, h1, by simp [h2, h3]⟩
theorem take_snoc {α : Type} {l : List α} {k : Nat} {b : α} (h : l[k]? = some b) : l.take (k + 1) = l.take k ++ [b] := by
  rw [List.take_add_one, h]; rfl
theorem J14_tw {l : List Bk} {k : Nat} {ms : List (Int × Int)} {b : Bk} (h : J14 l k ms) : twB l k b = true ↔ ∃ v, nget b.i ms = some v ∧ b.f < v := by
  rw [twB_iff]
  have := h b.i
  cases hg : nget b.i ms with
  | none =>
    rw [hg] at this
    simp only at this
    constructor
    · rintro ⟨c, h1, h2, _⟩
      exact absurd h2 (this c h1)
    · rintro ⟨v, h1, _⟩; cases h1
  | some v =>
    rw [hg] at this
    simp only at this
    obtain ⟨⟨c, h1, h2, h3⟩, h4⟩ := this
    constructor
    · rintro ⟨d, h5, h6, h7⟩
      have := h4 d h5 h6
      exact ⟨v, rfl, by omega⟩
    · rintro ⟨w, h5, h6⟩
      cases h5
      exact ⟨c, h1, h2, by omega⟩
theorem J14_next {l : List Bk} {k : Nat} {ms : List (Int × Int)} {b : Bk} (hb : l[k]? = some b) (h : J14 l k ms) (ht : ¬ twB l k b = true) (hfe : b.f < b.e) : J14 l (k + 1) (nput b.i b.e ms) := by
  intro n
  rw [nget_put, take_snoc hb]
  have hn := h n
  by_cases hbn : b.i = n
  · rw [if_pos hbn]
    simp only
    refine ⟨⟨b, by simp, hbn, rfl⟩, fun c hc hcn => ?_⟩
    rcases List.mem_append.1 hc with hc | hc
    · have : ¬ b.f < c.e := fun h5 => ht (twB_iff.2 ⟨c, hc, by rw [hcn, hbn], h5⟩)
      omega
    · rw [List.mem_singleton] at hc
      rw [hc]; omega
  · rw [if_neg hbn]
    cases hg : nget n ms with
    | none =>
      rw [hg] at hn
      simp only at hn ⊢
      intro c hc
      rcases List.mem_append.1 hc with hc | hc
      · exact hn c hc
      · rw [List.mem_singleton] at hc
        rw [hc]; exact hbn
    | some v =>
      rw [hg] at hn
      simp only at hn ⊢
      obtain ⟨⟨c, h1, h2⟩, h4⟩ := hn
      refine ⟨⟨c, List.mem_append_left _ h1, h2⟩, fun d hd hdn => ?_⟩
      rcases List.mem_append.1 hd with hd | hd
      · exact h4 d hd hdn
      · rw [List.mem_singleton] at hd
        rw [hd] at hdn
        exact absurd hdn hbn
section
variable (l : List Bk) (k : Nat) (b : Bk) (hb : l[k]? = some b) (hl : l.length ≤ 1000) (ms : List (Int × Int)) (f : Nat)
include hb hl
theorem c14_rng (h : rngBad b) : ∃ s, evCode (evC Dg) f c14b0 (S14 l k ms) = some (.ret s) ∧ R14 2 s := by
  by_cases h0 : b.i < 0
  · exact c14_0 l k b hb hl ms f h0
  by_cases h1 : 1000000000000000 < b.i
  · exact c14_1 l k b hb hl ms f h0 h1
  by_cases h2 : b.t < 0
  · exact c14_2 l k b hb hl ms f h0 h1 h2
  by_cases h3 : 1000000000000000 < b.t
  · exact c14_3 l k b hb hl ms f h0 h1 h2 h3
  by_cases h4 : b.s < 1
  · exact c14_4 l k b hb hl ms f h0 h1 h2 h3 h4
  by_cases h5 : 1000000000000 < b.s
  · exact c14_5 l k b hb hl ms f h0 h1 h2 h3 h4 h5
  by_cases h6 : b.f < 0
  · exact c14_6 l k b hb hl ms f h0 h1 h2 h3 h4 h5 h6
  by_cases h7 : b.e ≤ b.f
  · exact c14_7 l k b hb hl ms f h0 h1 h2 h3 h4 h5 h6 h7
  by_cases h8 : 1000000000000 < b.e
  · exact c14_8 l k b hb hl ms f h0 h1 h2 h3 h4 h5 h6 h7 h8
  unfold rngBad at h
  exfalso
  omega
theorem c14_step (hJ : J14 l k ms) (hG : ∀ j, j < k → errZ l j = 0) : (∃ s, evCode (evC Dg) f c14b0 (S14 l k ms) = some (.ret s) ∧ R14 (chkL l) s) ∨ (errZ l k = 0 ∧ J14 l (k + 1) (nput b.i b.e ms) ∧ ∃ s, evCode (evC Dg) f c14b0 (S14 l k ms) = some (.normal s) ∧ norm [0, 3, 8, 9, 10] 1 s = S14 l (k + 1) (nput b.i b.e ms)) := by
  have hk : k < l.length := (List.getElem?_eq_some_iff.1 hb).1
  have hz : errZ l k = errAt l k b := by unfold errZ; rw [hb]
  have hbad : ∀ z : Int, errAt l k b = z → z ≠ 0 → chkL l = z := by
    intro z h1 h2
    rw [chkL_err hk (by rw [hz, h1]; exact h2) hG, hz, h1]
  by_cases hr : rngBad b
  · have : errAt l k b = 2 := by unfold errAt; rw [if_pos hr]
    rw [hbad 2 this (by decide)]
    exact .inl (c14_rng l k b hb hl ms f hr)
  · have hn := hr
    unfold rngBad at hn
    simp only [not_or] at hn
    obtain ⟨h0, h1, h2, h3, h4, h5, h6, h7, h8⟩ := hn
    by_cases hf : framesE b.st = 0
    · by_cases ho : 0 < k ∧ b.f < fAt l (k - 1)
      · have : errAt l k b = 11 := by unfold errAt; rw [if_neg hr, if_neg (by simp [hf]), if_pos ho]
        rw [hbad 11 this (by decide)]
        exact .inl (c14_or l k b hb hl ms f h0 h1 h2 h3 h4 h5 h6 h7 h8 hf ho.1 ho.2)
      · by_cases ht : twB l k b = true
        · have : errAt l k b = 4 := by unfold errAt; rw [if_neg hr, if_neg (by simp [hf]), if_neg ho, if_pos ht]
          rw [hbad 4 this (by decide)]
          obtain ⟨v, hg, hv⟩ := (J14_tw hJ).1 ht
          by_cases h9 : k = 0
          · exact .inl (c14_twz l k b hb hl ms f h0 h1 h2 h3 h4 h5 h6 h7 h8 hf h9 v hg hv)
          · exact .inl (c14_twp l k b hb hl ms f h0 h1 h2 h3 h4 h5 h6 h7 h8 hf (by omega) (fun h => ho ⟨by omega, h⟩) v hg hv)
        · right
          refine ⟨by rw [hz]; unfold errAt; rw [if_neg hr, if_neg (by simp [hf]), if_neg ho, if_neg ht], J14_next hb hJ ht (by omega), ?_⟩
          cases hg : nget b.i ms with
          | none =>
            by_cases h9 : k = 0
            · exact c14_outz l k b hb hl ms f h0 h1 h2 h3 h4 h5 h6 h7 h8 hf h9 hg
            · exact c14_outp l k b hb hl ms f h0 h1 h2 h3 h4 h5 h6 h7 h8 hf (by omega) (fun h => ho ⟨by omega, h⟩) hg
          | some v =>
            have hv : ¬ b.f < v := fun h => ht ((J14_tw hJ).2 ⟨v, hg, h⟩)
            by_cases h9 : k = 0
            · exact c14_inz l k b hb hl ms f h0 h1 h2 h3 h4 h5 h6 h7 h8 hf h9 v hg hv
            · exact c14_inp l k b hb hl ms f h0 h1 h2 h3 h4 h5 h6 h7 h8 hf (by omega) (fun h => ho ⟨by omega, h⟩) v hg hv
    · have : errAt l k b = framesE b.st := by unfold errAt; rw [if_neg hr, if_pos hf]
      rw [hbad _ this hf]
      exact .inl (c14_fr l k b hb hl ms f h0 h1 h2 h3 h4 h5 h6 h7 h8 hf)
end
set_option maxRecDepth 100000 in
theorem f14 (l : List Bk) (hl : l.length ≤ 1000) : evE Dg 14 [.sl false 7 (bRows l)] = some (.int .i64 (chkL l)) := by
  have eL := bRows_len l
  have H := fun (s0 : St) (E : Option Out) => loop_inv (body := evCode (evC Dg) 3000 c14b0) (keep := [0, 3, 8, 9, 10]) (n0 := 1) (fuel := 3000) l (fun k ms => S14 l k ms) (fun k ms => J14 l k ms ∧ ∀ j, j < k → errZ l j = 0) (R14 (chkL l)) (by
    intro k b ms hb hk ⟨hJ, hG⟩
    rcases c14_step l k b hb hl ms 3000 hJ hG with ⟨s, h1, h2⟩ | ⟨h0, hJ2, s, h1, h2⟩
    · exact .inr ⟨s, h1, h2⟩
    · refine .inl ⟨_, s, h1, h2, hJ2, fun j hj => ?_⟩
      rcases Nat.lt_or_ge j k with h3 | h3
      · exact hG j h3
      · obtain rfl : j = k := by omega
        exact h0) (by
    intro x _ s
    unfold c14b0
    simp [evCode, evOps, evOne, evOp, evPur, evEff, evPur.chunks, fillP, AOp.isEff, AO.ev, putP, PV.cells, PV.leaf, getB, getM, mapE, iterE, keyC, mapRows, mfind, eq1, eqL, scal, binP, unP, minP, maxP, foldP, PV.lt, PV.lt.ltL, endP, expoAll, expoG, expo, expo.expoL, frIds, frIds.frIdsL, nodupN, kill, cls, clsFuel, resO, RV.get, loadP, evC_p, evC_s, endS, endT, rowsOf, callP, thinL, unfr, unfr.unfrL, PV.noMem, PV.noMem.noMemL, optI, mapO, norm, trimT, trimB, forget, hasN, blksLt, List.set, softChk, softGo, softRd, effTg, rdP, S14, eL]) (by omega) [] ⟨fun n => by simp [nget], fun j h => by omega⟩ s0 E
  refine evE_intro 3000 D14 rfl ?_
  unfold c14
  simp [evCode, evOps, evOne, evOp, evPur, evEff, evPur.chunks, fillP, AOp.isEff, AO.ev, putP, PV.cells, PV.leaf, getB, getM, mapE, iterE, keyC, mapRows, mfind, eq1, eqL, scal, binP, unP, minP, maxP, foldP, PV.lt, PV.lt.ltL, endP, expoAll, expoG, expo, expo.expoL, frIds, frIds.frIdsL, nodupN, kill, cls, clsFuel, resO, RV.get, loadP, evC_p, evC_s, endS, endT, rowsOf, callP, thinL, unfr, unfr.unfrL, PV.noMem, PV.noMem.noMemL, optI, mapO, norm, trimT, trimB, forget, hasN, blksLt, List.set, softChk, softGo, softRd, effTg, rdP, eL]
  generalize hE : evLoop (evCode (evC Dg) 3000 c14b0) [0, 3, 8, 9, 10] 1 3000 _ = E
  rcases H _ E hE (by simp [evCode, evOps, evOne, evOp, evPur, evEff, evPur.chunks, fillP, AOp.isEff, AO.ev, putP, PV.cells, PV.leaf, getB, getM, mapE, iterE, keyC, mapRows, mfind, eq1, eqL, scal, binP, unP, minP, maxP, foldP, PV.lt, PV.lt.ltL, endP, expoAll, expoG, expo, expo.expoL, frIds, frIds.frIdsL, nodupN, kill, cls, clsFuel, resO, RV.get, loadP, evC_p, evC_s, endS, endT, rowsOf, callP, thinL, unfr, unfr.unfrL, PV.noMem, PV.noMem.noMemL, optI, mapO, norm, trimT, trimB, forget, hasN, blksLt, List.set, softChk, softGo, softRd, effTg, rdP, S14, nRows]) with ⟨x, ⟨h3, h4⟩, rfl⟩ | ⟨s, rfl, h4⟩
  · rw [chkL_ok h4]
    unfold c14b0
    simp [evCode, evOps, evOne, evOp, evPur, evEff, evPur.chunks, fillP, AOp.isEff, AO.ev, putP, PV.cells, PV.leaf, getB, getM, mapE, iterE, keyC, mapRows, mfind, eq1, eqL, scal, binP, unP, minP, maxP, foldP, PV.lt, PV.lt.ltL, endP, expoAll, expoG, expo, expo.expoL, frIds, frIds.frIdsL, nodupN, kill, cls, clsFuel, resO, RV.get, loadP, evC_p, evC_s, endS, endT, rowsOf, callP, thinL, unfr, unfr.unfrL, PV.noMem, PV.noMem.noMemL, optI, mapO, norm, trimT, trimB, forget, hasN, blksLt, List.set, softChk, softGo, softRd, effTg, rdP, S14, eL]
  · obtain ⟨sl, bl⟩ := s
    unfold R14 at h4
    simp only at h4
    simp [evCode, evOps, evOne, evOp, evPur, evEff, evPur.chunks, fillP, AOp.isEff, AO.ev, putP, PV.cells, PV.leaf, getB, getM, mapE, iterE, keyC, mapRows, mfind, eq1, eqL, scal, binP, unP, minP, maxP, foldP, PV.lt, PV.lt.ltL, endP, expoAll, expoG, expo, expo.expoL, frIds, frIds.frIdsL, nodupN, kill, cls, clsFuel, resO, RV.get, loadP, evC_p, evC_s, endS, endT, rowsOf, callP, thinL, unfr, unfr.unfrL, PV.noMem, PV.noMem.noMemL, optI, mapO, norm, trimT, trimB, forget, hasN, blksLt, List.set, softChk, softGo, softRd, effTg, rdP, h4]
end Go.Proofs.Ytalmhggbdfjalaa
