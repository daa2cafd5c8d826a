/- Points of the reference. -/
import Derived.Test.YtkdalahepedghaaPtA
namespace Go.Proofs.Ytkdalahepedghaa
open Go Go.RowKit
set_option maxHeartbeats 4000000
set_option linter.unusedVariables false
set_option linter.unusedSimpArgs false

theorem ins_pw {l : List Int} {k : Nat} {n : Int} (hp : l.Pairwise (· < ·)) (h1 : ∀ j a, j < k → l[j]? = some a → a < n) (h2 : ∀ a, l[k]? = some a → n < a) : (l.take k ++ n :: l.drop k).Pairwise (· < ·) := by
  have hb : ∀ b, b ∈ l.drop k → n < b := by
    intro b hb
    obtain ⟨i, hi, e⟩ := List.getElem_of_mem hb
    rw [List.length_drop] at hi
    rw [List.getElem_drop] at e
    have hk : l[k]? = some (l[k]'(by omega)) := List.getElem?_eq_getElem (by omega)
    have := h2 _ hk
    by_cases q : i = 0
    · subst q; simp only [Nat.add_zero] at e; omega
    · have := List.pairwise_iff_getElem.1 hp k (k + i) (by omega) (by omega) (by omega)
      omega
  have ha : ∀ a, a ∈ l.take k → a < n := by
    intro a ha
    obtain ⟨j, hj, e⟩ := List.getElem_of_mem ha
    rw [List.length_take] at hj
    rw [List.getElem_take] at e
    exact h1 j a (by omega) (by rw [← e]; exact List.getElem?_eq_getElem _)
  rw [List.pairwise_append]
  refine ⟨hp.sublist (List.take_sublist k l), List.pairwise_cons.2 ⟨hb, hp.sublist (List.drop_sublist k l)⟩, ?_⟩
  intro a haa b hbb
  have := ha a haa
  rcases List.mem_cons.1 hbb with rfl | hbb
  · exact this
  · have := hb b hbb
    omega
def S30 (l : List Int) (n : Int) (k : Nat) : St := ⟨[.sl false 1 (zRows l), .int .i64 n, .top, .top, .top, .int .i64 k] ++ List.replicate 42 .top, [some ⟨0, 1, true, []⟩]⟩
set_option maxRecDepth 100000 in
theorem turn30 (l : List Int) (n : Int) (hl : l.length ≤ 1000) (s0 : St) (E : Option Out)
    (hE : evLoop (evCode (evC Dg) 1100 c30b0) [0, 1, 5] 1 1100 s0 = E) (h0 : norm [0, 1, 5] 1 s0 = S30 l n 0) :
    ∃ k, k ≤ l.length ∧ (∀ j a, j < k → l[j]? = some a → a < n) ∧ (∀ a, l[k]? = some a → n ≤ a) ∧ E = evCode (evC Dg) 1100 c30b0 (S30 l n k) := by
  have eL := zRows_len l
  have H := loop_while (body := evCode (evC Dg) 1100 c30b0) (keep := [0, 1, 5]) (n0 := 1) (S30 l n) (fun k => 1001 - k) (fun k => k ≤ l.length ∧ ∀ j a, j < k → l[j]? = some a → a < n)
    (fun o => ∃ k, k ≤ l.length ∧ (∀ j a, j < k → l[j]? = some a → a < n) ∧ (∀ a, l[k]? = some a → n ≤ a) ∧ some o = evCode (evC Dg) 1100 c30b0 (S30 l n k)) ?_ (fuel := 1100) 0 ⟨by omega, by intro j a hj; omega⟩ (by decide) s0 E hE h0
  · obtain ⟨o, h1, k, h2, h3, h4, h5⟩ := H
    exact ⟨k, h2, h3, h4, by rw [h1, h5]⟩
  · rintro k ⟨hk, hI⟩
    have w1 := wrap_i64 ((k : Int) + 1) (by omega) (by omega)
    by_cases hlt : k < l.length
    · have hlt' : (k : Int) < l.length := by omega
      have ha : l[k]? = some l[k] := List.getElem?_eq_getElem hlt
      generalize l[k] = a at ha
      have ga := zRows_get ha
      have ga' : (zRows l)[k]'(by rw [eL]; exact hlt) = [PV.int .i64 a] := (List.getElem?_eq_some_iff.1 ga).2
      by_cases hn : a < n
      · left
        refine ⟨k + 1, ?_⟩
        have J : (k + 1 ≤ l.length ∧ ∀ j b, j < k + 1 → l[j]? = some b → b < n) ∧ 1001 - (k + 1) < 1001 - k := by
          refine ⟨⟨by omega, fun j b hj hb => ?_⟩, by omega⟩
          by_cases q : j = k
          · subst q; rw [ha] at hb; obtain rfl := Option.some.inj hb; exact hn
          · exact hI j b (by omega) hb
        refine (fun ⟨s', q1, q2⟩ => ⟨s', q1, q2, J⟩ : (∃ s', _ ∧ _) → _) ?_
        unfold c30b0
        simp [evCode, evOps, evOne, evOp, evPur, evEff, evPur.chunks, fillP, AOp.isEff, AO.ev, putP, PV.cells, PV.leaf, getB, getM, mapE, keyC, mapRows, mfind, eq1, eqL, scal, binP, unP, minP, maxP, foldP, PV.lt, PV.lt.ltL, endP, expoAll, expo, expo.expoL, frIds, frIds.frIdsL, nodupN, kill, cls, clsFuel, resO, RV.get, loadP, evC_p, evC_s, endS, endT, rowsOf, callP, thinL, unfr, unfr.unfrL, PV.noMem, PV.noMem.noMemL, optI, mapO, norm, trimT, trimB, forget, hasN, blksLt, List.set, softChk, softGo, softRd, effTg, rdP, S30, eL, hlt, hlt', ga, ga', hn, w1]
      · right
        have key : ∃ s, evCode (evC Dg) 1100 c30b0 (S30 l n k) = some (.exit 0 s) := by
          unfold c30b0
          simp [evCode, evOps, evOne, evOp, evPur, evEff, evPur.chunks, fillP, AOp.isEff, AO.ev, putP, PV.cells, PV.leaf, getB, getM, mapE, keyC, mapRows, mfind, eq1, eqL, scal, binP, unP, minP, maxP, foldP, PV.lt, PV.lt.ltL, endP, expoAll, expo, expo.expoL, frIds, frIds.frIdsL, nodupN, kill, cls, clsFuel, resO, RV.get, loadP, evC_p, evC_s, endS, endT, rowsOf, callP, thinL, unfr, unfr.unfrL, PV.noMem, PV.noMem.noMemL, optI, mapO, norm, trimT, trimB, forget, hasN, blksLt, List.set, softChk, softGo, softRd, effTg, rdP, S30, eL, hlt, hlt', ga, ga', hn]
        obtain ⟨s, hs⟩ := key
        exact ⟨_, hs, (by intro s' e; cases e), k, hk, hI, (fun b hb => by rw [ha] at hb; obtain rfl := Option.some.inj hb; omega), hs.symm⟩
    · right
      have hlt' : ¬ (k : Int) < l.length := by omega
      have key : ∃ s, evCode (evC Dg) 1100 c30b0 (S30 l n k) = some (.exit 0 s) := by
        unfold c30b0
        simp [evCode, evOps, evOne, evOp, evPur, evEff, evPur.chunks, fillP, AOp.isEff, AO.ev, putP, PV.cells, PV.leaf, getB, getM, mapE, keyC, mapRows, mfind, eq1, eqL, scal, binP, unP, minP, maxP, foldP, PV.lt, PV.lt.ltL, endP, expoAll, expo, expo.expoL, frIds, frIds.frIdsL, nodupN, kill, cls, clsFuel, resO, RV.get, loadP, evC_p, evC_s, endS, endT, rowsOf, callP, thinL, unfr, unfr.unfrL, PV.noMem, PV.noMem.noMemL, optI, mapO, norm, trimT, trimB, forget, hasN, blksLt, List.set, softChk, softGo, softRd, effTg, rdP, S30, eL, hlt, hlt']
      obtain ⟨s, hs⟩ := key
      exact ⟨_, hs, (by intro s' e; cases e), k, hk, hI, (fun b hb => by rw [List.getElem?_eq_none (by omega)] at hb; cases hb), hs.symm⟩
end Go.Proofs.Ytkdalahepedghaa
