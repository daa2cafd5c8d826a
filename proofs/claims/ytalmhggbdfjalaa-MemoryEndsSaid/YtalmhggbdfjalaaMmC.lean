/- slices.DeleteFunc, whole. -/
import Derived.Test.YtalmhggbdfjalaaMmB
namespace Go.Proofs.Ytalmhggbdfjalaa
open Go Go.RowKit
set_option linter.unusedVariables false
set_option linter.unusedSimpArgs false
set_option maxHeartbeats 4000000

theorem exit30 (v n : Nat) (M : List Rw) (i : Nat) (D : List Rw) (f : Nat) : evCode (evC Dg) f c30b0 (S30 v n M i n D) = some (.exit 0 (X30 v n M i D)) := by
  unfold c30b0 X30
  simp [evCode, evOps, evOne, evOp, evPur, evEff, evPur.chunks, fillP, AOp.isEff, AO.ev, putP, PV.cells, PV.leaf, getB, getM, mapE, iterE, keyC, mapRows, mfind, eq1, eqL, scal, binP, unP, minP, maxP, foldP, PV.lt, PV.lt.ltL, endP, expoAll, expoG, expo, expo.expoL, frIds, frIds.frIdsL, nodupN, kill, cls, clsFuel, resO, RV.get, loadP, evC_p, evC_s, endS, endT, rowsOf, callP, thinL, unfr, unfr.unfrL, PV.noMem, PV.noMem.noMemL, optI, mapO, norm, trimT, trimB, forget, hasN, blksLt, List.set, softChk, softGo, softRd, effTg, rdP, S30, B31]
theorem fstZ_cases (l : List Rw) : (fstZ l = -1 ∧ ∀ r ∈ l, del r = false) ∨ ∃ k : Nat, fstZ l = k ∧ k < l.length ∧ (∀ r ∈ l.take k, del r = false) ∧ ∃ r, l[k]? = some r ∧ del r = true := by
  unfold fstZ
  cases h : l.findIdx? del with
  | none => exact .inl ⟨rfl, List.findIdx?_eq_none_iff.1 h⟩
  | some k =>
    obtain ⟨h1, h2, h3⟩ := List.findIdx?_eq_some_iff_getElem.1 h
    refine .inr ⟨k, rfl, h1, fun r hr => ?_, _, List.getElem?_eq_getElem h1, h2⟩
    obtain ⟨i, hi⟩ := List.mem_iff_getElem?.1 hr
    rw [List.getElem?_take] at hi
    split at hi
    · rename_i hik
      obtain ⟨h4, rfl⟩ := List.getElem?_eq_some_iff.1 hi
      simpa using h3 i hik
    · cases hi
theorem kept_all {l : List Rw} (h : ∀ r ∈ l, del r = false) : kept l = l := by
  unfold kept
  rw [List.filter_eq_self]
  intro r hr
  rw [h r hr]; rfl
/-- the loop's list: what is kept, what is passed over, the rest -/
def I30 (D : List Rw) (n k : Nat) (x : Nat × List Rw) : Prop := k + 1 ≤ x.1 ∧ x.1 ≤ n ∧ ∃ W, x.2 = kept (D.take x.1) ++ W ++ D.drop x.1 ∧ (kept (D.take x.1)).length + W.length = x.1 ∧ 0 < W.length ∧ OkLR W
set_option maxRecDepth 100000 in
theorem s30 (v n : Nat) (M : List Rw) (D : List Rw) (hn : n ≤ 1000000) (hl : D.length = n) (hO : OkLR D) :
    evS Dg 30 [.own 1 v 0 n, .fn 31 []] (B30 v M D) = some (.own 1 v 0 (kept D).length, B30 v M (kept D ++ List.replicate (n - (kept D).length) zRow)) := by
  have h44 := f44 D hO (by omega)
  have htk : D.take n = D := List.take_of_length_le (by omega)
  rcases fstZ_cases D with ⟨hz, hall⟩ | ⟨k, hz, hk, hall, r0, hr0, hd0⟩
  · rw [hz] at h44
    rw [kept_all hall, hl, Nat.sub_self, List.replicate_zero, List.append_nil]
    refine evS_intro (n + 2) D30 rfl ?_
    unfold c30
    simp [evCode, evOps, evOne, evOp, evPur, evEff, evPur.chunks, fillP, AOp.isEff, AO.ev, putP, PV.cells, PV.leaf, getB, getM, mapE, iterE, keyC, mapRows, mfind, eq1, eqL, scal, binP, unP, minP, maxP, foldP, PV.lt, PV.lt.ltL, endP, expoAll, expoG, expo, expo.expoL, frIds, frIds.frIdsL, nodupN, kill, cls, clsFuel, resO, RV.get, loadP, evC_p, evC_s, endS, endT, rowsOf, callP, thinL, unfr, unfr.unfrL, PV.noMem, PV.noMem.noMemL, optI, mapO, norm, trimT, trimB, forget, hasN, blksLt, List.set, softChk, softGo, softRd, effTg, rdP, B30, hl, htk, h44]
  · rw [hz] at h44
    have hkt : kept (D.take (k + 1)) = D.take k := by
      rw [List.take_add_one, hr0]
      have := kept_snoc (D.take k) r0
      rw [if_pos hd0, kept_all hall, List.append_nil] at this
      exact this
    have hst : I30 D n k (k + 1, D) := by
      refine ⟨Nat.le_refl _, by simp only; omega, [r0], ?_, ?_, by simp, ?_⟩
      · simp only
        rw [hkt]
        have h1 : D.drop k = r0 :: D.drop (k + 1) := by
          rw [List.drop_eq_getElem_cons hk]
          congr 1
          exact (List.getElem?_eq_some_iff.1 hr0).2
        rw [List.append_assoc, List.singleton_append, ← h1, List.take_append_drop]
      · simp only
        rw [hkt, List.length_take, List.length_singleton]; omega
      · intro r hr
        rw [List.mem_singleton] at hr
        rw [hr]; exact hO r0 (List.mem_of_getElem? hr0)
    have hW := fun (f : Nat) (hf : n < f) (s0 : St) (E : Option Out) => loop_while (body := evCode (evC Dg) f c30b0) (keep := [0, 1, 5, 6]) (n0 := 4) (fuel := f) (fun x : Nat × List Rw => S30 v n M (kept (D.take x.1)).length x.1 x.2) (fun x => n - x.1) (I30 D n k) (fun o => ∃ W, (kept D).length + W.length = n ∧ o = .exit 0 (X30 v n M (kept D).length (kept D ++ W))) (by
      rintro ⟨j, D'⟩ ⟨h1, h2, W, h3, h4, h5, h6⟩
      simp only at h1 h2 h3 h4
      by_cases hj : j < n
      · left
        obtain ⟨r, hr⟩ : ∃ r, D[j]? = some r := ⟨_, List.getElem?_eq_getElem (by omega)⟩
        have hdr : D.drop j = r :: D.drop (j + 1) := by
          rw [List.drop_eq_getElem_cons (by omega)]
          congr 1
          exact (List.getElem?_eq_some_iff.1 hr).2
        have hD'l : D'.length = n := by rw [h3]; simp only [List.length_append, List.length_drop]; omega
        have hr2 : D'[j]? = some r := by
          rw [h3, List.getElem?_append_right (by rw [List.length_append]; omega), List.length_append, show j - ((kept (D.take j)).length + W.length) = 0 by omega, hdr]; rfl
        have hO' : OkLR D' := by
          intro q hq
          rw [h3] at hq
          simp only [List.mem_append] at hq
          rcases hq with (h | h) | h
          · exact hO q (List.mem_of_mem_take (List.mem_filter.1 h).1)
          · exact h6 q h
          · exact hO q (List.mem_of_mem_drop h)
        obtain ⟨s, e1, e2⟩ := step30 v n M (kept (D.take j)).length j D' f hn hD'l hj (by omega) r hr2 (hO r (List.mem_of_getElem? hr)) hO'
        have hkn := kept_snoc (D.take j) r
        rw [show D.take j ++ [r] = D.take (j + 1) by rw [List.take_add_one, hr]; rfl] at hkn
        by_cases hd : del r = true
        · rw [if_pos hd, List.append_nil] at hkn
          rw [if_pos hd, if_pos hd] at e2
          refine ⟨(j + 1, D'), s, e1, by rw [e2]; simp only [hkn], ⟨by simp only; omega, by simp only; omega, W ++ [r], ?_, ?_, by simp, ?_⟩, by simp only; omega⟩
          · simp only; rw [hkn, h3, hdr]; simp
          · simp only; rw [hkn, List.length_append, List.length_singleton]; omega
          · intro q hq
            rcases List.mem_append.1 hq with h | h
            · exact h6 q h
            · rw [List.mem_singleton] at h; rw [h]; exact hO r (List.mem_of_getElem? hr)
        · rw [if_neg hd] at hkn
          rw [if_neg hd, if_neg hd] at e2
          obtain ⟨w, W1, rfl⟩ : ∃ w W1, W = w :: W1 := by
            cases W with
            | nil => simp at h5
            | cons w W1 => exact ⟨w, W1, rfl⟩
          have hset : D'.set (kept (D.take j)).length r = kept (D.take (j + 1)) ++ (W1 ++ [r]) ++ D.drop (j + 1) := by
            rw [h3, hkn, hdr, List.append_assoc, List.set_append_right _ _ (Nat.le_refl _), Nat.sub_self]
            simp
          refine ⟨(j + 1, D'.set (kept (D.take j)).length r), s, e1, by rw [e2]; simp only [hkn, List.length_append, List.length_singleton], ⟨by simp only; omega, by simp only; omega, W1 ++ [r], hset, ?_, by simp, ?_⟩, by simp only; omega⟩
          · simp only; rw [hkn]; simp only [List.length_append, List.length_nil, List.length_cons] at h4 ⊢; omega
          · intro q hq
            rcases List.mem_append.1 hq with h | h
            · exact h6 q (List.mem_cons_of_mem _ h)
            · rw [List.mem_singleton] at h; rw [h]; exact hO r (List.mem_of_getElem? hr)
      · right
        obtain rfl : j = n := by omega
        rw [htk] at h3 h4
        rw [List.drop_of_length_le (by omega), List.append_nil] at h3
        refine ⟨_, ?_, fun s h => (by cases h), W, h4, rfl⟩
        simp only
        rw [htk, exit30, h3]) (k + 1, D) hst (by simp only; omega) s0 E
    have w1 : IntKind.i64.wrap ((k : Int) + 1) = ((k + 1 : Nat) : Int) := by rw [wrap_i64 _ (by omega) (by omega)]; omega
    have c1 : ¬ (k : Int) = -1 := by omega
    have hkl : (kept (D.take (k + 1))).length = k := by rw [hkt, List.length_take]; omega
    generalize hKK : kept D = K at *
    have hKn : K.length ≤ n := by rw [← hKK, ← hl]; exact kept_len D
    refine evS_intro (n + 2) D30 rfl ?_
    unfold c30
    simp [evCode, evOps, evOne, evOp, evPur, evEff, evPur.chunks, fillP, AOp.isEff, AO.ev, putP, PV.cells, PV.leaf, getB, getM, mapE, iterE, keyC, mapRows, mfind, eq1, eqL, scal, binP, unP, minP, maxP, foldP, PV.lt, PV.lt.ltL, endP, expoAll, expoG, expo, expo.expoL, frIds, frIds.frIdsL, nodupN, kill, cls, clsFuel, resO, RV.get, loadP, evC_p, evC_s, endS, endT, rowsOf, callP, thinL, unfr, unfr.unfrL, PV.noMem, PV.noMem.noMemL, optI, mapO, norm, trimT, trimB, forget, hasN, blksLt, List.set, softChk, softGo, softRd, effTg, rdP, B30, hl, htk, h44, c1, w1]
    generalize hE : evLoop (evCode (evC Dg) (n + 2) c30b0) [0, 1, 5, 6] 4 (n + 2) _ = E
    obtain ⟨o, rfl, W, hWl, rfl⟩ := hW (n + 2) (by omega) _ E hE (by
      simp only [hkl]
      simp [evCode, evOps, evOne, evOp, evPur, evEff, evPur.chunks, fillP, AOp.isEff, AO.ev, putP, PV.cells, PV.leaf, getB, getM, mapE, iterE, keyC, mapRows, mfind, eq1, eqL, scal, binP, unP, minP, maxP, foldP, PV.lt, PV.lt.ltL, endP, expoAll, expoG, expo, expo.expoL, frIds, frIds.frIdsL, nodupN, kill, cls, clsFuel, resO, RV.get, loadP, evC_p, evC_s, endS, endT, rowsOf, callP, thinL, unfr, unfr.unfrL, PV.noMem, PV.noMem.noMemL, optI, mapO, norm, trimT, trimB, forget, hasN, blksLt, List.set, softChk, softGo, softRd, effTg, rdP, S30, B31])
    clear hE hW hst
    have t1 : (K ++ W).take K.length = K := by simp
    have t2 : (K ++ W).drop n = [] := List.drop_of_length_le (by rw [List.length_append]; omega)
    have t3 : (K ++ W).length = n := by rw [List.length_append]; omega
    have c2 : K.length ≤ n := hKn
    have c3 : K.length + (n - K.length) = n := by omega
    generalize K ++ W = D2 at *
    generalize hkk : K.length = kk at *
    unfold X30
    have c4 : (kk : Int) ≤ n := by omega
    simp [evCode, evOps, evOne, evOp, evPur, evEff, evPur.chunks, fillP, AOp.isEff, AO.ev, putP, PV.cells, PV.leaf, getB, getM, mapE, iterE, keyC, mapRows, mfind, eq1, eqL, scal, binP, unP, minP, maxP, foldP, PV.lt, PV.lt.ltL, endP, expoAll, expoG, expo, expo.expoL, frIds, frIds.frIdsL, nodupN, kill, cls, clsFuel, resO, RV.get, loadP, evC_p, evC_s, endS, endT, rowsOf, callP, thinL, unfr, unfr.unfrL, PV.noMem, PV.noMem.noMemL, optI, mapO, norm, trimT, trimB, forget, hasN, blksLt, List.set, softChk, softGo, softRd, effTg, rdP, B30, B31, t1, t2, t3, c2, c3, c4, zRow]
end Go.Proofs.Ytalmhggbdfjalaa
