/- valid and count of the statements. -/
import Derived.Test.YtalmhggbdfjalaaMmK1
import Derived.Test.YtalmhggbdfjalaaMmK2
import Derived.Test.YtalmhggbdfjalaaMmK3
namespace Go.Proofs.Ytalmhggbdfjalaa
open Go Go.RowKit
set_option linter.unusedVariables false
set_option linter.unusedSectionVars false
set_option linter.unusedSimpArgs false
set_option maxHeartbeats 4000000

section
variable (l : List Td) (k : Nat) (t : Td) (ht : l[k]? = some t) (hl : l.length ≤ 1000) (f : Nat)
include ht hl
theorem v_bad (h : badT l k t) : ∃ s, evCode (evC Dg) f c22b0 (S22 l k) = some (.ret s) ∧ R22 s := by
  by_cases h1 : t.th < 0
  · exact v1 l k t ht hl f h1
  by_cases h2 : 1000000000000000 < t.th
  · exact v2 l k t ht hl f h1 h2
  by_cases h3 : t.n < 0
  · exact v3 l k t ht hl f h1 h2 h3
  by_cases h4 : 1000000000000000 < t.n
  · exact v4 l k t ht hl f h1 h2 h3 h4
  by_cases h5 : t.kd = 11
  · by_cases h6 : t.m < 1
    · exact v5 l k t ht hl f h1 h2 h3 h4 h5 h6
    by_cases h7 : 1000000000000 < t.m
    · exact v6 l k t ht hl f h1 h2 h3 h4 h5 h6 h7
    by_cases h8 : framesE t.st = 0
    · rcases h with h | h | h | h | ⟨_, h | h | h⟩ | ⟨h9, h10⟩
      · exact absurd h h1
      · exact absurd h h2
      · exact absurd h h3
      · exact absurd h h4
      · exact absurd h h6
      · exact absurd h h7
      · exact absurd h8 h
      · exact w1a l k t ht hl f h1 h2 h3 h4 h5 h6 h7 h8 h9 h10
    · exact v7 l k t ht hl f h1 h2 h3 h4 h5 h6 h7 h8
  · rcases h with h | h | h | h | ⟨h, _⟩ | ⟨h9, h10⟩
    · exact absurd h h1
    · exact absurd h h2
    · exact absurd h h3
    · exact absurd h h4
    · exact absurd h h5
    · exact w1b l k t ht hl f h1 h2 h3 h4 h5 h9 h10
theorem v_ok (h : ¬ badT l k t) : ∃ s, evCode (evC Dg) f c22b0 (S22 l k) = some (.normal s) ∧ norm [0, 3] 0 s = S22 l (k + 1) := by
  unfold badT at h
  have h1 : ¬ t.th < 0 := fun e => h (.inl e)
  have h2 : ¬ 1000000000000000 < t.th := fun e => h (.inr (.inl e))
  have h3 : ¬ t.n < 0 := fun e => h (.inr (.inr (.inl e)))
  have h4 : ¬ 1000000000000000 < t.n := fun e => h (.inr (.inr (.inr (.inl e))))
  have hA : ¬ (t.kd = 11 ∧ (t.m < 1 ∨ 1000000000000 < t.m ∨ framesE t.st ≠ 0)) := fun e => h (.inr (.inr (.inr (.inr (.inl e)))))
  have hB : ¬ (0 < k ∧ tm t < tmAt l (k - 1)) := fun e => h (.inr (.inr (.inr (.inr (.inr e)))))
  by_cases h5 : t.kd = 11
  · have h6 : ¬ t.m < 1 := fun e => hA ⟨h5, .inl e⟩
    have h7 : ¬ 1000000000000 < t.m := fun e => hA ⟨h5, .inr (.inl e)⟩
    have h8 : framesE t.st = 0 := by
      by_cases e : framesE t.st = 0
      · exact e
      · exact absurd ⟨h5, .inr (.inr e)⟩ hA
    by_cases h9 : k = 0
    · exact w0a l k t ht hl f h1 h2 h3 h4 h5 h6 h7 h8 h9
    · exact w2a l k t ht hl f h1 h2 h3 h4 h5 h6 h7 h8 (by omega) (fun e => hB ⟨by omega, e⟩)
  · by_cases h9 : k = 0
    · exact w0b l k t ht hl f h1 h2 h3 h4 h5 h9
    · exact w2b l k t ht hl f h1 h2 h3 h4 h5 (by omega) (fun e => hB ⟨by omega, e⟩)
end
def okT (l : List Td) : Prop := ∀ k t, l[k]? = some t → ¬ badT l k t
set_option maxRecDepth 100000 in
theorem f22 (l : List Td) (hl : l.length ≤ 1000) : (evE Dg 22 [.sl false 10 (tRows l)] = some (.bool true) ∧ okT l) ∨ (evE Dg 22 [.sl false 10 (tRows l)] = some (.bool false) ∧ ¬ okT l) := by
  have eL := tRows_len l
  have H := fun (s0 : St) (E : Option Out) => loop_inv (body := evCode (evC Dg) 3000 c22b0) (keep := [0, 3]) (n0 := 0) (fuel := 3000) l (fun k (_ : Unit) => S22 l k) (fun k _ => ∀ j t, j < k → l[j]? = some t → ¬ badT l j t) (fun s => R22 s ∧ ¬ okT l) (by
    intro k t x ht hk hI
    by_cases hb : badT l k t
    · obtain ⟨s, h1, h2⟩ := v_bad l k t ht hl 3000 hb
      exact .inr ⟨s, h1, h2, fun h => h k t ht hb⟩
    · obtain ⟨s, h1, h2⟩ := v_ok l k t ht hl 3000 hb
      refine .inl ⟨(), s, h1, h2, fun j u hj hu => ?_⟩
      rcases Nat.lt_or_ge j k with h3 | h3
      · exact hI j u h3 hu
      · obtain rfl : j = k := by omega
        rw [ht] at hu
        cases hu
        exact hb) (by
    intro x _ s
    unfold c22b0
    simp [evCode, evOps, evOne, evOp, evPur, evEff, evPur.chunks, fillP, AOp.isEff, AO.ev, putP, PV.cells, PV.leaf, getB, getM, mapE, iterE, keyC, mapRows, mfind, eq1, eqL, scal, binP, unP, minP, maxP, foldP, PV.lt, PV.lt.ltL, endP, expoAll, expoG, expo, expo.expoL, frIds, frIds.frIdsL, nodupN, kill, cls, clsFuel, resO, RV.get, loadP, evC_p, evC_s, endS, endT, rowsOf, callP, thinL, unfr, unfr.unfrL, PV.noMem, PV.noMem.noMemL, optI, mapO, norm, trimT, trimB, forget, hasN, blksLt, List.set, softChk, softGo, softRd, effTg, rdP, S22, eL]) (by omega) () (fun j t h => by omega) s0 E
  by_cases hok : okT l
  · refine .inl ⟨?_, hok⟩
    refine evE_intro 3000 D22 rfl ?_
    unfold c22
    simp [evCode, evOps, evOne, evOp, evPur, evEff, evPur.chunks, fillP, AOp.isEff, AO.ev, putP, PV.cells, PV.leaf, getB, getM, mapE, iterE, keyC, mapRows, mfind, eq1, eqL, scal, binP, unP, minP, maxP, foldP, PV.lt, PV.lt.ltL, endP, expoAll, expoG, expo, expo.expoL, frIds, frIds.frIdsL, nodupN, kill, cls, clsFuel, resO, RV.get, loadP, evC_p, evC_s, endS, endT, rowsOf, callP, thinL, unfr, unfr.unfrL, PV.noMem, PV.noMem.noMemL, optI, mapO, norm, trimT, trimB, forget, hasN, blksLt, List.set, softChk, softGo, softRd, effTg, rdP]
    generalize hE : evLoop (evCode (evC Dg) 3000 c22b0) [0, 3] 0 3000 _ = E
    rcases H _ E hE (by simp [evCode, evOps, evOne, evOp, evPur, evEff, evPur.chunks, fillP, AOp.isEff, AO.ev, putP, PV.cells, PV.leaf, getB, getM, mapE, iterE, keyC, mapRows, mfind, eq1, eqL, scal, binP, unP, minP, maxP, foldP, PV.lt, PV.lt.ltL, endP, expoAll, expoG, expo, expo.expoL, frIds, frIds.frIdsL, nodupN, kill, cls, clsFuel, resO, RV.get, loadP, evC_p, evC_s, endS, endT, rowsOf, callP, thinL, unfr, unfr.unfrL, PV.noMem, PV.noMem.noMemL, optI, mapO, norm, trimT, trimB, forget, hasN, blksLt, List.set, softChk, softGo, softRd, effTg, rdP, S22]) with ⟨x, h3, rfl⟩ | ⟨s, rfl, h4, h5⟩
    · unfold c22b0
      simp [evCode, evOps, evOne, evOp, evPur, evEff, evPur.chunks, fillP, AOp.isEff, AO.ev, putP, PV.cells, PV.leaf, getB, getM, mapE, iterE, keyC, mapRows, mfind, eq1, eqL, scal, binP, unP, minP, maxP, foldP, PV.lt, PV.lt.ltL, endP, expoAll, expoG, expo, expo.expoL, frIds, frIds.frIdsL, nodupN, kill, cls, clsFuel, resO, RV.get, loadP, evC_p, evC_s, endS, endT, rowsOf, callP, thinL, unfr, unfr.unfrL, PV.noMem, PV.noMem.noMemL, optI, mapO, norm, trimT, trimB, forget, hasN, blksLt, List.set, softChk, softGo, softRd, effTg, rdP, S22, eL]
    · exact absurd hok h5
  · refine .inr ⟨?_, hok⟩
    refine evE_intro 3000 D22 rfl ?_
    unfold c22
    simp [evCode, evOps, evOne, evOp, evPur, evEff, evPur.chunks, fillP, AOp.isEff, AO.ev, putP, PV.cells, PV.leaf, getB, getM, mapE, iterE, keyC, mapRows, mfind, eq1, eqL, scal, binP, unP, minP, maxP, foldP, PV.lt, PV.lt.ltL, endP, expoAll, expoG, expo, expo.expoL, frIds, frIds.frIdsL, nodupN, kill, cls, clsFuel, resO, RV.get, loadP, evC_p, evC_s, endS, endT, rowsOf, callP, thinL, unfr, unfr.unfrL, PV.noMem, PV.noMem.noMemL, optI, mapO, norm, trimT, trimB, forget, hasN, blksLt, List.set, softChk, softGo, softRd, effTg, rdP]
    generalize hE : evLoop (evCode (evC Dg) 3000 c22b0) [0, 3] 0 3000 _ = E
    rcases H _ E hE (by simp [evCode, evOps, evOne, evOp, evPur, evEff, evPur.chunks, fillP, AOp.isEff, AO.ev, putP, PV.cells, PV.leaf, getB, getM, mapE, iterE, keyC, mapRows, mfind, eq1, eqL, scal, binP, unP, minP, maxP, foldP, PV.lt, PV.lt.ltL, endP, expoAll, expoG, expo, expo.expoL, frIds, frIds.frIdsL, nodupN, kill, cls, clsFuel, resO, RV.get, loadP, evC_p, evC_s, endS, endT, rowsOf, callP, thinL, unfr, unfr.unfrL, PV.noMem, PV.noMem.noMemL, optI, mapO, norm, trimT, trimB, forget, hasN, blksLt, List.set, softChk, softGo, softRd, effTg, rdP, S22]) with ⟨x, h3, rfl⟩ | ⟨s, rfl, h4, h5⟩
    · exact absurd (fun k t ht => h3 k t (List.getElem?_eq_some_iff.1 ht).1 ht) hok
    · obtain ⟨sl, bl⟩ := s
      unfold R22 at h4
      simp only at h4
      simp [evCode, evOps, evOne, evOp, evPur, evEff, evPur.chunks, fillP, AOp.isEff, AO.ev, putP, PV.cells, PV.leaf, getB, getM, mapE, iterE, keyC, mapRows, mfind, eq1, eqL, scal, binP, unP, minP, maxP, foldP, PV.lt, PV.lt.ltL, endP, expoAll, expoG, expo, expo.expoL, frIds, frIds.frIdsL, nodupN, kill, cls, clsFuel, resO, RV.get, loadP, evC_p, evC_s, endS, endT, rowsOf, callP, thinL, unfr, unfr.unfrL, PV.noMem, PV.noMem.noMemL, optI, mapO, norm, trimT, trimB, forget, hasN, blksLt, List.set, softChk, softGo, softRd, effTg, rdP, h4]
theorem okT_times {l : List Td} (h : okT l) {i j : Nat} {t u : Td} (hij : i ≤ j) (ht : l[i]? = some t) (hu : l[j]? = some u) : tm t ≤ tm u := by
  induction j generalizing u with
  | zero =>
    obtain rfl : i = 0 := by omega
    rw [ht] at hu; cases hu; omega
  | succ j ih =>
    rcases Nat.lt_or_ge j i with h1 | h1
    · obtain rfl : i = j + 1 := by omega
      rw [ht] at hu; cases hu; omega
    · obtain ⟨w, hw⟩ : ∃ w, l[j]? = some w := ⟨_, List.getElem?_eq_getElem (by have := (List.getElem?_eq_some_iff.1 hu).1; omega)⟩
      have h2 := ih h1 hw
      have h3 := h (j + 1) u hu
      have h4 : ¬ tm u < tm w := by
        intro h5
        refine h3 (.inr (.inr (.inr (.inr (.inr ⟨by omega, ?_⟩)))))
        unfold tmAt
        rw [Nat.add_sub_cancel, hw]
        exact h5
      omega
/-- events of a kind -/
def cntT (l : List Td) (z : Int) : Nat := (l.filter fun t => decide (t.kd = z)).length
def S23 (l : List Td) (z : Int) (k : Nat) (n : Nat) : St := ⟨[.sl false 10 (tRows l), .int .i64 z, .top, .top, .top, .int .i64 n, .int .i64 k] ++ List.replicate 17 .top, []⟩
set_option maxRecDepth 100000 in
theorem f23 (l : List Td) (z : Int) (hl : l.length ≤ 1000) : evE Dg 23 [.sl false 10 (tRows l), .int .i64 z] = some (.int .i64 (cntT l z)) := by
  have eL := tRows_len l
  have H := fun (s0 : St) (E : Option Out) => loop_inv (body := evCode (evC Dg) 3000 c23b0) (keep := [0, 1, 5, 6]) (n0 := 0) (fuel := 3000) l (fun k n => S23 l z k n) (fun k n => n = cntT (l.take k) z) (fun _ => False) (by
    intro k t n ht hk hI
    left
    have hk' : (k : Int) < l.length := by omega
    have w1 := wrap_i64 ((k : Int) + 1) (by omega) (by omega)
    have hn : n ≤ k := by
      rw [hI]
      have := List.length_filter_le (fun t : Td => decide (t.kd = z)) (l.take k)
      rw [List.length_take] at this
      unfold cntT
      omega
    have w2 := wrap_i64 ((n : Int) + 1) (by omega) (by omega)
    have eg := tRows_get ht
    have eg' := tRows_getE ht
    have htk : cntT (l.take (k + 1)) z = n + if t.kd = z then 1 else 0 := by
      rw [List.take_add_one, ht, hI]
      unfold cntT
      rw [List.filter_append, List.length_append]
      congr 1
      by_cases hz : t.kd = z
      · simp [hz]
      · simp [hz]
    by_cases hz : t.kd = z
    · rw [if_pos hz] at htk
      refine ⟨n + 1, ?_⟩
      suffices h : ∃ s', evCode (evC Dg) 3000 c23b0 (S23 l z k n) = some (.normal s') ∧ norm [0, 1, 5, 6] 0 s' = S23 l z (k + 1) (n + 1) by
        obtain ⟨s', h1, h2⟩ := h
        exact ⟨s', h1, h2, htk.symm⟩
      unfold c23b0
      simp [evCode, evOps, evOne, evOp, evPur, evEff, evPur.chunks, fillP, AOp.isEff, AO.ev, putP, PV.cells, PV.leaf, getB, getM, mapE, iterE, keyC, mapRows, mfind, eq1, eqL, scal, binP, unP, minP, maxP, foldP, PV.lt, PV.lt.ltL, endP, expoAll, expoG, expo, expo.expoL, frIds, frIds.frIdsL, nodupN, kill, cls, clsFuel, resO, RV.get, loadP, evC_p, evC_s, endS, endT, rowsOf, callP, thinL, unfr, unfr.unfrL, PV.noMem, PV.noMem.noMemL, optI, mapO, norm, trimT, trimB, forget, hasN, blksLt, List.set, softChk, softGo, softRd, effTg, rdP, S23, hk, hk', w1, w2, eL, eg, eg', tRow, eTx, hz]
    · rw [if_neg hz] at htk
      refine ⟨n, ?_⟩
      suffices h : ∃ s', evCode (evC Dg) 3000 c23b0 (S23 l z k n) = some (.normal s') ∧ norm [0, 1, 5, 6] 0 s' = S23 l z (k + 1) n by
        obtain ⟨s', h1, h2⟩ := h
        exact ⟨s', h1, h2, htk.symm⟩
      unfold c23b0
      simp [evCode, evOps, evOne, evOp, evPur, evEff, evPur.chunks, fillP, AOp.isEff, AO.ev, putP, PV.cells, PV.leaf, getB, getM, mapE, iterE, keyC, mapRows, mfind, eq1, eqL, scal, binP, unP, minP, maxP, foldP, PV.lt, PV.lt.ltL, endP, expoAll, expoG, expo, expo.expoL, frIds, frIds.frIdsL, nodupN, kill, cls, clsFuel, resO, RV.get, loadP, evC_p, evC_s, endS, endT, rowsOf, callP, thinL, unfr, unfr.unfrL, PV.noMem, PV.noMem.noMemL, optI, mapO, norm, trimT, trimB, forget, hasN, blksLt, List.set, softChk, softGo, softRd, effTg, rdP, S23, hk, hk', w1, w2, eL, eg, eg', tRow, eTx, hz]) (by
    intro x _ s
    unfold c23b0
    simp [evCode, evOps, evOne, evOp, evPur, evEff, evPur.chunks, fillP, AOp.isEff, AO.ev, putP, PV.cells, PV.leaf, getB, getM, mapE, iterE, keyC, mapRows, mfind, eq1, eqL, scal, binP, unP, minP, maxP, foldP, PV.lt, PV.lt.ltL, endP, expoAll, expoG, expo, expo.expoL, frIds, frIds.frIdsL, nodupN, kill, cls, clsFuel, resO, RV.get, loadP, evC_p, evC_s, endS, endT, rowsOf, callP, thinL, unfr, unfr.unfrL, PV.noMem, PV.noMem.noMemL, optI, mapO, norm, trimT, trimB, forget, hasN, blksLt, List.set, softChk, softGo, softRd, effTg, rdP, S23, eL]) (by omega) 0 rfl s0 E
  refine evE_intro 3000 D23 rfl ?_
  unfold c23
  simp [evCode, evOps, evOne, evOp, evPur, evEff, evPur.chunks, fillP, AOp.isEff, AO.ev, putP, PV.cells, PV.leaf, getB, getM, mapE, iterE, keyC, mapRows, mfind, eq1, eqL, scal, binP, unP, minP, maxP, foldP, PV.lt, PV.lt.ltL, endP, expoAll, expoG, expo, expo.expoL, frIds, frIds.frIdsL, nodupN, kill, cls, clsFuel, resO, RV.get, loadP, evC_p, evC_s, endS, endT, rowsOf, callP, thinL, unfr, unfr.unfrL, PV.noMem, PV.noMem.noMemL, optI, mapO, norm, trimT, trimB, forget, hasN, blksLt, List.set, softChk, softGo, softRd, effTg, rdP]
  generalize hE : evLoop (evCode (evC Dg) 3000 c23b0) [0, 1, 5, 6] 0 3000 _ = E
  rcases H _ E hE (by simp [evCode, evOps, evOne, evOp, evPur, evEff, evPur.chunks, fillP, AOp.isEff, AO.ev, putP, PV.cells, PV.leaf, getB, getM, mapE, iterE, keyC, mapRows, mfind, eq1, eqL, scal, binP, unP, minP, maxP, foldP, PV.lt, PV.lt.ltL, endP, expoAll, expoG, expo, expo.expoL, frIds, frIds.frIdsL, nodupN, kill, cls, clsFuel, resO, RV.get, loadP, evC_p, evC_s, endS, endT, rowsOf, callP, thinL, unfr, unfr.unfrL, PV.noMem, PV.noMem.noMemL, optI, mapO, norm, trimT, trimB, forget, hasN, blksLt, List.set, softChk, softGo, softRd, effTg, rdP, S23]) with ⟨n, h3, rfl⟩ | ⟨s, _, h⟩
  · rw [List.take_of_length_le (Nat.le_refl _)] at h3
    rw [← h3]
    unfold c23b0
    simp [evCode, evOps, evOne, evOp, evPur, evEff, evPur.chunks, fillP, AOp.isEff, AO.ev, putP, PV.cells, PV.leaf, getB, getM, mapE, iterE, keyC, mapRows, mfind, eq1, eqL, scal, binP, unP, minP, maxP, foldP, PV.lt, PV.lt.ltL, endP, expoAll, expoG, expo, expo.expoL, frIds, frIds.frIdsL, nodupN, kill, cls, clsFuel, resO, RV.get, loadP, evC_p, evC_s, endS, endT, rowsOf, callP, thinL, unfr, unfr.unfrL, PV.noMem, PV.noMem.noMemL, optI, mapO, norm, trimT, trimB, forget, hasN, blksLt, List.set, softChk, softGo, softRd, effTg, rdP, S23, eL]
  · exact h.elim
end Go.Proofs.Ytalmhggbdfjalaa
