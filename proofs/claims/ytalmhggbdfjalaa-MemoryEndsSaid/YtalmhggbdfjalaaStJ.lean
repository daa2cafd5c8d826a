/- slices.insertionSortCmpFunc, whole: it sorts a piece, and equals keep their order. -/
import Derived.Test.YtalmhggbdfjalaaStI
import Derived.Test.YtalmhggbdfjalaaStH0
namespace Go.Proofs.Ytalmhggbdfjalaa
open Go Go.RowKit
set_option linter.unusedVariables false
set_option linter.unusedSimpArgs false
set_option maxHeartbeats 8000000

section
variable {B : List Rw → Blks} {b v L n g : Nat} {Ok : Rw → Prop} {le : Rw → Rw → Bool}
theorem inner51 (hB : BB B b v L) (hC : Cmp g Ok le) (hn : n ≤ 1000000) (P S R l : List Rw) (r : Rw) (hS : S = srtS le l) (hOk : ∀ q, q ∈ P ∨ q ∈ S ∨ q = r ∨ q ∈ R → Ok q) (hl : n ≤ P.length + S.length + 1 + R.length) (hen : P.length + S.length + 1 ≤ n) (a e i : Nat) (ha : a = P.length) (f : Nat) (hf : n < f) (s0 : St) (E : Option Out)
    (hE : evLoop (evCode (evC Dg) f c51b0) [0, 1, 2, 3, 8, 9] L f s0 = E) (h0 : norm [0, 1, 2, 3, 8, 9] L s0 = S51i B b v n g a e i (a + S.length, P ++ S ++ r :: R)) :
    ∃ o, E = some o ∧ X51 B b v n g a e i (P ++ srtS le (l ++ [r]) ++ R) o := by
  have hSs : Srt le S := by rw [hS]; exact (srtS_SSt hC.o l).1
  obtain ⟨o, ho, S1, S2, e1, e2, e3, e4⟩ := loop_while (body := evCode (evC Dg) f c51b0) (keep := [0, 1, 2, 3, 8, 9]) (n0 := L) (fuel := f) (S51i B b v n g a e i) (fun x => x.1) (fun x => ∃ S1 S2, x.2 = P ++ S1 ++ r :: (S2 ++ R) ∧ x.1 = a + S1.length ∧ S1 ++ S2 = S ∧ ∀ y ∈ S2, le y r = false)
    (fun o => ∃ S1 S2, S1 ++ S2 = S ∧ (∀ y ∈ S1, le y r = true) ∧ (∀ y ∈ S2, le y r = false) ∧ X51 B b v n g a e i (P ++ S1 ++ r :: (S2 ++ R)) o) (by
    rintro ⟨j, D⟩ ⟨S1, S2, hD, hj, h12, h2⟩
    simp only at hD hj
    have hDl : n ≤ D.length := by rw [← h12] at hl; rw [hD]; simp only [List.length_append, List.length_cons] at hl ⊢; omega
    have hDo : OkL Ok D := by
      intro q hq
      refine hOk q ?_
      rw [hD] at hq
      rw [← h12]
      simp only [List.mem_append, List.mem_cons] at hq ⊢
      grind
    rcases Nat.eq_zero_or_pos S1.length with hz | hz
    · have := List.length_eq_zero_iff.1 hz
      subst this
      have hja : j = a := by simpa using hj
      subst hja
      obtain ⟨o, h1, h3⟩ := x51a B b v n g j e i D f
      refine .inr ⟨o, h1, ?_, [], S2, h12, by simp, h2, by rw [← hD]; exact h3⟩
      intro s hs
      subst hs
      unfold X51 at h3
      obtain ⟨_, _, _, _, _, _, _, _, _, _, _, _, _, _, _, _, _, _, _, _, _, _, _, _, _, _, _, _, _, _, _, _, _, _, _, _, h3⟩ := h3
      cases h3
    · have hne : S1 ≠ [] := by rintro rfl; simp at hz
      obtain ⟨U, y, rfl⟩ : ∃ U y, S1 = U ++ [y] := ⟨_, _, (List.dropLast_concat_getLast hne).symm⟩
      rw [List.length_append, List.length_singleton] at hj
      have hD2 : D = (P ++ U) ++ y :: r :: (S2 ++ R) := by rw [hD]; simp
      have e1 : D[j]? = some r := by
        rw [hD2, List.getElem?_append_right (by rw [List.length_append]; omega), List.length_append, show j - (P.length + U.length) = 1 by omega]; rfl
      have e2 : D[j - 1]? = some y := by
        rw [hD2, List.getElem?_append_right (by rw [List.length_append]; omega), List.length_append, show j - 1 - (P.length + U.length) = 0 by omega]; rfl
      have o1 := hDo r (List.mem_of_getElem? e1)
      have o2 := hDo y (List.mem_of_getElem? e2)
      obtain ⟨z, z1, z2⟩ := hC.c r y o1 o2
      have hjn : j < n := by rw [← h12] at hen; simp only [List.length_append, List.length_singleton] at hen; omega
      by_cases hz0 : z < 0
      · obtain ⟨s', q1, q2⟩ := s51in B b v L n g hB hn a e i j (by omega) hjn D (hDo.gd hC) hDl r y e1 e2 (hC.gd r o1) (hC.gd y o2) z z1 f hz0
        refine .inl ⟨(j - 1, swapAt D j (j - 1)), s', q1, q2, ⟨U, y :: S2, ?_, by simp only; omega, by rw [← h12]; simp, ?_⟩, by simp only; omega⟩
        · have := swapAt_prev (P ++ U) (S2 ++ R) y r
          rw [List.length_append, show P.length + U.length + 1 = j by omega, show P.length + U.length = j - 1 by omega, ← hD2] at this
          rw [this]
          simp
        · intro u hu
          rcases List.mem_cons.1 hu with rfl | hu
          · exact z2.1 hz0
          · exact h2 u hu
      · obtain ⟨o, h1, h3⟩ := x51b B b v L n g hB hn a e i j (by omega) hjn D (hDo.gd hC) hDl r y e1 e2 (hC.gd r o1) (hC.gd y o2) z z1 f hz0
        refine .inr ⟨o, h1, ?_, U ++ [y], S2, h12, ?_, h2, by rw [← hD]; exact h3⟩
        · intro s hs
          subst hs
          unfold X51 at h3
          obtain ⟨_, _, _, _, _, _, _, _, _, _, _, _, _, _, _, _, _, _, _, _, _, _, _, _, _, _, _, _, _, _, _, _, _, _, _, _, h3⟩ := h3
          cases h3
        · have hyr : le y r = true := by
            cases h : le y r with
            | true => rfl
            | false => exact absurd (z2.2 h) hz0
          intro u hu
          rcases List.mem_append.1 hu with hu | hu
          · rw [← h12, List.append_assoc] at hSs
            have := (List.pairwise_append.1 hSs).2.2 u hu y (by simp)
            exact hC.o.tr this hyr
          · rw [List.mem_singleton] at hu
            rw [hu]; exact hyr) (a + S.length, P ++ S ++ r :: R) ⟨S, [], by simp, rfl, by simp, by simp⟩ (by simp only; omega) s0 E hE h0
  refine ⟨o, ho, ?_⟩
  have : SSt le (S1 ++ r :: S2) (l ++ [r]) := SSt.app (s := S) (t := [r]) (by rw [hS]; exact srtS_SSt hC.o l) (SSt.self (by simp [Srt])) (by rw [← e1]; exact SSt.ins hC.o (by rw [e1]; exact hSs) e2 e3)
  rw [← this.eq hC.o]
  simpa using e4
/-- the list when k + 1 elements are in order -/
def ins51 (le : Rw → Rw → Bool) (P Bl Q : List Rw) (k : Nat) : List Rw := P ++ srtS le (Bl.take (k + 1)) ++ (Bl.drop (k + 1) ++ Q)
def S51 (B : List Rw → Blks) (b v n g a e : Nat) (le : Rw → Rw → Bool) (P Bl Q : List Rw) (k : Nat) (_ : Unit) : St := ⟨[.own b v 0 n, .int .i64 a, .int .i64 e, .fn g [], .top, .top, .top, .top, .int .i64 (a + 1 + k : Nat)] ++ List.replicate 44 .top, B (ins51 le P Bl Q k)⟩
set_option maxRecDepth 100000 in
theorem s51 (hB : BB B b v L) (hC : Cmp g Ok le) (hn : n ≤ 1000000) (P Bl Q : List Rw) (hO : OkL Ok (P ++ Bl ++ Q)) (hl : n ≤ (P ++ Bl ++ Q).length) (a e : Nat) (ha : a = P.length) (he : e = a + Bl.length) (hen : e ≤ n) :
    evS Dg 51 [.own b v 0 n, .int .i64 a, .int .i64 e, .fn g []] (B (P ++ Bl ++ Q)) = some (.tup [], B (P ++ srtS le Bl ++ Q)) := by
  have hlen : n ≤ P.length + Bl.length + Q.length := by simpa only [List.length_append] using hl
  have g0 := hB.len
  have g3 := hB.tk
  have g4 := hB.lt
  have g5 : Nat.blt b L = true := by simpa [Nat.blt_eq] using hB.hb
  have hstart : ins51 le P Bl Q 0 = P ++ Bl ++ Q := by
    unfold ins51
    have : srtS le (Bl.take (0 + 1)) = Bl.take 1 := by
      cases Bl with
      | nil => rfl
      | cons x t => rfl
    rw [this, ← List.append_assoc, List.append_assoc P, List.take_append_drop]
  have hend : ins51 le P Bl Q (Bl.length - 1) = P ++ srtS le Bl ++ Q := by
    unfold ins51
    rw [List.take_of_length_le (by omega), List.drop_of_length_le (by omega), List.nil_append]
  have H := fun (s0 : St) (E : Option Out) => loop_foldE (body := evCode (evC Dg) (n + 2) c51b1) (keep := [0, 1, 2, 3, 8]) (n0 := L) (fuel := n + 2) (List.range (Bl.length - 1)) (S51 B b v n g a e le P Bl Q) (fun o i => ()) (fun _ _ => True) (by
      intro k j o hkj hk _
      rw [List.length_range] at hk
      refine ⟨trivial, ?_⟩
      obtain ⟨r, hr⟩ : ∃ r, Bl[k + 1]? = some r := ⟨_, List.getElem?_eq_getElem (by omega)⟩
      have hdr : Bl.drop (k + 1) = r :: Bl.drop (k + 2) := by
        rw [List.drop_eq_getElem_cons (by omega)]
        congr 1
        obtain ⟨h1, h2⟩ := List.getElem?_eq_some_iff.1 hr
        exact h2
      have htk : Bl.take (k + 2) = Bl.take (k + 1) ++ [r] := by
        rw [List.take_add_one, hr]; rfl
      have hDk : ins51 le P Bl Q k = P ++ srtS le (Bl.take (k + 1)) ++ r :: (Bl.drop (k + 2) ++ Q) := by
        unfold ins51; rw [hdr]; rfl
      have hDk2 : ins51 le P Bl Q (k + 1) = P ++ srtS le (Bl.take (k + 1) ++ [r]) ++ (Bl.drop (k + 2) ++ Q) := by
        unfold ins51; rw [htk]
      have hlt : (srtS le (Bl.take (k + 1))).length = k + 1 := by rw [srtS_len, List.length_take]; omega
      have hI := fun s0 E => inner51 hB hC hn P _ (Bl.drop (k + 2) ++ Q) (Bl.take (k + 1)) r rfl (by
        intro q hq
        refine hO q ?_
        simp only [List.mem_append]
        rcases hq with h | h | h | h
        · exact .inl (.inl h)
        · rw [(srtS_perm le _).mem_iff] at h; exact .inl (.inr (List.mem_of_mem_take h))
        · rw [h]; exact .inl (.inr (List.mem_of_getElem? hr))
        · rcases List.mem_append.1 h with h | h
          · exact .inl (.inr (List.mem_of_mem_drop h))
          · exact .inr h) (by rw [hlt]; simp only [List.length_append, List.length_drop]; omega) (by rw [hlt]; omega) a e (a + 1 + k) ha (n + 2) (by omega) s0 E
      rw [hlt, ← hDk, ← hDk2] at hI
      unfold S51
      generalize ins51 le P Bl Q k = D1 at *
      generalize ins51 le P Bl Q (k + 1) = D2 at *
      have c1 : ((a + 1 + k : Nat) : Int) < e := by omega
      have w1 : IntKind.i64.wrap (((a + 1 + k : Nat) : Int) + 1) = ((a + 1 + (k + 1) : Nat) : Int) := by rw [wrap_i64 _ (by omega) (by omega)]; omega
      rw [show a + (k + 1) = a + 1 + k by omega] at hI
      generalize a + 1 + (k + 1) = i2 at *
      generalize a + 1 + k = i1 at *
      clear hDk hDk2 hlt hdr htk hr hend hstart
      suffices h : ∃ s', evCode (evC Dg) (n + 2) c51b1 ⟨[.own b v 0 n, .int .i64 a, .int .i64 e, .fn g [], .top, .top, .top, .top, .int .i64 i1] ++ List.replicate 44 .top, B D1⟩ = some (.normal s') ∧ norm [0, 1, 2, 3, 8] L s' = ⟨[.own b v 0 n, .int .i64 a, .int .i64 e, .fn g [], .top, .top, .top, .top, .int .i64 i2] ++ List.replicate 44 .top, B D2⟩ by
        exact h
      unfold c51b1
      simp [evCode, evOps, evOne, evOp, evPur, evEff, evPur.chunks, fillP, AOp.isEff, AO.ev, putP, PV.cells, PV.leaf, getB, getM, mapE, iterE, keyC, mapRows, mfind, eq1, eqL, scal, binP, unP, minP, maxP, foldP, PV.lt, PV.lt.ltL, endP, expoAll, expoG, expo, expo.expoL, frIds, frIds.frIdsL, nodupN, kill, cls, clsFuel, resO, RV.get, loadP, evC_p, evC_s, endS, endT, rowsOf, callP, thinL, unfr, unfr.unfrL, PV.noMem, PV.noMem.noMemL, optI, mapO, norm, trimT, trimB, forget, hasN, blksLt, List.set, softChk, softGo, softRd, effTg, rdP, c1]
      rw [g0]
      generalize hE : evLoop (evCode (evC Dg) (n + 2) c51b0) [0, 1, 2, 3, 8, 9] L (n + 2) _ = E
      obtain ⟨o2, rfl, hX⟩ := hI _ E hE (by simp [evCode, evOps, evOne, evOp, evPur, evEff, evPur.chunks, fillP, AOp.isEff, AO.ev, putP, PV.cells, PV.leaf, getB, getM, mapE, iterE, keyC, mapRows, mfind, eq1, eqL, scal, binP, unP, minP, maxP, foldP, PV.lt, PV.lt.ltL, endP, expoAll, expoG, expo, expo.expoL, frIds, frIds.frIdsL, nodupN, kill, cls, clsFuel, resO, RV.get, loadP, evC_p, evC_s, endS, endT, rowsOf, callP, thinL, unfr, unfr.unfrL, PV.noMem, PV.noMem.noMemL, optI, mapO, norm, trimT, trimB, forget, hasN, blksLt, List.set, softChk, softGo, softRd, effTg, rdP, S51i, g0, g3, g4, g5])
      unfold X51 at hX
      obtain ⟨jj, z18, z19, z20, z21, z22, z23, z24, z25, z26, z27, z28, z29, z30, z31, z32, z33, z34, z35, z36, z37, z38, z39, z40, z41, z42, z43, z44, z45, z46, z47, z48, z49, z50, z51, z52, rfl⟩ := hX
      clear hE hI
      simp [evCode, evOps, evOne, evOp, evPur, evEff, evPur.chunks, fillP, AOp.isEff, AO.ev, putP, PV.cells, PV.leaf, getB, getM, mapE, iterE, keyC, mapRows, mfind, eq1, eqL, scal, binP, unP, minP, maxP, foldP, PV.lt, PV.lt.ltL, endP, expoAll, expoG, expo, expo.expoL, frIds, frIds.frIdsL, nodupN, kill, cls, clsFuel, resO, RV.get, loadP, evC_p, evC_s, endS, endT, rowsOf, callP, thinL, unfr, unfr.unfrL, PV.noMem, PV.noMem.noMemL, optI, mapO, norm, trimT, trimB, forget, hasN, blksLt, List.set, softChk, softGo, softRd, effTg, rdP, w1, g0, g3, g4, g5]) (by
      intro o _ s
      rw [List.length_range]
      have c1 : ¬ ((a + 1 + (Bl.length - 1) : Nat) : Int) < e := by omega
      unfold S51
      generalize a + 1 + (Bl.length - 1) = i1 at *
      unfold c51b1
      simp [evCode, evOps, evOne, evOp, evPur, evEff, evPur.chunks, fillP, AOp.isEff, AO.ev, putP, PV.cells, PV.leaf, getB, getM, mapE, iterE, keyC, mapRows, mfind, eq1, eqL, scal, binP, unP, minP, maxP, foldP, PV.lt, PV.lt.ltL, endP, expoAll, expoG, expo, expo.expoL, frIds, frIds.frIdsL, nodupN, kill, cls, clsFuel, resO, RV.get, loadP, evC_p, evC_s, endS, endT, rowsOf, callP, thinL, unfr, unfr.unfrL, PV.noMem, PV.noMem.noMemL, optI, mapO, norm, trimT, trimB, forget, hasN, blksLt, List.set, softChk, softGo, softRd, effTg, rdP, c1]) (by rw [List.length_range]; omega) () trivial s0 E
  have w0 : IntKind.i64.wrap ((a : Int) + 1) = ((a + 1 + 0 : Nat) : Int) := by rw [wrap_i64 _ (by omega) (by omega)]; omega
  have c1 : ¬ ((a + 1 + (Bl.length - 1) : Nat) : Int) < e := by omega
  rw [← hend, ← hstart]
  unfold S51 at H
  rw [List.length_range] at H
  generalize ins51 le P Bl Q (Bl.length - 1) = D1 at *
  generalize ins51 le P Bl Q 0 = D0 at *
  generalize a + 1 + (Bl.length - 1) = i1 at *
  generalize a + 1 + 0 = i0 at *
  refine evS_intro (n + 2) D51 rfl ?_
  unfold c51
  simp [evCode, evOps, evOne, evOp, evPur, evEff, evPur.chunks, fillP, AOp.isEff, AO.ev, putP, PV.cells, PV.leaf, getB, getM, mapE, iterE, keyC, mapRows, mfind, eq1, eqL, scal, binP, unP, minP, maxP, foldP, PV.lt, PV.lt.ltL, endP, expoAll, expoG, expo, expo.expoL, frIds, frIds.frIdsL, nodupN, kill, cls, clsFuel, resO, RV.get, loadP, evC_p, evC_s, endS, endT, rowsOf, callP, thinL, unfr, unfr.unfrL, PV.noMem, PV.noMem.noMemL, optI, mapO, norm, trimT, trimB, forget, hasN, blksLt, List.set, softChk, softGo, softRd, effTg, rdP, w0]
  rw [g0]
  generalize hE : evLoop (evCode (evC Dg) (n + 2) c51b1) [0, 1, 2, 3, 8] L (n + 2) _ = E
  obtain ⟨h, -⟩ := H _ E hE (by simp [evCode, evOps, evOne, evOp, evPur, evEff, evPur.chunks, fillP, AOp.isEff, AO.ev, putP, PV.cells, PV.leaf, getB, getM, mapE, iterE, keyC, mapRows, mfind, eq1, eqL, scal, binP, unP, minP, maxP, foldP, PV.lt, PV.lt.ltL, endP, expoAll, expoG, expo, expo.expoL, frIds, frIds.frIdsL, nodupN, kill, cls, clsFuel, resO, RV.get, loadP, evC_p, evC_s, endS, endT, rowsOf, callP, thinL, unfr, unfr.unfrL, PV.noMem, PV.noMem.noMemL, optI, mapO, norm, trimT, trimB, forget, hasN, blksLt, List.set, softChk, softGo, softRd, effTg, rdP, g0, g3, g4, g5])
  rw [h]
  clear h hE H
  unfold c51b1
  simp [evCode, evOps, evOne, evOp, evPur, evEff, evPur.chunks, fillP, AOp.isEff, AO.ev, putP, PV.cells, PV.leaf, getB, getM, mapE, iterE, keyC, mapRows, mfind, eq1, eqL, scal, binP, unP, minP, maxP, foldP, PV.lt, PV.lt.ltL, endP, expoAll, expoG, expo, expo.expoL, frIds, frIds.frIdsL, nodupN, kill, cls, clsFuel, resO, RV.get, loadP, evC_p, evC_s, endS, endT, rowsOf, callP, thinL, unfr, unfr.unfrL, PV.noMem, PV.noMem.noMemL, optI, mapO, norm, trimT, trimB, forget, hasN, blksLt, List.set, softChk, softGo, softRd, effTg, rdP, c1, g0, g3, g4, g5]
end
end Go.Proofs.Ytalmhggbdfjalaa
