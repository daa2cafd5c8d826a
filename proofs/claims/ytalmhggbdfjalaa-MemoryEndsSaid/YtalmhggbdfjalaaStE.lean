/- slices.symMergeCmpFunc: what its searches find. -/
import Derived.Test.YtalmhggbdfjalaaStD
namespace Go.Proofs.Ytalmhggbdfjalaa
open Go Go.RowKit
set_option linter.unusedVariables false
set_option linter.unusedSimpArgs false
set_option maxHeartbeats 4000000

/-- a piece that a search by halves cuts in two -/
theorem Hlv.cut {P : Nat → Bool} {lo hi p : Nat} (h : Hlv P lo hi p p) (Z : List Rw) (hZ : hi = lo + Z.length) (R : Rw → Bool) (hP : ∀ i y, Z[i]? = some y → P (lo + i) = R y) :
    ∃ Z1 Z2, Z = Z1 ++ Z2 ∧ p = lo + Z1.length ∧ (∀ y ∈ Z1, R y = true) ∧ ∀ y ∈ Z2, R y = false := by
  have h1 := h.h1
  have h3 := h.h3
  refine ⟨Z.take (p - lo), Z.drop (p - lo), (List.take_append_drop _ _).symm, by rw [List.length_take]; omega, fun y hy => ?_, fun y hy => ?_⟩
  · obtain ⟨i, hi⟩ := List.mem_iff_getElem?.1 hy
    rw [List.getElem?_take] at hi
    split at hi
    · rename_i hlt
      rw [← hP i y hi]
      exact h.t _ (by omega) (by omega)
    · cases hi
  · obtain ⟨i, hi⟩ := List.mem_iff_getElem?.1 hy
    rw [List.getElem?_drop] at hi
    rw [← hP _ y hi]
    have := (List.getElem?_eq_some_iff.1 hi).1
    exact h.f _ (by omega) (by omega)
theorem Srt.at {le : Rw → Rw → Bool} {Z : List Rw} (h : Srt le Z) {i j : Nat} {x y : Rw} (hij : i < j) (hx : Z[i]? = some x) (hy : Z[j]? = some y) : le x y = true := by
  obtain ⟨h1, rfl⟩ := List.getElem?_eq_some_iff.1 hx
  obtain ⟨h2, rfl⟩ := List.getElem?_eq_some_iff.1 hy
  exact List.pairwise_iff_getElem.1 h i j h1 h2 hij
/-- where the searches stop -/
def AX (B : List Rw → Blks) (b v n g a : Nat) (D : List Rw) (p : Nat) : St := ⟨[.own b v 0 n, .int .i64 a, .top, .top, .fn g [], .top, .top, .top, .top, .top, .int .i64 p, .int .i64 p] ++ List.replicate 19 .top ++ [.int .i64 p, .int .i64 p, .bool false] ++ List.replicate 186 .top, B D⟩
def BX (B : List Rw → Blks) (b v n g m : Nat) (D : List Rw) (p : Nat) : St := ⟨[.own b v 0 n, .top, .int .i64 m, .top, .fn g [], .top, .top, .top, .top, .top, .top, .top, .top, .top, .int .i64 p, .int .i64 p] ++ List.replicate 67 .top ++ [.int .i64 p, .int .i64 p, .bool false] ++ List.replicate 134 .top, B D⟩
def CX (B : List Rw → Blks) (b v n g a0 m0 e0 d0 nn q : Nat) (D : List Rw) (p : Nat) : St := ⟨[.own b v 0 n, .int .i64 a0, .int .i64 m0, .int .i64 e0, .fn g [], .top, .top, .top, .top, .top, .top, .top, .top, .top, .top, .top, .top, .top, .int .i64 d0, .int .i64 nn, .int .i64 p, .int .i64 p, .int .i64 q] ++ List.replicate 126 .top ++ [.int .i64 p, .int .i64 p, .bool false] ++ List.replicate 68 .top, B D⟩
set_option maxRecDepth 100000 in
theorem exitA (B : List Rw → Blks) (b v n g a : Nat) (D : List Rw) (p f : Nat) : evCode (evC Dg) f c52b4 (AS B b v n g a D (p, p)) = some (.exit 0 (AX B b v n g a D p)) := by
  unfold c52b4 AX
  simp [evCode, evOps, evOne, evOp, evPur, evEff, evPur.chunks, fillP, AOp.isEff, AO.ev, putP, PV.cells, PV.leaf, getB, getM, mapE, iterE, keyC, mapRows, mfind, eq1, eqL, scal, binP, unP, minP, maxP, foldP, PV.lt, PV.lt.ltL, endP, expoAll, expoG, expo, expo.expoL, frIds, frIds.frIdsL, nodupN, kill, cls, clsFuel, resO, RV.get, loadP, evC_p, evC_s, endS, endT, rowsOf, callP, thinL, unfr, unfr.unfrL, PV.noMem, PV.noMem.noMemL, optI, mapO, norm, trimT, trimB, forget, hasN, blksLt, List.set, softChk, softGo, softRd, effTg, rdP, AS]
set_option maxRecDepth 100000 in
theorem exitB (B : List Rw → Blks) (b v n g m : Nat) (D : List Rw) (p f : Nat) : evCode (evC Dg) f c52b2 (BbS B b v n g m D (p, p)) = some (.exit 4 (BX B b v n g m D p)) := by
  unfold c52b2 BX
  simp [evCode, evOps, evOne, evOp, evPur, evEff, evPur.chunks, fillP, AOp.isEff, AO.ev, putP, PV.cells, PV.leaf, getB, getM, mapE, iterE, keyC, mapRows, mfind, eq1, eqL, scal, binP, unP, minP, maxP, foldP, PV.lt, PV.lt.ltL, endP, expoAll, expoG, expo, expo.expoL, frIds, frIds.frIdsL, nodupN, kill, cls, clsFuel, resO, RV.get, loadP, evC_p, evC_s, endS, endT, rowsOf, callP, thinL, unfr, unfr.unfrL, PV.noMem, PV.noMem.noMemL, optI, mapO, norm, trimT, trimB, forget, hasN, blksLt, List.set, softChk, softGo, softRd, effTg, rdP, BbS]
set_option maxRecDepth 100000 in
theorem exitC (B : List Rw → Blks) (b v n g a0 m0 e0 d0 nn q : Nat) (D : List Rw) (p f : Nat) : evCode (evC Dg) f c52b0 (CcS B b v n g a0 m0 e0 d0 nn q D (p, p)) = some (.exit 8 (CX B b v n g a0 m0 e0 d0 nn q D p)) := by
  unfold c52b0 CX
  simp [evCode, evOps, evOne, evOp, evPur, evEff, evPur.chunks, fillP, AOp.isEff, AO.ev, putP, PV.cells, PV.leaf, getB, getM, mapE, iterE, keyC, mapRows, mfind, eq1, eqL, scal, binP, unP, minP, maxP, foldP, PV.lt, PV.lt.ltL, endP, expoAll, expoG, expo, expo.expoL, frIds, frIds.frIdsL, nodupN, kill, cls, clsFuel, resO, RV.get, loadP, evC_p, evC_s, endS, endT, rowsOf, callP, thinL, unfr, unfr.unfrL, PV.noMem, PV.noMem.noMemL, optI, mapO, norm, trimT, trimB, forget, hasN, blksLt, List.set, softChk, softGo, softRd, effTg, rdP, CcS]
section
variable {B : List Rw → Blks} {b v L n g : Nat} {Ok : Rw → Prop} {le : Rw → Rw → Bool}
/-- the first search: one element, and those behind it -/
theorem searchA (hB : BB B b v L) (hC : Cmp g Ok le) (hn : n ≤ 1000000) (P Bl Q : List Rw) (x : Rw) (D : List Rw) (hD : D = P ++ x :: (Bl ++ Q)) (hO : OkL Ok D) (hl : n ≤ D.length) (hS : Srt le Bl) (a m e : Nat) (ha : a = P.length) (hm : m = a + 1) (he : e = m + Bl.length) (hen : e ≤ n) (f : Nat) (hf : n < f) (s0 : St) (E : Option Out) (hE : evLoop (evCode (evC Dg) f c52b4) [0, 1, 4, 10, 11] L f s0 = E) (h0 : norm [0, 1, 4, 10, 11] L s0 = AS B b v n g a D (m, e)) :
    ∃ B1 B2, Bl = B1 ++ B2 ∧ (∀ y ∈ B1, le x y = false) ∧ (∀ y ∈ B2, le x y = true) ∧ E = some (.exit 0 (AX B b v n g a D (m + B1.length))) := by
  have hx : D[a]? = some x := by rw [hD, ha]; simp
  have hBl : ∀ i y, Bl[i]? = some y → D[m + i]? = some y := by
    intro i y hy
    have h1 := (List.getElem?_eq_some_iff.1 hy).1
    rw [hD, List.getElem?_append_right (by omega), show m + i - P.length = i + 1 by omega, List.getElem?_cons_succ, List.getElem?_append_left h1, hy]
  have hBr : ∀ c, m ≤ c → c < e → ∃ y, Bl[c - m]? = some y ∧ D[c]? = some y := by
    intro c h1 h2
    have := List.getElem?_eq_getElem (l := Bl) (i := c - m) (by omega)
    refine ⟨_, this, ?_⟩
    have := hBl _ _ this
    rwa [show m + (c - m) = c by omega] at this
  obtain ⟨p, hp, hpE⟩ := search_run (body := evCode (evC Dg) f c52b4) (keep := [0, 1, 4, 10, 11]) (n0 := L) (fuel := f) (AS B b v n g a D) (fun c => !(le x (D[c]?.getD []))) m e (by
      intro c d h1 h2 h3 hd
      obtain ⟨y, y1, y2⟩ := hBr c h1 (by omega)
      obtain ⟨z, z1, z2⟩ := hBr d (by omega) h3
      rw [z2] at hd
      rw [y2]
      simp only [Option.getD_some, Bool.not_eq_true'] at hd ⊢
      rcases Nat.lt_or_ge c d with hcd | hcd
      · cases hy : le x y with
        | false => rfl
        | true =>
          rw [hC.o.tr hy (hS.at (i := c - m) (j := d - m) (by omega) y1 z1)] at hd
          cases hd
      · obtain rfl : c = d := by omega
        rw [y2] at z2
        cases z2
        exact hd) (by
      intro i j h h1 h2 h3 h4
      obtain ⟨y, y1, y2⟩ := hBr h (by omega) (by omega)
      obtain ⟨z, z1, z2⟩ := hC.c y x (hO y (List.mem_of_getElem? y2)) (hO x (List.mem_of_getElem? hx))
      obtain ⟨s', q1, q2⟩ := Astep B b v L n g hB hn a D (by omega) f i j h h2 h4 (by omega) hl y x y2 hx (hC.gd y (hO y (List.mem_of_getElem? y2))) (hC.gd x (hO x (List.mem_of_getElem? hx))) z z1
      refine ⟨s', q1, ?_⟩
      rw [q2]
      simp only [y2, Option.getD_some, Bool.not_eq_true']
      congr 1
      by_cases hz : z < 0
      · rw [if_pos hz, if_pos (z2.1 hz)]
      · rw [if_neg hz, if_neg (fun h => hz (z2.2 h))]) (by
      intro p
      exact ⟨_, _, exitA B b v n g a D p f⟩) (by omega) (by omega) s0 E hE h0
  obtain ⟨B1, B2, e1, e2, e3, e4⟩ := hp.cut Bl he (fun y => !(le x y)) (by
    intro i y hy
    rw [hBl i y hy]; rfl)
  refine ⟨B1, B2, e1, fun y hy => ?_, fun y hy => ?_, by rw [hpE, e2, exitA]⟩
  · simpa using e3 y hy
  · simpa using e4 y hy
/-- the second search: one element, and those in front of it -/
theorem searchB (hB : BB B b v L) (hC : Cmp g Ok le) (hn : n ≤ 1000000) (P Al Q : List Rw) (x : Rw) (D : List Rw) (hD : D = P ++ Al ++ x :: Q) (hO : OkL Ok D) (hl : n ≤ D.length) (hS : Srt le Al) (a m : Nat) (ha : a = P.length) (hm : m = a + Al.length) (hen : m + 1 ≤ n) (f : Nat) (hf : n < f) (s0 : St) (E : Option Out) (hE : evLoop (evCode (evC Dg) f c52b2) [0, 2, 4, 14, 15] L f s0 = E) (h0 : norm [0, 2, 4, 14, 15] L s0 = BbS B b v n g m D (a, m)) :
    ∃ A1 A2, Al = A1 ++ A2 ∧ (∀ y ∈ A1, le y x = true) ∧ (∀ y ∈ A2, le y x = false) ∧ E = some (.exit 4 (BX B b v n g m D (a + A1.length))) := by
  have hx : D[m]? = some x := by
    rw [hD, List.getElem?_append_right (by rw [List.length_append]; omega), hm, ha, List.length_append, Nat.sub_self]; rfl
  have hBl : ∀ i y, Al[i]? = some y → D[a + i]? = some y := by
    intro i y hy
    have h1 := (List.getElem?_eq_some_iff.1 hy).1
    rw [hD, List.getElem?_append_left (by rw [List.length_append]; omega), List.getElem?_append_right (by omega), show a + i - P.length = i by omega, hy]
  have hBr : ∀ c, a ≤ c → c < m → ∃ y, Al[c - a]? = some y ∧ D[c]? = some y := by
    intro c h1 h2
    have := List.getElem?_eq_getElem (l := Al) (i := c - a) (by omega)
    refine ⟨_, this, ?_⟩
    have := hBl _ _ this
    rwa [show a + (c - a) = c by omega] at this
  obtain ⟨p, hp, hpE⟩ := search_run (body := evCode (evC Dg) f c52b2) (keep := [0, 2, 4, 14, 15]) (n0 := L) (fuel := f) (BbS B b v n g m D) (fun c => le (D[c]?.getD []) x) a m (by
      intro c d h1 h2 h3 hd
      obtain ⟨y, y1, y2⟩ := hBr c h1 (by omega)
      obtain ⟨z, z1, z2⟩ := hBr d (by omega) h3
      rw [z2] at hd
      rw [y2]
      simp only [Option.getD_some] at hd ⊢
      rcases Nat.lt_or_ge c d with hcd | hcd
      · exact hC.o.tr (hS.at (i := c - a) (j := d - a) (by omega) y1 z1) hd
      · obtain rfl : c = d := by omega
        rw [y2] at z2
        cases z2
        exact hd) (by
      intro i j h h1 h2 h3 h4
      obtain ⟨y, y1, y2⟩ := hBr h (by omega) (by omega)
      obtain ⟨z, z1, z2⟩ := hC.c x y (hO x (List.mem_of_getElem? hx)) (hO y (List.mem_of_getElem? y2))
      obtain ⟨s', q1, q2⟩ := Bbstep B b v L n g hB hn m D (by omega) f i j h h2 h4 (by omega) hl x y hx y2 (hC.gd x (hO x (List.mem_of_getElem? hx))) (hC.gd y (hO y (List.mem_of_getElem? y2))) z z1
      refine ⟨s', q1, ?_⟩
      rw [q2]
      simp only [y2, Option.getD_some]
      congr 1
      by_cases hz : z < 0
      · rw [if_neg (fun h => h hz), if_neg (by rw [z2.1 hz]; exact Bool.false_ne_true)]
      · rw [if_pos hz, if_pos (by
          cases hh : le y x with
          | true => rfl
          | false => exact absurd (z2.2 hh) hz)]) (by
      intro p
      exact ⟨_, _, exitB B b v n g m D p f⟩) (by omega) (by omega) s0 E hE h0
  obtain ⟨B1, B2, e1, e2, e3, e4⟩ := hp.cut Al hm (fun y => le y x) (by
    intro i y hy
    rw [hBl i y hy]; rfl)
  exact ⟨B1, B2, e1, e3, e4, by rw [hpE, e2, exitB]⟩
/-- the third search: how far two pieces mirror each other -/
theorem searchC (hB : BB B b v L) (hC : Cmp g Ok le) (hn : n ≤ 1000000) (D : List Rw) (hO : OkL Ok D) (hl : n ≤ D.length) (a m e d nn q lo hi : Nat) (hhi : hi ≤ n) (hlh : lo ≤ hi) (hq : hi ≤ q + 1) (hqn : q < 2000000) (hql : q < n + lo)
    (hm : ∀ c d, lo ≤ c → c ≤ d → d < hi → le (D[d]?.getD []) (D[q - d]?.getD []) = true → le (D[c]?.getD []) (D[q - c]?.getD []) = true) (f : Nat) (hf : n < f) (s0 : St) (E : Option Out) (hE : evLoop (evCode (evC Dg) f c52b0) [0, 1, 2, 3, 4, 18, 19, 20, 21, 22] L f s0 = E) (h0 : norm [0, 1, 2, 3, 4, 18, 19, 20, 21, 22] L s0 = CcS B b v n g a m e d nn q D (lo, hi)) :
    ∃ p, lo ≤ p ∧ p ≤ hi ∧ (∀ h, lo ≤ h → h < p → le (D[h]?.getD []) (D[q - h]?.getD []) = true) ∧ (∀ h, p ≤ h → h < hi → le (D[h]?.getD []) (D[q - h]?.getD []) = false) ∧ E = some (.exit 8 (CX B b v n g a m e d nn q D p)) := by
  obtain ⟨p, hp, hpE⟩ := search_run (body := evCode (evC Dg) f c52b0) (keep := [0, 1, 2, 3, 4, 18, 19, 20, 21, 22]) (n0 := L) (fuel := f) (CcS B b v n g a m e d nn q D) (fun c => le (D[c]?.getD []) (D[q - c]?.getD [])) lo hi hm (by
      intro i j h h1 h2 h3 h4
      obtain ⟨y, y2, oy⟩ := hO.get (i := h) (by omega)
      obtain ⟨x, x2, ox⟩ := hO.get (i := q - h) (by omega)
      obtain ⟨z, z1, z2⟩ := hC.c x y ox oy
      obtain ⟨s', q1, q2⟩ := Ccstep B b v L n g hB hn a m e d nn q D f i j h (by omega) hqn (by omega) h2 h4 (by omega) hl x y x2 y2 (hC.gd x ox) (hC.gd y oy) z z1
      refine ⟨s', q1, ?_⟩
      rw [q2]
      simp only [y2, x2, Option.getD_some]
      congr 1
      by_cases hz : z < 0
      · rw [if_neg (fun h => h hz), if_neg (by rw [z2.1 hz]; exact Bool.false_ne_true)]
      · rw [if_pos hz, if_pos (by
          cases hh : le y x with
          | true => rfl
          | false => exact absurd (z2.2 hh) hz)]) (fun p => ⟨_, _, exitC B b v n g a m e d nn q D p f⟩) hlh (by omega) s0 E hE h0
  exact ⟨p, hp.h1, hp.h3, hp.t, hp.f, by rw [hpE, exitC]⟩
end
end Go.Proofs.Ytalmhggbdfjalaa
