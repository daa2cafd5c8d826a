/- slices.symMergeCmpFunc: its searches and its moves, whole. -/
import Derived.Test.YtalmhggbdfjalaaStC
namespace Go.Proofs.Ytalmhggbdfjalaa
open Go Go.RowKit
set_option linter.unusedVariables false
set_option linter.unusedSimpArgs false
set_option maxHeartbeats 4000000

theorem search_run {body : St → Option Out} {keep : List Nat} {n0 fuel : Nat} (S : Nat × Nat → St) (P : Nat → Bool) (lo hi : Nat) (hm : ∀ c d, lo ≤ c → c ≤ d → d < hi → P d = true → P c = true)
    (hstep : ∀ i j h, lo ≤ i → i < j → j ≤ hi → (i + j) / 2 = h → ∃ s', body (S (i, j)) = some (.normal s') ∧ norm keep n0 s' = S (if P h = true then (h + 1, j) else (i, h)))
    (hexit : ∀ p, ∃ k s', body (S (p, p)) = some (.exit k s')) (hlh : lo ≤ hi) (hf : hi - lo < fuel) (s0 : St) (E : Option Out) (hE : evLoop body keep n0 fuel s0 = E) (h0 : norm keep n0 s0 = S (lo, hi)) :
    ∃ p, Hlv P lo hi p p ∧ E = body (S (p, p)) := by
  obtain ⟨o, ho, p, hp, h⟩ := loop_while (body := body) (keep := keep) (n0 := n0) (fuel := fuel) S (fun x => x.2 - x.1) (fun x => Hlv P lo hi x.1 x.2) (fun o => ∃ p, Hlv P lo hi p p ∧ body (S (p, p)) = some o) (by
    rintro ⟨i, j⟩ hI
    simp only at hI
    by_cases hij : i < j
    · left
      obtain ⟨s', x1, x2⟩ := hstep i j ((i + j) / 2) hI.h1 hij hI.h3 rfl
      by_cases hP : P ((i + j) / 2) = true
      · rw [if_pos hP] at x2
        exact ⟨_, s', x1, x2, hI.up hm (by omega) (by omega) hP, by simp only; omega⟩
      · rw [if_neg hP] at x2
        exact ⟨_, s', x1, x2, hI.dn hm (by omega) (by omega) (by simpa using hP), by simp only; omega⟩
    · right
      have := hI.h2
      obtain rfl : i = j := by omega
      obtain ⟨k, s', x⟩ := hexit i
      exact ⟨_, x, fun s h => by (cases h), i, hI, x⟩) (lo, hi) ⟨Nat.le_refl _, hlh, Nat.le_refl _, fun h h1 h2 => by omega, fun h h1 h2 => by omega⟩ (by simp only; omega) s0 E hE h0
  exact ⟨p, hp, by rw [ho, h]⟩
theorem swapAt_next (U W : List Rw) (x z : Rw) : swapAt (U ++ x :: z :: W) U.length (U.length + 1) = U ++ z :: x :: W := by
  have := swapAt_app U [] W x z
  simpa using this
theorem swapAt_prev (U W : List Rw) (x z : Rw) : swapAt (U ++ x :: z :: W) (U.length + 1) U.length = U ++ z :: x :: W := by
  have e1 : (U ++ x :: z :: W)[U.length]? = some x := by simp
  have e2 : (U ++ x :: z :: W)[U.length + 1]? = some z := by
    rw [List.getElem?_append_right (by omega)]; simp
  unfold swapAt
  rw [e1, e2]
  simp only [Option.getD_some]
  rw [List.set_append_right _ _ (by omega), show U.length + 1 - U.length = 1 by omega, List.set_append_right _ _ (Nat.le_refl _), Nat.sub_self]
  rfl
def mvR (D : List Rw) (a k : Nat) : List Rw := (List.range k).foldl (fun o i => swapAt o (a + i) (a + i + 1)) D
theorem mvR_app (P : List Rw) (x : Rw) : ∀ (k : Nat) (X R : List Rw), X.length = k → mvR (P ++ x :: (X ++ R)) P.length k = P ++ X ++ x :: R
  | 0, X, R, h => by
    rw [List.length_eq_zero_iff.1 h]; simp [mvR]
  | k + 1, X, R, h => by
    have h0 : X ≠ [] := by rintro rfl; simp at h
    obtain ⟨X1, y, rfl⟩ : ∃ X1 y, X = X1 ++ [y] := ⟨_, _, (List.dropLast_concat_getLast h0).symm⟩
    have h1 : X1.length = k := by simpa using h
    have ih := mvR_app P x k X1 (y :: R) h1
    have e : mvR (P ++ x :: (X1 ++ [y] ++ R)) P.length (k + 1) = swapAt (mvR (P ++ x :: (X1 ++ y :: R)) P.length k) (P.length + k) (P.length + k + 1) := by
      unfold mvR
      rw [List.range_succ, List.foldl_append]
      simp
    rw [e, ih]
    have e2 : P.length + k = (P ++ X1).length := by simp [h1]
    rw [e2, swapAt_next]
    simp
def mvL (D : List Rw) (m k : Nat) : List Rw := (List.range k).foldl (fun o i => swapAt o (m - i) (m - i - 1)) D
theorem mvL_app (y : Rw) : ∀ (k : Nat) (P A R : List Rw), A.length = k → mvL (P ++ A ++ y :: R) (P.length + k) k = P ++ y :: (A ++ R)
  | 0, P, A, R, h => by
    rw [List.length_eq_zero_iff.1 h]; simp [mvL]
  | k + 1, P, A, R, h => by
    cases A with
    | nil => simp at h
    | cons x A1 =>
      have h1 : A1.length = k := by simpa using h
      have ih := mvL_app y k (P ++ [x]) A1 R h1
      have e : mvL (P ++ x :: A1 ++ y :: R) (P.length + (k + 1)) (k + 1) = swapAt (mvL (P ++ [x] ++ A1 ++ y :: R) (P.length + (k + 1)) k) (P.length + (k + 1) - k) (P.length + (k + 1) - k - 1) := by
        unfold mvL
        rw [List.range_succ, List.foldl_append]
        simp
      rw [List.length_append, List.length_singleton, show P.length + 1 + k = P.length + (k + 1) by omega] at ih
      rw [e, ih, show P.length + (k + 1) - k = P.length + 1 by omega, show P.length + 1 - 1 = P.length by omega]
      have := swapAt_prev P (A1 ++ R) x y
      simpa using this
theorem swapAt_ok {Ok : Rw → Prop} {D : List Rw} (h : OkL Ok D) {i j : Nat} (hi : i < D.length) (hj : j < D.length) : OkL Ok (swapAt D i j) := by
  intro r hr
  obtain ⟨x, e1, h1⟩ := h.get hi
  obtain ⟨y, e2, h2⟩ := h.get hj
  unfold swapAt at hr
  rw [e1, e2] at hr
  simp only [Option.getD_some] at hr
  rcases List.mem_or_eq_of_mem_set hr with h3 | h3
  · rcases List.mem_or_eq_of_mem_set h3 with h4 | h4
    · exact h r h4
    · rw [h4]; exact h2
  · rw [h3]; exact h1
def DdS (B : List Rw → Blks) (b v n g : Nat) (i : Nat) (k : Nat) (D : List Rw) : St := ⟨[.own b v 0 n, .top, .top, .top, .top, .top, .top, .top, .top, .top, .int .i64 i, .top, .top, .int .i64 k] ++ List.replicate 206 .top, B D⟩
set_option maxRecDepth 100000 in
theorem Ddstep (B : List Rw → Blks) (b v L n g : Nat) (hB : BB B b v L) (hn : n ≤ 1000000) (i : Nat) (k : Nat) (hk : k + 1 < i) (hi : i ≤ n) (D : List Rw) (hD : GdL D) (hl : n ≤ D.length) (f : Nat) :
    ∃ s', evCode (evC Dg) f c52b3 (DdS B b v n g i k D) = some (.normal s') ∧ norm [0, 10, 13] L s' = DdS B b v n g i (k + 1) (swapAt D (k) (k + 1)) := by
  obtain ⟨r, e1, h1⟩ := hD.get (i := k) (by omega)
  obtain ⟨s, e2, h2⟩ := hD.get (i := k + 1) (by omega)
  unfold swapAt
  rw [e1, e2]
  have h1' := h1
  have h2' := h2
  obtain ⟨x1, x2, x3, x4, x5, x6, x7, rfl, ⟨m1, m2, m3, m4, m5, m6, m7⟩, l1, l2, l3, l4, l5, l6, l7⟩ := h1
  obtain ⟨y1, y2, y3, y4, y5, y6, y7, rfl, ⟨p1, p2, p3, p4, p5, p6, p7⟩, q1, q2, q3, q4, q5, q6, q7⟩ := h2
  obtain ⟨t, e3, z1, z2, z3, z4, z5, z6, z7, rfl, _, _⟩ := (hD.set (i := k) h2').get (i := k + 1) (by simp; omega)
  simp only [Option.getD_some]
  have e1' := gE e1
  have e2' := gE e2
  have e3' := gE e3
  have w1 : IntKind.i64.wrap ((i : Int) - 1) = ((i - 1 : Nat) : Int) := by rw [wrap_i64 _ (by omega) (by omega)]; omega
  have w2 : IntKind.i64.wrap ((k : Int) + 1) = ((k + 1 : Nat) : Int) := by rw [wrap_i64 _ (by omega) (by omega)]; omega
  have c0 : (k : Int) < ((i - 1 : Nat) : Int) := by omega
  have c1 : (0 : Int) ≤ k := by omega
  have c2 : (0 : Int) ≤ ((k + 1 : Nat) : Int) := by omega
  have c3 : k < n := by omega
  have c4 : k + 1 < n := by omega
  obtain ⟨u, hu⟩ : ∃ u, k + 1 = u := ⟨_, rfl⟩
  obtain ⟨w, hw⟩ : ∃ w, i - 1 = w := ⟨_, rfl⟩
  rw [hu] at w2 c2 c4 e2 e2' e3 e3' ⊢
  rw [hw] at w1 c0
  have g0 := hB.len
  have g1 := hB.get
  have g2 := hB.set
  have g3 := hB.tk
  have g4 := hB.lt
  have g5 : Nat.blt b L = true := by simpa [Nat.blt_eq] using hB.hb
  have n0 : n ≤ D.length := by omega
  clear hu hw hk hi
  clear hD h1' h2'
  unfold c52b3
  simp [evCode, evOps, evOne, evOp, evPur, evEff, evPur.chunks, fillP, AOp.isEff, AO.ev, putP, PV.cells, PV.leaf, getB, getM, mapE, iterE, keyC, mapRows, mfind, eq1, eqL, scal, binP, unP, minP, maxP, foldP, PV.lt, PV.lt.ltL, endP, expoAll, expoG, expo, expo.expoL, frIds, frIds.frIdsL, nodupN, kill, cls, clsFuel, resO, RV.get, loadP, evC_p, evC_s, endS, endT, rowsOf, callP, thinL, unfr, unfr.unfrL, PV.noMem, PV.noMem.noMemL, optI, mapO, norm, trimT, trimB, forget, hasN, blksLt, List.set, softChk, softGo, softRd, effTg, rdP, DdS, e1, e2, e3, e1', e2', e3', n0, g0, g1, g2, g3, g4, g5, w1, w2, c0, c1, c2, c3, c4, ↓l1, ↓l2, ↓l3, ↓l4, ↓l5, ↓l6, ↓l7, ↓q1, ↓q2, ↓q3, ↓q4, ↓q5, ↓q6, ↓q7, ↓m1, ↓m2, ↓m3, ↓m4, ↓m5, ↓m6, ↓m7, ↓p1, ↓p2, ↓p3, ↓p4, ↓p5, ↓p6, ↓p7]
def EeS (B : List Rw → Blks) (b v n g : Nat) (i : Nat) (k : Nat) (D : List Rw) : St := ⟨[.own b v 0 n, .top, .top, .top, .top, .top, .top, .top, .top, .top, .top, .top, .top, .top, .int .i64 i, .top, .top, .int .i64 k] ++ List.replicate 202 .top, B D⟩
set_option maxRecDepth 100000 in
theorem Eestep (B : List Rw → Blks) (b v L n g : Nat) (hB : BB B b v L) (hn : n ≤ 1000000) (i : Nat) (k : Nat) (hk : i < k) (hi : k < n) (D : List Rw) (hD : GdL D) (hl : n ≤ D.length) (f : Nat) :
    ∃ s', evCode (evC Dg) f c52b1 (EeS B b v n g i k D) = some (.normal s') ∧ norm [0, 14, 17] L s' = EeS B b v n g i (k - 1) (swapAt D (k) (k - 1)) := by
  obtain ⟨r, e1, h1⟩ := hD.get (i := k) (by omega)
  obtain ⟨s, e2, h2⟩ := hD.get (i := k - 1) (by omega)
  unfold swapAt
  rw [e1, e2]
  have h1' := h1
  have h2' := h2
  obtain ⟨x1, x2, x3, x4, x5, x6, x7, rfl, ⟨m1, m2, m3, m4, m5, m6, m7⟩, l1, l2, l3, l4, l5, l6, l7⟩ := h1
  obtain ⟨y1, y2, y3, y4, y5, y6, y7, rfl, ⟨p1, p2, p3, p4, p5, p6, p7⟩, q1, q2, q3, q4, q5, q6, q7⟩ := h2
  obtain ⟨t, e3, z1, z2, z3, z4, z5, z6, z7, rfl, _, _⟩ := (hD.set (i := k) h2').get (i := k - 1) (by simp; omega)
  simp only [Option.getD_some]
  have e1' := gE e1
  have e2' := gE e2
  have e3' := gE e3
  have w2 : IntKind.i64.wrap ((k : Int) - 1) = ((k - 1 : Nat) : Int) := by rw [wrap_i64 _ (by omega) (by omega)]; omega
  have c0 : (i : Int) < k := by omega
  have c1 : (0 : Int) ≤ k := by omega
  have c2 : (0 : Int) ≤ ((k - 1 : Nat) : Int) := by omega
  have c4 : k - 1 < n := by omega
  have hi2 := hi
  obtain ⟨u, hu⟩ : ∃ u, k - 1 = u := ⟨_, rfl⟩
  rw [hu] at w2 c2 c4 e2 e2' e3 e3' ⊢
  have g0 := hB.len
  have g1 := hB.get
  have g2 := hB.set
  have g3 := hB.tk
  have g4 := hB.lt
  have g5 : Nat.blt b L = true := by simpa [Nat.blt_eq] using hB.hb
  have n0 : n ≤ D.length := by omega
  clear hu hk hi
  clear hD h1' h2'
  unfold c52b1
  simp [evCode, evOps, evOne, evOp, evPur, evEff, evPur.chunks, fillP, AOp.isEff, AO.ev, putP, PV.cells, PV.leaf, getB, getM, mapE, iterE, keyC, mapRows, mfind, eq1, eqL, scal, binP, unP, minP, maxP, foldP, PV.lt, PV.lt.ltL, endP, expoAll, expoG, expo, expo.expoL, frIds, frIds.frIdsL, nodupN, kill, cls, clsFuel, resO, RV.get, loadP, evC_p, evC_s, endS, endT, rowsOf, callP, thinL, unfr, unfr.unfrL, PV.noMem, PV.noMem.noMemL, optI, mapO, norm, trimT, trimB, forget, hasN, blksLt, List.set, softChk, softGo, softRd, effTg, rdP, EeS, e1, e2, e3, e1', e2', e3', n0, g0, g1, g2, g3, g4, g5, w2, c0, c1, c2, hi2, c4, ↓l1, ↓l2, ↓l3, ↓l4, ↓l5, ↓l6, ↓l7, ↓q1, ↓q2, ↓q3, ↓q4, ↓q5, ↓q6, ↓q7, ↓m1, ↓m2, ↓m3, ↓m4, ↓m5, ↓m6, ↓m7, ↓p1, ↓p2, ↓p3, ↓p4, ↓p5, ↓p6, ↓p7]
end Go.Proofs.Ytalmhggbdfjalaa
