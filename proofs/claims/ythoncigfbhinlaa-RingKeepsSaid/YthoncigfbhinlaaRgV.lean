/- ring: how many records are lost, as the reference counts. -/
import Derived.Test.YthoncigfbhinlaaRgU
namespace Go.Proofs.Ythoncigfbhinlaa
open Go Go.RowKit
set_option linter.unusedVariables false
set_option linter.unusedSimpArgs false
set_option maxHeartbeats 8000000

/-- how many records are lost, and how many bytes they free: a bytes are free, need are wanted -/
def lstF (need : Nat) : Nat → List (List Nat) → Nat × Nat
  | _, [] => (0, 0)
  | a, r :: l => if a < need then ((lstF need (a + szF r) l).1 + 1, (lstF need (a + szF r) l).2 + szF r) else (0, 0)
theorem szsF_cons (r : List Nat) (l : List (List Nat)) : szsF (r :: l) = szF r + szsF l := by simp [szsF]
/-- what is known in the loop that loses records -/
def LI (need n a : Nat) (l : List (List Nat)) (u : Nat × Nat) : Prop :=
  u.1 ≤ l.length ∧ a + u.2 + szsF (l.drop u.1) = n ∧ lstF need a l = ((lstF need (a + u.2) (l.drop u.1)).1 + u.1, (lstF need (a + u.2) (l.drop u.1)).2 + u.2)
theorem LI_step {need n a : Nat} {l : List (List Nat)} {u : Nat × Nat} (h : LI need n a l u) (hn : need ≤ n) (hlt : a + u.2 < need) : ∃ r, l[u.1]? = some r ∧ u.1 < l.length ∧ a + u.2 + szF r ≤ n ∧ LI need n a l (u.1 + 1, u.2 + szF r) := by
  obtain ⟨k, z⟩ := u
  obtain ⟨h1, h2, h3⟩ := h
  simp only at h1 h2 h3 hlt ⊢
  have hk : k < l.length := by
    rcases Nat.lt_or_ge k l.length with g | g
    · exact g
    · rw [List.drop_eq_nil_of_le g] at h2
      simp [szsF] at h2
      omega
  have hd : l.drop k = l[k] :: l.drop (k + 1) := List.drop_eq_getElem_cons hk
  refine ⟨l[k], List.getElem?_eq_getElem hk, hk, ?_, ?_⟩
  · rw [hd, szsF_cons] at h2; omega
  · rw [hd, szsF_cons] at h2
    rw [hd] at h3
    simp only [lstF, hlt, if_true] at h3
    refine ⟨by simp only; omega, by simp only; omega, ?_⟩
    rw [h3]
    simp only [Nat.add_assoc, Prod.mk.injEq]
    exact ⟨by omega, by omega⟩
theorem LI_stop {need n a : Nat} {l : List (List Nat)} {u : Nat × Nat} (h : LI need n a l u) (hlt : ¬ a + u.2 < need) : lstF need a l = u := by
  obtain ⟨k, z⟩ := u
  obtain ⟨h1, h2, h3⟩ := h
  simp only at h1 h2 h3 hlt
  rw [h3]
  cases l.drop k with
  | nil => simp [lstF]
  | cons r q => simp [lstF, hlt]
def S24 (x : Bool) (p : Int) (D A : List Nat) (s e f m : Int) (a : Nat) (l : List (List Nat)) (u : Nat × Nat) : St :=
  ⟨[.top, .top, .ptr 0 1 0 0, .top, .ptr 1 1 0 0, .top, .top, .top, .sl false 1 (bR A), .sl false 1 (rcN l), .top, .int .i64 u.1, .int .i64 ((a + u.2 : Nat) : Int)] ++ List.replicate 104 .top,
    [some ⟨1, 6, true, [cl p (eB x D) (s + (u.2 : Nat)) e f m]⟩, some ⟨1, 6, true, [[.int .i64 0, .nilS, .int .i64 0, .int .i64 0, .int .i64 0, .int .i64 0]]⟩]⟩
set_option maxRecDepth 100000 in
theorem loop24 (x : Bool) (p : Int) (D A : List Nat) (s e f m : Int) (a n : Nat) (l : List (List Nat)) (hl : l.length ≤ 70000) (hr : ∀ r ∈ l, r.length ≤ 2000) (hn : A.length ≤ n) (hn2 : n ≤ 100000) (hs0 : 0 ≤ s) (hs1 : s ≤ 1000000000000000)
    (hI : a + szsF l = n) (E : Option Out) (s0 : St) (hE : evLoop (evCode (evC Dg) 70010 c24b0) [2, 4, 8, 9, 11, 12] 2 70010 s0 = E) (h0 : norm [2, 4, 8, 9, 11, 12] 2 s0 = S24 x p D A s e f m a l (0, 0)) :
    E = evCode (evC Dg) 70010 c24b0 (S24 x p D A s e f m a l (lstF A.length a l)) ∧ ¬ a + (lstF A.length a l).2 < A.length ∧ LI A.length n a l (lstF A.length a l) := by
  have eA := bR_len A
  have el := rcN_len l
  have H := loop_while (body := evCode (evC Dg) 70010 c24b0) (keep := [2, 4, 8, 9, 11, 12]) (n0 := 2) (fuel := 70010) (S24 x p D A s e f m a l) (fun u => l.length - u.1) (LI A.length n a l)
    (fun o => some o = evCode (evC Dg) 70010 c24b0 (S24 x p D A s e f m a l (lstF A.length a l)) ∧ ¬ a + (lstF A.length a l).2 < A.length ∧ LI A.length n a l (lstF A.length a l))
    (by
      rintro u hu
      by_cases c : a + u.2 < A.length
      · obtain ⟨r, h1, h2, h3, h4⟩ := LI_step hu hn c
        left
        refine ⟨(u.1 + 1, u.2 + szF r), ?_⟩
        have hrl := hr r (List.mem_of_getElem? h1)
        have h34 := f34 false r (by omega)
        have g1 := rcN_get h1
        have g2 := rcN_got h1
        have esz : (bR (putF r.length ++ r)).length = szF r := by rw [bR_len, List.length_append]; rfl
        have hfin : LI A.length n a l (u.1 + 1, u.2 + szF r) ∧ l.length - (u.1 + 1) < l.length - u.1 := ⟨h4, by omega⟩
        obtain ⟨k, z⟩ := u
        simp only at c h1 h2 h3 g1 g2 hfin ⊢
        have hbody : ∃ s', evCode (evC Dg) 70010 c24b0 (S24 x p D A s e f m a l (k, z)) = some (.normal s') ∧ norm [2, 4, 8, 9, 11, 12] 2 s' = S24 x p D A s e f m a l (k + 1, z + szF r) := by
          clear hfin h4 hu
          generalize putF r.length ++ r = G at *
          generalize szF r = q at *
          obtain ⟨t, ht⟩ := ex_eq (a + z)
          have ht2 : a + (z + q) = t + q := by omega
          rw [ht] at c h3
          have c' : (t : Int) < A.length := by omega
          have w1 : IntKind.i64.wrap ((t : Int) + q) = ((t + q : Nat) : Int) := by rw [wrap_i64 _ (by omega) (by omega)]; omega
          have w2 : IntKind.i64.wrap (s + z + q) = s + ((z + q : Nat) : Int) := by rw [wrap_i64 _ (by omega) (by omega)]; omega
          have w3 : IntKind.i64.wrap ((k : Int) + 1) = ((k + 1 : Nat) : Int) := by rw [wrap_i64 _ (by omega) (by omega)]; omega
          obtain ⟨y, hy⟩ := ex_eq (z + q)
          obtain ⟨y2, hy2⟩ := ex_eq (t + q)
          obtain ⟨y3, hy3⟩ := ex_eq (k + 1)
          rw [hy] at w2 ht2
          rw [hy2] at w1 ht2
          rw [hy3] at w3
          simp only [eB] at h34
          unfold c24b0
          simp [evCode, evOps, evOne, evOp, evPur, evEff, evPur.chunks, fillP, AOp.isEff, AO.ev, putP, PV.cells, PV.leaf, getB, getM, mapE, keyC, mapRows, mfind, eq1, eqL, scal, binP, unP, minP, maxP, foldP, PV.lt, PV.lt.ltL, endP, expoAll, expo, expo.expoL, frIds, frIds.frIdsL, nodupN, kill, cls, clsFuel, resO, RV.get, loadP, evC_p, evC_s, endS, endT, rowsOf, callP, thinL, unfr, unfr.unfrL, PV.noMem, PV.noMem.noMemL, optI, mapO, norm, trimT, trimB, forget, hasN, blksLt, List.set, S24, cl, eB, eA, el, ht, ht2, c, c', g1, g2, h2, h34, esz, w1, w2, w3, hy, hy2, hy3]
        obtain ⟨s', b1, b2⟩ := hbody
        exact ⟨s', b1, b2, hfin⟩
      · right
        have hst := LI_stop hu c
        rw [hst]
        have hbody : ∃ o, evCode (evC Dg) 70010 c24b0 (S24 x p D A s e f m a l u) = some o ∧ ∀ s, o ≠ .normal s := by
          obtain ⟨k, z⟩ := u
          simp only at c
          obtain ⟨t, ht⟩ := ex_eq (a + z)
          rw [ht] at c
          have c' : ¬ (t : Int) < A.length := by omega
          unfold c24b0
          simp [evCode, evOps, evOne, evOp, evPur, evEff, evPur.chunks, fillP, AOp.isEff, AO.ev, putP, PV.cells, PV.leaf, getB, getM, mapE, keyC, mapRows, mfind, eq1, eqL, scal, binP, unP, minP, maxP, foldP, PV.lt, PV.lt.ltL, endP, expoAll, expo, expo.expoL, frIds, frIds.frIdsL, nodupN, kill, cls, clsFuel, resO, RV.get, loadP, evC_p, evC_s, endS, endT, rowsOf, callP, thinL, unfr, unfr.unfrL, PV.noMem, PV.noMem.noMemL, optI, mapO, norm, trimT, trimB, forget, hasN, blksLt, List.set, S24, eA, ht, c, c']
        obtain ⟨o, o1, o2⟩ := hbody
        exact ⟨o, o1, o2, o1.symm, c, hu⟩)
    (0, 0) ⟨by simp, by simpa using hI, by simp⟩ (by simp only; omega) s0 E hE h0
  obtain ⟨o, ho, h⟩ := H
  subst ho
  exact h
end Go.Proofs.Ythoncigfbhinlaa
