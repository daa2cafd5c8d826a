/- ring: how many records are lost, as the program counts. -/
import Derived.Test.YthoncigfbhinlaaRgZ
namespace Go.Proofs.Ythoncigfbhinlaa
open Go Go.RowKit
set_option linter.unusedVariables false
set_option linter.unusedSimpArgs false
set_option maxHeartbeats 8000000

set_option maxRecDepth 100000 in
theorem f28 (x : Bool) (p : Int) (D : List Nat) (s e f m : Int) (a : Nat) (hD : D.length ≤ 100000) (h0 : 0 ≤ e - s) (h1 : e - s ≤ 1000000) (ha : (a : Int) = D.length - (e - s)) : evE Dg 28 [eR p (eB x D) s e f m] = some (.int .i64 a) := by
  have e1 := bR_len D
  have w : IntKind.i64.wrap (e - s) = e - s := wrap_i64 _ (by omega) (by omega)
  have w2 : IntKind.i64.wrap ((D.length : Int) - (e - s)) = a := by rw [wrap_i64 _ (by omega) (by omega)]; omega
  refine evE_intro 3 D28 rfl ?_
  unfold c28
  simp [evCode, evOps, evOne, evOp, evPur, evEff, evPur.chunks, fillP, AOp.isEff, AO.ev, putP, PV.cells, PV.leaf, getB, getM, mapE, keyC, mapRows, mfind, eq1, eqL, scal, binP, unP, minP, maxP, foldP, PV.lt, PV.lt.ltL, endP, expoAll, expo, expo.expoL, frIds, frIds.frIdsL, nodupN, kill, cls, clsFuel, resO, RV.get, loadP, evC_p, evC_s, endS, endT, rowsOf, callP, thinL, unfr, unfr.unfrL, PV.noMem, PV.noMem.noMemL, optI, mapO, norm, trimT, trimB, forget, hasN, blksLt, List.set, eR, eB, e1, w, w2]
def S23 (x : Bool) (p : Int) (D A : List Nat) (s e f m : Int) (l : List (List Nat)) (u : Nat × Nat) : St :=
  ⟨[.top, .top, .ptr 0 1 0 0, .top, .ptr 1 1 0 0, .top, .top, .sl false 1 (rcR l), .top, .sl false 1 (bR A), .ptr 2 1 0 0, .int .i64 u.1] ++ List.replicate 112 .top,
    [some ⟨1, 6, true, [cl p (eB x D) s e f m]⟩, some ⟨1, 6, true, [[.int .i64 0, .nilS, .int .i64 0, .int .i64 0, .int .i64 0, .int .i64 0]]⟩, some ⟨1, 6, true, [cl p (eB x D) (s + (u.2 : Nat)) e (f + (u.1 : Nat)) m]⟩]⟩
set_option maxRecDepth 100000 in
theorem loop23 (x : Bool) (p : Int) (D A : List Nat) (s e f m : Int) (a : Nat) (l : List (List Nat)) (hl : l.length ≤ 70000) (hr : ∀ r ∈ l, r.length ≤ 2000) (hn : A.length ≤ D.length) (hn2 : D.length ≤ 100000) (hs0 : 0 ≤ s) (hs1 : s ≤ 1000000000000000) (hf0 : 0 ≤ f) (hf1 : f ≤ 1000000000000000)
    (hI : a + szsF l = D.length) (ha : (a : Int) = D.length - (e - s)) (E : Option Out) (s0 : St) (hE : evLoop (evCode (evC Dg) 70010 c23b0) [2, 4, 7, 9, 10, 11] 3 70010 s0 = E) (h0 : norm [2, 4, 7, 9, 10, 11] 3 s0 = S23 x p D A s e f m l (0, 0)) :
    E = evCode (evC Dg) 70010 c23b0 (S23 x p D A s e f m l (lstF A.length a l)) ∧ ¬ a + (lstF A.length a l).2 < A.length ∧ LI A.length D.length a l (lstF A.length a l) := by
  have eA := bR_len A
  have el := rcR_len l
  have H := loop_while (body := evCode (evC Dg) 70010 c23b0) (keep := [2, 4, 7, 9, 10, 11]) (n0 := 3) (fuel := 70010) (S23 x p D A s e f m l) (fun u => l.length - u.1) (LI A.length D.length a l)
    (fun o => some o = evCode (evC Dg) 70010 c23b0 (S23 x p D A s e f m l (lstF A.length a l)) ∧ ¬ a + (lstF A.length a l).2 < A.length ∧ LI A.length D.length a l (lstF A.length a l))
    (by
      rintro u hu
      have hu2 := hu.2.1
      have h28 := f28 x p D (s + (u.2 : Nat)) e (f + (u.1 : Nat)) m (a + u.2) hn2 (by omega) (by omega) (by omega)
      simp only [eR, eB] at h28
      by_cases c : a + u.2 < A.length
      · obtain ⟨r, h1, h2, h3, h4⟩ := LI_step hu hn c
        left
        refine ⟨(u.1 + 1, u.2 + szF r), ?_⟩
        have hrl := hr r (List.mem_of_getElem? h1)
        have h32 := f32s r.length (by omega)
        have g1 := rcR_get h1
        have g2 := rcR_got h1
        have er := bR_len r
        have ep := bR_len (putF r.length)
        have esz : szF r = (putF r.length).length + r.length := rfl
        have hfin : LI A.length D.length a l (u.1 + 1, u.2 + szF r) ∧ l.length - (u.1 + 1) < l.length - u.1 := ⟨h4, by omega⟩
        obtain ⟨k, z⟩ := u
        simp only at c h1 h2 h3 g1 g2 hfin hu2 h28 ⊢
        have hbody : ∃ s', evCode (evC Dg) 70010 c23b0 (S23 x p D A s e f m l (k, z)) = some (.normal s') ∧ norm [2, 4, 7, 9, 10, 11] 3 s' = S23 x p D A s e f m l (k + 1, z + szF r) := by
          clear hfin h4 hu hu2
          have w0 : IntKind.i64.wrap (((putF r.length).length : Int) + r.length) = (szF r : Int) := by rw [esz, wrap_i64 _ (by omega) (by omega)]; omega
          generalize putF r.length = G at *
          generalize szF r = q at *
          obtain ⟨t, ht⟩ := ex_eq (a + z)
          rw [ht] at c h3 h28
          have c' : (t : Int) < A.length := by omega
          have w2 : IntKind.i64.wrap (s + z + q) = s + ((z + q : Nat) : Int) := by rw [wrap_i64 _ (by omega) (by omega)]; omega
          have w3 : IntKind.i64.wrap ((k : Int) + 1) = ((k + 1 : Nat) : Int) := by rw [wrap_i64 _ (by omega) (by omega)]; omega
          have w4 : IntKind.i64.wrap (f + (k : Int) + 1) = f + ((k + 1 : Nat) : Int) := by rw [wrap_i64 _ (by omega) (by omega)]; omega
          obtain ⟨y, hy⟩ := ex_eq (z + q)
          obtain ⟨y3, hy3⟩ := ex_eq (k + 1)
          rw [hy] at w2
          rw [hy3] at w3 w4
          unfold c23b0
          simp [evCode, evOps, evOne, evOp, evPur, evEff, evPur.chunks, fillP, AOp.isEff, AO.ev, putP, PV.cells, PV.leaf, getB, getM, mapE, keyC, mapRows, mfind, eq1, eqL, scal, binP, unP, minP, maxP, foldP, PV.lt, PV.lt.ltL, endP, expoAll, expo, expo.expoL, frIds, frIds.frIdsL, nodupN, kill, cls, clsFuel, resO, RV.get, loadP, evC_p, evC_s, endS, endT, rowsOf, callP, thinL, unfr, unfr.unfrL, PV.noMem, PV.noMem.noMemL, optI, mapO, norm, trimT, trimB, forget, hasN, blksLt, List.set, S23, cl, eB, eA, el, er, ep, c, c', g1, g2, h2, h28, h32, w0, w2, w3, w4, hy, hy3]
        obtain ⟨s', b1, b2⟩ := hbody
        exact ⟨s', b1, b2, hfin⟩
      · right
        have hst := LI_stop hu c
        rw [hst]
        have hbody : ∃ o, evCode (evC Dg) 70010 c23b0 (S23 x p D A s e f m l u) = some o ∧ ∀ s, o ≠ .normal s := by
          obtain ⟨k, z⟩ := u
          simp only at c h28
          obtain ⟨t, ht⟩ := ex_eq (a + z)
          rw [ht] at c h28
          have c' : ¬ (t : Int) < A.length := by omega
          unfold c23b0
          simp [evCode, evOps, evOne, evOp, evPur, evEff, evPur.chunks, fillP, AOp.isEff, AO.ev, putP, PV.cells, PV.leaf, getB, getM, mapE, keyC, mapRows, mfind, eq1, eqL, scal, binP, unP, minP, maxP, foldP, PV.lt, PV.lt.ltL, endP, expoAll, expo, expo.expoL, frIds, frIds.frIdsL, nodupN, kill, cls, clsFuel, resO, RV.get, loadP, evC_p, evC_s, endS, endT, rowsOf, callP, thinL, unfr, unfr.unfrL, PV.noMem, PV.noMem.noMemL, optI, mapO, norm, trimT, trimB, forget, hasN, blksLt, List.set, S23, cl, eB, eA, h28, c, c']
        obtain ⟨o, o1, o2⟩ := hbody
        exact ⟨o, o1, o2, o1.symm, c, hu⟩)
    (0, 0) ⟨by simp, by simpa using hI, by simp⟩ (by simp only; omega) s0 E hE h0
  obtain ⟨o, ho, h⟩ := H
  subst ho
  exact h
end Go.Proofs.Ythoncigfbhinlaa
