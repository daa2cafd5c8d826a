/- ring: Check, Count, Free of the reference. -/
import Derived.Test.YthoncigfbhinlaaRgLa
import Derived.Test.YthoncigfbhinlaaRgLb
namespace Go.Proofs.Ythoncigfbhinlaa
open Go Go.RowKit
set_option linter.unusedVariables false
set_option linter.unusedSimpArgs false
set_option maxHeartbeats 8000000

set_option maxRecDepth 100000 in
theorem f18 (x : Bool) (p : Int) (D : List Nat) (s e f m : Int) (hD : D.length ≤ 100000) (ok : okB D) : evE Dg 18 [eR p (eB x D) s e f m] = some (.int .i64 (errF p D s e f m)) := by
  by_cases hp : okP p
  · have bad2 : ¬ numsOk D.length s e f m → evE Dg 18 [eR p (eB x D) s e f m] = some (.int .i64 2) → evE Dg 18 [eR p (eB x D) s e f m] = some (.int .i64 (errF p D s e f m)) := by
      intro h1 h2
      unfold errF
      rw [if_pos hp, if_neg h1]
      exact h2
    by_cases c1 : (D.length : Int) < 16
    · refine bad2 (fun h => by have := h.1; omega) ?_
      rcases hp with rfl | rfl
      · exact k1_c1 x D s e f m c1
      · exact k2_c1 x D s e f m c1
    by_cases c2 : (65536 : Int) < D.length
    · refine bad2 (fun h => by have := h.2.1; omega) ?_
      rcases hp with rfl | rfl
      · exact k1_c2 x D s e f m c1 c2
      · exact k2_c2 x D s e f m c1 c2
    by_cases c3 : s < 0
    · refine bad2 (fun h => by have := h.2.2.1; omega) ?_
      rcases hp with rfl | rfl
      · exact k1_c3 x D s e f m c1 c2 c3
      · exact k2_c3 x D s e f m c1 c2 c3
    by_cases c4 : e < s
    · refine bad2 (fun h => by have := h.2.2.2.1; omega) ?_
      rcases hp with rfl | rfl
      · exact k1_c4 x D s e f m c1 c2 c3 c4
      · exact k2_c4 x D s e f m c1 c2 c3 c4
    by_cases c5 : 1000000000000000 < e
    · refine bad2 (fun h => by have := h.2.2.2.2.1; omega) ?_
      rcases hp with rfl | rfl
      · exact k1_c5 x D s e f m c1 c2 c3 c4 c5
      · exact k2_c5 x D s e f m c1 c2 c3 c4 c5
    by_cases c6 : (D.length : Int) < e - s
    · refine bad2 (fun h => by have := h.2.2.2.2.2.1; omega) ?_
      rcases hp with rfl | rfl
      · exact k1_c6 x D s e f m c1 c2 c3 c4 c5 c6
      · exact k2_c6 x D s e f m c1 c2 c3 c4 c5 c6
    by_cases c7 : f < 0
    · refine bad2 (fun h => by have := h.2.2.2.2.2.2.1; omega) ?_
      rcases hp with rfl | rfl
      · exact k1_c7 x D s e f m c1 c2 c3 c4 c5 c6 c7
      · exact k2_c7 x D s e f m c1 c2 c3 c4 c5 c6 c7
    by_cases c8 : m < f
    · refine bad2 (fun h => by have := h.2.2.2.2.2.2.2.1; omega) ?_
      rcases hp with rfl | rfl
      · exact k1_c8 x D s e f m c1 c2 c3 c4 c5 c6 c7 c8
      · exact k2_c8 x D s e f m c1 c2 c3 c4 c5 c6 c7 c8
    by_cases c9 : 1000000000000000 < m
    · refine bad2 (fun h => by have := h.2.2.2.2.2.2.2.2; omega) ?_
      rcases hp with rfl | rfl
      · exact k1_c9 x D s e f m c1 c2 c3 c4 c5 c6 c7 c8 c9
      · exact k2_c9 x D s e f m c1 c2 c3 c4 c5 c6 c7 c8 c9
    have hnum : numsOk D.length s e f m := ⟨by omega, by omega, by omega, by omega, by omega, by omega, by omega, by omega, by omega⟩
    obtain ⟨S, rfl⟩ : ∃ q : Nat, s = q := ⟨s.toNat, by omega⟩
    obtain ⟨T, rfl⟩ : ∃ q : Nat, e = q := ⟨e.toNat, by omega⟩
    have h30 := fun p => f30 x p f m D S T (by omega) (by omega) (by omega) (by omega) (by omega)
    have okc := contF_ok (D := D) (s := S) (L := T - S) ok
    have lc := contF_len (D := D) (s := S) (L := T - S) (by omega)
    have hrec : recsF D S T = recF ((contF D S (T - S)).length + 1) (contF D S (T - S)) := by unfold recsF; simp
    have h29 := f29 (contF D S (T - S)) okc (by omega)
    unfold rs29 at h29
    rw [← hrec] at h29
    have herr : errF p D S T f m = (match recsF D S T with | some l => if (l.length : Int) = m - f then 0 else 10 | none => 10) := by
      unfold errF
      rw [if_pos hp, if_pos hnum]
      cases recsF D S T <;> rfl
    rcases hq : recsF D S T with _ | l
    · rw [hq] at h29 herr
      rw [herr]
      rcases hp with rfl | rfl
      · exact k1_run x D S T f m c1 c2 c3 c4 c5 c6 c7 c8 c9 _ none _ rfl (h30 1) h29
      · exact k2_run x D S T f m c1 c2 c3 c4 c5 c6 c7 c8 c9 _ none _ rfl (h30 2) h29
    · rw [hq] at h29 herr
      rw [herr]
      rcases hp with rfl | rfl
      · exact k1_run x D S T f m c1 c2 c3 c4 c5 c6 c7 c8 c9 _ (some l) _ rfl (h30 1) h29
      · exact k2_run x D S T f m c1 c2 c3 c4 c5 c6 c7 c8 c9 _ (some l) _ rfl (h30 2) h29
  · have n1 : ¬ p = 1 := fun h => hp (.inl h)
    have n2 : ¬ p = 2 := fun h => hp (.inr h)
    have : errF p D s e f m = 1 := by unfold errF; rw [if_neg hp]
    rw [this]
    refine evE_intro 3 D18 rfl ?_
    unfold c18
    simp [evCode, evOps, evOne, evOp, evPur, evEff, evPur.chunks, fillP, AOp.isEff, AO.ev, putP, PV.cells, PV.leaf, getB, getM, mapE, keyC, mapRows, mfind, eq1, eqL, scal, binP, unP, minP, maxP, foldP, PV.lt, PV.lt.ltL, endP, expoAll, expo, expo.expoL, frIds, frIds.frIdsL, nodupN, kill, cls, clsFuel, resO, RV.get, loadP, evC_p, evC_s, endS, endT, rowsOf, callP, thinL, unfr, unfr.unfrL, PV.noMem, PV.noMem.noMemL, optI, mapO, norm, trimT, trimB, forget, hasN, blksLt, List.set, eR, eB, n1, n2]
set_option maxRecDepth 100000 in
theorem f19 (x : Bool) (p : Int) (D : List Nat) (s e f m : Int) (hD : D.length ≤ 100000) (ok : okB D) : evE Dg 19 [eR p (eB x D) s e f m] = some (.int .i64 (cntF p D s e f m)) := by
  have h := f18 x p D s e f m hD ok
  have hn := err_nums (p := p) (D := D) (s := s) (e := e) (f := f) (m := m)
  unfold cntF
  generalize errF p D s e f m = er at *
  simp only [eR, eB] at h
  refine evE_intro 3 D19 rfl ?_
  unfold c19
  by_cases c : er = 0
  · subst c
    obtain ⟨_, _, _, _, _, _, _, n1, n2, n3⟩ := hn rfl
    have w : IntKind.i64.wrap (m - f) = m - f := wrap_i64 _ (by omega) (by omega)
    simp [evCode, evOps, evOne, evOp, evPur, evEff, evPur.chunks, fillP, AOp.isEff, AO.ev, putP, PV.cells, PV.leaf, getB, getM, mapE, keyC, mapRows, mfind, eq1, eqL, scal, binP, unP, minP, maxP, foldP, PV.lt, PV.lt.ltL, endP, expoAll, expo, expo.expoL, frIds, frIds.frIdsL, nodupN, kill, cls, clsFuel, resO, RV.get, loadP, evC_p, evC_s, endS, endT, rowsOf, callP, thinL, unfr, unfr.unfrL, PV.noMem, PV.noMem.noMemL, optI, mapO, norm, trimT, trimB, forget, hasN, blksLt, List.set, eR, eB, h, w]
  · simp [evCode, evOps, evOne, evOp, evPur, evEff, evPur.chunks, fillP, AOp.isEff, AO.ev, putP, PV.cells, PV.leaf, getB, getM, mapE, keyC, mapRows, mfind, eq1, eqL, scal, binP, unP, minP, maxP, foldP, PV.lt, PV.lt.ltL, endP, expoAll, expo, expo.expoL, frIds, frIds.frIdsL, nodupN, kill, cls, clsFuel, resO, RV.get, loadP, evC_p, evC_s, endS, endT, rowsOf, callP, thinL, unfr, unfr.unfrL, PV.noMem, PV.noMem.noMemL, optI, mapO, norm, trimT, trimB, forget, hasN, blksLt, List.set, eR, eB, h, c]
set_option maxRecDepth 100000 in
theorem f20 (x : Bool) (p : Int) (D : List Nat) (s e f m : Int) (hD : D.length ≤ 100000) (ok : okB D) : evE Dg 20 [eR p (eB x D) s e f m] = some (.int .i64 (freF p D s e f m)) := by
  have h := f18 x p D s e f m hD ok
  have hn := err_nums (p := p) (D := D) (s := s) (e := e) (f := f) (m := m)
  unfold freF
  generalize errF p D s e f m = er at *
  have e1 := bR_len D
  simp only [eR, eB] at h
  refine evE_intro 3 D20 rfl ?_
  unfold c20
  by_cases c : er = 0
  · subst c
    obtain ⟨_, n0, n1, n2, n3, n4, n5, _, _, _⟩ := hn rfl
    have w : IntKind.i64.wrap (e - s) = e - s := wrap_i64 _ (by omega) (by omega)
    have w2 : IntKind.i64.wrap ((D.length : Int) - (e - s)) = (D.length : Int) - (e - s) := wrap_i64 _ (by omega) (by omega)
    simp [evCode, evOps, evOne, evOp, evPur, evEff, evPur.chunks, fillP, AOp.isEff, AO.ev, putP, PV.cells, PV.leaf, getB, getM, mapE, keyC, mapRows, mfind, eq1, eqL, scal, binP, unP, minP, maxP, foldP, PV.lt, PV.lt.ltL, endP, expoAll, expo, expo.expoL, frIds, frIds.frIdsL, nodupN, kill, cls, clsFuel, resO, RV.get, loadP, evC_p, evC_s, endS, endT, rowsOf, callP, thinL, unfr, unfr.unfrL, PV.noMem, PV.noMem.noMemL, optI, mapO, norm, trimT, trimB, forget, hasN, blksLt, List.set, eR, eB, e1, h, w, w2]
  · simp [evCode, evOps, evOne, evOp, evPur, evEff, evPur.chunks, fillP, AOp.isEff, AO.ev, putP, PV.cells, PV.leaf, getB, getM, mapE, keyC, mapRows, mfind, eq1, eqL, scal, binP, unP, minP, maxP, foldP, PV.lt, PV.lt.ltL, endP, expoAll, expo, expo.expoL, frIds, frIds.frIdsL, nodupN, kill, cls, clsFuel, resO, RV.get, loadP, evC_p, evC_s, endS, endT, rowsOf, callP, thinL, unfr, unfr.unfrL, PV.noMem, PV.noMem.noMemL, optI, mapO, norm, trimT, trimB, forget, hasN, blksLt, List.set, eR, eB, h, c]
end Go.Proofs.Ythoncigfbhinlaa
