/- Check of the program. -/
import Derived.Test.YtecmcggnpgjbiaaCtA
namespace Go.Proofs.Ytecmcggnpgjbiaa
open Go Go.RowKit
set_option linter.unusedVariables false
set_option linter.unusedSimpArgs false
set_option maxHeartbeats 4000000

def S14 (x : Bool) (l : List Stp) (k : Nat) : St := ⟨[eSp x l, .top, .top, .top, .top, .top, eSp x l, .int .i64 l.length, .int .i64 k] ++ List.replicate 59 .top, []⟩
def rV (v : Int) (t : St) : Prop := t.sl[2]?.getD .top = .int .i64 v
set_option maxRecDepth 100000 in
theorem b14 (x : Bool) (l : List Stp) (hl : l.length ≤ 1000000) (n : Nat) (k : Nat) (a : Stp) (ha : l[k]? = some a) (hk : k < l.length) :
    (errC l k a = 0 ∧ ∃ s', evCode (evC Dg) n c14b0 (S14 x l k) = some (.normal s') ∧ norm [0, 6, 7, 8] 0 s' = S14 x l (k + 1)) ∨
    (errC l k a ≠ 0 ∧ ∃ s', evCode (evC Dg) n c14b0 (S14 x l k) = some (.ret s') ∧ rV (errC l k a) s') := by
  have hk' : (k : Int) < l.length := by omega
  have el : (l.map row).length = l.length := by simp
  have g1 := map_get (f := row) ha
  have g2 := sp_got ha
  have w1 := wrap_i64 ((k : Int) + 1) (by omega) (by omega)
  have i1 : IntKind.i64.wrap 1 = 1 := rfl
  have h29 := f29 a.1
  have h30 := f30 a.2.2
  unfold errC
  obtain ⟨a1, a2, a3⟩ := a
  simp only at h29 h30 ⊢
  simp only [row] at g1 g2
  unfold nameE at h29
  by_cases c1 : nameOk a1 = true
  rotate_left
  · rw [if_neg c1] at h29 ⊢
    refine .inr ⟨by decide, ?_⟩
    unfold c14b0
    simp [evCode, evOps, evOne, evOp, evPur, evEff, evPur.chunks, fillP, AOp.isEff, AO.ev, putP, PV.cells, PV.leaf, getB, getM, mapE, keyC, mapRows, mfind, eq1, eqL, scal, binP, unP, minP, maxP, foldP, PV.lt, PV.lt.ltL, endP, expoAll, expo, expo.expoL, frIds, frIds.frIdsL, nodupN, kill, cls, clsFuel, resO, RV.get, loadP, evC_p, evC_s, endS, endT, rowsOf, callP, thinL, unfr, unfr.unfrL, PV.noMem, PV.noMem.noMemL, optI, mapO, norm, trimT, trimB, forget, hasN, blksLt, List.set, S14, eSp, el, hk', hk, g1, g2, h29, rV]
  rw [if_pos c1] at h29 ⊢
  by_cases c2 : 0 ≤ a2
  rotate_left
  · have c2' : a2 < 0 := by omega
    rw [if_neg (fun h => c2 h.1)]
    refine .inr ⟨by decide, ?_⟩
    unfold c14b0
    simp [evCode, evOps, evOne, evOp, evPur, evEff, evPur.chunks, fillP, AOp.isEff, AO.ev, putP, PV.cells, PV.leaf, getB, getM, mapE, keyC, mapRows, mfind, eq1, eqL, scal, binP, unP, minP, maxP, foldP, PV.lt, PV.lt.ltL, endP, expoAll, expo, expo.expoL, frIds, frIds.frIdsL, nodupN, kill, cls, clsFuel, resO, RV.get, loadP, evC_p, evC_s, endS, endT, rowsOf, callP, thinL, unfr, unfr.unfrL, PV.noMem, PV.noMem.noMemL, optI, mapO, norm, trimT, trimB, forget, hasN, blksLt, List.set, S14, eSp, el, hk', hk, g1, g2, h29, c2', rV]
  have c2' : ¬ a2 < 0 := by omega
  by_cases c3 : a2 ≤ 1000000000000
  rotate_left
  · have c3' : 1000000000000 < a2 := by omega
    rw [if_neg (fun h => c3 h.2.1)]
    refine .inr ⟨by decide, ?_⟩
    unfold c14b0
    simp [evCode, evOps, evOne, evOp, evPur, evEff, evPur.chunks, fillP, AOp.isEff, AO.ev, putP, PV.cells, PV.leaf, getB, getM, mapE, keyC, mapRows, mfind, eq1, eqL, scal, binP, unP, minP, maxP, foldP, PV.lt, PV.lt.ltL, endP, expoAll, expo, expo.expoL, frIds, frIds.frIdsL, nodupN, kill, cls, clsFuel, resO, RV.get, loadP, evC_p, evC_s, endS, endT, rowsOf, callP, thinL, unfr, unfr.unfrL, PV.noMem, PV.noMem.noMemL, optI, mapO, norm, trimT, trimB, forget, hasN, blksLt, List.set, S14, eSp, el, hk', hk, g1, g2, h29, c2', c3', rV]
  have c3' : ¬ 1000000000000 < a2 := by omega
  by_cases c4 : -1000000000000000 ≤ a3 ∧ a3 ≤ 1000000000000000
  rotate_left
  · rw [if_neg (fun h => c4 h.2.2)]
    rw [decide_eq_false c4] at h30
    refine .inr ⟨by decide, ?_⟩
    unfold c14b0
    simp [evCode, evOps, evOne, evOp, evPur, evEff, evPur.chunks, fillP, AOp.isEff, AO.ev, putP, PV.cells, PV.leaf, getB, getM, mapE, keyC, mapRows, mfind, eq1, eqL, scal, binP, unP, minP, maxP, foldP, PV.lt, PV.lt.ltL, endP, expoAll, expo, expo.expoL, frIds, frIds.frIdsL, nodupN, kill, cls, clsFuel, resO, RV.get, loadP, evC_p, evC_s, endS, endT, rowsOf, callP, thinL, unfr, unfr.unfrL, PV.noMem, PV.noMem.noMemL, optI, mapO, norm, trimT, trimB, forget, hasN, blksLt, List.set, S14, eSp, el, hk', hk, g1, g2, h29, c2', c3', h30, rV]
  rw [if_pos ⟨c2, c3, c4⟩]
  rw [decide_eq_true c4] at h30
  cases k with
  | zero =>
    refine .inl ⟨rfl, ?_⟩
    unfold c14b0
    simp [evCode, evOps, evOne, evOp, evPur, evEff, evPur.chunks, fillP, AOp.isEff, AO.ev, putP, PV.cells, PV.leaf, getB, getM, mapE, keyC, mapRows, mfind, eq1, eqL, scal, binP, unP, minP, maxP, foldP, PV.lt, PV.lt.ltL, endP, expoAll, expo, expo.expoL, frIds, frIds.frIdsL, nodupN, kill, cls, clsFuel, resO, RV.get, loadP, evC_p, evC_s, endS, endT, rowsOf, callP, thinL, unfr, unfr.unfrL, PV.noMem, PV.noMem.noMemL, optI, mapO, norm, trimT, trimB, forget, hasN, blksLt, List.set, S14, eSp, el, hk', hk, g1, g2, h29, c2', c3', h30, w1, i1]
  | succ j =>
    obtain ⟨p, hp⟩ : ∃ p, l[j]? = some p := ⟨_, List.getElem?_eq_getElem (by omega)⟩
    have p1 := map_get (f := row) hp
    have p2 := sp_got hp
    have h26 := f26 p (a1, a2, a3)
    simp only [Nat.add_sub_cancel]
    rw [hp]
    simp only
    obtain ⟨b1, b2, b3⟩ := p
    simp only [row] at p1 p2 h26
    have hjl : j < l.length := by omega
    have hjl' : (j : Int) < l.length := by omega
    have hk0 : (0 : Int) < ((j + 1 : Nat) : Int) := by omega
    have w2 : IntKind.i64.wrap (((j + 1 : Nat) : Int) - 1) = (j : Int) := by rw [wrap_i64 _ (by omega) (by omega)]; omega
    obtain ⟨k, hkk⟩ := ex_eq (j + 1)
    rw [hkk] at hk hk' g1 w1 w2 hk0 ⊢
    have g2' : ∀ q, (l.map row)[k]'q = [.str a1, .int .i64 a2, .int .i64 a3] := by subst hkk; exact g2
    have hk1 : 0 < k := by omega
    unfold ordB
    simp only
    generalize cmpF (b1, b2, b3) (a1, a2, a3) = cf at *
    by_cases d1 : 0 ≤ cf
    · rw [if_pos (by simp [d1])]
      refine .inr ⟨by decide, ?_⟩
      unfold c14b0
      simp [evCode, evOps, evOne, evOp, evPur, evEff, evPur.chunks, fillP, AOp.isEff, AO.ev, putP, PV.cells, PV.leaf, getB, getM, mapE, keyC, mapRows, mfind, eq1, eqL, scal, binP, unP, minP, maxP, foldP, PV.lt, PV.lt.ltL, endP, expoAll, expo, expo.expoL, frIds, frIds.frIdsL, nodupN, kill, cls, clsFuel, resO, RV.get, loadP, evC_p, evC_s, endS, endT, rowsOf, callP, thinL, unfr, unfr.unfrL, PV.noMem, PV.noMem.noMemL, optI, mapO, norm, trimT, trimB, forget, hasN, blksLt, List.set, S14, eSp, el, hk', hk, hjl, hjl', hk0, hk1, g1, g2', p1, p2, h29, c2', c3', h30, w1, w2, h26, d1, rV]
    · by_cases d2 : b1 = a1
      · by_cases d3 : b3 = a3
        · rw [if_pos (by simp [d2, d3])]
          subst d2 d3
          refine .inr ⟨by decide, ?_⟩
          unfold c14b0
          simp [evCode, evOps, evOne, evOp, evPur, evEff, evPur.chunks, fillP, AOp.isEff, AO.ev, putP, PV.cells, PV.leaf, getB, getM, mapE, keyC, mapRows, mfind, eq1, eqL, scal, binP, unP, minP, maxP, foldP, PV.lt, PV.lt.ltL, endP, expoAll, expo, expo.expoL, frIds, frIds.frIdsL, nodupN, kill, cls, clsFuel, resO, RV.get, loadP, evC_p, evC_s, endS, endT, rowsOf, callP, thinL, unfr, unfr.unfrL, PV.noMem, PV.noMem.noMemL, optI, mapO, norm, trimT, trimB, forget, hasN, blksLt, List.set, S14, eSp, el, hk', hk, hjl, hjl', hk0, hk1, g1, g2', p1, p2, h29, c2', c3', h30, w1, w2, h26, d1, rV]
        · rw [if_neg (by simp [d1, d3])]
          subst d2
          refine .inl ⟨rfl, ?_⟩
          unfold c14b0
          simp [evCode, evOps, evOne, evOp, evPur, evEff, evPur.chunks, fillP, AOp.isEff, AO.ev, putP, PV.cells, PV.leaf, getB, getM, mapE, keyC, mapRows, mfind, eq1, eqL, scal, binP, unP, minP, maxP, foldP, PV.lt, PV.lt.ltL, endP, expoAll, expo, expo.expoL, frIds, frIds.frIdsL, nodupN, kill, cls, clsFuel, resO, RV.get, loadP, evC_p, evC_s, endS, endT, rowsOf, callP, thinL, unfr, unfr.unfrL, PV.noMem, PV.noMem.noMemL, optI, mapO, norm, trimT, trimB, forget, hasN, blksLt, List.set, S14, eSp, el, hk', hk, hjl, hjl', hk0, hk1, g1, g2', p1, p2, h29, c2', c3', h30, w1, w2, h26, d1, d3]
      · rw [if_neg (by simp [d1, d2])]
        refine .inl ⟨rfl, ?_⟩
        unfold c14b0
        simp [evCode, evOps, evOne, evOp, evPur, evEff, evPur.chunks, fillP, AOp.isEff, AO.ev, putP, PV.cells, PV.leaf, getB, getM, mapE, keyC, mapRows, mfind, eq1, eqL, scal, binP, unP, minP, maxP, foldP, PV.lt, PV.lt.ltL, endP, expoAll, expo, expo.expoL, frIds, frIds.frIdsL, nodupN, kill, cls, clsFuel, resO, RV.get, loadP, evC_p, evC_s, endS, endT, rowsOf, callP, thinL, unfr, unfr.unfrL, PV.noMem, PV.noMem.noMemL, optI, mapO, norm, trimT, trimB, forget, hasN, blksLt, List.set, S14, eSp, el, hk', hk, hjl, hjl', hk0, hk1, g1, g2', p1, p2, h29, c2', c3', h30, w1, w2, h26, d1, d2]
theorem f14 (x : Bool) (l : List Stp) (hl : l.length ≤ 1000000) : evE Dg 14 [eSp x l] = some (.int .i64 (chkC l)) := by
  have el : (l.map row).length = l.length := by simp
  have H := loop_first (body := evCode (evC Dg) 1000010 c14b0) (keep := [0, 6, 7, 8]) (n0 := 0) (fuel := 1000010) l (S14 x l) (errC l) rV
    (fun k a ha hk h0 => by
      rcases b14 x l hl 1000010 k a ha hk with ⟨_, h⟩ | ⟨h, _⟩
      · exact h
      · exact absurd h0 h)
    (fun k a ha hk h0 => by
      rcases b14 x l hl 1000010 k a ha hk with ⟨h, _⟩ | ⟨_, h⟩
      · exact absurd h h0
      · exact h)
    (by
      intro s
      unfold c14b0
      simp [evCode, evOps, evOne, evOp, evPur, evEff, evPur.chunks, fillP, AOp.isEff, AO.ev, putP, PV.cells, PV.leaf, getB, getM, mapE, keyC, mapRows, mfind, eq1, eqL, scal, binP, unP, minP, maxP, foldP, PV.lt, PV.lt.ltL, endP, expoAll, expo, expo.expoL, frIds, frIds.frIdsL, nodupN, kill, cls, clsFuel, resO, RV.get, loadP, evC_p, evC_s, endS, endT, rowsOf, callP, thinL, unfr, unfr.unfrL, PV.noMem, PV.noMem.noMemL, optI, mapO, norm, trimT, trimB, forget, hasN, blksLt, List.set, S14, eSp, el])
    (by omega)
  refine evE_intro 1000010 D14 rfl ?_
  unfold c14
  simp [evCode, evOps, evOne, evOp, evPur, evEff, evPur.chunks, fillP, AOp.isEff, AO.ev, putP, PV.cells, PV.leaf, getB, getM, mapE, keyC, mapRows, mfind, eq1, eqL, scal, binP, unP, minP, maxP, foldP, PV.lt, PV.lt.ltL, endP, expoAll, expo, expo.expoL, frIds, frIds.frIdsL, nodupN, kill, cls, clsFuel, resO, RV.get, loadP, evC_p, evC_s, endS, endT, rowsOf, callP, thinL, unfr, unfr.unfrL, PV.noMem, PV.noMem.noMemL, optI, mapO, norm, trimT, trimB, forget, hasN, blksLt, List.set, eSp, el]
  generalize hE : evLoop _ _ _ _ _ = E
  rcases H _ _ hE (by simp [evCode, evOps, evOne, evOp, evPur, evEff, evPur.chunks, fillP, AOp.isEff, AO.ev, putP, PV.cells, PV.leaf, getB, getM, mapE, keyC, mapRows, mfind, eq1, eqL, scal, binP, unP, minP, maxP, foldP, PV.lt, PV.lt.ltL, endP, expoAll, expo, expo.expoL, frIds, frIds.frIdsL, nodupN, kill, cls, clsFuel, resO, RV.get, loadP, evC_p, evC_s, endS, endT, rowsOf, callP, thinL, unfr, unfr.unfrL, PV.noMem, PV.noMem.noMemL, optI, mapO, norm, trimT, trimB, forget, hasN, blksLt, List.set, S14, eSp]) with ⟨g1, g2⟩ | ⟨g1, t, g2, g3⟩
  · rw [g2]
    unfold chkC
    rw [g1]
    unfold c14b0
    simp [evCode, evOps, evOne, evOp, evPur, evEff, evPur.chunks, fillP, AOp.isEff, AO.ev, putP, PV.cells, PV.leaf, getB, getM, mapE, keyC, mapRows, mfind, eq1, eqL, scal, binP, unP, minP, maxP, foldP, PV.lt, PV.lt.ltL, endP, expoAll, expo, expo.expoL, frIds, frIds.frIdsL, nodupN, kill, cls, clsFuel, resO, RV.get, loadP, evC_p, evC_s, endS, endT, rowsOf, callP, thinL, unfr, unfr.unfrL, PV.noMem, PV.noMem.noMemL, optI, mapO, norm, trimT, trimB, forget, hasN, blksLt, List.set, S14, eSp, el]
  · rw [g2]
    unfold rV at g3
    simp [evCode, evOps, evOne, evOp, evPur, evEff, evPur.chunks, fillP, AOp.isEff, AO.ev, putP, PV.cells, PV.leaf, getB, getM, mapE, keyC, mapRows, mfind, eq1, eqL, scal, binP, unP, minP, maxP, foldP, PV.lt, PV.lt.ltL, endP, expoAll, expo, expo.expoL, frIds, frIds.frIdsL, nodupN, kill, cls, clsFuel, resO, RV.get, loadP, evC_p, evC_s, endS, endT, rowsOf, callP, thinL, unfr, unfr.unfrL, PV.noMem, PV.noMem.noMemL, optI, mapO, norm, trimT, trimB, forget, hasN, blksLt, List.set, g3, chkC]
end Go.Proofs.Ytecmcggnpgjbiaa
