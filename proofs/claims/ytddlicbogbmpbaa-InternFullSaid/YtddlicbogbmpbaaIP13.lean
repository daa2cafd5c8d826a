/- intern: InternAgain. -/
import Derived.Test.YtddlicbogbmpbaaIP12
namespace Go.Proofs.Ytddlicbogbmpbaa
open Go Go.RowKit
set_option linter.unusedVariables false
set_option linter.unusedSimpArgs false
set_option maxHeartbeats 4000000

def S6 (n0 : List (List UInt8)) (T0 : List (Int × Int)) (x : Bool) (n : List (List UInt8)) (l : List (List UInt8)) (k : Nat) : St := ⟨[.top, eTx l, .top, .top, .top, .top, .top, .top, eN x n, .top, .top, .top, .top, .top, .top, .top, .top, .int .i64 k] ++ List.replicate 138 .top, [some ⟨1, 2, true, [[eN false n0, eSt false T0]]⟩]⟩

theorem framesE_all {l : List (List UInt8)} (h : framesE l = 0) : ∀ a ∈ l, nameOk a = true := by
  unfold framesE at h
  split at h
  · cases h
  · split at h
    · rename_i h2; exact List.all_eq_true.1 h2
    · cases h

set_option maxRecDepth 100000 in
theorem f6 (n : List (List UInt8)) (T : List (Int × Int)) (l m : List (List UInt8)) : evE Dg 6 [.agg [eN false n, eSt false T], eTx l, eTx m] = some (.bool true) := by
  refine evE_intro (l.length + 1) D6 rfl ?_
  have h8 := p8 false false n T
  have h9 := p9
  have h16 := p16 false false n T
  by_cases d1 : n.length ≤ 1100 ∧ T.length ≤ 1100
  · obtain ⟨d1, d2⟩ := d1
    simp only [decide_eq_true d1, decide_eq_true d2, Bool.and_self] at h8
    by_cases d3 : l.length ≤ 100
    · have d3' : ¬ (100 : Int) < l.length := by omega
      by_cases d5 : m.length ≤ 100
      · have d5' : ¬ (100 : Int) < m.length := by omega
        by_cases d4 : chk n T = 0
        · have g := good_of d4
          rw [d4] at h16
          obtain ⟨x3, y3, a3⟩ := p21 false false n T l d1 d2
          obtain ⟨g1, g2, g3, g4⟩ := putS_spec g l
          generalize putS n T l = r at *
          obtain ⟨i, n1, T1, e⟩ := r
          simp only at g1 g2 g3 g4 a3
          obtain ⟨x4, y4, a4⟩ := p21 x3 y3 n1 T1 m (by have := g1.ln; omega) (by have := g1.lT; omega)
          obtain ⟨q1, q2, q3, q4⟩ := putS_spec g1 m
          generalize putS n1 T1 m = r at *
          obtain ⟨j, n2, T2, f⟩ := r
          simp only at q1 q2 q3 q4 a4
          obtain ⟨x5, y5, a5⟩ := p21 x4 y4 n2 T2 l (by have := q1.ln; omega) (by have := q1.lT; omega)
          by_cases e0 : e = 0
          · subst e0
            by_cases f0 : f = 0
            · subst f0
              rcases g4 with ⟨_, u1, u2⟩ | ⟨u1, _⟩
              · rcases q4 with ⟨_, v1, v2⟩ | ⟨v1, _⟩
                · have u3 := u2.grow q2 q3
                  rw [again_put q1 u1 u3] at a5
                  have hij : (i == j) = decide (l = m) := by
                    by_cases h : l = m
                    · subst h
                      have := u3.one q1 v2
                      simp [this]
                    · have : ¬ i = j := by
                        rintro rfl
                        have := u3.fn q1 v2
                        exact h (by simpa using this)
                      simp [h, this]
                  have s1 := p18 false false l m (by omega)
                  have kn := q1.ln
                  have H := loop_all (body := evCode (evC Dg) (l.length + 1) c6b0) (keep := [1, 8, 17]) (n0 := 1) (fuel := l.length + 1) l (S6 n T x4 n2 l) (fun _ => true) (fun t => True)
                    (by
                      intro k a ha hk hq
                      have hk' : (k : Int) < l.length := by omega
                      have h1 := wrap_i64 ((k : Int) + 1) (by omega) (by omega)
                      have hm : a ∈ n2 := u3.names a (by simpa using List.mem_of_getElem? ha)
                      have hi := (idx_take n2 a).2 hm
                      have hg := idx_get hi
                      obtain ⟨x6, a6⟩ := p19 x4 n2 a (by omega)
                      have hp : putR n2 a = (idx n2 a, n2, 0) := by
                        unfold putR
                        rw [if_pos (framesE_all u1 a (List.mem_of_getElem? ha)), if_pos hi]
                      rw [hp] at a6
                      have hlt := (List.getElem?_eq_some_iff.1 hg).1
                      generalize idx n2 a = z at *
                      have z1 : ¬ z < 0 := by omega
                      have z2 : ¬ (n2.length : Int) ≤ z := by omega
                      simp only [eN] at a6
                      unfold c6b0
                      simp [evCode, evOps, evOne, evOp, evPur, evEff, evPur.chunks, fillP, AOp.isEff, AO.ev, putP, PV.cells, PV.leaf, getB, getM, mapE, keyC, mapRows, mfind, eq1, eqL, scal, binP, unP, minP, maxP, foldP, PV.lt, PV.lt.ltL, endP, expoAll, expo, expo.expoL, frIds, frIds.frIdsL, nodupN, kill, resO, RV.get, loadP, evC_p, evC_s, endS, endT, rowsOf, thinL, unfr, unfr.unfrL, PV.noMem, PV.noMem.noMemL, optI, norm, trimT, trimB, forget, hasN, blksLt, List.set, S6, eN, eSt, eTx, ha, hk', h1, a6, hg, hi, z1, z2])
                    (by intro k a ha hk hq; cases hq)
                    (by
                      intro t
                      unfold c6b0
                      simp [evCode, evOps, evOne, evOp, evPur, evEff, evPur.chunks, fillP, AOp.isEff, AO.ev, putP, PV.cells, PV.leaf, getB, getM, mapE, keyC, mapRows, mfind, eq1, eqL, scal, binP, unP, minP, maxP, foldP, PV.lt, PV.lt.ltL, endP, expoAll, expo, expo.expoL, frIds, frIds.frIdsL, nodupN, kill, resO, RV.get, loadP, evC_p, evC_s, endS, endT, rowsOf, thinL, unfr, unfr.unfrL, PV.noMem, PV.noMem.noMemL, optI, norm, trimT, trimB, forget, hasN, blksLt, List.set, S6, eN, eSt, eTx]) (by omega)
                  simp only [eN, eSt, eTx] at h8 h16 a3 a4 a5 s1
                  unfold c6
                  simp [evCode, evOps, evOne, evOp, evPur, evEff, evPur.chunks, fillP, AOp.isEff, AO.ev, putP, PV.cells, PV.leaf, getB, getM, mapE, keyC, mapRows, mfind, eq1, eqL, scal, binP, unP, minP, maxP, foldP, PV.lt, PV.lt.ltL, endP, expoAll, expo, expo.expoL, frIds, frIds.frIdsL, nodupN, kill, resO, RV.get, loadP, evC_p, evC_s, endS, endT, rowsOf, thinL, unfr, unfr.unfrL, PV.noMem, PV.noMem.noMemL, optI, norm, trimT, trimB, forget, hasN, blksLt, List.set, eN, eSt, eTx, h8, h9, h16, d3', d5', a3, a4, a5, s1, hij]
                  generalize hE : evLoop _ _ _ _ _ = E
                  rcases H _ _ hE (by simp [evCode, evOps, evOne, evOp, evPur, evEff, evPur.chunks, fillP, AOp.isEff, AO.ev, putP, PV.cells, PV.leaf, getB, getM, mapE, keyC, mapRows, mfind, eq1, eqL, scal, binP, unP, minP, maxP, foldP, PV.lt, PV.lt.ltL, endP, expoAll, expo, expo.expoL, frIds, frIds.frIdsL, nodupN, kill, resO, RV.get, loadP, evC_p, evC_s, endS, endT, rowsOf, thinL, unfr, unfr.unfrL, PV.noMem, PV.noMem.noMemL, optI, norm, trimT, trimB, forget, hasN, blksLt, List.set, S6, eN, eSt, eTx]) with ⟨k1, k2⟩ | ⟨k1, _⟩
                  · rw [k2]
                    unfold c6b0 c6r0
                    simp [evCode, evOps, evOne, evOp, evPur, evEff, evPur.chunks, fillP, AOp.isEff, AO.ev, putP, PV.cells, PV.leaf, getB, getM, mapE, keyC, mapRows, mfind, eq1, eqL, scal, binP, unP, minP, maxP, foldP, PV.lt, PV.lt.ltL, endP, expoAll, expo, expo.expoL, frIds, frIds.frIdsL, nodupN, kill, resO, RV.get, loadP, evC_p, evC_s, endS, endT, rowsOf, thinL, unfr, unfr.unfrL, PV.noMem, PV.noMem.noMemL, optI, norm, trimT, trimB, forget, hasN, blksLt, List.set, S6, eN, eSt, eTx, h9, cls, clsFuel, mapO]
                  · simp at k1
                · exact absurd rfl v1
              · exact absurd rfl u1
            · have f0' : (f == 0) = false := by simpa using f0
              simp only [eN, eSt, eTx] at h8 h16 a3 a4 a5
              unfold c6
              simp [evCode, evOps, evOne, evOp, evPur, evEff, evPur.chunks, fillP, AOp.isEff, AO.ev, putP, PV.cells, PV.leaf, getB, getM, mapE, keyC, mapRows, mfind, eq1, eqL, scal, binP, unP, minP, maxP, foldP, PV.lt, PV.lt.ltL, endP, expoAll, expo, expo.expoL, frIds, frIds.frIdsL, nodupN, kill, resO, RV.get, loadP, evC_p, evC_s, endS, endT, rowsOf, thinL, unfr, unfr.unfrL, PV.noMem, PV.noMem.noMemL, optI, norm, trimT, trimB, forget, hasN, blksLt, List.set, eN, eSt, eTx, h8, h9, h16, d3', d5', a3, a4, f0, f0', cls, clsFuel, mapO]
          · have e0' : (e == 0) = false := by simpa using e0
            simp only [eN, eSt, eTx] at h8 h16 a3 a4 a5
            unfold c6
            simp [evCode, evOps, evOne, evOp, evPur, evEff, evPur.chunks, fillP, AOp.isEff, AO.ev, putP, PV.cells, PV.leaf, getB, getM, mapE, keyC, mapRows, mfind, eq1, eqL, scal, binP, unP, minP, maxP, foldP, PV.lt, PV.lt.ltL, endP, expoAll, expo, expo.expoL, frIds, frIds.frIdsL, nodupN, kill, resO, RV.get, loadP, evC_p, evC_s, endS, endT, rowsOf, thinL, unfr, unfr.unfrL, PV.noMem, PV.noMem.noMemL, optI, norm, trimT, trimB, forget, hasN, blksLt, List.set, eN, eSt, eTx, h8, h9, h16, d3', d5', a3, a4, e0, e0', cls, clsFuel, mapO]
        · have d4' : (chk n T == 0) = false := by simpa using d4
          simp only [eN, eSt] at h8 h16
          unfold c6
          simp [evCode, evOps, evOne, evOp, evPur, evEff, evPur.chunks, fillP, AOp.isEff, AO.ev, putP, PV.cells, PV.leaf, getB, getM, mapE, keyC, mapRows, mfind, eq1, eqL, scal, binP, unP, minP, maxP, foldP, PV.lt, PV.lt.ltL, endP, expoAll, expo, expo.expoL, frIds, frIds.frIdsL, nodupN, kill, resO, RV.get, loadP, evC_p, evC_s, endS, endT, rowsOf, thinL, unfr, unfr.unfrL, PV.noMem, PV.noMem.noMemL, optI, norm, trimT, trimB, forget, hasN, blksLt, List.set, eN, eSt, eTx, h8, h9, d3', d5', h16, d4, d4', cls, clsFuel, mapO]
      · have d5' : (100 : Int) < m.length := by omega
        simp only [eN, eSt] at h8
        unfold c6
        simp [evCode, evOps, evOne, evOp, evPur, evEff, evPur.chunks, fillP, AOp.isEff, AO.ev, putP, PV.cells, PV.leaf, getB, getM, mapE, keyC, mapRows, mfind, eq1, eqL, scal, binP, unP, minP, maxP, foldP, PV.lt, PV.lt.ltL, endP, expoAll, expo, expo.expoL, frIds, frIds.frIdsL, nodupN, kill, resO, RV.get, loadP, evC_p, evC_s, endS, endT, rowsOf, thinL, unfr, unfr.unfrL, PV.noMem, PV.noMem.noMemL, optI, norm, trimT, trimB, forget, hasN, blksLt, List.set, eN, eSt, eTx, h8, h9, d3', d5', cls, clsFuel, mapO]
    · have d3' : (100 : Int) < l.length := by omega
      simp only [eN, eSt] at h8
      unfold c6
      simp [evCode, evOps, evOne, evOp, evPur, evEff, evPur.chunks, fillP, AOp.isEff, AO.ev, putP, PV.cells, PV.leaf, getB, getM, mapE, keyC, mapRows, mfind, eq1, eqL, scal, binP, unP, minP, maxP, foldP, PV.lt, PV.lt.ltL, endP, expoAll, expo, expo.expoL, frIds, frIds.frIdsL, nodupN, kill, resO, RV.get, loadP, evC_p, evC_s, endS, endT, rowsOf, thinL, unfr, unfr.unfrL, PV.noMem, PV.noMem.noMemL, optI, norm, trimT, trimB, forget, hasN, blksLt, List.set, eN, eSt, eTx, h8, h9, d3', cls, clsFuel, mapO]
  · have hb : (decide (n.length ≤ 1100) && decide (T.length ≤ 1100)) = false := by
      simp; omega
    simp only [hb, eN, eSt] at h8
    unfold c6
    simp [evCode, evOps, evOne, evOp, evPur, evEff, evPur.chunks, fillP, AOp.isEff, AO.ev, putP, PV.cells, PV.leaf, getB, getM, mapE, keyC, mapRows, mfind, eq1, eqL, scal, binP, unP, minP, maxP, foldP, PV.lt, PV.lt.ltL, endP, expoAll, expo, expo.expoL, frIds, frIds.frIdsL, nodupN, kill, resO, RV.get, loadP, evC_p, evC_s, endS, endT, rowsOf, thinL, unfr, unfr.unfrL, PV.noMem, PV.noMem.noMemL, optI, norm, trimT, trimB, forget, hasN, blksLt, List.set, eN, eSt, eTx, h8, h9, cls, clsFuel, mapO]
end Go.Proofs.Ytddlicbogbmpbaa
