/- intern: InternPuts. -/
import Derived.Test.YtddlicbogbmpbaaIP7
import Derived.Test.YtddlicbogbmpbaaAw
namespace Go.Proofs.Ytddlicbogbmpbaa
open Go Go.RowKit
set_option linter.unusedVariables false
set_option linter.unusedSimpArgs false
set_option maxHeartbeats 4000000

theorem f8 (x y : Bool) (n : List (List UInt8)) (T : List (Int × Int)) : evE Dg 8 [.agg [eN x n, eSt y T]] = some (.bool (decide (n.length ≤ 1100) && decide (T.length ≤ 1100))) := by
  refine evE_intro 1 D8 rfl ?_
  unfold c8
  by_cases h1 : n.length ≤ 1100
  · have h1' : (n.length : Int) ≤ 1100 := by omega
    by_cases h2 : T.length ≤ 1100
    · have h2' : (T.length : Int) ≤ 1100 := by omega
      simp [evCode, evOps, evOne, evOp, evPur, evEff, evPur.chunks, fillP, AOp.isEff, AO.ev, putP, PV.cells, PV.leaf, getB, getM, mapE, keyC, mapRows, mfind, eq1, eqL, scal, binP, unP, minP, maxP, foldP, PV.lt, PV.lt.ltL, endP, expoAll, expo, expo.expoL, frIds, frIds.frIdsL, nodupN, kill, cls, clsFuel, resO, RV.get, loadP, evC_p, evC_s, endS, endT, rowsOf, callP, thinL, unfr, unfr.unfrL, PV.noMem, PV.noMem.noMemL, optI, mapO, norm, trimT, trimB, forget, hasN, blksLt, List.set, eN, eSt, h1, h1', h2, h2']
    · have h2' : ¬ (T.length : Int) ≤ 1100 := by omega
      simp [evCode, evOps, evOne, evOp, evPur, evEff, evPur.chunks, fillP, AOp.isEff, AO.ev, putP, PV.cells, PV.leaf, getB, getM, mapE, keyC, mapRows, mfind, eq1, eqL, scal, binP, unP, minP, maxP, foldP, PV.lt, PV.lt.ltL, endP, expoAll, expo, expo.expoL, frIds, frIds.frIdsL, nodupN, kill, cls, clsFuel, resO, RV.get, loadP, evC_p, evC_s, endS, endT, rowsOf, callP, thinL, unfr, unfr.unfrL, PV.noMem, PV.noMem.noMemL, optI, mapO, norm, trimT, trimB, forget, hasN, blksLt, List.set, eN, eSt, h1, h1', h2, h2']
  · have h1' : ¬ (n.length : Int) ≤ 1100 := by omega
    simp [evCode, evOps, evOne, evOp, evPur, evEff, evPur.chunks, fillP, AOp.isEff, AO.ev, putP, PV.cells, PV.leaf, getB, getM, mapE, keyC, mapRows, mfind, eq1, eqL, scal, binP, unP, minP, maxP, foldP, PV.lt, PV.lt.ltL, endP, expoAll, expo, expo.expoL, frIds, frIds.frIdsL, nodupN, kill, cls, clsFuel, resO, RV.get, loadP, evC_p, evC_s, endS, endT, rowsOf, callP, thinL, unfr, unfr.unfrL, PV.noMem, PV.noMem.noMemL, optI, mapO, norm, trimT, trimB, forget, hasN, blksLt, List.set, eN, eSt, h1, h1']
theorem p8 (x y : Bool) (n : List (List UInt8)) (T : List (Int × Int)) (bl : Blks) : callP (evE Dg) bl false 8 [.agg [eN x n, eSt y T]] = some (.bool (decide (n.length ≤ 1100) && decide (T.length ≤ 1100)), []) := callP_unfr (f8 x y n T) rfl rfl rfl
theorem p9 (bl : Blks) : callP (evE Dg) bl false 9 [] = some (.bool true, []) := callP_unfr f9 rfl rfl rfl
theorem p18 (x y : Bool) (n m : List (List UInt8)) (h : n.length ≤ 1000000) (bl : Blks) : callP (evE Dg) bl false 18 [eN x n, eN y m] = some (.bool (decide (n = m)), []) := callP_unfr (f18 x y n m h) rfl rfl rfl
theorem p23 (x y : Bool) (n m : List (Int × Int)) (h : n.length ≤ 1000000) (bl : Blks) : callP (evE Dg) bl false 23 [eSt x n, eSt y m] = some (.bool (decide (n = m)), []) := callP_unfr (f23 x y n m h) rfl rfl rfl

theorem stepP_len {u v : PS} {a : List UInt8} (h : stepP u a = .ok v) (h1 : u.n.length ≤ 1100) (h2 : u.T.length ≤ 1100) : v.n.length ≤ 1100 ∧ v.T.length ≤ 1100 := by
  unfold stepP at h
  have := putR_len u.n a h1
  split at h
  · split at h
    · cases h; exact ⟨this, h2⟩
    · split at h
      · cases h
      · cases h; exact ⟨this, by simp; omega⟩
  · cases h
theorem foldX_inv {α σ : Type} {step : σ → α → Except Int σ} {P : σ → Prop} (hs : ∀ u a v, step u a = .ok v → P u → P v) : ∀ (l : List α) (u v : σ), foldX step l u = .ok v → P u → P v
  | [], u, v, h, hp => by simp [foldX] at h; subst h; exact hp
  | a :: l, u, v, h, hp => by
    simp only [foldX] at h
    split at h
    · rename_i y hy; exact foldX_inv hs l y v h (hs u a y hy hp)
    · cases h
theorem putS_len (n : List (List UInt8)) (T : List (Int × Int)) (l : List (List UInt8)) (h1 : n.length ≤ 1100) (h2 : T.length ≤ 1100) : (putS n T l).2.1.length ≤ 1100 ∧ (putS n T l).2.2.1.length ≤ 1100 := by
  unfold putS
  split
  · split
    · rename_i y hy
      exact foldX_inv (P := fun u => u.n.length ≤ 1100 ∧ u.T.length ≤ 1100) (fun u a v h hp => stepP_len h hp.1 hp.2) l _ y hy ⟨h1, h2⟩
    · exact ⟨h1, h2⟩
  · exact ⟨h1, h2⟩

theorem f4 (n : List (List UInt8)) (T : List (Int × Int)) (s : List UInt8) (l : List (List UInt8)) : evE Dg 4 [.agg [eN false n, eSt false T], .str s, eTx l] = some (.bool true) := by
  refine evE_intro 1 D4 rfl ?_
  have h8 := p8 false false n T
  have h9 := p9
  by_cases c1 : n.length ≤ 1100 ∧ T.length ≤ 1100
  · obtain ⟨c1, c2⟩ := c1
    simp only [decide_eq_true c1, decide_eq_true c2, Bool.and_self] at h8
    by_cases c3 : l.length ≤ 100
    · have c3' : ¬ (100 : Int) < l.length := by omega
      obtain ⟨x1, a1⟩ := p19 false n s c1
      obtain ⟨x2, a2⟩ := p20 false n s c1
      obtain ⟨x3, y3, a3⟩ := p21 false false n T l c1 c2
      obtain ⟨x4, y4, a4⟩ := p22 false false n T l c1 c2
      have l1 := putR_len n s c1
      obtain ⟨l2, l3⟩ := putS_len n T l c1 c2
      have s1 := p18 x1 x2 (putR n s).2.1 (putR n s).2.1 (by omega)
      have s2 := p18 x3 x4 (putS n T l).2.1 (putS n T l).2.1 (by omega)
      have s3 := p23 y3 y4 (putS n T l).2.2.1 (putS n T l).2.2.1 (by omega)
      generalize putR n s = q at *
      generalize putS n T l = r at *
      simp only [eN, eSt, eTx, decide_true] at h8 a1 a2 a3 a4 s1 s2 s3
      unfold c4
      simp [evCode, evOps, evOne, evOp, evPur, evEff, evPur.chunks, fillP, AOp.isEff, AO.ev, putP, PV.cells, PV.leaf, getB, getM, mapE, keyC, mapRows, mfind, eq1, eqL, scal, binP, unP, minP, maxP, foldP, PV.lt, PV.lt.ltL, endP, expoAll, expo, expo.expoL, frIds, frIds.frIdsL, nodupN, kill, resO, RV.get, loadP, evC_p, evC_s, endS, endT, rowsOf, thinL, unfr, unfr.unfrL, PV.noMem, PV.noMem.noMemL, optI, norm, trimT, trimB, forget, hasN, blksLt, List.set, eN, eSt, eTx, h8, h9, c3', a1, a2, a3, a4, s1, s2, s3, cls, clsFuel, mapO]
    · have c3' : (100 : Int) < l.length := by omega
      simp only [eN, eSt] at h8
      unfold c4
      simp [evCode, evOps, evOne, evOp, evPur, evEff, evPur.chunks, fillP, AOp.isEff, AO.ev, putP, PV.cells, PV.leaf, getB, getM, mapE, keyC, mapRows, mfind, eq1, eqL, scal, binP, unP, minP, maxP, foldP, PV.lt, PV.lt.ltL, endP, expoAll, expo, expo.expoL, frIds, frIds.frIdsL, nodupN, kill, resO, RV.get, loadP, evC_p, evC_s, endS, endT, rowsOf, thinL, unfr, unfr.unfrL, PV.noMem, PV.noMem.noMemL, optI, norm, trimT, trimB, forget, hasN, blksLt, List.set, eN, eSt, eTx, h8, h9, c3', cls, clsFuel, mapO]
  · have hb : (decide (n.length ≤ 1100) && decide (T.length ≤ 1100)) = false := by
      simp; omega
    simp only [hb, eN, eSt] at h8
    unfold c4
    simp [evCode, evOps, evOne, evOp, evPur, evEff, evPur.chunks, fillP, AOp.isEff, AO.ev, putP, PV.cells, PV.leaf, getB, getM, mapE, keyC, mapRows, mfind, eq1, eqL, scal, binP, unP, minP, maxP, foldP, PV.lt, PV.lt.ltL, endP, expoAll, expo, expo.expoL, frIds, frIds.frIdsL, nodupN, kill, resO, RV.get, loadP, evC_p, evC_s, endS, endT, rowsOf, thinL, unfr, unfr.unfrL, PV.noMem, PV.noMem.noMemL, optI, norm, trimT, trimB, forget, hasN, blksLt, List.set, eN, eSt, eTx, h8, h9, cls, clsFuel, mapO]
end Go.Proofs.Ytddlicbogbmpbaa
