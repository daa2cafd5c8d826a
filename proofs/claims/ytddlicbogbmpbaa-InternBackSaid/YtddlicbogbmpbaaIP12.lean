/- intern: InternChecks, InternBack, InternAgain. -/
import Derived.Test.YtddlicbogbmpbaaIP11
namespace Go.Proofs.Ytddlicbogbmpbaa
open Go Go.RowKit
set_option linter.unusedVariables false
set_option linter.unusedSimpArgs false
set_option maxHeartbeats 4000000

theorem p10 (s : List UInt8) (bl : Blks) : callP (evE Dg) bl false 10 [.str s] = some (.int .i64 (nameE s), []) := callP_unfr (f10 s) rfl rfl rfl
theorem p11 (s : List UInt8) (bl : Blks) : callP (evE Dg) bl false 11 [.str s] = some (.int .i64 (nameE s), []) := callP_unfr (f11 s) rfl rfl rfl
theorem p12 (x y : Bool) (n : List (List UInt8)) (T : List (Int × Int)) (i : Int) (bl : Blks) : callP (evE Dg) bl false 12 [eN x n, eSt y T, .int .i64 i] = some (.tup [eN false (stkL n T i), .int .i64 (stkE n T i)], []) := callP_unfr (f12 x y n T i) rfl rfl rfl
theorem p13 (x y : Bool) (n : List (List UInt8)) (T : List (Int × Int)) (i : Int) (bl : Blks) : callP (evE Dg) bl false 13 [eN x n, eSt y T, .int .i64 i] = some (.tup [eN false (stkL n T i), .int .i64 (stkE n T i)], []) := callP_unfr (f13 x y n T i) rfl rfl rfl
theorem p14 (l : List (List UInt8)) (bl : Blks) : callP (evE Dg) bl false 14 [eTx l] = some (.int .i64 (framesE l), []) := callP_unfr (f14 l) rfl rfl rfl
theorem p15 (l : List (List UInt8)) (bl : Blks) : callP (evE Dg) bl false 15 [eTx l] = some (.int .i64 (framesE l), []) := callP_unfr (f15 l) rfl rfl rfl
theorem p16 (x y : Bool) (n : List (List UInt8)) (T : List (Int × Int)) (bl : Blks) : callP (evE Dg) bl false 16 [eN x n, eSt y T] = some (.int .i64 (chk n T), []) := callP_unfr (f16 x y n T) rfl rfl rfl
theorem p17 (x y : Bool) (n : List (List UInt8)) (T : List (Int × Int)) (bl : Blks) : callP (evE Dg) bl false 17 [eN x n, eSt y T] = some (.int .i64 (chk n T), []) := callP_unfr (f17 x y n T) rfl rfl rfl

theorem stkL_len (n : List (List UInt8)) (T : List (Int × Int)) (i : Int) : (stkL n T i).length ≤ 1000 := by
  unfold stkL
  split
  · rename_i h
    unfold stkE at h
    split at h
    · rename_i c
      split at h
      · cases h
      · have g := good_of c
        have : ∀ (f : Nat) (j : Int), (upS n T f j).length ≤ f := by
          intro f
          induction f with
          | zero => intro j; simp [upS]
          | succ f ih =>
            intro j
            simp only [upS]
            split
            · simp
            · split
              · simp
              · simp; exact ih _
        rw [List.length_reverse]
        have := this (i + 1).toNat i
        have := g.lT
        omega
    · cases h
  · simp

def S3 (n : List (List UInt8)) (T : List (Int × Int)) (l : List (List UInt8)) (i : Int) (k : Nat) : St := ⟨[.top, eTx l, .int .i64 i, .ptr 0 1 0 0, .top, .top, .top, .int .i64 k] ++ List.replicate 79 .top, [some ⟨1, 2, true, [[eN false n, eSt false T]]⟩]⟩
theorem f3 (n : List (List UInt8)) (T : List (Int × Int)) (l : List (List UInt8)) (i : Int) : evE Dg 3 [.agg [eN false n, eSt false T], eTx l, .int .i64 i] = some (.bool true) := by
  refine evE_intro (l.length + 1) D3 rfl ?_
  have h8 := p8 false false n T
  have h9 := p9
  by_cases c1 : n.length ≤ 1100 ∧ T.length ≤ 1100
  · obtain ⟨c1, c2⟩ := c1
    simp only [decide_eq_true c1, decide_eq_true c2, Bool.and_self] at h8
    by_cases d3 : l.length ≤ 100
    · have d3' : ¬ (100 : Int) < l.length := by omega
      have H := loop_all (body := evCode (evC Dg) (l.length + 1) c3b0) (keep := [1, 2, 3, 7]) (n0 := 1) (fuel := l.length + 1) l (S3 n T l i) (fun _ => true) (fun t => True)
        (by
          intro k a ha hk hq
          have hk' : (k : Int) < l.length := by omega
          have h1 := wrap_i64 ((k : Int) + 1) (by omega) (by omega)
          have h10 := p10 a
          have h11 := p11 a
          unfold c3b0
          simp [evCode, evOps, evOne, evOp, evPur, evEff, evPur.chunks, fillP, AOp.isEff, AO.ev, putP, PV.cells, PV.leaf, getB, getM, mapE, keyC, mapRows, mfind, eq1, eqL, scal, binP, unP, minP, maxP, foldP, PV.lt, PV.lt.ltL, endP, expoAll, expo, expo.expoL, frIds, frIds.frIdsL, nodupN, kill, resO, RV.get, loadP, evC_p, evC_s, endS, endT, rowsOf, thinL, unfr, unfr.unfrL, PV.noMem, PV.noMem.noMemL, optI, norm, trimT, trimB, forget, hasN, blksLt, List.set, S3, eN, eSt, eTx, ha, hk', h1, h10, h11])
        (by intro k a ha hk hq; cases hq)
        (by
          intro t
          unfold c3b0
          simp [evCode, evOps, evOne, evOp, evPur, evEff, evPur.chunks, fillP, AOp.isEff, AO.ev, putP, PV.cells, PV.leaf, getB, getM, mapE, keyC, mapRows, mfind, eq1, eqL, scal, binP, unP, minP, maxP, foldP, PV.lt, PV.lt.ltL, endP, expoAll, expo, expo.expoL, frIds, frIds.frIdsL, nodupN, kill, resO, RV.get, loadP, evC_p, evC_s, endS, endT, rowsOf, thinL, unfr, unfr.unfrL, PV.noMem, PV.noMem.noMemL, optI, norm, trimT, trimB, forget, hasN, blksLt, List.set, S3, eN, eSt, eTx]) (by omega)
      have h12 := p12 false false n T i
      have h13 := p13 false false n T i
      have h14 := p14 l
      have h15 := p15 l
      have h16 := p16 false false n T
      have h17 := p17 false false n T
      have s1 := p18 false false (stkL n T i) (stkL n T i) (by have := stkL_len n T i; omega)
      simp only [eN, eSt, eTx, decide_true] at h8 h12 h13 h14 h15 h16 h17 s1
      generalize stkL n T i = L at *
      generalize stkE n T i = M at *
      generalize chk n T = N at *
      generalize framesE l = O at *
      unfold c3
      simp [evCode, evOps, evOne, evOp, evPur, evEff, evPur.chunks, fillP, AOp.isEff, AO.ev, putP, PV.cells, PV.leaf, getB, getM, mapE, keyC, mapRows, mfind, eq1, eqL, scal, binP, unP, minP, maxP, foldP, PV.lt, PV.lt.ltL, endP, expoAll, expo, expo.expoL, frIds, frIds.frIdsL, nodupN, kill, resO, RV.get, loadP, evC_p, evC_s, endS, endT, rowsOf, thinL, unfr, unfr.unfrL, PV.noMem, PV.noMem.noMemL, optI, norm, trimT, trimB, forget, hasN, blksLt, List.set, eN, eSt, eTx, h8, h9, d3']
      generalize hE : evLoop _ _ _ _ _ = E
      rcases H _ _ hE (by simp [evCode, evOps, evOne, evOp, evPur, evEff, evPur.chunks, fillP, AOp.isEff, AO.ev, putP, PV.cells, PV.leaf, getB, getM, mapE, keyC, mapRows, mfind, eq1, eqL, scal, binP, unP, minP, maxP, foldP, PV.lt, PV.lt.ltL, endP, expoAll, expo, expo.expoL, frIds, frIds.frIdsL, nodupN, kill, resO, RV.get, loadP, evC_p, evC_s, endS, endT, rowsOf, thinL, unfr, unfr.unfrL, PV.noMem, PV.noMem.noMemL, optI, norm, trimT, trimB, forget, hasN, blksLt, List.set, S3, eN, eSt, eTx]) with ⟨g1, g2⟩ | ⟨g1, _⟩
      · rw [g2]
        unfold c3b0 c3r0
        simp [evCode, evOps, evOne, evOp, evPur, evEff, evPur.chunks, fillP, AOp.isEff, AO.ev, putP, PV.cells, PV.leaf, getB, getM, mapE, keyC, mapRows, mfind, eq1, eqL, scal, binP, unP, minP, maxP, foldP, PV.lt, PV.lt.ltL, endP, expoAll, expo, expo.expoL, frIds, frIds.frIdsL, nodupN, kill, resO, RV.get, loadP, evC_p, evC_s, endS, endT, rowsOf, thinL, unfr, unfr.unfrL, PV.noMem, PV.noMem.noMemL, optI, norm, trimT, trimB, forget, hasN, blksLt, List.set, S3, eN, eSt, eTx, h9, h12, h13, h14, h15, h16, h17, s1, cls, clsFuel, mapO]
      · simp at g1
    · have d3' : (100 : Int) < l.length := by omega
      simp only [eN, eSt] at h8
      unfold c3
      simp [evCode, evOps, evOne, evOp, evPur, evEff, evPur.chunks, fillP, AOp.isEff, AO.ev, putP, PV.cells, PV.leaf, getB, getM, mapE, keyC, mapRows, mfind, eq1, eqL, scal, binP, unP, minP, maxP, foldP, PV.lt, PV.lt.ltL, endP, expoAll, expo, expo.expoL, frIds, frIds.frIdsL, nodupN, kill, resO, RV.get, loadP, evC_p, evC_s, endS, endT, rowsOf, thinL, unfr, unfr.unfrL, PV.noMem, PV.noMem.noMemL, optI, norm, trimT, trimB, forget, hasN, blksLt, List.set, eN, eSt, eTx, h8, h9, d3', cls, clsFuel, mapO]
  · have hb : (decide (n.length ≤ 1100) && decide (T.length ≤ 1100)) = false := by
      simp; omega
    simp only [hb, eN, eSt] at h8
    unfold c3
    simp [evCode, evOps, evOne, evOp, evPur, evEff, evPur.chunks, fillP, AOp.isEff, AO.ev, putP, PV.cells, PV.leaf, getB, getM, mapE, keyC, mapRows, mfind, eq1, eqL, scal, binP, unP, minP, maxP, foldP, PV.lt, PV.lt.ltL, endP, expoAll, expo, expo.expoL, frIds, frIds.frIdsL, nodupN, kill, resO, RV.get, loadP, evC_p, evC_s, endS, endT, rowsOf, thinL, unfr, unfr.unfrL, PV.noMem, PV.noMem.noMemL, optI, norm, trimT, trimB, forget, hasN, blksLt, List.set, eN, eSt, eTx, h8, h9, cls, clsFuel, mapO]

theorem take_pre {α : Type} {l m : List α} (h : l <+: m) : m.take l.length = l := by
  obtain ⟨r, rfl⟩ := h; simp
theorem framesE_ok {l : List (List UInt8)} (h : framesE l = 0) : l.length ≤ 32 := framesE_len h

theorem Is.back {n : List (List UInt8)} {T : List (Int × Int)} (g : TGood n T) {l : List (List UInt8)} {i : Int} (h : Is n T l.reverse i) : stkE n T i = 0 ∧ stkL n T i = l := by
  have h1 := h.low
  have e : stkE n T i = 0 := by
    unfold stkE
    rw [if_pos (of_good g), if_neg (by omega)]
  refine ⟨e, ?_⟩
  unfold stkL
  rw [if_pos e, h.ups g _ (by omega), List.reverse_reverse]

set_option maxRecDepth 100000 in
theorem f5 (n : List (List UInt8)) (T : List (Int × Int)) (l : List (List UInt8)) : evE Dg 5 [.agg [eN false n, eSt false T], eTx l] = some (.bool true) := by
  refine evE_intro 1 D5 rfl ?_
  have h8 := p8 false false n T
  have h9 := p9
  have h16 := p16 false false n T
  by_cases c1 : n.length ≤ 1100 ∧ T.length ≤ 1100
  · obtain ⟨c1, c2⟩ := c1
    simp only [decide_eq_true c1, decide_eq_true c2, Bool.and_self] at h8
    by_cases c3 : l.length ≤ 100
    · have c3' : ¬ (100 : Int) < l.length := by omega
      by_cases c4 : chk n T = 0
      · have g := good_of c4
        rw [c4] at h16
        obtain ⟨x3, y3, a3⟩ := p21 false false n T l c1 c2
        obtain ⟨g1, g2, g3, g4⟩ := putS_spec g l
        generalize putS n T l = r at *
        obtain ⟨i, n', T', e⟩ := r
        simp only at g1 g2 g3 g4 a3
        have e1 := of_good g1
        have t1 := take_pre g2
        have t2 := take_pre g3
        have l1 := g2.length_le
        have l2 := g3.length_le
        have l1' : ¬ (n'.length : Int) < n.length := by omega
        have l2' : ¬ (T'.length : Int) < T.length := by omega
        have k1 := g1.ln
        have k2 := g1.lT
        have h16' := p16 x3 y3 n' T'
        rw [e1] at h16'
        have s1 := fun x => p18 x false n n (by omega)
        have s2 := fun x => p23 x false T T (by omega)
        have s3 := p18 false false l l (by omega)
        have u1 : List.take n.length (List.map (fun t => [PV.str t]) n') = List.map (fun t => [PV.str t]) n := by rw [← List.map_take, t1]
        have u2 : List.take T.length (List.map eP T') = List.map eP T := by rw [← List.map_take, t2]
        simp only [eN, eSt, eTx, decide_true] at h8 h16 h16' a3 s1 s2 s3
        rcases g4 with ⟨q1, q2, q3⟩ | ⟨q1, q2⟩
        · subst q1
          obtain ⟨q4, q5⟩ := Is.back g1 q3
          have h12 := p12 x3 y3 n' T' i
          rw [q4, q5] at h12
          simp only [eN, eSt] at h12
          unfold c5
          simp [evCode, evOps, evOne, evOp, evPur, evEff, evPur.chunks, fillP, AOp.isEff, AO.ev, putP, PV.cells, PV.leaf, getB, getM, mapE, keyC, mapRows, mfind, eq1, eqL, scal, binP, unP, minP, maxP, foldP, PV.lt, PV.lt.ltL, endP, expoAll, expo, expo.expoL, frIds, frIds.frIdsL, nodupN, kill, resO, RV.get, loadP, evC_p, evC_s, endS, endT, rowsOf, thinL, unfr, unfr.unfrL, PV.noMem, PV.noMem.noMemL, optI, norm, trimT, trimB, forget, hasN, blksLt, List.set, eN, eSt, eTx, h8, h9, c3', h16, h16', a3, l1, l2, l1', l2', u1, u2, s1, s2, s3, h12, cls, clsFuel, mapO]
        · simp only [Prod.mk.injEq, and_true] at q2
          obtain ⟨rfl, rfl, rfl⟩ := q2
          have q1' : (e == 0) = false := by simpa using q1
          unfold c5
          simp [evCode, evOps, evOne, evOp, evPur, evEff, evPur.chunks, fillP, AOp.isEff, AO.ev, putP, PV.cells, PV.leaf, getB, getM, mapE, keyC, mapRows, mfind, eq1, eqL, scal, binP, unP, minP, maxP, foldP, PV.lt, PV.lt.ltL, endP, expoAll, expo, expo.expoL, frIds, frIds.frIdsL, nodupN, kill, resO, RV.get, loadP, evC_p, evC_s, endS, endT, rowsOf, thinL, unfr, unfr.unfrL, PV.noMem, PV.noMem.noMemL, optI, norm, trimT, trimB, forget, hasN, blksLt, List.set, eN, eSt, eTx, h8, h9, c3', h16, h16', a3, l1, l2, l1', l2', u1, u2, s1, s2, s3, q1, q1', cls, clsFuel, mapO]
      · have c4' : (chk n T == 0) = false := by simpa using c4
        simp only [eN, eSt] at h8 h16
        unfold c5
        simp [evCode, evOps, evOne, evOp, evPur, evEff, evPur.chunks, fillP, AOp.isEff, AO.ev, putP, PV.cells, PV.leaf, getB, getM, mapE, keyC, mapRows, mfind, eq1, eqL, scal, binP, unP, minP, maxP, foldP, PV.lt, PV.lt.ltL, endP, expoAll, expo, expo.expoL, frIds, frIds.frIdsL, nodupN, kill, resO, RV.get, loadP, evC_p, evC_s, endS, endT, rowsOf, thinL, unfr, unfr.unfrL, PV.noMem, PV.noMem.noMemL, optI, norm, trimT, trimB, forget, hasN, blksLt, List.set, eN, eSt, eTx, h8, h9, c3', h16, c4, c4', cls, clsFuel, mapO]
    · have c3' : (100 : Int) < l.length := by omega
      simp only [eN, eSt] at h8
      unfold c5
      simp [evCode, evOps, evOne, evOp, evPur, evEff, evPur.chunks, fillP, AOp.isEff, AO.ev, putP, PV.cells, PV.leaf, getB, getM, mapE, keyC, mapRows, mfind, eq1, eqL, scal, binP, unP, minP, maxP, foldP, PV.lt, PV.lt.ltL, endP, expoAll, expo, expo.expoL, frIds, frIds.frIdsL, nodupN, kill, resO, RV.get, loadP, evC_p, evC_s, endS, endT, rowsOf, thinL, unfr, unfr.unfrL, PV.noMem, PV.noMem.noMemL, optI, norm, trimT, trimB, forget, hasN, blksLt, List.set, eN, eSt, eTx, h8, h9, c3', cls, clsFuel, mapO]
  · have hb : (decide (n.length ≤ 1100) && decide (T.length ≤ 1100)) = false := by
      simp; omega
    simp only [hb, eN, eSt] at h8
    unfold c5
    simp [evCode, evOps, evOne, evOp, evPur, evEff, evPur.chunks, fillP, AOp.isEff, AO.ev, putP, PV.cells, PV.leaf, getB, getM, mapE, keyC, mapRows, mfind, eq1, eqL, scal, binP, unP, minP, maxP, foldP, PV.lt, PV.lt.ltL, endP, expoAll, expo, expo.expoL, frIds, frIds.frIdsL, nodupN, kill, resO, RV.get, loadP, evC_p, evC_s, endS, endT, rowsOf, thinL, unfr, unfr.unfrL, PV.noMem, PV.noMem.noMemL, optI, norm, trimT, trimB, forget, hasN, blksLt, List.set, eN, eSt, eTx, h8, h9, cls, clsFuel, mapO]
end Go.Proofs.Ytddlicbogbmpbaa
