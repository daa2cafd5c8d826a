/- num: the walk of NumRounds. -/
import Derived.Test.YtnodcoemjojlhaaDoorNuN
import Derived.Test.YtnodcoemjojlhaaDoorAw
namespace Go.Proofs.YtnodcoemjojlhaaDoor
open Go Go.RowKit
set_option linter.unusedVariables false
set_option linter.unusedSimpArgs false
set_option maxHeartbeats 8000000

structure I6 (a b c m n d : Int) : Prop where
  wa : IntKind.i64.wrap a = a
  wb : IntKind.i64.wrap b = b
  wc : IntKind.i64.wrap c = c
  wm : IntKind.i64.wrap (a.tdiv 2) = m
  wn : IntKind.i64.wrap (b.tdiv 2) = n
  d1 : (if 1 < c then c else 1) = d
theorem bnd_in {n : Int} (h : inB n = true) : bnd n = .tup [.int .i64 n, .bool true] := by unfold bnd; rw [h]; rfl
theorem bnd_out {n : Int} (h : inB n = false) : bnd n = .tup [.int .i64 0, .bool false] := by unfold bnd; rw [h]; rfl

set_option maxRecDepth 100000 in
theorem w6_big {a b c m n d x f g t : Int} (i : I6 a b c m n d) (r : R6 m n d x f g t) (ht : 1000000000000000 < t) : evE Dg 6 [.int .i32 a, .int .i32 b, .int .i32 c] = some (.bool true) := by
  obtain ⟨wa, wb, wc, wm, wn, d1⟩ := i
  obtain ⟨q, h17, h18, h17n, wx, wt, wt2, wmm, d0⟩ := r
  have o1 : inB f = false := (inB_false f).2 (by have := q.t3 (by omega); omega)
  have o2 : inB g = false := (inB_false g).2 (by have := q.t2; omega)
  have o3 : inB (-g) = false := by rw [inB_neg, o2]
  rw [bnd_out o1] at h17
  rw [bnd_out o2] at h18
  rw [bnd_out o3] at h17n
  refine evE_intro 1 D6 rfl ?_
  unfold c6
  simp [evCode, evOps, evOne, evOp, evPur, evEff, evPur.chunks, fillP, AOp.isEff, AO.ev, putP, PV.cells, PV.leaf, getB, getM, mapE, keyC, mapRows, mfind, eq1, eqL, scal, binP, unP, minP, maxP, foldP, PV.lt, PV.lt.ltL, endP, expoAll, expo, expo.expoL, frIds, frIds.frIdsL, nodupN, kill, cls, clsFuel, resO, RV.get, loadP, evC_p, evC_s, endS, endT, rowsOf, callP, thinL, unfr, unfr.unfrL, PV.noMem, PV.noMem.noMemL, optI, mapO, norm, trimT, trimB, forget, hasN, blksLt, List.set, wa, wb, wc, wm, wn, d1, h17, h18, h17n, wx, wt, wt2, wmm, d0, ht, f16]
set_option maxRecDepth 100000 in
theorem w6_low {a b c m n d x f g t : Int} (i : I6 a b c m n d) (r : R6 m n d x f g t) (ht : t < -1000000000000000) : evE Dg 6 [.int .i32 a, .int .i32 b, .int .i32 c] = some (.bool true) := by
  obtain ⟨wa, wb, wc, wm, wn, d1⟩ := i
  obtain ⟨q, h17, h18, h17n, wx, wt, wt2, wmm, d0⟩ := r
  have hq := q.t4 (by omega)
  have o1 : inB f = false := (inB_false f).2 (by have := q.t2; omega)
  have o2 : inB g = false := (inB_false g).2 (by omega)
  have o3 : inB (-g) = false := by rw [inB_neg, o2]
  have ht1 : ¬ 1000000000000000 < t := by omega
  rw [bnd_out o1] at h17
  rw [bnd_out o2] at h18
  rw [bnd_out o3] at h17n
  refine evE_intro 1 D6 rfl ?_
  unfold c6
  simp [evCode, evOps, evOne, evOp, evPur, evEff, evPur.chunks, fillP, AOp.isEff, AO.ev, putP, PV.cells, PV.leaf, getB, getM, mapE, keyC, mapRows, mfind, eq1, eqL, scal, binP, unP, minP, maxP, foldP, PV.lt, PV.lt.ltL, endP, expoAll, expo, expo.expoL, frIds, frIds.frIdsL, nodupN, kill, cls, clsFuel, resO, RV.get, loadP, evC_p, evC_s, endS, endT, rowsOf, callP, thinL, unfr, unfr.unfrL, PV.noMem, PV.noMem.noMemL, optI, mapO, norm, trimT, trimB, forget, hasN, blksLt, List.set, wa, wb, wc, wm, wn, d1, h17, h18, h17n, wx, wt, wt2, wmm, d0, ht, ht1, f16]
set_option maxRecDepth 100000 in
theorem w6_edge1 {a b c m n d x f g t : Int} (i : I6 a b c m n d) (r : R6 m n d x f g t) (ht : t = -1000000000000000) (o1 : inB f = false) (o2 : inB g = true) : evE Dg 6 [.int .i32 a, .int .i32 b, .int .i32 c] = some (.bool true) := by
  obtain ⟨wa, wb, wc, wm, wn, d1⟩ := i
  obtain ⟨q, h17, h18, h17n, wx, wt, wt2, wmm, d0⟩ := r
  have o3 : inB (-g) = true := by rw [inB_neg, o2]
  clear q
  subst ht
  rw [bnd_out o1] at h17
  rw [bnd_in o2] at h18
  rw [bnd_in o3] at h17n
  refine evE_intro 1 D6 rfl ?_
  unfold c6
  simp [evCode, evOps, evOne, evOp, evPur, evEff, evPur.chunks, fillP, AOp.isEff, AO.ev, putP, PV.cells, PV.leaf, getB, getM, mapE, keyC, mapRows, mfind, eq1, eqL, scal, binP, unP, minP, maxP, foldP, PV.lt, PV.lt.ltL, endP, expoAll, expo, expo.expoL, frIds, frIds.frIdsL, nodupN, kill, cls, clsFuel, resO, RV.get, loadP, evC_p, evC_s, endS, endT, rowsOf, callP, thinL, unfr, unfr.unfrL, PV.noMem, PV.noMem.noMemL, optI, mapO, norm, trimT, trimB, forget, hasN, blksLt, List.set, wa, wb, wc, wm, wn, d1, h17, h18, h17n, wx, wt, wt2, wmm, d0, f16]
set_option maxRecDepth 100000 in
theorem w6_edge2 {a b c m n d x f g t : Int} (i : I6 a b c m n d) (r : R6 m n d x f g t) (ht : t = 1000000000000000) (o1 : inB f = true) (o2 : inB g = false) : evE Dg 6 [.int .i32 a, .int .i32 b, .int .i32 c] = some (.bool true) := by
  obtain ⟨wa, wb, wc, wm, wn, d1⟩ := i
  obtain ⟨q, h17, h18, h17n, wx, wt, wt2, wmm, d0⟩ := r
  have o3 : inB (-g) = false := by rw [inB_neg, o2]
  clear q
  subst ht
  rw [bnd_in o1] at h17
  rw [bnd_out o2] at h18
  rw [bnd_out o3] at h17n
  refine evE_intro 1 D6 rfl ?_
  unfold c6
  simp [evCode, evOps, evOne, evOp, evPur, evEff, evPur.chunks, fillP, AOp.isEff, AO.ev, putP, PV.cells, PV.leaf, getB, getM, mapE, keyC, mapRows, mfind, eq1, eqL, scal, binP, unP, minP, maxP, foldP, PV.lt, PV.lt.ltL, endP, expoAll, expo, expo.expoL, frIds, frIds.frIdsL, nodupN, kill, cls, clsFuel, resO, RV.get, loadP, evC_p, evC_s, endS, endT, rowsOf, callP, thinL, unfr, unfr.unfrL, PV.noMem, PV.noMem.noMemL, optI, mapO, norm, trimT, trimB, forget, hasN, blksLt, List.set, wa, wb, wc, wm, wn, d1, h17, h18, h17n, wx, wt, wt2, wmm, d0, f16]
set_option maxRecDepth 100000 in
theorem w6_mid {a b c m n d x f g t y z u v : Int} (i : I6 a b c m n d) (r : R6 m n d x f g t) (ht1 : ¬ 1000000000000000 < t) (ht2 : ¬ t < -1000000000000000) (o1 : inB f = true) (o2 : inB g = true)
    (wy : IntKind.i64.wrap (d * f) = y) (wz : IntKind.i64.wrap (d * g) = z) (wu : IntKind.i64.wrap (x - y) = u) (wv : IntKind.i64.wrap (z - x) = v) (u0 : 0 ≤ u) (u1 : u < d) (v0 : 0 ≤ v) (v1 : v < d) (wg : IntKind.i64.wrap g = g) :
    evE Dg 6 [.int .i32 a, .int .i32 b, .int .i32 c] = some (.bool true) := by
  obtain ⟨wa, wb, wc, wm, wn, d1⟩ := i
  obtain ⟨q, h17, h18, h17n, wx, wt, wt2, wmm, d0⟩ := r
  have o3 : inB (-g) = true := by rw [inB_neg, o2]
  clear q
  rw [bnd_in o1] at h17
  rw [bnd_in o2] at h18
  rw [bnd_in o3] at h17n
  refine evE_intro 1 D6 rfl ?_
  unfold c6
  simp [evCode, evOps, evOne, evOp, evPur, evEff, evPur.chunks, fillP, AOp.isEff, AO.ev, putP, PV.cells, PV.leaf, getB, getM, mapE, keyC, mapRows, mfind, eq1, eqL, scal, binP, unP, minP, maxP, foldP, PV.lt, PV.lt.ltL, endP, expoAll, expo, expo.expoL, frIds, frIds.frIdsL, nodupN, kill, cls, clsFuel, resO, RV.get, loadP, evC_p, evC_s, endS, endT, rowsOf, callP, thinL, unfr, unfr.unfrL, PV.noMem, PV.noMem.noMemL, optI, mapO, norm, trimT, trimB, forget, hasN, blksLt, List.set, wa, wb, wc, wm, wn, d1, h17, h18, h17n, wx, wt, wt2, wmm, d0, ht1, ht2, wy, wz, wu, wv, u0, u1, v0, v1, wg, Int.neg_neg, f16]

theorem n6 (a b c : Int) (ha : -2147483648 ≤ a ∧ a ≤ 2147483647) (hb : -2147483648 ≤ b ∧ b ≤ 2147483647) (hc : -2147483648 ≤ c ∧ c ≤ 2147483647) :
    evE Dg 6 [.int .i32 a, .int .i32 b, .int .i32 c] = some (.bool true) := by
  have hm := half a ha.1 ha.2
  have hn := half b hb.1 hb.2
  obtain ⟨m, em⟩ := ex_eq (a.tdiv 2)
  obtain ⟨n, en⟩ := ex_eq (b.tdiv 2)
  obtain ⟨d, ed⟩ := ex_eq (if 1 < c then c else 1)
  have hd : 1 ≤ d ∧ d ≤ 2147483647 := by rw [← ed]; split <;> omega
  rw [em] at hm
  rw [en] at hn
  have i : I6 a b c m n d := ⟨wrap_i64 _ (by omega) (by omega), wrap_i64 _ (by omega) (by omega), wrap_i64 _ (by omega) (by omega), by rw [em]; exact wrap_i64 _ (by omega) (by omega), by rw [en]; exact wrap_i64 _ (by omega) (by omega), ed⟩
  have r := R6.mk' m n d hm hn hd.1 hd.2
  have hp := prod_le m n (by omega) (by omega)
  clear ha hb hc em en ed
  obtain ⟨x, hx⟩ := ex_eq (m * n)
  rw [hx] at r hp
  obtain ⟨f, hf⟩ := ex_eq (x / d)
  obtain ⟨g, hg⟩ := ex_eq (-(-x / d))
  obtain ⟨t, ht⟩ := ex_eq (x.tdiv d)
  rw [hf, hg, ht] at r
  have q := r.q
  obtain ⟨f1, f2, g1, g2, t1, t2, t3, t4, t5⟩ := q
  by_cases h1 : 1000000000000000 < t
  · exact w6_big i r h1
  by_cases h2 : t < -1000000000000000
  · exact w6_low i r h2
  cases o1 : inB f with
  | false =>
    have := (inB_false f).1 o1
    have e : t = -1000000000000000 := by omega
    have : g = t := by rcases t1 with h | h <;> omega
    exact w6_edge1 i r e o1 ((inB_iff g).2 (by omega))
  | true =>
    have := (inB_iff f).1 o1
    cases o2 : inB g with
    | false =>
      have := (inB_false g).1 o2
      have e : t = 1000000000000000 := by rcases t1 with h | h <;> omega
      exact w6_edge2 i r e o1 o2
    | true =>
      have := (inB_iff g).1 o2
      obtain ⟨y, hy⟩ := ex_eq (d * f)
      obtain ⟨z, hz⟩ := ex_eq (d * g)
      rw [hy] at f1 f2
      rw [hz] at g1 g2
      exact w6_mid (y := y) (z := z) (u := x - y) (v := z - x) i r h1 h2 o1 o2 (by rw [hy]; exact wrap_i64 _ (by omega) (by omega)) (by rw [hz]; exact wrap_i64 _ (by omega) (by omega))
        (wrap_i64 _ (by omega) (by omega)) (wrap_i64 _ (by omega) (by omega)) (by omega) (by omega) (by omega) (by omega) (wrap_i64 _ (by omega) (by omega))

theorem wf_i32 {i : Int} (h : (Lit.int .i32 i).wf = true) : -2147483648 ≤ i ∧ i ≤ 2147483647 := by
  simp [Lit.wf, IntKind.min, IntKind.max, IntKind.signed, IntKind.bits] at h
  omega
theorem law6 (ps : List PV) (h : ArgL Tryd.prog 12 [21, 21, 21] ps) : evE Dg 6 ps = some (.bool true) := by
  obtain ⟨p, q, r, rfl, h1, h2, h3⟩ := argL3 h
  obtain ⟨a, rfl, wa⟩ := argT_int Tryd.underlying21 h1
  obtain ⟨b, rfl, wb⟩ := argT_int Tryd.underlying21 h2
  obtain ⟨c, rfl, wc⟩ := argT_int Tryd.underlying21 h3
  exact n6 a b c (wf_i32 wa) (wf_i32 wb) (wf_i32 wc)
end Go.Proofs.YtnodcoemjojlhaaDoor
