/- A constant under negations: each node is as it must be; Expr; the statement. -/
import Derived.Test.YtllgemagnfcjiaaNsA
import Derived.Test.YtllgemagnfcjiaaAw
import Derived.Test.YtllgemagnfcjiaaGd
namespace Go.Proofs.Ytllgemagnfcjiaa
open Go Go.RowKit
set_option linter.unusedVariables false
set_option linter.unusedSimpArgs false
set_option maxHeartbeats 4000000

set_option maxRecDepth 100000 in
theorem f55z : evE Dg 55 [.agg (nest 0)] = some (.int .i64 0) := evE_of (n := 30) (by kernel_rfl)
set_option maxRecDepth 100000 in
theorem f73s (X : List PV) : evE Dg 73 [.agg [.int .i64 3, .str [], .int .i64 0, .int .i64 0, .str [], .sl true 6 [X]]] = some (.bool true) := by
  refine evE_intro 1 D73 rfl ?_
  unfold c73
  simp [evCode, evOps, evOne, evOp, evPur, evEff, evPur.chunks, fillP, AOp.isEff, AO.ev, putP, PV.cells, PV.leaf, getB, getM, mapE, iterE, keyC, mapRows, mfind, eq1, eqL, scal, binP, unP, minP, maxP, foldP, PV.lt, PV.lt.ltL, endP, expoAll, expoG, expo, expo.expoL, frIds, frIds.frIdsL, nodupN, kill, cls, clsFuel, resO, RV.get, loadP, evC_p, evC_s, endS, endT, rowsOf, callP, thinL, unfr, unfr.unfrL, PV.noMem, PV.noMem.noMemL, optI, mapO, norm, trimT, trimB, forget, hasN, blksLt, List.set, softChk, softGo, softRd, effTg, rdP]
set_option maxRecDepth 100000 in
theorem f55s (m : Nat) : evE Dg 55 [.agg (nest (m + 1))] = some (.int .i64 0) := by
  have h := f73s (nest m)
  refine evE_intro 1 D55 rfl ?_
  unfold c55 nest
  generalize nest m = X at *
  simp [evCode, evOps, evOne, evOp, evPur, evEff, evPur.chunks, fillP, AOp.isEff, AO.ev, putP, PV.cells, PV.leaf, getB, getM, mapE, iterE, keyC, mapRows, mfind, eq1, eqL, scal, binP, unP, minP, maxP, foldP, PV.lt, PV.lt.ltL, endP, expoAll, expoG, expo, expo.expoL, frIds, frIds.frIdsL, nodupN, kill, cls, clsFuel, resO, RV.get, loadP, evC_p, evC_s, endS, endT, rowsOf, callP, thinL, unfr, unfr.unfrL, PV.noMem, PV.noMem.noMemL, optI, mapO, norm, trimT, trimB, forget, hasN, blksLt, List.set, softChk, softGo, softRd, effTg, rdP, h]
set_option maxRecDepth 100000 in
theorem f28 : ∀ m : Nat, evE Dg 28 [.agg (nest m)] = some (.int .i64 0)
  | 0 => by
    have h := f55z
    refine evE_intro 3 D28 rfl ?_
    unfold nest at h
    unfold c28 nest
    simp [evCode, evOps, evOne, evOp, evPur, evEff, evPur.chunks, fillP, AOp.isEff, AO.ev, putP, PV.cells, PV.leaf, getB, getM, mapE, iterE, keyC, mapRows, mfind, eq1, eqL, scal, binP, unP, minP, maxP, foldP, PV.lt, PV.lt.ltL, endP, expoAll, expoG, expo, expo.expoL, frIds, frIds.frIdsL, nodupN, kill, cls, clsFuel, resO, RV.get, loadP, evC_p, evC_s, endS, endT, rowsOf, callP, thinL, unfr, unfr.unfrL, PV.noMem, PV.noMem.noMemL, optI, mapO, norm, trimT, trimB, forget, hasN, blksLt, List.set, softChk, softGo, softRd, effTg, rdP, h]
    unfold c28b0
    simp [evCode, evOps, evOne, evOp, evPur, evEff, evPur.chunks, fillP, AOp.isEff, AO.ev, putP, PV.cells, PV.leaf, getB, getM, mapE, iterE, keyC, mapRows, mfind, eq1, eqL, scal, binP, unP, minP, maxP, foldP, PV.lt, PV.lt.ltL, endP, expoAll, expoG, expo, expo.expoL, frIds, frIds.frIdsL, nodupN, kill, cls, clsFuel, resO, RV.get, loadP, evC_p, evC_s, endS, endT, rowsOf, callP, thinL, unfr, unfr.unfrL, PV.noMem, PV.noMem.noMemL, optI, mapO, norm, trimT, trimB, forget, hasN, blksLt, List.set, softChk, softGo, softRd, effTg, rdP, evLoop]
  | m + 1 => by
    have ih := f28 m
    have h := f55s m
    obtain ⟨a, b, c, k, hn, hk1, hk2⟩ := nest_cells m
    refine evE_intro 3 D28 rfl ?_
    unfold nest at h
    unfold nest
    rw [hn] at ih h ⊢
    unfold c28
    simp [evCode, evOps, evOne, evOp, evPur, evEff, evPur.chunks, fillP, AOp.isEff, AO.ev, putP, PV.cells, PV.leaf, getB, getM, mapE, iterE, keyC, mapRows, mfind, eq1, eqL, scal, binP, unP, minP, maxP, foldP, PV.lt, PV.lt.ltL, endP, expoAll, expoG, expo, expo.expoL, frIds, frIds.frIdsL, nodupN, kill, cls, clsFuel, resO, RV.get, loadP, evC_p, evC_s, endS, endT, rowsOf, callP, thinL, unfr, unfr.unfrL, PV.noMem, PV.noMem.noMemL, optI, mapO, norm, trimT, trimB, forget, hasN, blksLt, List.set, softChk, softGo, softRd, effTg, rdP, h]
    unfold c28b0
    simp [evCode, evOps, evOne, evOp, evPur, evEff, evPur.chunks, fillP, AOp.isEff, AO.ev, putP, PV.cells, PV.leaf, getB, getM, mapE, iterE, keyC, mapRows, mfind, eq1, eqL, scal, binP, unP, minP, maxP, foldP, PV.lt, PV.lt.ltL, endP, expoAll, expoG, expo, expo.expoL, frIds, frIds.frIdsL, nodupN, kill, cls, clsFuel, resO, RV.get, loadP, evC_p, evC_s, endS, endT, rowsOf, callP, thinL, unfr, unfr.unfrL, PV.noMem, PV.noMem.noMemL, optI, mapO, norm, trimT, trimB, forget, hasN, blksLt, List.set, softChk, softGo, softRd, effTg, rdP, evLoop, wk, ih, ↓hk1, ↓hk2]
set_option maxRecDepth 100000 in
theorem f11 (m : Nat) (hm : m < 60) : evE Dg 11 [.agg (nest m)] = some (.int .i64 (if 16 ≤ m then 20 else 0)) := by
  have h1 := f26 m 0 (by omega)
  rw [show ((0 : Nat) : Int) = 0 from rfl] at h1
  have h2 := f27 m 16 (by omega) (by omega)
  have h3 := f28 m
  have c1 : ¬ (200 : Int) < ((0 + m + 1 : Nat) : Int) := by omega
  obtain ⟨a, b, c, k, hn, hk1, hk2⟩ := nest_cells m
  rw [hn] at h1 h2 h3 ⊢
  generalize 0 + m + 1 = q at *
  refine evE_intro 1 D11 rfl ?_
  unfold c11
  by_cases h : 16 ≤ m
  · have hd : deep m 16 = true := by unfold deep; simp; omega
    rw [hd] at h2
    rw [if_pos h]
    simp [evCode, evOps, evOne, evOp, evPur, evEff, evPur.chunks, fillP, AOp.isEff, AO.ev, putP, PV.cells, PV.leaf, getB, getM, mapE, iterE, keyC, mapRows, mfind, eq1, eqL, scal, binP, unP, minP, maxP, foldP, PV.lt, PV.lt.ltL, endP, expoAll, expoG, expo, expo.expoL, frIds, frIds.frIdsL, nodupN, kill, cls, clsFuel, resO, RV.get, loadP, evC_p, evC_s, endS, endT, rowsOf, callP, thinL, unfr, unfr.unfrL, PV.noMem, PV.noMem.noMemL, optI, mapO, norm, trimT, trimB, forget, hasN, blksLt, List.set, softChk, softGo, softRd, effTg, rdP, h1, h2, h3, c1, ↓hk1, ↓hk2]
  · have hd : deep m 16 = false := by unfold deep; simp; omega
    rw [hd] at h2
    rw [if_neg h]
    simp [evCode, evOps, evOne, evOp, evPur, evEff, evPur.chunks, fillP, AOp.isEff, AO.ev, putP, PV.cells, PV.leaf, getB, getM, mapE, iterE, keyC, mapRows, mfind, eq1, eqL, scal, binP, unP, minP, maxP, foldP, PV.lt, PV.lt.ltL, endP, expoAll, expoG, expo, expo.expoL, frIds, frIds.frIdsL, nodupN, kill, cls, clsFuel, resO, RV.get, loadP, evC_p, evC_s, endS, endT, rowsOf, callP, thinL, unfr, unfr.unfrL, PV.noMem, PV.noMem.noMemL, optI, mapO, norm, trimT, trimB, forget, hasN, blksLt, List.set, softChk, softGo, softRd, effTg, rdP, h1, h2, h3, c1, ↓hk1, ↓hk2]
def S8 (n i : Nat) : St := ⟨[.int .u8 n, .top, .top, .ptr 0 1 0 0, .int .i64 i] ++ List.replicate 30 .top, [some ⟨1, 6, true, [nest i]⟩]⟩
set_option maxRecDepth 100000 in
theorem f8 (n : Nat) (hn : n < 256) : evE Dg 8 [.int .u8 n] = some (.bool true) := by
  have h9 := f9
  have r1 : IntKind.u8.wrap (Int.tmod (n : Int) 60) = ((n % 60 : Nat) : Int) := by
    have e : Int.tmod (n : Int) 60 = ((n % 60 : Nat) : Int) := by rw [Int.tmod_eq_emod_of_nonneg (by omega)]; omega
    rw [e]
    simp [IntKind.wrap, IntKind.signed, IntKind.bits]
    omega
  have r0 : Int.tmod (n : Int) 60 = ((n % 60 : Nat) : Int) := by rw [Int.tmod_eq_emod_of_nonneg (by omega)]; omega
  have r3 : IntKind.u8.wrap ((n % 60 : Nat) : Int) = ((n % 60 : Nat) : Int) := by rw [← r0]; exact r1
  obtain ⟨q, hq⟩ : ∃ q, n % 60 = q := ⟨_, rfl⟩
  have hq60 : q < 60 := by omega
  rw [hq] at r0 r1 r3
  have r2 : IntKind.i64.wrap (q : Int) = (q : Int) := wrap_i64 _ (by omega) (by omega)
  have H := fun (s0 : St) (E : Option Out) => loop_foldE (body := evCode (evC Dg) 100 c8b0) (keep := [0, 3, 4]) (n0 := 1) (fuel := 100) (List.range q) (fun i (_ : Unit) => S8 n i) (fun _ _ => ()) (fun _ _ => True) (by
    intro i j x hij hi _
    rw [List.length_range] at hi
    have w1 := wrap_i64 ((i : Int) + 1) (by omega) (by omega)
    have c1 : (i : Int) < q := by omega
    refine ⟨trivial, ?_⟩
    have e : nest (i + 1) = [.int .i64 3, .str [], .int .i64 0, .int .i64 0, .str [], .sl true 6 [nest i]] := rfl
    unfold S8
    rw [e]
    obtain ⟨a, b, c, k, hn', hk1, hk2⟩ := nest_cells i
    rw [hn']
    unfold c8b0
    simp [evCode, evOps, evOne, evOp, evPur, evEff, evPur.chunks, fillP, AOp.isEff, AO.ev, putP, PV.cells, PV.leaf, getB, getM, mapE, iterE, keyC, mapRows, mfind, eq1, eqL, scal, binP, unP, minP, maxP, foldP, PV.lt, PV.lt.ltL, endP, expoAll, expoG, expo, expo.expoL, frIds, frIds.frIdsL, nodupN, kill, cls, clsFuel, resO, RV.get, loadP, evC_p, evC_s, endS, endT, rowsOf, callP, thinL, unfr, unfr.unfrL, PV.noMem, PV.noMem.noMemL, optI, mapO, norm, trimT, trimB, forget, hasN, blksLt, List.set, softChk, softGo, softRd, effTg, rdP, r0, r1, r2, r3, w1, c1, ↓hk1, ↓hk2]) (by
    intro x _ s
    rw [List.length_range]
    have c1 : ¬ (q : Int) < q := by omega
    generalize hS : S8 n q = T
    unfold S8 at hS
    subst hS
    obtain ⟨a, b, c, k, hn', hk1, hk2⟩ := nest_cells q
    rw [hn']
    unfold c8b0
    simp [evCode, evOps, evOne, evOp, evPur, evEff, evPur.chunks, fillP, AOp.isEff, AO.ev, putP, PV.cells, PV.leaf, getB, getM, mapE, iterE, keyC, mapRows, mfind, eq1, eqL, scal, binP, unP, minP, maxP, foldP, PV.lt, PV.lt.ltL, endP, expoAll, expoG, expo, expo.expoL, frIds, frIds.frIdsL, nodupN, kill, cls, clsFuel, resO, RV.get, loadP, evC_p, evC_s, endS, endT, rowsOf, callP, thinL, unfr, unfr.unfrL, PV.noMem, PV.noMem.noMemL, optI, mapO, norm, trimT, trimB, forget, hasN, blksLt, List.set, softChk, softGo, softRd, effTg, rdP, r0, r1, r2, r3, c1]) (by rw [List.length_range]; omega) () trivial s0 E
  refine evE_intro 100 D8 rfl ?_
  unfold c8
  simp [evCode, evOps, evOne, evOp, evPur, evEff, evPur.chunks, fillP, AOp.isEff, AO.ev, putP, PV.cells, PV.leaf, getB, getM, mapE, iterE, keyC, mapRows, mfind, eq1, eqL, scal, binP, unP, minP, maxP, foldP, PV.lt, PV.lt.ltL, endP, expoAll, expoG, expo, expo.expoL, frIds, frIds.frIdsL, nodupN, kill, cls, clsFuel, resO, RV.get, loadP, evC_p, evC_s, endS, endT, rowsOf, callP, thinL, unfr, unfr.unfrL, PV.noMem, PV.noMem.noMemL, optI, mapO, norm, trimT, trimB, forget, hasN, blksLt, List.set, softChk, softGo, softRd, effTg, rdP]
  generalize hE : evLoop (evCode (evC Dg) 100 c8b0) [0, 3, 4] 1 100 _ = E
  obtain ⟨h, -⟩ := H _ E hE (by simp [evCode, evOps, evOne, evOp, evPur, evEff, evPur.chunks, fillP, AOp.isEff, AO.ev, putP, PV.cells, PV.leaf, getB, getM, mapE, iterE, keyC, mapRows, mfind, eq1, eqL, scal, binP, unP, minP, maxP, foldP, PV.lt, PV.lt.ltL, endP, expoAll, expoG, expo, expo.expoL, frIds, frIds.frIdsL, nodupN, kill, cls, clsFuel, resO, RV.get, loadP, evC_p, evC_s, endS, endT, rowsOf, callP, thinL, unfr, unfr.unfrL, PV.noMem, PV.noMem.noMemL, optI, mapO, norm, trimT, trimB, forget, hasN, blksLt, List.set, softChk, softGo, softRd, effTg, rdP, S8, nest])
  rw [List.length_range] at h
  subst h
  clear H hE
  have h11 := f11 q hq60
  have c1 : ¬ (q : Int) < q := by omega
  have w2 : IntKind.i64.wrap ((q : Int) + 1) = ((q + 1 : Nat) : Int) := by rw [wrap_i64 _ (by omega) (by omega)]; omega
  obtain ⟨a, b, c, k, hn', hk1, hk2⟩ := nest_cells q
  unfold S8
  rw [hn'] at h11 ⊢
  by_cases h : 16 ≤ q
  · rw [if_pos h] at h11
    have c2 : (16 : Int) < ((q + 1 : Nat) : Int) := by omega
    generalize q + 1 = q1 at *
    unfold c8b0 c8r0
    simp [evCode, evOps, evOne, evOp, evPur, evEff, evPur.chunks, fillP, AOp.isEff, AO.ev, putP, PV.cells, PV.leaf, getB, getM, mapE, iterE, keyC, mapRows, mfind, eq1, eqL, scal, binP, unP, minP, maxP, foldP, PV.lt, PV.lt.ltL, endP, expoAll, expoG, expo, expo.expoL, frIds, frIds.frIdsL, nodupN, kill, cls, clsFuel, resO, RV.get, loadP, evC_p, evC_s, endS, endT, rowsOf, callP, thinL, unfr, unfr.unfrL, PV.noMem, PV.noMem.noMemL, optI, mapO, norm, trimT, trimB, forget, hasN, blksLt, List.set, softChk, softGo, softRd, effTg, rdP, r0, r1, r2, r3, c1, c2, w2, h11, h9, ↓hk1, ↓hk2]
  · rw [if_neg h] at h11
    have c2 : ¬ (16 : Int) < ((q + 1 : Nat) : Int) := by omega
    generalize q + 1 = q1 at *
    unfold c8b0 c8r0
    simp [evCode, evOps, evOne, evOp, evPur, evEff, evPur.chunks, fillP, AOp.isEff, AO.ev, putP, PV.cells, PV.leaf, getB, getM, mapE, iterE, keyC, mapRows, mfind, eq1, eqL, scal, binP, unP, minP, maxP, foldP, PV.lt, PV.lt.ltL, endP, expoAll, expoG, expo, expo.expoL, frIds, frIds.frIdsL, nodupN, kill, cls, clsFuel, resO, RV.get, loadP, evC_p, evC_s, endS, endT, rowsOf, callP, thinL, unfr, unfr.unfrL, PV.noMem, PV.noMem.noMemL, optI, mapO, norm, trimT, trimB, forget, hasN, blksLt, List.set, softChk, softGo, softRd, effTg, rdP, r0, r1, r2, r3, c1, c2, w2, h11, h9, ↓hk1, ↓hk2]
set_option maxRecDepth 100000 in
theorem law8 (ps : List PV) (h : ArgL Try.prog 12 [5] ps) : evE Dg 8 ps = some (.bool true) := by
  obtain ⟨p, rfl, h1⟩ := argL1 h
  obtain ⟨i, rfl, hw⟩ := argT_int Try.underlying5 h1
  simp [Lit.wf, IntKind.min, IntKind.max, IntKind.signed, IntKind.bits] at hw
  obtain ⟨u, rfl⟩ : ∃ u : Nat, i = u := ⟨i.toNat, by omega⟩
  exact f8 u (by omega)
end Go.Proofs.Ytllgemagnfcjiaa
