/- itree: spans.Meet of two single spans. -/
import Derived.Test.YtkodjmlhmpokoaaItV
namespace Go.Proofs.Ytkodjmlhmpokoaa
open Go Go.RowKit
set_option linter.unusedVariables false
set_option linter.unusedSimpArgs false
set_option maxHeartbeats 8000000

theorem f38_0 : evE Dg 38 [.int .u64 0] = some (.int .i64 0) := evE_of (n := 20) (by kernel_rfl)
theorem f38_1 : evE Dg 38 [.int .u64 1] = some (.int .i64 1) := evE_of (n := 20) (by kernel_rfl)
theorem f75_0 (c v : Nat) (bl : Blks) : evS Dg 75 [.own c v 0 0, .int .i64 0, .int .i64 0, .fn 45 []] bl = some (.tup [], bl) := by
  have w1 := wrap_i64 1 (by omega) (by omega)
  refine evS_intro 1 D75 rfl ?_
  unfold c75 c75b1
  simp [evCode, evOps, evOne, evOp, evPur, evEff, evPur.chunks, fillP, AOp.isEff, AO.ev, putP, PV.cells, PV.leaf, getB, getM, mapE, iterE, keyC, mapRows, mfind, eq1, eqL, scal, binP, unP, minP, maxP, foldP, PV.lt, PV.lt.ltL, endP, expoAll, expoG, expo, expo.expoL, frIds, frIds.frIdsL, nodupN, kill, cls, clsFuel, resO, RV.get, loadP, evC_p, evC_s, endS, endT, rowsOf, callP, thinL, unfr, unfr.unfrL, PV.noMem, PV.noMem.noMemL, optI, mapO, norm, trimT, trimB, forget, hasN, blksLt, List.set, softChk, softGo, softRd, effTg, rdP, evLoop, w1]
theorem f75_1 (c v : Nat) (bl : Blks) : evS Dg 75 [.own c v 0 1, .int .i64 0, .int .i64 1, .fn 45 []] bl = some (.tup [], bl) := by
  have w1 := wrap_i64 1 (by omega) (by omega)
  refine evS_intro 1 D75 rfl ?_
  unfold c75 c75b1
  simp [evCode, evOps, evOne, evOp, evPur, evEff, evPur.chunks, fillP, AOp.isEff, AO.ev, putP, PV.cells, PV.leaf, getB, getM, mapE, iterE, keyC, mapRows, mfind, eq1, eqL, scal, binP, unP, minP, maxP, foldP, PV.lt, PV.lt.ltL, endP, expoAll, expoG, expo, expo.expoL, frIds, frIds.frIdsL, nodupN, kill, cls, clsFuel, resO, RV.get, loadP, evC_p, evC_s, endS, endT, rowsOf, callP, thinL, unfr, unfr.unfrL, PV.noMem, PV.noMem.noMemL, optI, mapO, norm, trimT, trimB, forget, hasN, blksLt, List.set, softChk, softGo, softRd, effTg, rdP, evLoop, w1]
set_option maxRecDepth 100000 in
theorem f66_0 (c v : Nat) (bl : Blks) : evS Dg 66 [.own c v 0 0, .int .i64 0, .int .i64 0, .int .i64 0, .fn 45 []] bl = some (.tup [], bl) := by
  have w1 := wrap_i64 0 (by omega) (by omega)
  have h := f75_0 c v bl
  refine evS_intro 1 D66 rfl ?_
  unfold c66 c66b0
  simp [evCode, evOps, evOne, evOp, evPur, evEff, evPur.chunks, fillP, AOp.isEff, AO.ev, putP, PV.cells, PV.leaf, getB, getM, mapE, iterE, keyC, mapRows, mfind, eq1, eqL, scal, binP, unP, minP, maxP, foldP, PV.lt, PV.lt.ltL, endP, expoAll, expoG, expo, expo.expoL, frIds, frIds.frIdsL, nodupN, kill, cls, clsFuel, resO, RV.get, loadP, evC_p, evC_s, endS, endT, rowsOf, callP, thinL, unfr, unfr.unfrL, PV.noMem, PV.noMem.noMemL, optI, mapO, norm, trimT, trimB, forget, hasN, blksLt, List.set, softChk, softGo, softRd, effTg, rdP, evLoop, w1, h]
set_option maxRecDepth 100000 in
theorem f66_1 (c v : Nat) (bl : Blks) : evS Dg 66 [.own c v 0 1, .int .i64 0, .int .i64 1, .int .i64 1, .fn 45 []] bl = some (.tup [], bl) := by
  have w1 := wrap_i64 1 (by omega) (by omega)
  have h := f75_1 c v bl
  refine evS_intro 1 D66 rfl ?_
  unfold c66 c66b0
  simp [evCode, evOps, evOne, evOp, evPur, evEff, evPur.chunks, fillP, AOp.isEff, AO.ev, putP, PV.cells, PV.leaf, getB, getM, mapE, iterE, keyC, mapRows, mfind, eq1, eqL, scal, binP, unP, minP, maxP, foldP, PV.lt, PV.lt.ltL, endP, expoAll, expoG, expo, expo.expoL, frIds, frIds.frIdsL, nodupN, kill, cls, clsFuel, resO, RV.get, loadP, evC_p, evC_s, endS, endT, rowsOf, callP, thinL, unfr, unfr.unfrL, PV.noMem, PV.noMem.noMemL, optI, mapO, norm, trimT, trimB, forget, hasN, blksLt, List.set, softChk, softGo, softRd, effTg, rdP, evLoop, w1, h]
theorem getB_some {bl : Blks} {c v : Nat} (h : (getB bl c v).isSome = true) : ∃ x, bl[c]? = some (some x) ∧ x.ver = v ∧ x.e < 1000000000 := by
  unfold getB at h
  split at h
  · rename_i x hx
    split at h
    · rename_i hc
      exact ⟨x, hx, hc.1, hc.2⟩
    · cases h
  · cases h
set_option maxRecDepth 100000 in
theorem f44_0 (c v : Nat) (bl : Blks) (hg : (getB bl c v).isSome = true) : evS Dg 44 [.own c v 0 0, .fn 45 []] bl = some (.tup [], bl) := by
  have h := f66_0 c v bl
  obtain ⟨x, hb, hv, he⟩ := getB_some hg
  have h2 := f38_0
  have iv0 : ∀ k z, impV k (PV.int .i64 z) = .int .i64 z := fun _ _ => rfl
  have ib0 : ∀ z, impB (PV.int .i64 z) = [] := fun _ => rfl
  have w1 : IntKind.u64.wrap 0 = 0 := by decide
  refine evS_intro 1 D44 rfl ?_
  unfold c44
  simp [evCode, evOps, evOne, evOp, evPur, evEff, evPur.chunks, fillP, AOp.isEff, AO.ev, putP, PV.cells, PV.leaf, getB, getM, mapE, iterE, keyC, mapRows, mfind, eq1, eqL, scal, binP, unP, minP, maxP, foldP, PV.lt, PV.lt.ltL, endP, expoAll, expoG, expo, expo.expoL, frIds, frIds.frIdsL, nodupN, kill, cls, clsFuel, resO, RV.get, loadP, evC_p, evC_s, endS, endT, rowsOf, callP, thinL, unfr, unfr.unfrL, PV.noMem, PV.noMem.noMemL, optI, mapO, norm, trimT, trimB, forget, hasN, blksLt, List.set, softChk, softGo, softRd, effTg, rdP, w1, h, h2, hb, hv, he, iv0, ib0]
set_option maxRecDepth 100000 in
theorem f44_1 (c v : Nat) (bl : Blks) (hg : (getB bl c v).isSome = true) : evS Dg 44 [.own c v 0 1, .fn 45 []] bl = some (.tup [], bl) := by
  have h := f66_1 c v bl
  obtain ⟨x, hb, hv, he⟩ := getB_some hg
  have h2 := f38_1
  have iv0 : ∀ k z, impV k (PV.int .i64 z) = .int .i64 z := fun _ _ => rfl
  have ib0 : ∀ z, impB (PV.int .i64 z) = [] := fun _ => rfl
  have w1 : IntKind.u64.wrap 1 = 1 := by decide
  refine evS_intro 1 D44 rfl ?_
  unfold c44
  simp [evCode, evOps, evOne, evOp, evPur, evEff, evPur.chunks, fillP, AOp.isEff, AO.ev, putP, PV.cells, PV.leaf, getB, getM, mapE, iterE, keyC, mapRows, mfind, eq1, eqL, scal, binP, unP, minP, maxP, foldP, PV.lt, PV.lt.ltL, endP, expoAll, expoG, expo, expo.expoL, frIds, frIds.frIdsL, nodupN, kill, cls, clsFuel, resO, RV.get, loadP, evC_p, evC_s, endS, endT, rowsOf, callP, thinL, unfr, unfr.unfrL, PV.noMem, PV.noMem.noMemL, optI, mapO, norm, trimT, trimB, forget, hasN, blksLt, List.set, softChk, softGo, softRd, effTg, rdP, w1, h, h2, hb, hv, he, iv0, ib0]
def row2 (s : Sp) : List PV := [.int .i64 s.1, .int .i64 s.2]
set_option maxRecDepth 100000 in
theorem f36_1 (x : Bool) (s : Sp) : evE Dg 36 [.sl x 2 [row2 s]] = some (.fr 2 (if valB s then [row2 s] else [])) := by
  have h := f43 s
  have w1 := wrap_i64 1 (by omega) (by omega)
  have w0 := wrap_i64 0 (by omega) (by omega)
  have wm := wrap_i64 (-1) (by omega) (by omega)
  have s0 := f44_0
  have s1 := f44_1
  simp only [vS] at h
  refine evE_intro 3 D36 rfl ?_
  unfold c36 c36b1 c36r0 c36b0
  cases hv : valB s with
  | false => rw [hv] at h; simp [evCode, evOps, evOne, evOp, evPur, evEff, evPur.chunks, fillP, AOp.isEff, AO.ev, putP, PV.cells, PV.leaf, getB, getM, mapE, iterE, keyC, mapRows, mfind, eq1, eqL, scal, binP, unP, minP, maxP, foldP, PV.lt, PV.lt.ltL, endP, expoAll, expoG, expo, expo.expoL, frIds, frIds.frIdsL, nodupN, kill, cls, clsFuel, resO, RV.get, loadP, evC_p, evC_s, endS, endT, rowsOf, callP, thinL, unfr, unfr.unfrL, PV.noMem, PV.noMem.noMemL, optI, mapO, norm, trimT, trimB, forget, hasN, blksLt, List.set, softChk, softGo, softRd, effTg, rdP, evLoop, row2, h, w0, w1, wm, s0, s1]
  | true => rw [hv] at h; simp [evCode, evOps, evOne, evOp, evPur, evEff, evPur.chunks, fillP, AOp.isEff, AO.ev, putP, PV.cells, PV.leaf, getB, getM, mapE, iterE, keyC, mapRows, mfind, eq1, eqL, scal, binP, unP, minP, maxP, foldP, PV.lt, PV.lt.ltL, endP, expoAll, expoG, expo, expo.expoL, frIds, frIds.frIdsL, nodupN, kill, cls, clsFuel, resO, RV.get, loadP, evC_p, evC_s, endS, endT, rowsOf, callP, thinL, unfr, unfr.unfrL, PV.noMem, PV.noMem.noMemL, optI, mapO, norm, trimT, trimB, forget, hasN, blksLt, List.set, softChk, softGo, softRd, effTg, rdP, evLoop, row2, h, w0, w1, wm, s0, s1]
end Go.Proofs.Ytkodjmlhmpokoaa
