/- Samples: Within. -/
import Derived.Test.YtgipbahlcnageaaPr1
namespace Go.Proofs.Ytgipbahlcnageaa
open Go Go.RowKit
set_option linter.unusedVariables false
set_option linter.unusedSimpArgs false

def inW (a b : Int) (s : Smp) : Bool := decide (a ≤ s.at_) && decide (s.at_ < b)
def addS (a b : Int) (x : List Smp) (s : Smp) : List Smp := if inW a b s then x ++ [s] else x
def S16 (u v : Int) (l : List Smp) (k : Nat) (x : List Smp) : St := ⟨[.top, .top, .top, .ptr 0 1 0 0, .top, .own 2 x.length 0 x.length, .top, .top, eSmps l, .int .i64 l.length, .int .i64 k] ++ List.replicate 21 .top,
  [some ⟨1, 2, true, [[.int .i64 u, .int .i64 v]]⟩, some ⟨0, 4, true, []⟩, some ⟨x.length, 4, true, x.map eSmp⟩]⟩

theorem f16' (u v : Int) (l : List Smp) (hl : l.length ≤ 1000) : evE Dg 16 [eSmps l, .agg [.int .i64 u, .int .i64 v]] = some (.fr 4 ((l.foldl (addS u v) []).map eSmp)) := by
  have H1 := fun s0 h0 => (loop_fold (body := evCode (evE Dg) (l.length + 1) c16b0) (keep := [3, 5, 8, 9, 10]) (n0 := 3) (s0 := s0) (x0 := []) (fuel := l.length + 1) l (S16 u v l) (addS u v) (fun k x => x.length ≤ k)
    (by
      intro k a x ha hk hx
      have h1 := wrap_i64 ((k : Int) + 1) (by omega) (by omega)
      have hk' : (k : Int) < l.length := by omega
      by_cases h2 : u ≤ a.at_
      · by_cases h3 : a.at_ < v
        · refine ⟨by simp [addS, inW, h2, h3]; omega, ?_⟩
          have h4 : (x.length + 1) * 48 ≤ 140737488355328 := by omega
          have h5 : x.length + 1 ≤ 140737488355328 := by omega
          unfold c16b0
          simp [evCode, evOps, evOne, evOp, evPur, evEff, evPur.chunks, fillP, AOp.isEff, AO.ev, putP, PV.cells, PV.leaf, getB, scal, binP, unP, minP, maxP, foldP, PV.lt, PV.lt.ltL, endP, expoAll, expo, expo.expoL, frIds, frIds.frIdsL, nodupN, kill, cls, clsFuel, resP, rowsOf, callP, unfr, unfr.unfrL, PV.noMem, PV.noMem.noMemL, optI, mapO, norm, forget, hasN, blksLt, List.set, S16, eSmps, eSmp, eTx, ha, hk', h1, h2, h3, h4, h5, addS, inW]
        · refine ⟨by simp [addS, inW, h2, h3]; omega, ?_⟩
          unfold c16b0
          simp [evCode, evOps, evOne, evOp, evPur, evEff, evPur.chunks, fillP, AOp.isEff, AO.ev, putP, PV.cells, PV.leaf, getB, scal, binP, unP, minP, maxP, foldP, PV.lt, PV.lt.ltL, endP, expoAll, expo, expo.expoL, frIds, frIds.frIdsL, nodupN, kill, cls, clsFuel, resP, rowsOf, callP, unfr, unfr.unfrL, PV.noMem, PV.noMem.noMemL, optI, mapO, norm, forget, hasN, blksLt, List.set, S16, eSmps, eSmp, eTx, ha, hk', h1, h2, h3, addS, inW]
      · refine ⟨by simp [addS, inW, h2]; omega, ?_⟩
        unfold c16b0
        simp [evCode, evOps, evOne, evOp, evPur, evEff, evPur.chunks, fillP, AOp.isEff, AO.ev, putP, PV.cells, PV.leaf, getB, scal, binP, unP, minP, maxP, foldP, PV.lt, PV.lt.ltL, endP, expoAll, expo, expo.expoL, frIds, frIds.frIdsL, nodupN, kill, cls, clsFuel, resP, rowsOf, callP, unfr, unfr.unfrL, PV.noMem, PV.noMem.noMemL, optI, mapO, norm, forget, hasN, blksLt, List.set, S16, eSmps, eSmp, eTx, ha, hk', h1, h2, addS, inW])
    (by
      intro x hx s
      unfold c16b0
      simp [evCode, evOps, evOne, evOp, evPur, evEff, evPur.chunks, fillP, AOp.isEff, AO.ev, putP, PV.cells, PV.leaf, getB, scal, binP, unP, minP, maxP, foldP, PV.lt, PV.lt.ltL, endP, expoAll, expo, expo.expoL, frIds, frIds.frIdsL, nodupN, kill, cls, clsFuel, resP, rowsOf, callP, unfr, unfr.unfrL, PV.noMem, PV.noMem.noMemL, optI, mapO, norm, forget, hasN, blksLt, List.set, S16, eSmps]) (by omega) h0 (by simp)).1
  have H3 : ∀ x, evCode (evE Dg) (l.length + 1) c16b0 (S16 u v l l.length x) = some (.exit 0 ⟨[.top, .top, .top, .ptr 0 1 0 0, .top, .own 2 x.length 0 x.length, .top, .top, eSmps l, .int .i64 l.length, .int .i64 l.length, .bool false] ++ List.replicate 20 .top,
  [some ⟨1, 2, true, [[.int .i64 u, .int .i64 v]]⟩, some ⟨0, 4, true, []⟩, some ⟨x.length, 4, true, x.map eSmp⟩]⟩) := by
    intro x
    unfold c16b0
    simp [evCode, evOps, evOne, evOp, evPur, evEff, evPur.chunks, fillP, AOp.isEff, AO.ev, putP, PV.cells, PV.leaf, getB, scal, binP, unP, minP, maxP, foldP, PV.lt, PV.lt.ltL, endP, expoAll, expo, expo.expoL, frIds, frIds.frIdsL, nodupN, kill, cls, clsFuel, resP, rowsOf, callP, unfr, unfr.unfrL, PV.noMem, PV.noMem.noMemL, optI, mapO, norm, forget, hasN, blksLt, List.set, S16, eSmps]
  have H1 := fun s0 h0 => (H1 s0 h0).trans (H3 _)
  generalize l.foldl (addS u v) [] = z at H1 ⊢
  refine evE_intro (l.length + 1) D16 rfl ?_
  unfold c16
  simp [evCode, evOps, evOne, evOp, evPur, evEff, evPur.chunks, fillP, AOp.isEff, AO.ev, putP, PV.cells, PV.leaf, getB, scal, binP, unP, minP, maxP, foldP, PV.lt, PV.lt.ltL, endP, expoAll, expo, expo.expoL, frIds, frIds.frIdsL, nodupN, kill, cls, clsFuel, resP, rowsOf, callP, unfr, unfr.unfrL, PV.noMem, PV.noMem.noMemL, optI, mapO, norm, forget, hasN, blksLt, List.set, eSmps]
  rw [H1 _ (by simp [evCode, evOps, evOne, evOp, evPur, evEff, evPur.chunks, fillP, AOp.isEff, AO.ev, putP, PV.cells, PV.leaf, getB, scal, binP, unP, minP, maxP, foldP, PV.lt, PV.lt.ltL, endP, expoAll, expo, expo.expoL, frIds, frIds.frIdsL, nodupN, kill, cls, clsFuel, resP, rowsOf, callP, unfr, unfr.unfrL, PV.noMem, PV.noMem.noMemL, optI, mapO, norm, forget, hasN, blksLt, List.set, eSmps, S16])]
  simp [evCode, evOps, evOne, evOp, evPur, evEff, evPur.chunks, fillP, AOp.isEff, AO.ev, putP, PV.cells, PV.leaf, getB, scal, binP, unP, minP, maxP, foldP, PV.lt, PV.lt.ltL, endP, expoAll, expo, expo.expoL, frIds, frIds.frIdsL, nodupN, kill, cls, clsFuel, resP, rowsOf, callP, unfr, unfr.unfrL, PV.noMem, PV.noMem.noMemL, optI, mapO, norm, forget, hasN, blksLt, List.set, eSmps]
end Go.Proofs.Ytgipbahlcnageaa
