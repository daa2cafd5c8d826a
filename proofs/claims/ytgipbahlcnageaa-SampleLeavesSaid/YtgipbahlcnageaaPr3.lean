/- Samples: Small, Few. -/
import Derived.Test.YtgipbahlcnageaaPr2
namespace Go.Proofs.Ytgipbahlcnageaa
open Go Go.RowKit
set_option linter.unusedVariables false
set_option linter.unusedSimpArgs false

structure Evt where
  at_ : Int
  kind : Int
  name : List UInt8
  n : Int
  m : Int
  st : List (List UInt8)
def eEvt (e : Evt) : List PV := [.int .i64 e.at_, .int .i64 e.kind, .str e.name, .int .i64 e.n, .int .i64 e.m, eTx e.st]
def smT (l : List (List UInt8)) : Bool := decide (l.length ≤ 60) && l.all fun t => decide (t.length ≤ 200)
def small (e : Evt) : Bool := decide (e.name.length ≤ 200) && smT e.st

def S9 (e : Evt) (k : Nat) : St := ⟨[.top, .ptr 0 1 0 0, .top, .int .i64 k] ++ List.replicate 24 .top, [some ⟨1, 6, true, [eEvt e]⟩]⟩

theorem f9 (e : Evt) : evE Dg 9 [.agg (eEvt e)] = some (.bool (small e)) := by
  refine evE_intro (e.st.length + 1) D9 rfl ?_
  by_cases hn : e.name.length ≤ 200
  · have hn' : ¬ ((200 : Int) < e.name.length) := by omega
    by_cases hl : e.st.length ≤ 60
    · have hl' : ¬ ((60 : Int) < e.st.length) := by omega
      have H := loop_all (body := evCode (evE Dg) (e.st.length + 1) c9b0) (keep := [1, 3]) (n0 := 1) (fuel := e.st.length + 1) e.st (S9 e) (fun t => decide (t.length ≤ 200)) (fun s => s.sl[2]?.getD .top = .bool false)
        (by
          intro k a ha hk hq
          have hk' : (k : Int) < e.st.length := by omega
          have h1 := wrap_i64 ((k : Int) + 1) (by omega) (by omega)
          have h2 : ¬ ((200 : Int) < a.length) := by have := of_decide_eq_true hq; omega
          unfold c9b0
          simp [evCode, evOps, evOne, evOp, evPur, evEff, evPur.chunks, fillP, AOp.isEff, AO.ev, putP, PV.cells, PV.leaf, getB, scal, binP, unP, minP, maxP, foldP, PV.lt, PV.lt.ltL, endP, expoAll, expo, expo.expoL, frIds, frIds.frIdsL, nodupN, kill, cls, clsFuel, resP, rowsOf, callP, unfr, unfr.unfrL, PV.noMem, PV.noMem.noMemL, optI, mapO, norm, forget, hasN, blksLt, List.set, S9, eEvt, eTx, ha, hk', h1, h2])
        (by
          intro k a ha hk hq
          have hk' : (k : Int) < e.st.length := by omega
          have h2 : ((200 : Int) < a.length) := by have := of_decide_eq_false hq; omega
          unfold c9b0
          simp [evCode, evOps, evOne, evOp, evPur, evEff, evPur.chunks, fillP, AOp.isEff, AO.ev, putP, PV.cells, PV.leaf, getB, scal, binP, unP, minP, maxP, foldP, PV.lt, PV.lt.ltL, endP, expoAll, expo, expo.expoL, frIds, frIds.frIdsL, nodupN, kill, cls, clsFuel, resP, rowsOf, callP, unfr, unfr.unfrL, PV.noMem, PV.noMem.noMemL, optI, mapO, norm, forget, hasN, blksLt, List.set, S9, eEvt, eTx, ha, hk', h2])
        (by
          intro s
          unfold c9b0
          simp [evCode, evOps, evOne, evOp, evPur, evEff, evPur.chunks, fillP, AOp.isEff, AO.ev, putP, PV.cells, PV.leaf, getB, scal, binP, unP, minP, maxP, foldP, PV.lt, PV.lt.ltL, endP, expoAll, expo, expo.expoL, frIds, frIds.frIdsL, nodupN, kill, cls, clsFuel, resP, rowsOf, callP, unfr, unfr.unfrL, PV.noMem, PV.noMem.noMemL, optI, mapO, norm, forget, hasN, blksLt, List.set, S9, eEvt, eTx]) (by omega)
      unfold c9
      simp [evCode, evOps, evOne, evOp, evPur, evEff, evPur.chunks, fillP, AOp.isEff, AO.ev, putP, PV.cells, PV.leaf, getB, scal, binP, unP, minP, maxP, foldP, PV.lt, PV.lt.ltL, endP, expoAll, expo, expo.expoL, frIds, frIds.frIdsL, nodupN, kill, cls, clsFuel, resP, rowsOf, callP, unfr, unfr.unfrL, PV.noMem, PV.noMem.noMemL, optI, mapO, norm, forget, hasN, blksLt, List.set, eEvt, eTx, hn', hl', small, smT, hn, hl]
      generalize hE : evLoop _ _ _ _ _ = E
      rcases H _ _ hE (by simp [evCode, evOps, evOne, evOp, evPur, evEff, evPur.chunks, fillP, AOp.isEff, AO.ev, putP, PV.cells, PV.leaf, getB, scal, binP, unP, minP, maxP, foldP, PV.lt, PV.lt.ltL, endP, expoAll, expo, expo.expoL, frIds, frIds.frIdsL, nodupN, kill, cls, clsFuel, resP, rowsOf, callP, unfr, unfr.unfrL, PV.noMem, PV.noMem.noMemL, optI, mapO, norm, forget, hasN, blksLt, List.set, S9, eEvt, eTx]) with ⟨h1, h2⟩ | ⟨h1, s, h2, h3⟩
      · rw [h2]
        unfold c9b0
        simp [evCode, evOps, evOne, evOp, evPur, evEff, evPur.chunks, fillP, AOp.isEff, AO.ev, putP, PV.cells, PV.leaf, getB, scal, binP, unP, minP, maxP, foldP, PV.lt, PV.lt.ltL, endP, expoAll, expo, expo.expoL, frIds, frIds.frIdsL, nodupN, kill, cls, clsFuel, resP, rowsOf, callP, unfr, unfr.unfrL, PV.noMem, PV.noMem.noMemL, optI, mapO, norm, forget, hasN, blksLt, List.set, S9, eEvt, eTx]
        simpa using h1
      · rw [h2]
        simp [evCode, evOps, evOne, evOp, evPur, evEff, evPur.chunks, fillP, AOp.isEff, AO.ev, putP, PV.cells, PV.leaf, getB, scal, binP, unP, minP, maxP, foldP, PV.lt, PV.lt.ltL, endP, expoAll, expo, expo.expoL, frIds, frIds.frIdsL, nodupN, kill, cls, clsFuel, resP, rowsOf, callP, unfr, unfr.unfrL, PV.noMem, PV.noMem.noMemL, optI, mapO, norm, forget, hasN, blksLt, List.set, h3]
        simpa using h1
    · have hl' : ((60 : Int) < e.st.length) := by omega
      unfold c9
      simp [evCode, evOps, evOne, evOp, evPur, evEff, evPur.chunks, fillP, AOp.isEff, AO.ev, putP, PV.cells, PV.leaf, getB, scal, binP, unP, minP, maxP, foldP, PV.lt, PV.lt.ltL, endP, expoAll, expo, expo.expoL, frIds, frIds.frIdsL, nodupN, kill, cls, clsFuel, resP, rowsOf, callP, unfr, unfr.unfrL, PV.noMem, PV.noMem.noMemL, optI, mapO, norm, forget, hasN, blksLt, List.set, eEvt, eTx, hn', hl', small, smT, hn, hl]
  · have hn' : ((200 : Int) < e.name.length) := by omega
    unfold c9
    simp [evCode, evOps, evOne, evOp, evPur, evEff, evPur.chunks, fillP, AOp.isEff, AO.ev, putP, PV.cells, PV.leaf, getB, scal, binP, unP, minP, maxP, foldP, PV.lt, PV.lt.ltL, endP, expoAll, expo, expo.expoL, frIds, frIds.frIdsL, nodupN, kill, cls, clsFuel, resP, rowsOf, callP, unfr, unfr.unfrL, PV.noMem, PV.noMem.noMemL, optI, mapO, norm, forget, hasN, blksLt, List.set, eEvt, eTx, hn', small, smT, hn]
end Go.Proofs.Ytgipbahlcnageaa
