/- Names, frames, Check. -/
import Derived.Test.YtgipbahlcnageaaPr70
namespace Go.Proofs.Ytgipbahlcnageaa
open Go Go.RowKit
set_option linter.unusedVariables false
set_option linter.unusedSimpArgs false

def S35 (z : Int) (k : Nat) : St := ⟨[.int .u8 z, .top, .top, .str signs, .int .i64 k] ++ List.replicate 33 .top, []⟩
theorem f35z (z : Int) : evE Dg 35 [.int .u8 z] = some (.bool (letterZ z)) := by
  refine evE_intro 11 D35 rfl ?_
  have H := loop_all (body := evCode (evE Dg) 11 c35b0) (keep := [0, 3, 4]) (n0 := 0) (fuel := 11) signs (S35 z) (fun b => !((b.toNat : Int) == z)) (fun t => t.sl[2]?.getD .top = .bool true)
    (by
      intro k a ha hk hq
      have hk2 : k < 10 := hk
      have hk' : (k : Int) < 10 := by omega
      have h1 := wrap_i64 ((k : Int) + 1) (by omega) (by omega)
      have h3 : ((a.toNat : Int) == z) = false := by simpa using hq
      have hlen : signs.length = 10 := rfl
      unfold c35b0
      simp [evCode, evOps, evOne, evOp, evPur, evEff, evPur.chunks, fillP, AOp.isEff, AO.ev, putP, PV.cells, PV.leaf, getB, scal, binP, unP, minP, maxP, foldP, PV.lt, PV.lt.ltL, endP, expoAll, expo, expo.expoL, frIds, frIds.frIdsL, nodupN, kill, cls, clsFuel, resP, rowsOf, callP, unfr, unfr.unfrL, PV.noMem, PV.noMem.noMemL, optI, mapO, norm, forget, hasN, blksLt, List.set, S35, ha, hk', h1, h3, hlen])
    (by
      intro k a ha hk hq
      have hk2 : k < 10 := hk
      have hk' : (k : Int) < 10 := by omega
      have h3 : ((a.toNat : Int) == z) = true := by simpa using hq
      have hlen : signs.length = 10 := rfl
      unfold c35b0
      simp [evCode, evOps, evOne, evOp, evPur, evEff, evPur.chunks, fillP, AOp.isEff, AO.ev, putP, PV.cells, PV.leaf, getB, scal, binP, unP, minP, maxP, foldP, PV.lt, PV.lt.ltL, endP, expoAll, expo, expo.expoL, frIds, frIds.frIdsL, nodupN, kill, cls, clsFuel, resP, rowsOf, callP, unfr, unfr.unfrL, PV.noMem, PV.noMem.noMemL, optI, mapO, norm, forget, hasN, blksLt, List.set, S35, ha, hk', h3, hlen])
    (by
      intro s
      have hlen : signs.length = 10 := rfl
      unfold c35b0
      simp [evCode, evOps, evOne, evOp, evPur, evEff, evPur.chunks, fillP, AOp.isEff, AO.ev, putP, PV.cells, PV.leaf, getB, scal, binP, unP, minP, maxP, foldP, PV.lt, PV.lt.ltL, endP, expoAll, expo, expo.expoL, frIds, frIds.frIdsL, nodupN, kill, cls, clsFuel, resP, rowsOf, callP, unfr, unfr.unfrL, PV.noMem, PV.noMem.noMemL, optI, mapO, norm, forget, hasN, blksLt, List.set, S35, hlen]) (by decide)
  by_cases i0 : z < 48
  · have e0 : ¬ ((97:Int) ≤ z) := by omega
    have e1 : (z ≤ (122:Int)) := by omega
    have e2 : ¬ ((65:Int) ≤ z) := by omega
    have e3 : (z ≤ (90:Int)) := by omega
    have e4 : ¬ ((48:Int) ≤ z) := by omega
    have e5 : (z ≤ (57:Int)) := by omega
    have hal : alnum z = false := by simp [alnum]; omega
    unfold c35
    simp [evCode, evOps, evOne, evOp, evPur, evEff, evPur.chunks, fillP, AOp.isEff, AO.ev, putP, PV.cells, PV.leaf, getB, scal, binP, unP, minP, maxP, foldP, PV.lt, PV.lt.ltL, endP, expoAll, expo, expo.expoL, frIds, frIds.frIdsL, nodupN, kill, cls, clsFuel, resP, rowsOf, callP, unfr, unfr.unfrL, PV.noMem, PV.noMem.noMemL, optI, mapO, norm, forget, hasN, blksLt, List.set, e0, e1, e2, e3, e4, e5]
    generalize hE : evLoop _ _ _ _ _ = E
    rcases H _ _ hE (by simp [evCode, evOps, evOne, evOp, evPur, evEff, evPur.chunks, fillP, AOp.isEff, AO.ev, putP, PV.cells, PV.leaf, getB, scal, binP, unP, minP, maxP, foldP, PV.lt, PV.lt.ltL, endP, expoAll, expo, expo.expoL, frIds, frIds.frIdsL, nodupN, kill, cls, clsFuel, resP, rowsOf, callP, unfr, unfr.unfrL, PV.noMem, PV.noMem.noMemL, optI, mapO, norm, forget, hasN, blksLt, List.set, S35, signs]) with ⟨g1, g2⟩ | ⟨g1, t, g2, g3⟩
    · rw [g2]
      have hlen : signs.length = 10 := rfl
      unfold c35b0
      simp [evCode, evOps, evOne, evOp, evPur, evEff, evPur.chunks, fillP, AOp.isEff, AO.ev, putP, PV.cells, PV.leaf, getB, scal, binP, unP, minP, maxP, foldP, PV.lt, PV.lt.ltL, endP, expoAll, expo, expo.expoL, frIds, frIds.frIdsL, nodupN, kill, cls, clsFuel, resP, rowsOf, callP, unfr, unfr.unfrL, PV.noMem, PV.noMem.noMemL, optI, mapO, norm, forget, hasN, blksLt, List.set, S35, hlen]
      simp only [letterZ, hal, g1]; rfl
    · rw [g2]
      simp [evCode, evOps, evOne, evOp, evPur, evEff, evPur.chunks, fillP, AOp.isEff, AO.ev, putP, PV.cells, PV.leaf, getB, scal, binP, unP, minP, maxP, foldP, PV.lt, PV.lt.ltL, endP, expoAll, expo, expo.expoL, frIds, frIds.frIdsL, nodupN, kill, cls, clsFuel, resP, rowsOf, callP, unfr, unfr.unfrL, PV.noMem, PV.noMem.noMemL, optI, mapO, norm, forget, hasN, blksLt, List.set, g3]
      simp only [letterZ, hal, g1]; rfl
  by_cases i1 : z ≤ 57
  · have e0 : ¬ ((97:Int) ≤ z) := by omega
    have e1 : (z ≤ (122:Int)) := by omega
    have e2 : ¬ ((65:Int) ≤ z) := by omega
    have e3 : (z ≤ (90:Int)) := by omega
    have e4 : ((48:Int) ≤ z) := by omega
    have e5 : (z ≤ (57:Int)) := by omega
    have hal : alnum z = true := by simp [alnum]; omega
    unfold c35
    simp [evCode, evOps, evOne, evOp, evPur, evEff, evPur.chunks, fillP, AOp.isEff, AO.ev, putP, PV.cells, PV.leaf, getB, scal, binP, unP, minP, maxP, foldP, PV.lt, PV.lt.ltL, endP, expoAll, expo, expo.expoL, frIds, frIds.frIdsL, nodupN, kill, cls, clsFuel, resP, rowsOf, callP, unfr, unfr.unfrL, PV.noMem, PV.noMem.noMemL, optI, mapO, norm, forget, hasN, blksLt, List.set, e0, e1, e2, e3, e4, e5]
    simp only [letterZ, hal]; rfl
  by_cases i2 : z < 65
  · have e0 : ¬ ((97:Int) ≤ z) := by omega
    have e1 : (z ≤ (122:Int)) := by omega
    have e2 : ¬ ((65:Int) ≤ z) := by omega
    have e3 : (z ≤ (90:Int)) := by omega
    have e4 : ((48:Int) ≤ z) := by omega
    have e5 : ¬ (z ≤ (57:Int)) := by omega
    have hal : alnum z = false := by simp [alnum]; omega
    unfold c35
    simp [evCode, evOps, evOne, evOp, evPur, evEff, evPur.chunks, fillP, AOp.isEff, AO.ev, putP, PV.cells, PV.leaf, getB, scal, binP, unP, minP, maxP, foldP, PV.lt, PV.lt.ltL, endP, expoAll, expo, expo.expoL, frIds, frIds.frIdsL, nodupN, kill, cls, clsFuel, resP, rowsOf, callP, unfr, unfr.unfrL, PV.noMem, PV.noMem.noMemL, optI, mapO, norm, forget, hasN, blksLt, List.set, e0, e1, e2, e3, e4, e5]
    generalize hE : evLoop _ _ _ _ _ = E
    rcases H _ _ hE (by simp [evCode, evOps, evOne, evOp, evPur, evEff, evPur.chunks, fillP, AOp.isEff, AO.ev, putP, PV.cells, PV.leaf, getB, scal, binP, unP, minP, maxP, foldP, PV.lt, PV.lt.ltL, endP, expoAll, expo, expo.expoL, frIds, frIds.frIdsL, nodupN, kill, cls, clsFuel, resP, rowsOf, callP, unfr, unfr.unfrL, PV.noMem, PV.noMem.noMemL, optI, mapO, norm, forget, hasN, blksLt, List.set, S35, signs]) with ⟨g1, g2⟩ | ⟨g1, t, g2, g3⟩
    · rw [g2]
      have hlen : signs.length = 10 := rfl
      unfold c35b0
      simp [evCode, evOps, evOne, evOp, evPur, evEff, evPur.chunks, fillP, AOp.isEff, AO.ev, putP, PV.cells, PV.leaf, getB, scal, binP, unP, minP, maxP, foldP, PV.lt, PV.lt.ltL, endP, expoAll, expo, expo.expoL, frIds, frIds.frIdsL, nodupN, kill, cls, clsFuel, resP, rowsOf, callP, unfr, unfr.unfrL, PV.noMem, PV.noMem.noMemL, optI, mapO, norm, forget, hasN, blksLt, List.set, S35, hlen]
      simp only [letterZ, hal, g1]; rfl
    · rw [g2]
      simp [evCode, evOps, evOne, evOp, evPur, evEff, evPur.chunks, fillP, AOp.isEff, AO.ev, putP, PV.cells, PV.leaf, getB, scal, binP, unP, minP, maxP, foldP, PV.lt, PV.lt.ltL, endP, expoAll, expo, expo.expoL, frIds, frIds.frIdsL, nodupN, kill, cls, clsFuel, resP, rowsOf, callP, unfr, unfr.unfrL, PV.noMem, PV.noMem.noMemL, optI, mapO, norm, forget, hasN, blksLt, List.set, g3]
      simp only [letterZ, hal, g1]; rfl
  by_cases i3 : z ≤ 90
  · have e0 : ¬ ((97:Int) ≤ z) := by omega
    have e1 : (z ≤ (122:Int)) := by omega
    have e2 : ((65:Int) ≤ z) := by omega
    have e3 : (z ≤ (90:Int)) := by omega
    have e4 : ((48:Int) ≤ z) := by omega
    have e5 : ¬ (z ≤ (57:Int)) := by omega
    have hal : alnum z = true := by simp [alnum]; omega
    unfold c35
    simp [evCode, evOps, evOne, evOp, evPur, evEff, evPur.chunks, fillP, AOp.isEff, AO.ev, putP, PV.cells, PV.leaf, getB, scal, binP, unP, minP, maxP, foldP, PV.lt, PV.lt.ltL, endP, expoAll, expo, expo.expoL, frIds, frIds.frIdsL, nodupN, kill, cls, clsFuel, resP, rowsOf, callP, unfr, unfr.unfrL, PV.noMem, PV.noMem.noMemL, optI, mapO, norm, forget, hasN, blksLt, List.set, e0, e1, e2, e3, e4, e5]
    simp only [letterZ, hal]; rfl
  by_cases i4 : z < 97
  · have e0 : ¬ ((97:Int) ≤ z) := by omega
    have e1 : (z ≤ (122:Int)) := by omega
    have e2 : ((65:Int) ≤ z) := by omega
    have e3 : ¬ (z ≤ (90:Int)) := by omega
    have e4 : ((48:Int) ≤ z) := by omega
    have e5 : ¬ (z ≤ (57:Int)) := by omega
    have hal : alnum z = false := by simp [alnum]; omega
    unfold c35
    simp [evCode, evOps, evOne, evOp, evPur, evEff, evPur.chunks, fillP, AOp.isEff, AO.ev, putP, PV.cells, PV.leaf, getB, scal, binP, unP, minP, maxP, foldP, PV.lt, PV.lt.ltL, endP, expoAll, expo, expo.expoL, frIds, frIds.frIdsL, nodupN, kill, cls, clsFuel, resP, rowsOf, callP, unfr, unfr.unfrL, PV.noMem, PV.noMem.noMemL, optI, mapO, norm, forget, hasN, blksLt, List.set, e0, e1, e2, e3, e4, e5]
    generalize hE : evLoop _ _ _ _ _ = E
    rcases H _ _ hE (by simp [evCode, evOps, evOne, evOp, evPur, evEff, evPur.chunks, fillP, AOp.isEff, AO.ev, putP, PV.cells, PV.leaf, getB, scal, binP, unP, minP, maxP, foldP, PV.lt, PV.lt.ltL, endP, expoAll, expo, expo.expoL, frIds, frIds.frIdsL, nodupN, kill, cls, clsFuel, resP, rowsOf, callP, unfr, unfr.unfrL, PV.noMem, PV.noMem.noMemL, optI, mapO, norm, forget, hasN, blksLt, List.set, S35, signs]) with ⟨g1, g2⟩ | ⟨g1, t, g2, g3⟩
    · rw [g2]
      have hlen : signs.length = 10 := rfl
      unfold c35b0
      simp [evCode, evOps, evOne, evOp, evPur, evEff, evPur.chunks, fillP, AOp.isEff, AO.ev, putP, PV.cells, PV.leaf, getB, scal, binP, unP, minP, maxP, foldP, PV.lt, PV.lt.ltL, endP, expoAll, expo, expo.expoL, frIds, frIds.frIdsL, nodupN, kill, cls, clsFuel, resP, rowsOf, callP, unfr, unfr.unfrL, PV.noMem, PV.noMem.noMemL, optI, mapO, norm, forget, hasN, blksLt, List.set, S35, hlen]
      simp only [letterZ, hal, g1]; rfl
    · rw [g2]
      simp [evCode, evOps, evOne, evOp, evPur, evEff, evPur.chunks, fillP, AOp.isEff, AO.ev, putP, PV.cells, PV.leaf, getB, scal, binP, unP, minP, maxP, foldP, PV.lt, PV.lt.ltL, endP, expoAll, expo, expo.expoL, frIds, frIds.frIdsL, nodupN, kill, cls, clsFuel, resP, rowsOf, callP, unfr, unfr.unfrL, PV.noMem, PV.noMem.noMemL, optI, mapO, norm, forget, hasN, blksLt, List.set, g3]
      simp only [letterZ, hal, g1]; rfl
  by_cases i5 : z ≤ 122
  · have e0 : ((97:Int) ≤ z) := by omega
    have e1 : (z ≤ (122:Int)) := by omega
    have e2 : ((65:Int) ≤ z) := by omega
    have e3 : ¬ (z ≤ (90:Int)) := by omega
    have e4 : ((48:Int) ≤ z) := by omega
    have e5 : ¬ (z ≤ (57:Int)) := by omega
    have hal : alnum z = true := by simp [alnum]; omega
    unfold c35
    simp [evCode, evOps, evOne, evOp, evPur, evEff, evPur.chunks, fillP, AOp.isEff, AO.ev, putP, PV.cells, PV.leaf, getB, scal, binP, unP, minP, maxP, foldP, PV.lt, PV.lt.ltL, endP, expoAll, expo, expo.expoL, frIds, frIds.frIdsL, nodupN, kill, cls, clsFuel, resP, rowsOf, callP, unfr, unfr.unfrL, PV.noMem, PV.noMem.noMemL, optI, mapO, norm, forget, hasN, blksLt, List.set, e0, e1, e2, e3, e4, e5]
    simp only [letterZ, hal]; rfl
  have e0 : ((97:Int) ≤ z) := by omega
  have e1 : ¬ (z ≤ (122:Int)) := by omega
  have e2 : ((65:Int) ≤ z) := by omega
  have e3 : ¬ (z ≤ (90:Int)) := by omega
  have e4 : ((48:Int) ≤ z) := by omega
  have e5 : ¬ (z ≤ (57:Int)) := by omega
  have hal : alnum z = false := by simp [alnum]; omega
  unfold c35
  simp [evCode, evOps, evOne, evOp, evPur, evEff, evPur.chunks, fillP, AOp.isEff, AO.ev, putP, PV.cells, PV.leaf, getB, scal, binP, unP, minP, maxP, foldP, PV.lt, PV.lt.ltL, endP, expoAll, expo, expo.expoL, frIds, frIds.frIdsL, nodupN, kill, cls, clsFuel, resP, rowsOf, callP, unfr, unfr.unfrL, PV.noMem, PV.noMem.noMemL, optI, mapO, norm, forget, hasN, blksLt, List.set, e0, e1, e2, e3, e4, e5]
  generalize hE : evLoop _ _ _ _ _ = E
  rcases H _ _ hE (by simp [evCode, evOps, evOne, evOp, evPur, evEff, evPur.chunks, fillP, AOp.isEff, AO.ev, putP, PV.cells, PV.leaf, getB, scal, binP, unP, minP, maxP, foldP, PV.lt, PV.lt.ltL, endP, expoAll, expo, expo.expoL, frIds, frIds.frIdsL, nodupN, kill, cls, clsFuel, resP, rowsOf, callP, unfr, unfr.unfrL, PV.noMem, PV.noMem.noMemL, optI, mapO, norm, forget, hasN, blksLt, List.set, S35, signs]) with ⟨g1, g2⟩ | ⟨g1, t, g2, g3⟩
  · rw [g2]
    have hlen : signs.length = 10 := rfl
    unfold c35b0
    simp [evCode, evOps, evOne, evOp, evPur, evEff, evPur.chunks, fillP, AOp.isEff, AO.ev, putP, PV.cells, PV.leaf, getB, scal, binP, unP, minP, maxP, foldP, PV.lt, PV.lt.ltL, endP, expoAll, expo, expo.expoL, frIds, frIds.frIdsL, nodupN, kill, cls, clsFuel, resP, rowsOf, callP, unfr, unfr.unfrL, PV.noMem, PV.noMem.noMemL, optI, mapO, norm, forget, hasN, blksLt, List.set, S35, hlen]
    simp only [letterZ, hal, g1]; rfl
  · rw [g2]
    simp [evCode, evOps, evOne, evOp, evPur, evEff, evPur.chunks, fillP, AOp.isEff, AO.ev, putP, PV.cells, PV.leaf, getB, scal, binP, unP, minP, maxP, foldP, PV.lt, PV.lt.ltL, endP, expoAll, expo, expo.expoL, frIds, frIds.frIdsL, nodupN, kill, cls, clsFuel, resP, rowsOf, callP, unfr, unfr.unfrL, PV.noMem, PV.noMem.noMemL, optI, mapO, norm, forget, hasN, blksLt, List.set, g3]
    simp only [letterZ, hal, g1]; rfl

theorem f35 (c : UInt8) : evE Dg 35 [.int .u8 (c.toNat : Int)] = some (.bool (nameB c)) := f35z _

def nameOk (s : List UInt8) : Bool := decide (1 ≤ s.length) && decide (s.length ≤ 40) && s.all nameB
def nameE (s : List UInt8) : Int := if nameOk s then 0 else 3

def S32 (s : List UInt8) (k : Nat) : St := ⟨[.str s] ++ List.replicate 12 .top ++ [.int .i64 s.length, .int .i64 k] ++ List.replicate 8 .top, []⟩
theorem f32 (s : List UInt8) : evE Dg 32 [.str s] = some (.int .i64 (nameE s)) := by
  refine evE_intro (s.length + 1) D32 rfl ?_
  by_cases h1 : 1 ≤ s.length
  · have h1' : ¬ ((s.length : Int) < 1) := by omega
    by_cases h2 : s.length ≤ 40
    · have h2' : ¬ ((40 : Int) < s.length) := by omega
      have H := loop_all (body := evCode (evE Dg) (s.length + 1) c32b0) (keep := [0, 13, 14]) (n0 := 0) (fuel := s.length + 1) s (S32 s) nameB (fun t => t.sl[2]?.getD .top = .int .i64 3)
        (by
          intro k a ha hk hq
          have hk' : (k : Int) < s.length := by omega
          have h1 := wrap_i64 ((k : Int) + 1) (by omega) (by omega)
          have h3 := f34 a
          rw [hq] at h3
          unfold c32b0
          simp [evCode, evOps, evOne, evOp, evPur, evEff, evPur.chunks, fillP, AOp.isEff, AO.ev, putP, PV.cells, PV.leaf, getB, scal, binP, unP, minP, maxP, foldP, PV.lt, PV.lt.ltL, endP, expoAll, expo, expo.expoL, frIds, frIds.frIdsL, nodupN, kill, cls, clsFuel, resP, rowsOf, callP, unfr, unfr.unfrL, PV.noMem, PV.noMem.noMemL, optI, mapO, norm, forget, hasN, blksLt, List.set, S32, ha, hk', h1, h3])
        (by
          intro k a ha hk hq
          have hk' : (k : Int) < s.length := by omega
          have h3 := f34 a
          rw [hq] at h3
          unfold c32b0
          simp [evCode, evOps, evOne, evOp, evPur, evEff, evPur.chunks, fillP, AOp.isEff, AO.ev, putP, PV.cells, PV.leaf, getB, scal, binP, unP, minP, maxP, foldP, PV.lt, PV.lt.ltL, endP, expoAll, expo, expo.expoL, frIds, frIds.frIdsL, nodupN, kill, cls, clsFuel, resP, rowsOf, callP, unfr, unfr.unfrL, PV.noMem, PV.noMem.noMemL, optI, mapO, norm, forget, hasN, blksLt, List.set, S32, ha, hk', h3])
        (by
          intro s
          unfold c32b0
          simp [evCode, evOps, evOne, evOp, evPur, evEff, evPur.chunks, fillP, AOp.isEff, AO.ev, putP, PV.cells, PV.leaf, getB, scal, binP, unP, minP, maxP, foldP, PV.lt, PV.lt.ltL, endP, expoAll, expo, expo.expoL, frIds, frIds.frIdsL, nodupN, kill, cls, clsFuel, resP, rowsOf, callP, unfr, unfr.unfrL, PV.noMem, PV.noMem.noMemL, optI, mapO, norm, forget, hasN, blksLt, List.set, S32]) (by omega)
      unfold c32
      simp [evCode, evOps, evOne, evOp, evPur, evEff, evPur.chunks, fillP, AOp.isEff, AO.ev, putP, PV.cells, PV.leaf, getB, scal, binP, unP, minP, maxP, foldP, PV.lt, PV.lt.ltL, endP, expoAll, expo, expo.expoL, frIds, frIds.frIdsL, nodupN, kill, cls, clsFuel, resP, rowsOf, callP, unfr, unfr.unfrL, PV.noMem, PV.noMem.noMemL, optI, mapO, norm, forget, hasN, blksLt, List.set, h1', h2']
      generalize hE : evLoop _ _ _ _ _ = E
      rcases H _ _ hE (by simp [evCode, evOps, evOne, evOp, evPur, evEff, evPur.chunks, fillP, AOp.isEff, AO.ev, putP, PV.cells, PV.leaf, getB, scal, binP, unP, minP, maxP, foldP, PV.lt, PV.lt.ltL, endP, expoAll, expo, expo.expoL, frIds, frIds.frIdsL, nodupN, kill, cls, clsFuel, resP, rowsOf, callP, unfr, unfr.unfrL, PV.noMem, PV.noMem.noMemL, optI, mapO, norm, forget, hasN, blksLt, List.set, S32]) with ⟨g1, g2⟩ | ⟨g1, t, g2, g3⟩
      · rw [g2]
        unfold c32b0
        simp [evCode, evOps, evOne, evOp, evPur, evEff, evPur.chunks, fillP, AOp.isEff, AO.ev, putP, PV.cells, PV.leaf, getB, scal, binP, unP, minP, maxP, foldP, PV.lt, PV.lt.ltL, endP, expoAll, expo, expo.expoL, frIds, frIds.frIdsL, nodupN, kill, cls, clsFuel, resP, rowsOf, callP, unfr, unfr.unfrL, PV.noMem, PV.noMem.noMemL, optI, mapO, norm, forget, hasN, blksLt, List.set, S32]
        simp only [nameE, nameOk, g1, decide_eq_true h1, decide_eq_true h2, Bool.and_self, if_true]
      · rw [g2]
        simp [evCode, evOps, evOne, evOp, evPur, evEff, evPur.chunks, fillP, AOp.isEff, AO.ev, putP, PV.cells, PV.leaf, getB, scal, binP, unP, minP, maxP, foldP, PV.lt, PV.lt.ltL, endP, expoAll, expo, expo.expoL, frIds, frIds.frIdsL, nodupN, kill, cls, clsFuel, resP, rowsOf, callP, unfr, unfr.unfrL, PV.noMem, PV.noMem.noMemL, optI, mapO, norm, forget, hasN, blksLt, List.set, g3]
        simp only [nameE, nameOk, g1, Bool.and_false, Bool.false_eq_true, if_false]
    · have h2' : ((40 : Int) < s.length) := by omega
      unfold c32
      simp [evCode, evOps, evOne, evOp, evPur, evEff, evPur.chunks, fillP, AOp.isEff, AO.ev, putP, PV.cells, PV.leaf, getB, scal, binP, unP, minP, maxP, foldP, PV.lt, PV.lt.ltL, endP, expoAll, expo, expo.expoL, frIds, frIds.frIdsL, nodupN, kill, cls, clsFuel, resP, rowsOf, callP, unfr, unfr.unfrL, PV.noMem, PV.noMem.noMemL, optI, mapO, norm, forget, hasN, blksLt, List.set, h1', h2', nameE, nameOk, h2]
  · have h1' : ((s.length : Int) < 1) := by omega
    unfold c32
    have h3 : s = [] := List.eq_nil_of_length_eq_zero (by omega)
    subst h3
    simp [evCode, evOps, evOne, evOp, evPur, evEff, evPur.chunks, fillP, AOp.isEff, AO.ev, putP, PV.cells, PV.leaf, getB, scal, binP, unP, minP, maxP, foldP, PV.lt, PV.lt.ltL, endP, expoAll, expo, expo.expoL, frIds, frIds.frIdsL, nodupN, kill, cls, clsFuel, resP, rowsOf, callP, unfr, unfr.unfrL, PV.noMem, PV.noMem.noMemL, optI, mapO, norm, forget, hasN, blksLt, List.set, nameE, nameOk]

def S33 (s : List UInt8) (k : Nat) : St := ⟨[.str s, .top, .top, .int .i64 k] ++ List.replicate 19 .top, []⟩
theorem f33 (s : List UInt8) : evE Dg 33 [.str s] = some (.int .i64 (nameE s)) := by
  refine evE_intro (s.length + 1) D33 rfl ?_
  by_cases h1 : 1 ≤ s.length
  · have h1' : ¬ ((s.length : Int) < 1) := by omega
    by_cases h2 : s.length ≤ 40
    · have h2' : ¬ ((40 : Int) < s.length) := by omega
      have H := loop_all (body := evCode (evE Dg) (s.length + 1) c33b0) (keep := [0, 3]) (n0 := 0) (fuel := s.length + 1) s (S33 s) nameB (fun t => t.sl[2]?.getD .top = .int .i64 3)
        (by
          intro k a ha hk hq
          have hk' : (k : Int) < s.length := by omega
          have h1 := wrap_i64 ((k : Int) + 1) (by omega) (by omega)
          have h3 := f35 a
          rw [hq] at h3
          unfold c33b0
          simp [evCode, evOps, evOne, evOp, evPur, evEff, evPur.chunks, fillP, AOp.isEff, AO.ev, putP, PV.cells, PV.leaf, getB, scal, binP, unP, minP, maxP, foldP, PV.lt, PV.lt.ltL, endP, expoAll, expo, expo.expoL, frIds, frIds.frIdsL, nodupN, kill, cls, clsFuel, resP, rowsOf, callP, unfr, unfr.unfrL, PV.noMem, PV.noMem.noMemL, optI, mapO, norm, forget, hasN, blksLt, List.set, S33, ha, hk', h1, h3])
        (by
          intro k a ha hk hq
          have hk' : (k : Int) < s.length := by omega
          have h3 := f35 a
          rw [hq] at h3
          unfold c33b0
          simp [evCode, evOps, evOne, evOp, evPur, evEff, evPur.chunks, fillP, AOp.isEff, AO.ev, putP, PV.cells, PV.leaf, getB, scal, binP, unP, minP, maxP, foldP, PV.lt, PV.lt.ltL, endP, expoAll, expo, expo.expoL, frIds, frIds.frIdsL, nodupN, kill, cls, clsFuel, resP, rowsOf, callP, unfr, unfr.unfrL, PV.noMem, PV.noMem.noMemL, optI, mapO, norm, forget, hasN, blksLt, List.set, S33, ha, hk', h3])
        (by
          intro s
          unfold c33b0
          simp [evCode, evOps, evOne, evOp, evPur, evEff, evPur.chunks, fillP, AOp.isEff, AO.ev, putP, PV.cells, PV.leaf, getB, scal, binP, unP, minP, maxP, foldP, PV.lt, PV.lt.ltL, endP, expoAll, expo, expo.expoL, frIds, frIds.frIdsL, nodupN, kill, cls, clsFuel, resP, rowsOf, callP, unfr, unfr.unfrL, PV.noMem, PV.noMem.noMemL, optI, mapO, norm, forget, hasN, blksLt, List.set, S33]) (by omega)
      unfold c33
      simp [evCode, evOps, evOne, evOp, evPur, evEff, evPur.chunks, fillP, AOp.isEff, AO.ev, putP, PV.cells, PV.leaf, getB, scal, binP, unP, minP, maxP, foldP, PV.lt, PV.lt.ltL, endP, expoAll, expo, expo.expoL, frIds, frIds.frIdsL, nodupN, kill, cls, clsFuel, resP, rowsOf, callP, unfr, unfr.unfrL, PV.noMem, PV.noMem.noMemL, optI, mapO, norm, forget, hasN, blksLt, List.set, h1', h2']
      generalize hE : evLoop _ _ _ _ _ = E
      rcases H _ _ hE (by simp [evCode, evOps, evOne, evOp, evPur, evEff, evPur.chunks, fillP, AOp.isEff, AO.ev, putP, PV.cells, PV.leaf, getB, scal, binP, unP, minP, maxP, foldP, PV.lt, PV.lt.ltL, endP, expoAll, expo, expo.expoL, frIds, frIds.frIdsL, nodupN, kill, cls, clsFuel, resP, rowsOf, callP, unfr, unfr.unfrL, PV.noMem, PV.noMem.noMemL, optI, mapO, norm, forget, hasN, blksLt, List.set, S33]) with ⟨g1, g2⟩ | ⟨g1, t, g2, g3⟩
      · rw [g2]
        unfold c33b0
        simp [evCode, evOps, evOne, evOp, evPur, evEff, evPur.chunks, fillP, AOp.isEff, AO.ev, putP, PV.cells, PV.leaf, getB, scal, binP, unP, minP, maxP, foldP, PV.lt, PV.lt.ltL, endP, expoAll, expo, expo.expoL, frIds, frIds.frIdsL, nodupN, kill, cls, clsFuel, resP, rowsOf, callP, unfr, unfr.unfrL, PV.noMem, PV.noMem.noMemL, optI, mapO, norm, forget, hasN, blksLt, List.set, S33]
        simp only [nameE, nameOk, g1, decide_eq_true h1, decide_eq_true h2, Bool.and_self, if_true]
      · rw [g2]
        simp [evCode, evOps, evOne, evOp, evPur, evEff, evPur.chunks, fillP, AOp.isEff, AO.ev, putP, PV.cells, PV.leaf, getB, scal, binP, unP, minP, maxP, foldP, PV.lt, PV.lt.ltL, endP, expoAll, expo, expo.expoL, frIds, frIds.frIdsL, nodupN, kill, cls, clsFuel, resP, rowsOf, callP, unfr, unfr.unfrL, PV.noMem, PV.noMem.noMemL, optI, mapO, norm, forget, hasN, blksLt, List.set, g3]
        simp only [nameE, nameOk, g1, Bool.and_false, Bool.false_eq_true, if_false]
    · have h2' : ((40 : Int) < s.length) := by omega
      unfold c33
      simp [evCode, evOps, evOne, evOp, evPur, evEff, evPur.chunks, fillP, AOp.isEff, AO.ev, putP, PV.cells, PV.leaf, getB, scal, binP, unP, minP, maxP, foldP, PV.lt, PV.lt.ltL, endP, expoAll, expo, expo.expoL, frIds, frIds.frIdsL, nodupN, kill, cls, clsFuel, resP, rowsOf, callP, unfr, unfr.unfrL, PV.noMem, PV.noMem.noMemL, optI, mapO, norm, forget, hasN, blksLt, List.set, h1', h2', nameE, nameOk, h2]
  · have h1' : ((s.length : Int) < 1) := by omega
    unfold c33
    have h3 : s = [] := List.eq_nil_of_length_eq_zero (by omega)
    subst h3
    simp [evCode, evOps, evOne, evOp, evPur, evEff, evPur.chunks, fillP, AOp.isEff, AO.ev, putP, PV.cells, PV.leaf, getB, scal, binP, unP, minP, maxP, foldP, PV.lt, PV.lt.ltL, endP, expoAll, expo, expo.expoL, frIds, frIds.frIdsL, nodupN, kill, cls, clsFuel, resP, rowsOf, callP, unfr, unfr.unfrL, PV.noMem, PV.noMem.noMemL, optI, mapO, norm, forget, hasN, blksLt, List.set, nameE, nameOk]

def framesE (l : List (List UInt8)) : Int := if 32 < l.length then 7 else if l.all nameOk then 0 else 3

def S26 (l : List (List UInt8)) (k : Nat) : St := ⟨List.replicate 9 .top ++ [eTx l, .int .i64 l.length, .int .i64 k] ++ List.replicate 9 .top, []⟩
theorem f26 (l : List (List UInt8)) : evE Dg 26 [eTx l] = some (.int .i64 (framesE l)) := by
  refine evE_intro (l.length + 1) D26 rfl ?_
  by_cases h2 : l.length ≤ 32
  · have h2' : ¬ ((32 : Int) < l.length) := by omega
    have h2'' : ¬ (32 < l.length) := by omega
    have H := loop_all (body := evCode (evE Dg) (l.length + 1) c26b0) (keep := [9, 10, 11]) (n0 := 0) (fuel := l.length + 1) l (S26 l) nameOk (fun t => t.sl[2]?.getD .top = .int .i64 3)
      (by
        intro k a ha hk hq
        have hk' : (k : Int) < l.length := by omega
        have h1 := wrap_i64 ((k : Int) + 1) (by omega) (by omega)
        have h3 := f32 a
        rw [nameE, hq] at h3
        unfold c26b0
        simp [evCode, evOps, evOne, evOp, evPur, evEff, evPur.chunks, fillP, AOp.isEff, AO.ev, putP, PV.cells, PV.leaf, getB, scal, binP, unP, minP, maxP, foldP, PV.lt, PV.lt.ltL, endP, expoAll, expo, expo.expoL, frIds, frIds.frIdsL, nodupN, kill, cls, clsFuel, resP, rowsOf, callP, unfr, unfr.unfrL, PV.noMem, PV.noMem.noMemL, optI, mapO, norm, forget, hasN, blksLt, List.set, S26, eTx, ha, hk', h1, h3])
      (by
        intro k a ha hk hq
        have hk' : (k : Int) < l.length := by omega
        have h3 := f32 a
        rw [nameE, hq] at h3
        unfold c26b0
        simp [evCode, evOps, evOne, evOp, evPur, evEff, evPur.chunks, fillP, AOp.isEff, AO.ev, putP, PV.cells, PV.leaf, getB, scal, binP, unP, minP, maxP, foldP, PV.lt, PV.lt.ltL, endP, expoAll, expo, expo.expoL, frIds, frIds.frIdsL, nodupN, kill, cls, clsFuel, resP, rowsOf, callP, unfr, unfr.unfrL, PV.noMem, PV.noMem.noMemL, optI, mapO, norm, forget, hasN, blksLt, List.set, S26, eTx, ha, hk', h3])
      (by
        intro s
        unfold c26b0
        simp [evCode, evOps, evOne, evOp, evPur, evEff, evPur.chunks, fillP, AOp.isEff, AO.ev, putP, PV.cells, PV.leaf, getB, scal, binP, unP, minP, maxP, foldP, PV.lt, PV.lt.ltL, endP, expoAll, expo, expo.expoL, frIds, frIds.frIdsL, nodupN, kill, cls, clsFuel, resP, rowsOf, callP, unfr, unfr.unfrL, PV.noMem, PV.noMem.noMemL, optI, mapO, norm, forget, hasN, blksLt, List.set, S26, eTx]) (by omega)
    unfold c26
    simp [evCode, evOps, evOne, evOp, evPur, evEff, evPur.chunks, fillP, AOp.isEff, AO.ev, putP, PV.cells, PV.leaf, getB, scal, binP, unP, minP, maxP, foldP, PV.lt, PV.lt.ltL, endP, expoAll, expo, expo.expoL, frIds, frIds.frIdsL, nodupN, kill, cls, clsFuel, resP, rowsOf, callP, unfr, unfr.unfrL, PV.noMem, PV.noMem.noMemL, optI, mapO, norm, forget, hasN, blksLt, List.set, eTx, h2']
    generalize hE : evLoop _ _ _ _ _ = E
    rcases H _ _ hE (by simp [evCode, evOps, evOne, evOp, evPur, evEff, evPur.chunks, fillP, AOp.isEff, AO.ev, putP, PV.cells, PV.leaf, getB, scal, binP, unP, minP, maxP, foldP, PV.lt, PV.lt.ltL, endP, expoAll, expo, expo.expoL, frIds, frIds.frIdsL, nodupN, kill, cls, clsFuel, resP, rowsOf, callP, unfr, unfr.unfrL, PV.noMem, PV.noMem.noMemL, optI, mapO, norm, forget, hasN, blksLt, List.set, S26, eTx]) with ⟨g1, g2⟩ | ⟨g1, t, g2, g3⟩
    · rw [g2]
      unfold c26b0
      simp [evCode, evOps, evOne, evOp, evPur, evEff, evPur.chunks, fillP, AOp.isEff, AO.ev, putP, PV.cells, PV.leaf, getB, scal, binP, unP, minP, maxP, foldP, PV.lt, PV.lt.ltL, endP, expoAll, expo, expo.expoL, frIds, frIds.frIdsL, nodupN, kill, cls, clsFuel, resP, rowsOf, callP, unfr, unfr.unfrL, PV.noMem, PV.noMem.noMemL, optI, mapO, norm, forget, hasN, blksLt, List.set, S26, eTx]
      simp only [framesE, g1, h2'', if_true, if_false]
    · rw [g2]
      simp [evCode, evOps, evOne, evOp, evPur, evEff, evPur.chunks, fillP, AOp.isEff, AO.ev, putP, PV.cells, PV.leaf, getB, scal, binP, unP, minP, maxP, foldP, PV.lt, PV.lt.ltL, endP, expoAll, expo, expo.expoL, frIds, frIds.frIdsL, nodupN, kill, cls, clsFuel, resP, rowsOf, callP, unfr, unfr.unfrL, PV.noMem, PV.noMem.noMemL, optI, mapO, norm, forget, hasN, blksLt, List.set, g3]
      simp only [framesE, g1, h2'', Bool.false_eq_true, if_false]
  · have h2' : ((32 : Int) < l.length) := by omega
    have h2'' : 32 < l.length := by omega
    unfold c26
    simp [evCode, evOps, evOne, evOp, evPur, evEff, evPur.chunks, fillP, AOp.isEff, AO.ev, putP, PV.cells, PV.leaf, getB, scal, binP, unP, minP, maxP, foldP, PV.lt, PV.lt.ltL, endP, expoAll, expo, expo.expoL, frIds, frIds.frIdsL, nodupN, kill, cls, clsFuel, resP, rowsOf, callP, unfr, unfr.unfrL, PV.noMem, PV.noMem.noMemL, optI, mapO, norm, forget, hasN, blksLt, List.set, eTx, h2', framesE, h2'']

def S28 (l : List (List UInt8)) (k : Nat) : St := ⟨[eTx l, .top, .top, .int .i64 k] ++ List.replicate 15 .top, []⟩
theorem f28 (l : List (List UInt8)) : evE Dg 28 [eTx l] = some (.int .i64 (framesE l)) := by
  refine evE_intro (l.length + 1) D28 rfl ?_
  by_cases h2 : l.length ≤ 32
  · have h2' : ¬ ((32 : Int) < l.length) := by omega
    have h2'' : ¬ (32 < l.length) := by omega
    have H := loop_all (body := evCode (evE Dg) (l.length + 1) c28b0) (keep := [0, 3]) (n0 := 0) (fuel := l.length + 1) l (S28 l) nameOk (fun t => t.sl[2]?.getD .top = .int .i64 3)
      (by
        intro k a ha hk hq
        have hk' : (k : Int) < l.length := by omega
        have h1 := wrap_i64 ((k : Int) + 1) (by omega) (by omega)
        have h3 := f33 a
        rw [nameE, hq] at h3
        unfold c28b0
        simp [evCode, evOps, evOne, evOp, evPur, evEff, evPur.chunks, fillP, AOp.isEff, AO.ev, putP, PV.cells, PV.leaf, getB, scal, binP, unP, minP, maxP, foldP, PV.lt, PV.lt.ltL, endP, expoAll, expo, expo.expoL, frIds, frIds.frIdsL, nodupN, kill, cls, clsFuel, resP, rowsOf, callP, unfr, unfr.unfrL, PV.noMem, PV.noMem.noMemL, optI, mapO, norm, forget, hasN, blksLt, List.set, S28, eTx, ha, hk', h1, h3])
      (by
        intro k a ha hk hq
        have hk' : (k : Int) < l.length := by omega
        have h3 := f33 a
        rw [nameE, hq] at h3
        unfold c28b0
        simp [evCode, evOps, evOne, evOp, evPur, evEff, evPur.chunks, fillP, AOp.isEff, AO.ev, putP, PV.cells, PV.leaf, getB, scal, binP, unP, minP, maxP, foldP, PV.lt, PV.lt.ltL, endP, expoAll, expo, expo.expoL, frIds, frIds.frIdsL, nodupN, kill, cls, clsFuel, resP, rowsOf, callP, unfr, unfr.unfrL, PV.noMem, PV.noMem.noMemL, optI, mapO, norm, forget, hasN, blksLt, List.set, S28, eTx, ha, hk', h3])
      (by
        intro s
        unfold c28b0
        simp [evCode, evOps, evOne, evOp, evPur, evEff, evPur.chunks, fillP, AOp.isEff, AO.ev, putP, PV.cells, PV.leaf, getB, scal, binP, unP, minP, maxP, foldP, PV.lt, PV.lt.ltL, endP, expoAll, expo, expo.expoL, frIds, frIds.frIdsL, nodupN, kill, cls, clsFuel, resP, rowsOf, callP, unfr, unfr.unfrL, PV.noMem, PV.noMem.noMemL, optI, mapO, norm, forget, hasN, blksLt, List.set, S28, eTx]) (by omega)
    unfold c28
    simp [evCode, evOps, evOne, evOp, evPur, evEff, evPur.chunks, fillP, AOp.isEff, AO.ev, putP, PV.cells, PV.leaf, getB, scal, binP, unP, minP, maxP, foldP, PV.lt, PV.lt.ltL, endP, expoAll, expo, expo.expoL, frIds, frIds.frIdsL, nodupN, kill, cls, clsFuel, resP, rowsOf, callP, unfr, unfr.unfrL, PV.noMem, PV.noMem.noMemL, optI, mapO, norm, forget, hasN, blksLt, List.set, eTx, h2']
    generalize hE : evLoop _ _ _ _ _ = E
    rcases H _ _ hE (by simp [evCode, evOps, evOne, evOp, evPur, evEff, evPur.chunks, fillP, AOp.isEff, AO.ev, putP, PV.cells, PV.leaf, getB, scal, binP, unP, minP, maxP, foldP, PV.lt, PV.lt.ltL, endP, expoAll, expo, expo.expoL, frIds, frIds.frIdsL, nodupN, kill, cls, clsFuel, resP, rowsOf, callP, unfr, unfr.unfrL, PV.noMem, PV.noMem.noMemL, optI, mapO, norm, forget, hasN, blksLt, List.set, S28, eTx]) with ⟨g1, g2⟩ | ⟨g1, t, g2, g3⟩
    · rw [g2]
      unfold c28b0
      simp [evCode, evOps, evOne, evOp, evPur, evEff, evPur.chunks, fillP, AOp.isEff, AO.ev, putP, PV.cells, PV.leaf, getB, scal, binP, unP, minP, maxP, foldP, PV.lt, PV.lt.ltL, endP, expoAll, expo, expo.expoL, frIds, frIds.frIdsL, nodupN, kill, cls, clsFuel, resP, rowsOf, callP, unfr, unfr.unfrL, PV.noMem, PV.noMem.noMemL, optI, mapO, norm, forget, hasN, blksLt, List.set, S28, eTx]
      simp only [framesE, g1, h2'', if_true, if_false]
    · rw [g2]
      simp [evCode, evOps, evOne, evOp, evPur, evEff, evPur.chunks, fillP, AOp.isEff, AO.ev, putP, PV.cells, PV.leaf, getB, scal, binP, unP, minP, maxP, foldP, PV.lt, PV.lt.ltL, endP, expoAll, expo, expo.expoL, frIds, frIds.frIdsL, nodupN, kill, cls, clsFuel, resP, rowsOf, callP, unfr, unfr.unfrL, PV.noMem, PV.noMem.noMemL, optI, mapO, norm, forget, hasN, blksLt, List.set, g3]
      simp only [framesE, g1, h2'', Bool.false_eq_true, if_false]
  · have h2' : ((32 : Int) < l.length) := by omega
    have h2'' : 32 < l.length := by omega
    unfold c28
    simp [evCode, evOps, evOne, evOp, evPur, evEff, evPur.chunks, fillP, AOp.isEff, AO.ev, putP, PV.cells, PV.leaf, getB, scal, binP, unP, minP, maxP, foldP, PV.lt, PV.lt.ltL, endP, expoAll, expo, expo.expoL, frIds, frIds.frIdsL, nodupN, kill, cls, clsFuel, resP, rowsOf, callP, unfr, unfr.unfrL, PV.noMem, PV.noMem.noMemL, optI, mapO, norm, forget, hasN, blksLt, List.set, eTx, h2', framesE, h2'']
end Go.Proofs.Ytgipbahlcnageaa
