/- Samples: the pure reading of functions. -/
import Derived.Test.YtgipbahlcnageaaEvP
namespace Go.Proofs.Ytgipbahlcnageaa
open Go Go.RowKit
set_option linter.unusedVariables false
set_option linter.unusedSimpArgs false

structure Smp where
  th : Int
  at_ : Int
  wt : Int
  st : List (List UInt8)
def eTx (l : List (List UInt8)) : PV := .sl false 1 (l.map fun t => [.str t])
def eSmp (s : Smp) : List PV := [.int .i64 s.th, .int .i64 s.at_, .int .i64 s.wt, eTx s.st]
def eSmps (l : List Smp) : PV := .sl false 4 (l.map eSmp)
def inR (s : Smp) : Bool := decide (0 ≤ s.th) && decide (s.th ≤ 1000000000000000) && decide (0 ≤ s.at_) && decide (s.at_ ≤ 1000000000000) && decide (1 ≤ s.wt) && decide (s.wt ≤ 1000000000000)

theorem f25 (s : Smp) : evE Dg 25 [.agg (eSmp s)] = some (.bool (inR s)) := by
  refine evE_intro 1 D25 rfl ?_
  unfold c25
  by_cases hsh0 : 0 ≤ s.th
  rotate_left
  · simp [evCode, evOps, evOne, evOp, evPur, evEff, evPur.chunks, fillP, AOp.isEff, AO.ev, putP, PV.cells, PV.leaf, getB, scal, binP, unP, minP, maxP, foldP, PV.lt, PV.lt.ltL, endP, expoAll, expo, expo.expoL, frIds, frIds.frIdsL, nodupN, kill, cls, clsFuel, resP, rowsOf, callP, unfr, unfr.unfrL, PV.noMem, PV.noMem.noMemL, optI, mapO, norm, forget, hasN, blksLt, List.set, *, eSmp, eTx, inR]
  by_cases hsh1 : s.th ≤ 1000000000000000
  rotate_left
  · simp [evCode, evOps, evOne, evOp, evPur, evEff, evPur.chunks, fillP, AOp.isEff, AO.ev, putP, PV.cells, PV.leaf, getB, scal, binP, unP, minP, maxP, foldP, PV.lt, PV.lt.ltL, endP, expoAll, expo, expo.expoL, frIds, frIds.frIdsL, nodupN, kill, cls, clsFuel, resP, rowsOf, callP, unfr, unfr.unfrL, PV.noMem, PV.noMem.noMemL, optI, mapO, norm, forget, hasN, blksLt, List.set, *, eSmp, eTx, inR]
  by_cases hsh2 : 0 ≤ s.at_
  rotate_left
  · simp [evCode, evOps, evOne, evOp, evPur, evEff, evPur.chunks, fillP, AOp.isEff, AO.ev, putP, PV.cells, PV.leaf, getB, scal, binP, unP, minP, maxP, foldP, PV.lt, PV.lt.ltL, endP, expoAll, expo, expo.expoL, frIds, frIds.frIdsL, nodupN, kill, cls, clsFuel, resP, rowsOf, callP, unfr, unfr.unfrL, PV.noMem, PV.noMem.noMemL, optI, mapO, norm, forget, hasN, blksLt, List.set, *, eSmp, eTx, inR]
  by_cases hsh3 : s.at_ ≤ 1000000000000
  rotate_left
  · simp [evCode, evOps, evOne, evOp, evPur, evEff, evPur.chunks, fillP, AOp.isEff, AO.ev, putP, PV.cells, PV.leaf, getB, scal, binP, unP, minP, maxP, foldP, PV.lt, PV.lt.ltL, endP, expoAll, expo, expo.expoL, frIds, frIds.frIdsL, nodupN, kill, cls, clsFuel, resP, rowsOf, callP, unfr, unfr.unfrL, PV.noMem, PV.noMem.noMemL, optI, mapO, norm, forget, hasN, blksLt, List.set, *, eSmp, eTx, inR]
  by_cases hsh4 : 1 ≤ s.wt
  rotate_left
  · simp [evCode, evOps, evOne, evOp, evPur, evEff, evPur.chunks, fillP, AOp.isEff, AO.ev, putP, PV.cells, PV.leaf, getB, scal, binP, unP, minP, maxP, foldP, PV.lt, PV.lt.ltL, endP, expoAll, expo, expo.expoL, frIds, frIds.frIdsL, nodupN, kill, cls, clsFuel, resP, rowsOf, callP, unfr, unfr.unfrL, PV.noMem, PV.noMem.noMemL, optI, mapO, norm, forget, hasN, blksLt, List.set, *, eSmp, eTx, inR]
  by_cases hsh5 : s.wt ≤ 1000000000000
  rotate_left
  · simp [evCode, evOps, evOne, evOp, evPur, evEff, evPur.chunks, fillP, AOp.isEff, AO.ev, putP, PV.cells, PV.leaf, getB, scal, binP, unP, minP, maxP, foldP, PV.lt, PV.lt.ltL, endP, expoAll, expo, expo.expoL, frIds, frIds.frIdsL, nodupN, kill, cls, clsFuel, resP, rowsOf, callP, unfr, unfr.unfrL, PV.noMem, PV.noMem.noMemL, optI, mapO, norm, forget, hasN, blksLt, List.set, *, eSmp, eTx, inR]
  simp [evCode, evOps, evOne, evOp, evPur, evEff, evPur.chunks, fillP, AOp.isEff, AO.ev, putP, PV.cells, PV.leaf, getB, scal, binP, unP, minP, maxP, foldP, PV.lt, PV.lt.ltL, endP, expoAll, expo, expo.expoL, frIds, frIds.frIdsL, nodupN, kill, cls, clsFuel, resP, rowsOf, callP, unfr, unfr.unfrL, PV.noMem, PV.noMem.noMemL, optI, mapO, norm, forget, hasN, blksLt, List.set, *, eSmp, eTx, inR]

theorem f31 (s : Smp) : evE Dg 31 [.agg (eSmp s)] = some (.bool true) := by
  refine evE_intro 1 D31 rfl ?_
  unfold c31
  simp [evCode, evOps, evOne, evOp, evPur, evEff, evPur.chunks, fillP, AOp.isEff, AO.ev, putP, PV.cells, PV.leaf, getB, scal, binP, unP, minP, maxP, foldP, PV.lt, PV.lt.ltL, endP, expoAll, expo, expo.expoL, frIds, frIds.frIdsL, nodupN, kill, cls, clsFuel, resP, rowsOf, callP, unfr, unfr.unfrL, PV.noMem, PV.noMem.noMemL, optI, mapO, norm, forget, hasN, blksLt, List.set, eSmp, eTx]

def addW (W : Smp → Bool) (x : Int) (s : Smp) : Int := if inR s && W s then (if 1000000000000000 < x + s.wt then 1000000000000000 else x + s.wt) else x
def sumW (W : Smp → Bool) (l : List Smp) : Int := l.foldl (addW W) 0

def S29 (f : Nat) (caps : List PV) (l : List Smp) (k : Nat) (x : Int) : St := ⟨[.top, .fn f caps, .top, .top, .top, .int .i64 x, .top, .top, eSmps l, .int .i64 l.length, .int .i64 k] ++ List.replicate 17 .top, []⟩

theorem inR_wt {s : Smp} (h : inR s = true) : 1 ≤ s.wt ∧ s.wt ≤ 1000000000000 := by
  simp [inR] at h; omega
theorem addW_le (W : Smp → Bool) {x : Int} {s : Smp} (h : 0 ≤ x ∧ x ≤ 1000000000000000) : 0 ≤ addW W x s ∧ addW W x s ≤ 1000000000000000 := by
  unfold addW
  split
  · rename_i h1
    have := inR_wt (s := s) (by revert h1; cases inR s <;> simp)
    split <;> omega
  · exact h

theorem f29 (f : Nat) (caps : List PV) (hcl : PV.lt.ltL 0 caps = true) (W : Smp → Bool) (l : List Smp) (hl : l.length ≤ 140737488355328) (hW : ∀ s ∈ l, evE Dg f (.agg (eSmp s) :: caps) = some (.bool (W s))) :
    evE Dg 29 [eSmps l, .fn f caps] = some (.int .i64 (sumW W l)) := by
  refine evE_intro (l.length + 1) D29 rfl ?_
  have H := loop_foldE (body := evCode (evE Dg) (l.length + 1) c29b0) (keep := [1, 5, 8, 9, 10]) (n0 := 0) (fuel := l.length + 1) l (S29 f caps l) (addW W) (fun _ x => 0 ≤ x ∧ x ≤ 1000000000000000)
    (by
      intro k a x ha hk hx
      refine ⟨addW_le W hx, ?_⟩
      have hW := hW a (List.mem_of_getElem? ha)
      have h1 := wrap_i64 ((k : Int) + 1) (by omega) (by omega)
      have h25 := f25 a
      have hk' : (k : Int) < l.length := by omega
      unfold c29b0
      by_cases hi : inR a = true
      · obtain ⟨g1, g2⟩ := inR_wt hi
        have h2 := wrap_i64 (x + a.wt) (by omega) (by omega)
        rw [hi] at h25
        cases hw : W a
        · rw [hw] at hW
          simp only [eSmp, eTx] at h25 hW
          simp [evCode, evOps, evOne, evOp, evPur, evEff, evPur.chunks, fillP, AOp.isEff, AO.ev, putP, PV.cells, PV.leaf, getB, scal, binP, unP, minP, maxP, foldP, PV.lt, PV.lt.ltL, endP, expoAll, expo, expo.expoL, frIds, frIds.frIdsL, nodupN, kill, cls, clsFuel, resP, rowsOf, callP, unfr, unfr.unfrL, PV.noMem, PV.noMem.noMemL, optI, mapO, norm, forget, hasN, blksLt, List.set, S29, eSmps, eSmp, eTx, ha, hk', h25, hW, h1, addW, hi, hw, hcl]
        · rw [hw] at hW
          simp only [eSmp, eTx] at h25 hW
          simp [evCode, evOps, evOne, evOp, evPur, evEff, evPur.chunks, fillP, AOp.isEff, AO.ev, putP, PV.cells, PV.leaf, getB, scal, binP, unP, minP, maxP, foldP, PV.lt, PV.lt.ltL, endP, expoAll, expo, expo.expoL, frIds, frIds.frIdsL, nodupN, kill, cls, clsFuel, resP, rowsOf, callP, unfr, unfr.unfrL, PV.noMem, PV.noMem.noMemL, optI, mapO, norm, forget, hasN, blksLt, List.set, S29, eSmps, eSmp, eTx, ha, hk', h25, hW, h1, h2, addW, hi, hw, hcl]
      · have hi : inR a = false := by simpa using hi
        rw [hi] at h25
        simp only [eSmp, eTx] at h25
        simp [evCode, evOps, evOne, evOp, evPur, evEff, evPur.chunks, fillP, AOp.isEff, AO.ev, putP, PV.cells, PV.leaf, getB, scal, binP, unP, minP, maxP, foldP, PV.lt, PV.lt.ltL, endP, expoAll, expo, expo.expoL, frIds, frIds.frIdsL, nodupN, kill, cls, clsFuel, resP, rowsOf, callP, unfr, unfr.unfrL, PV.noMem, PV.noMem.noMemL, optI, mapO, norm, forget, hasN, blksLt, List.set, S29, eSmps, eSmp, eTx, ha, hk', h25, h1, addW, hi, hcl])
    (by
      intro x hx s
      unfold c29b0
      simp [evCode, evOps, evOne, evOp, evPur, evEff, evPur.chunks, fillP, AOp.isEff, AO.ev, putP, PV.cells, PV.leaf, getB, scal, binP, unP, minP, maxP, foldP, PV.lt, PV.lt.ltL, endP, expoAll, expo, expo.expoL, frIds, frIds.frIdsL, nodupN, kill, cls, clsFuel, resP, rowsOf, callP, unfr, unfr.unfrL, PV.noMem, PV.noMem.noMemL, optI, mapO, norm, forget, hasN, blksLt, List.set, S29, eSmps]) (by omega) 0 (by omega)
  unfold c29
  simp [evCode, evOps, evOne, evOp, evPur, evEff, evPur.chunks, fillP, AOp.isEff, AO.ev, putP, PV.cells, PV.leaf, getB, scal, binP, unP, minP, maxP, foldP, PV.lt, PV.lt.ltL, endP, expoAll, expo, expo.expoL, frIds, frIds.frIdsL, nodupN, kill, cls, clsFuel, resP, rowsOf, callP, unfr, unfr.unfrL, PV.noMem, PV.noMem.noMemL, optI, mapO, norm, forget, hasN, blksLt, List.set, eSmps]
  generalize hE : evLoop _ _ _ _ _ = E
  obtain ⟨h1, h2⟩ := H _ _ hE (by simp [evCode, evOps, evOne, evOp, evPur, evEff, evPur.chunks, fillP, AOp.isEff, AO.ev, putP, PV.cells, PV.leaf, getB, scal, binP, unP, minP, maxP, foldP, PV.lt, PV.lt.ltL, endP, expoAll, expo, expo.expoL, frIds, frIds.frIdsL, nodupN, kill, cls, clsFuel, resP, rowsOf, callP, unfr, unfr.unfrL, PV.noMem, PV.noMem.noMemL, optI, mapO, norm, forget, hasN, blksLt, List.set, S29, eSmps, hcl])
  rw [h1]
  unfold c29b0
  simp [evCode, evOps, evOne, evOp, evPur, evEff, evPur.chunks, fillP, AOp.isEff, AO.ev, putP, PV.cells, PV.leaf, getB, scal, binP, unP, minP, maxP, foldP, PV.lt, PV.lt.ltL, endP, expoAll, expo, expo.expoL, frIds, frIds.frIdsL, nodupN, kill, cls, clsFuel, resP, rowsOf, callP, unfr, unfr.unfrL, PV.noMem, PV.noMem.noMemL, optI, mapO, norm, forget, hasN, blksLt, List.set, S29, eSmps]
  rfl

theorem f20 (l : List Smp) (hl : l.length ≤ 140737488355328) : evE Dg 20 [eSmps l] = some (.int .i64 (sumW (fun _ => true) l)) := by
  refine evE_intro 1 D20 rfl ?_
  unfold c20
  have h := f29 31 [] rfl (fun _ => true) l hl (fun s _ => f31 s)
  simp only [eSmps] at h
  simp [evCode, evOps, evOne, evOp, evPur, evEff, evPur.chunks, fillP, AOp.isEff, AO.ev, putP, PV.cells, PV.leaf, getB, scal, binP, unP, minP, maxP, foldP, PV.lt, PV.lt.ltL, endP, expoAll, expo, expo.expoL, frIds, frIds.frIdsL, nodupN, kill, cls, clsFuel, resP, rowsOf, callP, unfr, unfr.unfrL, PV.noMem, PV.noMem.noMemL, optI, mapO, norm, forget, hasN, blksLt, List.set, eSmps, h]

theorem f27 (s : Smp) : evE Dg 27 [.agg (eSmp s)] = some (.bool (inR s)) := by
  refine evE_intro 1 D27 rfl ?_
  unfold c27
  by_cases hsh0 : 0 ≤ s.th
  rotate_left
  · simp [evCode, evOps, evOne, evOp, evPur, evEff, evPur.chunks, fillP, AOp.isEff, AO.ev, putP, PV.cells, PV.leaf, getB, scal, binP, unP, minP, maxP, foldP, PV.lt, PV.lt.ltL, endP, expoAll, expo, expo.expoL, frIds, frIds.frIdsL, nodupN, kill, cls, clsFuel, resP, rowsOf, callP, unfr, unfr.unfrL, PV.noMem, PV.noMem.noMemL, optI, mapO, norm, forget, hasN, blksLt, List.set, *, eSmp, eTx, inR]
  by_cases hsh1 : s.th ≤ 1000000000000000
  rotate_left
  · simp [evCode, evOps, evOne, evOp, evPur, evEff, evPur.chunks, fillP, AOp.isEff, AO.ev, putP, PV.cells, PV.leaf, getB, scal, binP, unP, minP, maxP, foldP, PV.lt, PV.lt.ltL, endP, expoAll, expo, expo.expoL, frIds, frIds.frIdsL, nodupN, kill, cls, clsFuel, resP, rowsOf, callP, unfr, unfr.unfrL, PV.noMem, PV.noMem.noMemL, optI, mapO, norm, forget, hasN, blksLt, List.set, *, eSmp, eTx, inR]
  by_cases hsh2 : 0 ≤ s.at_
  rotate_left
  · simp [evCode, evOps, evOne, evOp, evPur, evEff, evPur.chunks, fillP, AOp.isEff, AO.ev, putP, PV.cells, PV.leaf, getB, scal, binP, unP, minP, maxP, foldP, PV.lt, PV.lt.ltL, endP, expoAll, expo, expo.expoL, frIds, frIds.frIdsL, nodupN, kill, cls, clsFuel, resP, rowsOf, callP, unfr, unfr.unfrL, PV.noMem, PV.noMem.noMemL, optI, mapO, norm, forget, hasN, blksLt, List.set, *, eSmp, eTx, inR]
  by_cases hsh3 : s.at_ ≤ 1000000000000
  rotate_left
  · simp [evCode, evOps, evOne, evOp, evPur, evEff, evPur.chunks, fillP, AOp.isEff, AO.ev, putP, PV.cells, PV.leaf, getB, scal, binP, unP, minP, maxP, foldP, PV.lt, PV.lt.ltL, endP, expoAll, expo, expo.expoL, frIds, frIds.frIdsL, nodupN, kill, cls, clsFuel, resP, rowsOf, callP, unfr, unfr.unfrL, PV.noMem, PV.noMem.noMemL, optI, mapO, norm, forget, hasN, blksLt, List.set, *, eSmp, eTx, inR]
  by_cases hsh4 : 1 ≤ s.wt
  rotate_left
  · simp [evCode, evOps, evOne, evOp, evPur, evEff, evPur.chunks, fillP, AOp.isEff, AO.ev, putP, PV.cells, PV.leaf, getB, scal, binP, unP, minP, maxP, foldP, PV.lt, PV.lt.ltL, endP, expoAll, expo, expo.expoL, frIds, frIds.frIdsL, nodupN, kill, cls, clsFuel, resP, rowsOf, callP, unfr, unfr.unfrL, PV.noMem, PV.noMem.noMemL, optI, mapO, norm, forget, hasN, blksLt, List.set, *, eSmp, eTx, inR]
  by_cases hsh5 : s.wt ≤ 1000000000000
  rotate_left
  · simp [evCode, evOps, evOne, evOp, evPur, evEff, evPur.chunks, fillP, AOp.isEff, AO.ev, putP, PV.cells, PV.leaf, getB, scal, binP, unP, minP, maxP, foldP, PV.lt, PV.lt.ltL, endP, expoAll, expo, expo.expoL, frIds, frIds.frIdsL, nodupN, kill, cls, clsFuel, resP, rowsOf, callP, unfr, unfr.unfrL, PV.noMem, PV.noMem.noMemL, optI, mapO, norm, forget, hasN, blksLt, List.set, *, eSmp, eTx, inR]
  simp [evCode, evOps, evOne, evOp, evPur, evEff, evPur.chunks, fillP, AOp.isEff, AO.ev, putP, PV.cells, PV.leaf, getB, scal, binP, unP, minP, maxP, foldP, PV.lt, PV.lt.ltL, endP, expoAll, expo, expo.expoL, frIds, frIds.frIdsL, nodupN, kill, cls, clsFuel, resP, rowsOf, callP, unfr, unfr.unfrL, PV.noMem, PV.noMem.noMemL, optI, mapO, norm, forget, hasN, blksLt, List.set, *, eSmp, eTx, inR]

/-- the reference's Total -/
def S21 (l : List Smp) (k : Nat) (x : Int) : St := ⟨[eSmps l, .top, .top, .int .i64 x, .int .i64 k] ++ List.replicate 20 .top, []⟩
theorem min_swap (y : Int) : (if y < 1000000000000000 then y else 1000000000000000) = (if 1000000000000000 < y then 1000000000000000 else y) := by split <;> split <;> omega
theorem f21 (l : List Smp) (hl : l.length ≤ 140737488355328) : evE Dg 21 [eSmps l] = some (.int .i64 (sumW (fun _ => true) l)) := by
  refine evE_intro (l.length + 1) D21 rfl ?_
  have H := loop_foldE (body := evCode (evE Dg) (l.length + 1) c21b0) (keep := [0, 3, 4]) (n0 := 0) (fuel := l.length + 1) l (S21 l) (addW (fun _ => true)) (fun _ x => 0 ≤ x ∧ x ≤ 1000000000000000)
    (by
      intro k a x ha hk hx
      refine ⟨addW_le _ hx, ?_⟩
      have h1 := wrap_i64 ((k : Int) + 1) (by omega) (by omega)
      have h25 := f27 a
      have hk' : (k : Int) < l.length := by omega
      unfold c21b0
      by_cases hi : inR a = true
      · obtain ⟨g1, g2⟩ := inR_wt hi
        have h2 := wrap_i64 (x + a.wt) (by omega) (by omega)
        rw [hi] at h25
        simp only [eSmp, eTx] at h25
        simp [evCode, evOps, evOne, evOp, evPur, evEff, evPur.chunks, fillP, AOp.isEff, AO.ev, putP, PV.cells, PV.leaf, getB, scal, binP, unP, minP, maxP, foldP, PV.lt, PV.lt.ltL, endP, expoAll, expo, expo.expoL, frIds, frIds.frIdsL, nodupN, kill, cls, clsFuel, resP, rowsOf, callP, unfr, unfr.unfrL, PV.noMem, PV.noMem.noMemL, optI, mapO, norm, forget, hasN, blksLt, List.set, S21, eSmps, eSmp, eTx, ha, hk', h25, h1, h2, addW, hi, min_swap]
      · have hi : inR a = false := by simpa using hi
        rw [hi] at h25
        simp only [eSmp, eTx] at h25
        simp [evCode, evOps, evOne, evOp, evPur, evEff, evPur.chunks, fillP, AOp.isEff, AO.ev, putP, PV.cells, PV.leaf, getB, scal, binP, unP, minP, maxP, foldP, PV.lt, PV.lt.ltL, endP, expoAll, expo, expo.expoL, frIds, frIds.frIdsL, nodupN, kill, cls, clsFuel, resP, rowsOf, callP, unfr, unfr.unfrL, PV.noMem, PV.noMem.noMemL, optI, mapO, norm, forget, hasN, blksLt, List.set, S21, eSmps, eSmp, eTx, ha, hk', h25, h1, addW, hi])
    (by
      intro x hx s
      unfold c21b0
      simp [evCode, evOps, evOne, evOp, evPur, evEff, evPur.chunks, fillP, AOp.isEff, AO.ev, putP, PV.cells, PV.leaf, getB, scal, binP, unP, minP, maxP, foldP, PV.lt, PV.lt.ltL, endP, expoAll, expo, expo.expoL, frIds, frIds.frIdsL, nodupN, kill, cls, clsFuel, resP, rowsOf, callP, unfr, unfr.unfrL, PV.noMem, PV.noMem.noMemL, optI, mapO, norm, forget, hasN, blksLt, List.set, S21, eSmps]) (by omega) 0 (by omega)
  unfold c21
  simp [evCode, evOps, evOne, evOp, evPur, evEff, evPur.chunks, fillP, AOp.isEff, AO.ev, putP, PV.cells, PV.leaf, getB, scal, binP, unP, minP, maxP, foldP, PV.lt, PV.lt.ltL, endP, expoAll, expo, expo.expoL, frIds, frIds.frIdsL, nodupN, kill, cls, clsFuel, resP, rowsOf, callP, unfr, unfr.unfrL, PV.noMem, PV.noMem.noMemL, optI, mapO, norm, forget, hasN, blksLt, List.set, eSmps]
  generalize hE : evLoop _ _ _ _ _ = E
  obtain ⟨h1, h2⟩ := H _ _ hE (by simp [evCode, evOps, evOne, evOp, evPur, evEff, evPur.chunks, fillP, AOp.isEff, AO.ev, putP, PV.cells, PV.leaf, getB, scal, binP, unP, minP, maxP, foldP, PV.lt, PV.lt.ltL, endP, expoAll, expo, expo.expoL, frIds, frIds.frIdsL, nodupN, kill, cls, clsFuel, resP, rowsOf, callP, unfr, unfr.unfrL, PV.noMem, PV.noMem.noMemL, optI, mapO, norm, forget, hasN, blksLt, List.set, S21, eSmps])
  rw [h1]
  unfold c21b0
  simp [evCode, evOps, evOne, evOp, evPur, evEff, evPur.chunks, fillP, AOp.isEff, AO.ev, putP, PV.cells, PV.leaf, getB, scal, binP, unP, minP, maxP, foldP, PV.lt, PV.lt.ltL, endP, expoAll, expo, expo.expoL, frIds, frIds.frIdsL, nodupN, kill, cls, clsFuel, resP, rowsOf, callP, unfr, unfr.unfrL, PV.noMem, PV.noMem.noMemL, optI, mapO, norm, forget, hasN, blksLt, List.set, S21, eSmps]
  rfl
end Go.Proofs.Ytgipbahlcnageaa
