/- Check, Same, Of. -/
import Derived.Test.YtgipbahlcnageaaPr7
namespace Go.Proofs.Ytgipbahlcnageaa
open Go Go.RowKit
set_option linter.unusedVariables false
set_option linter.unusedSimpArgs false

def early (l : List Smp) : Nat → Smp → Bool
  | 0, _ => false
  | j + 1, a => match l[j]? with | some b => decide (a.at_ < b.at_) | none => false
def errAt (l : List Smp) (k : Nat) (a : Smp) : Int := if inR a then (if framesE a.st = 0 then (if early l k a then 11 else 0) else framesE a.st) else 2
def chk (l : List Smp) : Int := firstF (errAt l) l 0

def S13 (l : List Smp) (k : Nat) : St := ⟨[eSmps l, .top, .top, .top, .top, .top, eSmps l, .int .i64 l.length, .int .i64 k] ++ List.replicate 27 .top, []⟩
theorem f13 (l : List Smp) (hl : l.length ≤ 140737488355328) : evE Dg 13 [eSmps l] = some (.int .i64 (chk l)) := by
  refine evE_intro (l.length + 1) D13 rfl ?_
  have H := loop_first (body := evCode (evE Dg) (l.length + 1) c13b0) (keep := [0, 6, 7, 8]) (n0 := 0) (fuel := l.length + 1) l (S13 l) (errAt l) (fun e t => t.sl[2]?.getD .top = .int .i64 e)
    (by
      intro k a ha hk hq
      have hk' : (k : Int) < l.length := by omega
      have h1 := wrap_i64 ((k : Int) + 1) (by omega) (by omega)
      have h25 := f25 a
      have h26 := f26 a.st
      unfold errAt at hq
      by_cases c1 : inR a = true
      · by_cases c2 : framesE a.st = 0
        · rw [c1] at h25
          rw [c2] at h26
          simp only [eSmp, eTx] at h25 h26
          simp only [c1, c2, if_true] at hq
          unfold c13b0
          by_cases k0 : k = 0
          · have k1 : ¬ (0 < k) := by omega
            simp [evCode, evOps, evOne, evOp, evPur, evEff, evPur.chunks, fillP, AOp.isEff, AO.ev, putP, PV.cells, PV.leaf, getB, scal, binP, unP, minP, maxP, foldP, PV.lt, PV.lt.ltL, endP, expoAll, expo, expo.expoL, frIds, frIds.frIdsL, nodupN, kill, cls, clsFuel, resP, rowsOf, callP, unfr, unfr.unfrL, PV.noMem, PV.noMem.noMemL, optI, mapO, norm, forget, hasN, blksLt, List.set, S13, eSmps, eSmp, eTx, ha, hk', h1, h25, h26, k1]
          · obtain ⟨j, hj⟩ : ∃ j, k = j + 1 := ⟨k - 1, by omega⟩
            obtain ⟨b, hb⟩ : ∃ b, l[j]? = some b := ⟨_, List.getElem?_eq_getElem (by omega)⟩
            have c3 : ¬ (a.at_ < b.at_) := by
              intro h
              simp [hj, early, hb, h] at hq
            have w : IntKind.i64.wrap ((k : Int) - 1) = (j : Int) := by rw [hj, wrap_i64 _ (by omega) (by omega)]; omega
            have k1 : 0 < k := by omega
            simp [evCode, evOps, evOne, evOp, evPur, evEff, evPur.chunks, fillP, AOp.isEff, AO.ev, putP, PV.cells, PV.leaf, getB, scal, binP, unP, minP, maxP, foldP, PV.lt, PV.lt.ltL, endP, expoAll, expo, expo.expoL, frIds, frIds.frIdsL, nodupN, kill, cls, clsFuel, resP, rowsOf, callP, unfr, unfr.unfrL, PV.noMem, PV.noMem.noMemL, optI, mapO, norm, forget, hasN, blksLt, List.set, S13, eSmps, eSmp, eTx, ha, hb, hk', h1, h25, h26, w, k1, c3]
        · simp [c1, c2] at hq
      · simp [c1] at hq)
    (by
      intro k a ha hk hq
      have hk' : (k : Int) < l.length := by omega
      have h25 := f25 a
      have h26 := f26 a.st
      unfold errAt at hq ⊢
      by_cases c1 : inR a = true
      · rw [c1] at h25
        by_cases c2 : framesE a.st = 0
        · rw [c2] at h26
          simp only [eSmp, eTx] at h25 h26
          simp only [c1, c2, if_true] at hq ⊢
          unfold c13b0
          by_cases k0 : k = 0
          · simp [k0, early] at hq
          · obtain ⟨j, hj⟩ : ∃ j, k = j + 1 := ⟨k - 1, by omega⟩
            obtain ⟨b, hb⟩ : ∃ b, l[j]? = some b := ⟨_, List.getElem?_eq_getElem (by omega)⟩
            have c3 : a.at_ < b.at_ := by
              apply Decidable.byContradiction
              intro h
              simp [hj, early, hb, h] at hq
            have w : IntKind.i64.wrap ((k : Int) - 1) = (j : Int) := by rw [hj, wrap_i64 _ (by omega) (by omega)]; omega
            have k1 : 0 < k := by omega
            have he : early l k a = true := by rw [hj]; simp [early, hb, c3]
            simp [evCode, evOps, evOne, evOp, evPur, evEff, evPur.chunks, fillP, AOp.isEff, AO.ev, putP, PV.cells, PV.leaf, getB, scal, binP, unP, minP, maxP, foldP, PV.lt, PV.lt.ltL, endP, expoAll, expo, expo.expoL, frIds, frIds.frIdsL, nodupN, kill, cls, clsFuel, resP, rowsOf, callP, unfr, unfr.unfrL, PV.noMem, PV.noMem.noMemL, optI, mapO, norm, forget, hasN, blksLt, List.set, S13, eSmps, eSmp, eTx, ha, hb, hk', h25, h26, w, k1, c3, he]
        · have c2' : (framesE a.st == 0) = false := by simpa using c2
          simp only [eSmp, eTx] at h25 h26
          unfold c13b0
          simp [evCode, evOps, evOne, evOp, evPur, evEff, evPur.chunks, fillP, AOp.isEff, AO.ev, putP, PV.cells, PV.leaf, getB, scal, binP, unP, minP, maxP, foldP, PV.lt, PV.lt.ltL, endP, expoAll, expo, expo.expoL, frIds, frIds.frIdsL, nodupN, kill, cls, clsFuel, resP, rowsOf, callP, unfr, unfr.unfrL, PV.noMem, PV.noMem.noMemL, optI, mapO, norm, forget, hasN, blksLt, List.set, S13, eSmps, eSmp, eTx, ha, hk', h25, h26, c1, c2, c2']
      · have c1 : inR a = false := by simpa using c1
        rw [c1] at h25
        simp only [eSmp, eTx] at h25
        unfold c13b0
        simp [evCode, evOps, evOne, evOp, evPur, evEff, evPur.chunks, fillP, AOp.isEff, AO.ev, putP, PV.cells, PV.leaf, getB, scal, binP, unP, minP, maxP, foldP, PV.lt, PV.lt.ltL, endP, expoAll, expo, expo.expoL, frIds, frIds.frIdsL, nodupN, kill, cls, clsFuel, resP, rowsOf, callP, unfr, unfr.unfrL, PV.noMem, PV.noMem.noMemL, optI, mapO, norm, forget, hasN, blksLt, List.set, S13, eSmps, eSmp, eTx, ha, hk', h25, c1])
    (by
      intro s
      unfold c13b0
      simp [evCode, evOps, evOne, evOp, evPur, evEff, evPur.chunks, fillP, AOp.isEff, AO.ev, putP, PV.cells, PV.leaf, getB, scal, binP, unP, minP, maxP, foldP, PV.lt, PV.lt.ltL, endP, expoAll, expo, expo.expoL, frIds, frIds.frIdsL, nodupN, kill, cls, clsFuel, resP, rowsOf, callP, unfr, unfr.unfrL, PV.noMem, PV.noMem.noMemL, optI, mapO, norm, forget, hasN, blksLt, List.set, S13, eSmps]) (by omega)
  unfold c13
  simp [evCode, evOps, evOne, evOp, evPur, evEff, evPur.chunks, fillP, AOp.isEff, AO.ev, putP, PV.cells, PV.leaf, getB, scal, binP, unP, minP, maxP, foldP, PV.lt, PV.lt.ltL, endP, expoAll, expo, expo.expoL, frIds, frIds.frIdsL, nodupN, kill, cls, clsFuel, resP, rowsOf, callP, unfr, unfr.unfrL, PV.noMem, PV.noMem.noMemL, optI, mapO, norm, forget, hasN, blksLt, List.set, eSmps]
  generalize hE : evLoop _ _ _ _ _ = E
  rcases H _ _ hE (by simp [evCode, evOps, evOne, evOp, evPur, evEff, evPur.chunks, fillP, AOp.isEff, AO.ev, putP, PV.cells, PV.leaf, getB, scal, binP, unP, minP, maxP, foldP, PV.lt, PV.lt.ltL, endP, expoAll, expo, expo.expoL, frIds, frIds.frIdsL, nodupN, kill, cls, clsFuel, resP, rowsOf, callP, unfr, unfr.unfrL, PV.noMem, PV.noMem.noMemL, optI, mapO, norm, forget, hasN, blksLt, List.set, S13, eSmps]) with ⟨g1, g2⟩ | ⟨g1, t, g2, g3⟩
  · rw [g2]
    unfold c13b0
    simp [evCode, evOps, evOne, evOp, evPur, evEff, evPur.chunks, fillP, AOp.isEff, AO.ev, putP, PV.cells, PV.leaf, getB, scal, binP, unP, minP, maxP, foldP, PV.lt, PV.lt.ltL, endP, expoAll, expo, expo.expoL, frIds, frIds.frIdsL, nodupN, kill, cls, clsFuel, resP, rowsOf, callP, unfr, unfr.unfrL, PV.noMem, PV.noMem.noMemL, optI, mapO, norm, forget, hasN, blksLt, List.set, S13, eSmps]
    exact g1.symm
  · rw [g2]
    simp [evCode, evOps, evOne, evOp, evPur, evEff, evPur.chunks, fillP, AOp.isEff, AO.ev, putP, PV.cells, PV.leaf, getB, scal, binP, unP, minP, maxP, foldP, PV.lt, PV.lt.ltL, endP, expoAll, expo, expo.expoL, frIds, frIds.frIdsL, nodupN, kill, cls, clsFuel, resP, rowsOf, callP, unfr, unfr.unfrL, PV.noMem, PV.noMem.noMemL, optI, mapO, norm, forget, hasN, blksLt, List.set, g3]
    rfl
def S15 (l : List Smp) (k : Nat) : St := ⟨[eSmps l, .top, .top, .int .i64 k] ++ List.replicate 38 .top, []⟩
theorem f15 (l : List Smp) (hl : l.length ≤ 140737488355328) : evE Dg 15 [eSmps l] = some (.int .i64 (chk l)) := by
  refine evE_intro (l.length + 1) D15 rfl ?_
  have H := loop_first (body := evCode (evE Dg) (l.length + 1) c15b0) (keep := [0, 3]) (n0 := 0) (fuel := l.length + 1) l (S15 l) (errAt l) (fun e t => t.sl[2]?.getD .top = .int .i64 e)
    (by
      intro k a ha hk hq
      have hk' : (k : Int) < l.length := by omega
      have h1 := wrap_i64 ((k : Int) + 1) (by omega) (by omega)
      have h25 := f27 a
      have h26 := f28 a.st
      unfold errAt at hq
      by_cases c1 : inR a = true
      · by_cases c2 : framesE a.st = 0
        · rw [c1] at h25
          rw [c2] at h26
          simp only [eSmp, eTx] at h25 h26
          simp only [c1, c2, if_true] at hq
          unfold c15b0
          by_cases k0 : k = 0
          · have k1 : ¬ (0 < k) := by omega
            simp [evCode, evOps, evOne, evOp, evPur, evEff, evPur.chunks, fillP, AOp.isEff, AO.ev, putP, PV.cells, PV.leaf, getB, scal, binP, unP, minP, maxP, foldP, PV.lt, PV.lt.ltL, endP, expoAll, expo, expo.expoL, frIds, frIds.frIdsL, nodupN, kill, cls, clsFuel, resP, rowsOf, callP, unfr, unfr.unfrL, PV.noMem, PV.noMem.noMemL, optI, mapO, norm, forget, hasN, blksLt, List.set, S15, eSmps, eSmp, eTx, ha, hk', h1, h25, h26, k1]
          · obtain ⟨j, hj⟩ : ∃ j, k = j + 1 := ⟨k - 1, by omega⟩
            obtain ⟨b, hb⟩ : ∃ b, l[j]? = some b := ⟨_, List.getElem?_eq_getElem (by omega)⟩
            have c3 : ¬ (a.at_ < b.at_) := by
              intro h
              simp [hj, early, hb, h] at hq
            have w : IntKind.i64.wrap ((k : Int) - 1) = (j : Int) := by rw [hj, wrap_i64 _ (by omega) (by omega)]; omega
            have k1 : 0 < k := by omega
            simp [evCode, evOps, evOne, evOp, evPur, evEff, evPur.chunks, fillP, AOp.isEff, AO.ev, putP, PV.cells, PV.leaf, getB, scal, binP, unP, minP, maxP, foldP, PV.lt, PV.lt.ltL, endP, expoAll, expo, expo.expoL, frIds, frIds.frIdsL, nodupN, kill, cls, clsFuel, resP, rowsOf, callP, unfr, unfr.unfrL, PV.noMem, PV.noMem.noMemL, optI, mapO, norm, forget, hasN, blksLt, List.set, S15, eSmps, eSmp, eTx, ha, hb, hk', h1, h25, h26, w, k1, c3]
        · simp [c1, c2] at hq
      · simp [c1] at hq)
    (by
      intro k a ha hk hq
      have hk' : (k : Int) < l.length := by omega
      have h25 := f27 a
      have h26 := f28 a.st
      unfold errAt at hq ⊢
      by_cases c1 : inR a = true
      · rw [c1] at h25
        by_cases c2 : framesE a.st = 0
        · rw [c2] at h26
          simp only [eSmp, eTx] at h25 h26
          simp only [c1, c2, if_true] at hq ⊢
          unfold c15b0
          by_cases k0 : k = 0
          · simp [k0, early] at hq
          · obtain ⟨j, hj⟩ : ∃ j, k = j + 1 := ⟨k - 1, by omega⟩
            obtain ⟨b, hb⟩ : ∃ b, l[j]? = some b := ⟨_, List.getElem?_eq_getElem (by omega)⟩
            have c3 : a.at_ < b.at_ := by
              apply Decidable.byContradiction
              intro h
              simp [hj, early, hb, h] at hq
            have w : IntKind.i64.wrap ((k : Int) - 1) = (j : Int) := by rw [hj, wrap_i64 _ (by omega) (by omega)]; omega
            have k1 : 0 < k := by omega
            have he : early l k a = true := by rw [hj]; simp [early, hb, c3]
            simp [evCode, evOps, evOne, evOp, evPur, evEff, evPur.chunks, fillP, AOp.isEff, AO.ev, putP, PV.cells, PV.leaf, getB, scal, binP, unP, minP, maxP, foldP, PV.lt, PV.lt.ltL, endP, expoAll, expo, expo.expoL, frIds, frIds.frIdsL, nodupN, kill, cls, clsFuel, resP, rowsOf, callP, unfr, unfr.unfrL, PV.noMem, PV.noMem.noMemL, optI, mapO, norm, forget, hasN, blksLt, List.set, S15, eSmps, eSmp, eTx, ha, hb, hk', h25, h26, w, k1, c3, he]
        · have c2' : (framesE a.st == 0) = false := by simpa using c2
          simp only [eSmp, eTx] at h25 h26
          unfold c15b0
          simp [evCode, evOps, evOne, evOp, evPur, evEff, evPur.chunks, fillP, AOp.isEff, AO.ev, putP, PV.cells, PV.leaf, getB, scal, binP, unP, minP, maxP, foldP, PV.lt, PV.lt.ltL, endP, expoAll, expo, expo.expoL, frIds, frIds.frIdsL, nodupN, kill, cls, clsFuel, resP, rowsOf, callP, unfr, unfr.unfrL, PV.noMem, PV.noMem.noMemL, optI, mapO, norm, forget, hasN, blksLt, List.set, S15, eSmps, eSmp, eTx, ha, hk', h25, h26, c1, c2, c2']
      · have c1 : inR a = false := by simpa using c1
        rw [c1] at h25
        simp only [eSmp, eTx] at h25
        unfold c15b0
        simp [evCode, evOps, evOne, evOp, evPur, evEff, evPur.chunks, fillP, AOp.isEff, AO.ev, putP, PV.cells, PV.leaf, getB, scal, binP, unP, minP, maxP, foldP, PV.lt, PV.lt.ltL, endP, expoAll, expo, expo.expoL, frIds, frIds.frIdsL, nodupN, kill, cls, clsFuel, resP, rowsOf, callP, unfr, unfr.unfrL, PV.noMem, PV.noMem.noMemL, optI, mapO, norm, forget, hasN, blksLt, List.set, S15, eSmps, eSmp, eTx, ha, hk', h25, c1])
    (by
      intro s
      unfold c15b0
      simp [evCode, evOps, evOne, evOp, evPur, evEff, evPur.chunks, fillP, AOp.isEff, AO.ev, putP, PV.cells, PV.leaf, getB, scal, binP, unP, minP, maxP, foldP, PV.lt, PV.lt.ltL, endP, expoAll, expo, expo.expoL, frIds, frIds.frIdsL, nodupN, kill, cls, clsFuel, resP, rowsOf, callP, unfr, unfr.unfrL, PV.noMem, PV.noMem.noMemL, optI, mapO, norm, forget, hasN, blksLt, List.set, S15, eSmps]) (by omega)
  unfold c15
  simp [evCode, evOps, evOne, evOp, evPur, evEff, evPur.chunks, fillP, AOp.isEff, AO.ev, putP, PV.cells, PV.leaf, getB, scal, binP, unP, minP, maxP, foldP, PV.lt, PV.lt.ltL, endP, expoAll, expo, expo.expoL, frIds, frIds.frIdsL, nodupN, kill, cls, clsFuel, resP, rowsOf, callP, unfr, unfr.unfrL, PV.noMem, PV.noMem.noMemL, optI, mapO, norm, forget, hasN, blksLt, List.set, eSmps]
  generalize hE : evLoop _ _ _ _ _ = E
  rcases H _ _ hE (by simp [evCode, evOps, evOne, evOp, evPur, evEff, evPur.chunks, fillP, AOp.isEff, AO.ev, putP, PV.cells, PV.leaf, getB, scal, binP, unP, minP, maxP, foldP, PV.lt, PV.lt.ltL, endP, expoAll, expo, expo.expoL, frIds, frIds.frIdsL, nodupN, kill, cls, clsFuel, resP, rowsOf, callP, unfr, unfr.unfrL, PV.noMem, PV.noMem.noMemL, optI, mapO, norm, forget, hasN, blksLt, List.set, S15, eSmps]) with ⟨g1, g2⟩ | ⟨g1, t, g2, g3⟩
  · rw [g2]
    unfold c15b0
    simp [evCode, evOps, evOne, evOp, evPur, evEff, evPur.chunks, fillP, AOp.isEff, AO.ev, putP, PV.cells, PV.leaf, getB, scal, binP, unP, minP, maxP, foldP, PV.lt, PV.lt.ltL, endP, expoAll, expo, expo.expoL, frIds, frIds.frIdsL, nodupN, kill, cls, clsFuel, resP, rowsOf, callP, unfr, unfr.unfrL, PV.noMem, PV.noMem.noMemL, optI, mapO, norm, forget, hasN, blksLt, List.set, S15, eSmps]
    exact g1.symm
  · rw [g2]
    simp [evCode, evOps, evOne, evOp, evPur, evEff, evPur.chunks, fillP, AOp.isEff, AO.ev, putP, PV.cells, PV.leaf, getB, scal, binP, unP, minP, maxP, foldP, PV.lt, PV.lt.ltL, endP, expoAll, expo, expo.expoL, frIds, frIds.frIdsL, nodupN, kill, cls, clsFuel, resP, rowsOf, callP, unfr, unfr.unfrL, PV.noMem, PV.noMem.noMemL, optI, mapO, norm, forget, hasN, blksLt, List.set, g3]
    rfl

def S22 (l : List (List UInt8)) (k : Nat) : St := ⟨[eTx l, eTx l, .top, .top, .top, .int .i64 k] ++ List.replicate 20 .top, []⟩
theorem f22 (l : List (List UInt8)) (hl : l.length ≤ 140737488355328) : evE Dg 22 [eTx l, eTx l] = some (.bool true) := by
  refine evE_intro (l.length + 1) D22 rfl ?_
  have H := loop_all (body := evCode (evE Dg) (l.length + 1) c22b0) (keep := [0, 1, 5]) (n0 := 0) (fuel := l.length + 1) l (S22 l) (fun _ => true) (fun _ => True)
    (by
      intro k a ha hk hq
      have hk' : (k : Int) < l.length := by omega
      have h1 := wrap_i64 ((k : Int) + 1) (by omega) (by omega)
      unfold c22b0
      simp [evCode, evOps, evOne, evOp, evPur, evEff, evPur.chunks, fillP, AOp.isEff, AO.ev, putP, PV.cells, PV.leaf, getB, scal, binP, unP, minP, maxP, foldP, PV.lt, PV.lt.ltL, endP, expoAll, expo, expo.expoL, frIds, frIds.frIdsL, nodupN, kill, cls, clsFuel, resP, rowsOf, callP, unfr, unfr.unfrL, PV.noMem, PV.noMem.noMemL, optI, mapO, norm, forget, hasN, blksLt, List.set, S22, eTx, ha, hk', h1])
    (by
      intro k a ha hk hq
      simp at hq)
    (by
      intro s
      unfold c22b0
      simp [evCode, evOps, evOne, evOp, evPur, evEff, evPur.chunks, fillP, AOp.isEff, AO.ev, putP, PV.cells, PV.leaf, getB, scal, binP, unP, minP, maxP, foldP, PV.lt, PV.lt.ltL, endP, expoAll, expo, expo.expoL, frIds, frIds.frIdsL, nodupN, kill, cls, clsFuel, resP, rowsOf, callP, unfr, unfr.unfrL, PV.noMem, PV.noMem.noMemL, optI, mapO, norm, forget, hasN, blksLt, List.set, S22, eTx]) (by omega)
  unfold c22
  simp [evCode, evOps, evOne, evOp, evPur, evEff, evPur.chunks, fillP, AOp.isEff, AO.ev, putP, PV.cells, PV.leaf, getB, scal, binP, unP, minP, maxP, foldP, PV.lt, PV.lt.ltL, endP, expoAll, expo, expo.expoL, frIds, frIds.frIdsL, nodupN, kill, cls, clsFuel, resP, rowsOf, callP, unfr, unfr.unfrL, PV.noMem, PV.noMem.noMemL, optI, mapO, norm, forget, hasN, blksLt, List.set, eTx]
  generalize hE : evLoop _ _ _ _ _ = E
  rcases H _ _ hE (by simp [evCode, evOps, evOne, evOp, evPur, evEff, evPur.chunks, fillP, AOp.isEff, AO.ev, putP, PV.cells, PV.leaf, getB, scal, binP, unP, minP, maxP, foldP, PV.lt, PV.lt.ltL, endP, expoAll, expo, expo.expoL, frIds, frIds.frIdsL, nodupN, kill, cls, clsFuel, resP, rowsOf, callP, unfr, unfr.unfrL, PV.noMem, PV.noMem.noMemL, optI, mapO, norm, forget, hasN, blksLt, List.set, S22, eTx]) with ⟨g1, g2⟩ | ⟨g1, t, g2, g3⟩
  · rw [g2]
    unfold c22b0
    simp [evCode, evOps, evOne, evOp, evPur, evEff, evPur.chunks, fillP, AOp.isEff, AO.ev, putP, PV.cells, PV.leaf, getB, scal, binP, unP, minP, maxP, foldP, PV.lt, PV.lt.ltL, endP, expoAll, expo, expo.expoL, frIds, frIds.frIdsL, nodupN, kill, cls, clsFuel, resP, rowsOf, callP, unfr, unfr.unfrL, PV.noMem, PV.noMem.noMemL, optI, mapO, norm, forget, hasN, blksLt, List.set, S22, eTx]
  · simp at g1

def S10 (l : List Smp) (k : Nat) : St := ⟨[eSmps l, eSmps l, .top, .top, .top, .int .i64 k] ++ List.replicate 62 .top, []⟩
theorem f10 (l : List Smp) (hl : l.length ≤ 140737488355328) (hs : ∀ s ∈ l, s.st.length ≤ 140737488355328) : evE Dg 10 [eSmps l, eSmps l] = some (.bool true) := by
  refine evE_intro (l.length + 1) D10 rfl ?_
  have H := loop_all (body := evCode (evE Dg) (l.length + 1) c10b0) (keep := [0, 1, 5]) (n0 := 0) (fuel := l.length + 1) l (S10 l) (fun _ => true) (fun _ => True)
    (by
      intro k a ha hk hq
      have hk' : (k : Int) < l.length := by omega
      have h1 := wrap_i64 ((k : Int) + 1) (by omega) (by omega)
      have h22 := f22 a.st (hs a (List.mem_of_getElem? ha))
      simp only [eTx] at h22
      unfold c10b0
      simp [evCode, evOps, evOne, evOp, evPur, evEff, evPur.chunks, fillP, AOp.isEff, AO.ev, putP, PV.cells, PV.leaf, getB, scal, binP, unP, minP, maxP, foldP, PV.lt, PV.lt.ltL, endP, expoAll, expo, expo.expoL, frIds, frIds.frIdsL, nodupN, kill, cls, clsFuel, resP, rowsOf, callP, unfr, unfr.unfrL, PV.noMem, PV.noMem.noMemL, optI, mapO, norm, forget, hasN, blksLt, List.set, S10, eSmps, eSmp, eTx, ha, hk', h1, h22])
    (by
      intro k a ha hk hq
      simp at hq)
    (by
      intro s
      unfold c10b0
      simp [evCode, evOps, evOne, evOp, evPur, evEff, evPur.chunks, fillP, AOp.isEff, AO.ev, putP, PV.cells, PV.leaf, getB, scal, binP, unP, minP, maxP, foldP, PV.lt, PV.lt.ltL, endP, expoAll, expo, expo.expoL, frIds, frIds.frIdsL, nodupN, kill, cls, clsFuel, resP, rowsOf, callP, unfr, unfr.unfrL, PV.noMem, PV.noMem.noMemL, optI, mapO, norm, forget, hasN, blksLt, List.set, S10, eSmps]) (by omega)
  unfold c10
  simp [evCode, evOps, evOne, evOp, evPur, evEff, evPur.chunks, fillP, AOp.isEff, AO.ev, putP, PV.cells, PV.leaf, getB, scal, binP, unP, minP, maxP, foldP, PV.lt, PV.lt.ltL, endP, expoAll, expo, expo.expoL, frIds, frIds.frIdsL, nodupN, kill, cls, clsFuel, resP, rowsOf, callP, unfr, unfr.unfrL, PV.noMem, PV.noMem.noMemL, optI, mapO, norm, forget, hasN, blksLt, List.set, eSmps]
  generalize hE : evLoop _ _ _ _ _ = E
  rcases H _ _ hE (by simp [evCode, evOps, evOne, evOp, evPur, evEff, evPur.chunks, fillP, AOp.isEff, AO.ev, putP, PV.cells, PV.leaf, getB, scal, binP, unP, minP, maxP, foldP, PV.lt, PV.lt.ltL, endP, expoAll, expo, expo.expoL, frIds, frIds.frIdsL, nodupN, kill, cls, clsFuel, resP, rowsOf, callP, unfr, unfr.unfrL, PV.noMem, PV.noMem.noMemL, optI, mapO, norm, forget, hasN, blksLt, List.set, S10, eSmps]) with ⟨g1, g2⟩ | ⟨g1, t, g2, g3⟩
  · rw [g2]
    unfold c10b0
    simp [evCode, evOps, evOne, evOp, evPur, evEff, evPur.chunks, fillP, AOp.isEff, AO.ev, putP, PV.cells, PV.leaf, getB, scal, binP, unP, minP, maxP, foldP, PV.lt, PV.lt.ltL, endP, expoAll, expo, expo.expoL, frIds, frIds.frIdsL, nodupN, kill, cls, clsFuel, resP, rowsOf, callP, unfr, unfr.unfrL, PV.noMem, PV.noMem.noMemL, optI, mapO, norm, forget, hasN, blksLt, List.set, S10, eSmps]
  · simp at g1

/-- an event with its place and its time -/
structure Tmd where
  th : Int
  sr : Int
  ev : Evt
  lo : Int
  hi : Int
def eTmd (x : Tmd) : List PV := [.int .i64 x.th, .int .i64 x.sr, .int .i64 x.ev.at_, .int .i64 x.ev.kind, .str x.ev.name, .int .i64 x.ev.n, .int .i64 x.ev.m, eTx x.ev.st, .int .i64 x.lo, .int .i64 x.hi]
def eTmds (l : List Tmd) : PV := .sl false 10 (l.map eTmd)
def timeT (x : Tmd) : Int := if 1000000000000 < (if x.lo < 0 then 0 else x.lo) then 1000000000000 else (if x.lo < 0 then 0 else x.lo)
def smpT (x : Tmd) : Smp := ⟨x.th, timeT x, x.ev.n, x.ev.st⟩
def addT (x : List Smp) (a : Tmd) : List Smp := if a.ev.kind = 5 then x ++ [smpT a] else x
def ofT (l : List Tmd) : List Smp := l.foldl addT []

theorem f23 (x : Tmd) : evE Dg 23 [.agg (eTmd x)] = some (.int .i64 (timeT x)) := by
  refine evE_intro 1 D23 rfl ?_
  unfold c23
  simp [evCode, evOps, evOne, evOp, evPur, evEff, evPur.chunks, fillP, AOp.isEff, AO.ev, putP, PV.cells, PV.leaf, getB, scal, binP, unP, minP, maxP, foldP, PV.lt, PV.lt.ltL, endP, expoAll, expo, expo.expoL, frIds, frIds.frIdsL, nodupN, kill, cls, clsFuel, resP, rowsOf, callP, unfr, unfr.unfrL, PV.noMem, PV.noMem.noMemL, optI, mapO, norm, forget, hasN, blksLt, List.set, eTmd, eTx]
  unfold timeT
  repeat' split
  all_goals omega
theorem f24 (x : Tmd) : evE Dg 24 [.agg (eTmd x)] = some (.int .i64 (timeT x)) := by
  refine evE_intro 1 D24 rfl ?_
  unfold c24
  simp [evCode, evOps, evOne, evOp, evPur, evEff, evPur.chunks, fillP, AOp.isEff, AO.ev, putP, PV.cells, PV.leaf, getB, scal, binP, unP, minP, maxP, foldP, PV.lt, PV.lt.ltL, endP, expoAll, expo, expo.expoL, frIds, frIds.frIdsL, nodupN, kill, cls, clsFuel, resP, rowsOf, callP, unfr, unfr.unfrL, PV.noMem, PV.noMem.noMemL, optI, mapO, norm, forget, hasN, blksLt, List.set, eTmd, eTx]
  unfold timeT
  repeat' split
  all_goals omega

def S11 (l : List Tmd) (k : Nat) (x : List Smp) : St := ⟨[.top, .top, .top, .own 1 x.length 0 x.length, .top, .top, eTmds l, .int .i64 l.length, .int .i64 k] ++ List.replicate 24 .top,
  [some ⟨0, 4, true, []⟩, some ⟨x.length, 4, true, x.map eSmp⟩]⟩
theorem f11 (l : List Tmd) (hl : l.length ≤ 1000) : evE Dg 11 [eTmds l] = some (.fr 4 ((ofT l).map eSmp)) := by
  refine evE_intro (l.length + 1) D11 rfl ?_
  have H := loop_foldE (body := evCode (evE Dg) (l.length + 1) c11b0) (keep := [3, 6, 7, 8]) (n0 := 2) (fuel := l.length + 1) l (S11 l) addT (fun k x => x.length ≤ k)
    (by
      intro k a x ha hk hx
      have h1 := wrap_i64 ((k : Int) + 1) (by omega) (by omega)
      have hk' : (k : Int) < l.length := by omega
      have h23 := f23 a
      simp only [eTmd, eTx] at h23
      have h4 : (x.length + 1) * 48 ≤ 140737488355328 := by omega
      have h5 : x.length + 1 ≤ 140737488355328 := by omega
      unfold c11b0
      by_cases h2 : a.ev.kind = 5
      · refine ⟨by simp [addT, h2]; omega, ?_⟩
        rw [h2] at h23
        simp [evCode, evOps, evOne, evOp, evPur, evEff, evPur.chunks, fillP, AOp.isEff, AO.ev, putP, PV.cells, PV.leaf, getB, scal, binP, unP, minP, maxP, foldP, PV.lt, PV.lt.ltL, endP, expoAll, expo, expo.expoL, frIds, frIds.frIdsL, nodupN, kill, cls, clsFuel, resP, rowsOf, callP, unfr, unfr.unfrL, PV.noMem, PV.noMem.noMemL, optI, mapO, norm, forget, hasN, blksLt, List.set, S11, eTmds, eTmd, eSmp, smpT, eTx, ha, hk', h1, h2, h4, h5, h23, addT]
      · refine ⟨by simp [addT, h2]; omega, ?_⟩
        simp [evCode, evOps, evOne, evOp, evPur, evEff, evPur.chunks, fillP, AOp.isEff, AO.ev, putP, PV.cells, PV.leaf, getB, scal, binP, unP, minP, maxP, foldP, PV.lt, PV.lt.ltL, endP, expoAll, expo, expo.expoL, frIds, frIds.frIdsL, nodupN, kill, cls, clsFuel, resP, rowsOf, callP, unfr, unfr.unfrL, PV.noMem, PV.noMem.noMemL, optI, mapO, norm, forget, hasN, blksLt, List.set, S11, eTmds, eTmd, eSmp, smpT, eTx, ha, hk', h1, h2, addT])
    (by
      intro x hx s
      unfold c11b0
      simp [evCode, evOps, evOne, evOp, evPur, evEff, evPur.chunks, fillP, AOp.isEff, AO.ev, putP, PV.cells, PV.leaf, getB, scal, binP, unP, minP, maxP, foldP, PV.lt, PV.lt.ltL, endP, expoAll, expo, expo.expoL, frIds, frIds.frIdsL, nodupN, kill, cls, clsFuel, resP, rowsOf, callP, unfr, unfr.unfrL, PV.noMem, PV.noMem.noMemL, optI, mapO, norm, forget, hasN, blksLt, List.set, S11, eTmds]) (by omega) [] (by simp)
  unfold c11
  simp [evCode, evOps, evOne, evOp, evPur, evEff, evPur.chunks, fillP, AOp.isEff, AO.ev, putP, PV.cells, PV.leaf, getB, scal, binP, unP, minP, maxP, foldP, PV.lt, PV.lt.ltL, endP, expoAll, expo, expo.expoL, frIds, frIds.frIdsL, nodupN, kill, cls, clsFuel, resP, rowsOf, callP, unfr, unfr.unfrL, PV.noMem, PV.noMem.noMemL, optI, mapO, norm, forget, hasN, blksLt, List.set, eTmds]
  generalize hE : evLoop _ _ _ _ _ = E
  obtain ⟨h1, h2⟩ := H _ _ hE (by simp [evCode, evOps, evOne, evOp, evPur, evEff, evPur.chunks, fillP, AOp.isEff, AO.ev, putP, PV.cells, PV.leaf, getB, scal, binP, unP, minP, maxP, foldP, PV.lt, PV.lt.ltL, endP, expoAll, expo, expo.expoL, frIds, frIds.frIdsL, nodupN, kill, cls, clsFuel, resP, rowsOf, callP, unfr, unfr.unfrL, PV.noMem, PV.noMem.noMemL, optI, mapO, norm, forget, hasN, blksLt, List.set, S11, eTmds])
  rw [h1]
  rw [show l.foldl addT [] = ofT l from rfl]
  unfold c11b0
  simp [evCode, evOps, evOne, evOp, evPur, evEff, evPur.chunks, fillP, AOp.isEff, AO.ev, putP, PV.cells, PV.leaf, getB, scal, binP, unP, minP, maxP, foldP, PV.lt, PV.lt.ltL, endP, expoAll, expo, expo.expoL, frIds, frIds.frIdsL, nodupN, kill, cls, clsFuel, resP, rowsOf, callP, unfr, unfr.unfrL, PV.noMem, PV.noMem.noMemL, optI, mapO, norm, forget, hasN, blksLt, List.set, S11, eTmds]

def S12 (l : List Tmd) (k : Nat) (x : List Smp) : St := ⟨[eTmds l, .top, .top, .own 1 x.length 0 x.length, .int .i64 k] ++ List.replicate 41 .top,
  [some ⟨0, 4, true, []⟩, some ⟨x.length, 4, true, x.map eSmp⟩]⟩
theorem f12 (l : List Tmd) (hl : l.length ≤ 1000) : evE Dg 12 [eTmds l] = some (.fr 4 ((ofT l).map eSmp)) := by
  refine evE_intro (l.length + 1) D12 rfl ?_
  have H := loop_foldE (body := evCode (evE Dg) (l.length + 1) c12b0) (keep := [0, 3, 4]) (n0 := 2) (fuel := l.length + 1) l (S12 l) addT (fun k x => x.length ≤ k)
    (by
      intro k a x ha hk hx
      have h1 := wrap_i64 ((k : Int) + 1) (by omega) (by omega)
      have hk' : (k : Int) < l.length := by omega
      have h23 := f24 a
      simp only [eTmd, eTx] at h23
      have h4 : (x.length + 1) * 48 ≤ 140737488355328 := by omega
      have h5 : x.length + 1 ≤ 140737488355328 := by omega
      unfold c12b0
      by_cases h2 : a.ev.kind = 5
      · refine ⟨by simp [addT, h2]; omega, ?_⟩
        rw [h2] at h23
        simp [evCode, evOps, evOne, evOp, evPur, evEff, evPur.chunks, fillP, AOp.isEff, AO.ev, putP, PV.cells, PV.leaf, getB, scal, binP, unP, minP, maxP, foldP, PV.lt, PV.lt.ltL, endP, expoAll, expo, expo.expoL, frIds, frIds.frIdsL, nodupN, kill, cls, clsFuel, resP, rowsOf, callP, unfr, unfr.unfrL, PV.noMem, PV.noMem.noMemL, optI, mapO, norm, forget, hasN, blksLt, List.set, S12, eTmds, eTmd, eSmp, smpT, eTx, ha, hk', h1, h2, h4, h5, h23, addT]
      · refine ⟨by simp [addT, h2]; omega, ?_⟩
        simp [evCode, evOps, evOne, evOp, evPur, evEff, evPur.chunks, fillP, AOp.isEff, AO.ev, putP, PV.cells, PV.leaf, getB, scal, binP, unP, minP, maxP, foldP, PV.lt, PV.lt.ltL, endP, expoAll, expo, expo.expoL, frIds, frIds.frIdsL, nodupN, kill, cls, clsFuel, resP, rowsOf, callP, unfr, unfr.unfrL, PV.noMem, PV.noMem.noMemL, optI, mapO, norm, forget, hasN, blksLt, List.set, S12, eTmds, eTmd, eSmp, smpT, eTx, ha, hk', h1, h2, addT])
    (by
      intro x hx s
      unfold c12b0
      simp [evCode, evOps, evOne, evOp, evPur, evEff, evPur.chunks, fillP, AOp.isEff, AO.ev, putP, PV.cells, PV.leaf, getB, scal, binP, unP, minP, maxP, foldP, PV.lt, PV.lt.ltL, endP, expoAll, expo, expo.expoL, frIds, frIds.frIdsL, nodupN, kill, cls, clsFuel, resP, rowsOf, callP, unfr, unfr.unfrL, PV.noMem, PV.noMem.noMemL, optI, mapO, norm, forget, hasN, blksLt, List.set, S12, eTmds]) (by omega) [] (by simp)
  unfold c12
  simp [evCode, evOps, evOne, evOp, evPur, evEff, evPur.chunks, fillP, AOp.isEff, AO.ev, putP, PV.cells, PV.leaf, getB, scal, binP, unP, minP, maxP, foldP, PV.lt, PV.lt.ltL, endP, expoAll, expo, expo.expoL, frIds, frIds.frIdsL, nodupN, kill, cls, clsFuel, resP, rowsOf, callP, unfr, unfr.unfrL, PV.noMem, PV.noMem.noMemL, optI, mapO, norm, forget, hasN, blksLt, List.set, eTmds]
  generalize hE : evLoop _ _ _ _ _ = E
  obtain ⟨h1, h2⟩ := H _ _ hE (by simp [evCode, evOps, evOne, evOp, evPur, evEff, evPur.chunks, fillP, AOp.isEff, AO.ev, putP, PV.cells, PV.leaf, getB, scal, binP, unP, minP, maxP, foldP, PV.lt, PV.lt.ltL, endP, expoAll, expo, expo.expoL, frIds, frIds.frIdsL, nodupN, kill, cls, clsFuel, resP, rowsOf, callP, unfr, unfr.unfrL, PV.noMem, PV.noMem.noMemL, optI, mapO, norm, forget, hasN, blksLt, List.set, S12, eTmds])
  rw [h1]
  rw [show l.foldl addT [] = ofT l from rfl]
  unfold c12b0
  simp [evCode, evOps, evOne, evOp, evPur, evEff, evPur.chunks, fillP, AOp.isEff, AO.ev, putP, PV.cells, PV.leaf, getB, scal, binP, unP, minP, maxP, foldP, PV.lt, PV.lt.ltL, endP, expoAll, expo, expo.expoL, frIds, frIds.frIdsL, nodupN, kill, cls, clsFuel, resP, rowsOf, callP, unfr, unfr.unfrL, PV.noMem, PV.noMem.noMemL, optI, mapO, norm, forget, hasN, blksLt, List.set, S12, eTmds]
end Go.Proofs.Ytgipbahlcnageaa
