/- heapdump: references of both. -/
import Derived.Test.YtdbfbaiopmpklaaDoorHdA
namespace Go.Proofs.YtdbfbaiopmpklaaDoor
open Go Go.RowKit
set_option linter.unusedVariables false
set_option linter.unusedSimpArgs false
set_option maxHeartbeats 4000000

def prevLe (R : List Int) (k : Nat) (z : Int) : Bool := match k with
  | 0 => false
  | j + 1 => match R[j]? with
    | some p => decide (z ≤ p)
    | none => false
def refF (ids : List Int) (R : List Int) (k : Nat) (z : Int) : Int := if z ∈ ids then (if prevLe R k z = true then 11 else 0) else 5
def refE (ids : List Int) (R : List Int) : Int := firstF (refF ids R) R 0
def idsO (l : List Ob) : List Int := l.map (·.1)
theorem idx_none {l : List Ob} {id : Int} : idx l id = none ↔ ¬ id ∈ idsO l := by
  unfold idx idsO
  rw [List.findIdx?_eq_none_iff]
  simp only [List.mem_map, decide_eq_false_iff_not]
  constructor
  · rintro h ⟨o, ho, rfl⟩
    exact h o ho rfl
  · intro h o ho he
    exact h ⟨o, ho, he⟩
theorem idx_mem {l : List Ob} {id : Int} (h : id ∈ idsO l) : ∃ j, idx l id = some j := by
  cases hi : idx l id with
  | none => exact absurd h (idx_none.1 hi)
  | some j => exact ⟨j, rfl⟩
def S24 (l : List Ob) (r R : List Int) (k : Nat) : St := ⟨[.top, eI R, .ptr 0 1 0 0, .top, .top, .int .i64 k] ++ List.replicate 33 .top, [some ⟨1, 2, true, [[.sl false 4 (oR l), eI r]]⟩]⟩
theorem f24 (l : List Ob) (r R : List Int) (hl : l.length ≤ 100000) (hR : R.length ≤ 9223372036854775807) : evE Dg 24 [eH l r, eI R] = some (.int .i64 (refE (idsO l) R)) := by
  have e1 := iR_len R
  have H := loop_first (body := evCode (evC Dg) (R.length + 1) c24b0) (keep := [1, 2, 5]) (n0 := 1) (fuel := R.length + 1) R (S24 l r R) (refF (idsO l) R) (fun e t => t.sl[4]?.getD .top = .int .i64 e)
    (by
      rintro k z hz hk hq
      have r1 := iR_get hz
      have g1 := iR_got hz
      have h11 := f11 l r z hl
      unfold refF at hq
      have hm : z ∈ idsO l := by
        apply Decidable.byContradiction
        intro hn
        rw [if_neg hn] at hq
        cases hq
      obtain ⟨j, hj⟩ := idx_mem hm
      rw [if_pos hm] at hq
      simp only [fres, hj, eH, eI] at h11
      have hk' : (k : Int) < R.length := by omega
      have w1 := wrap_i64 ((k : Int) + 1) (by omega) (by omega)
      cases k with
      | zero =>
        have w3 : IntKind.i64.wrap 1 = 1 := rfl
        unfold c24b0
        simp [evCode, evOps, evOne, evOp, evPur, evEff, evPur.chunks, fillP, AOp.isEff, AO.ev, putP, PV.cells, PV.leaf, getB, getM, mapE, iterE, keyC, mapRows, mfind, eq1, eqL, scal, binP, unP, minP, maxP, foldP, PV.lt, PV.lt.ltL, endP, expoAll, expoG, expo, expo.expoL, frIds, frIds.frIdsL, nodupN, kill, cls, clsFuel, resO, RV.get, loadP, evC_p, evC_s, endS, endT, rowsOf, callP, thinL, unfr, unfr.unfrL, PV.noMem, PV.noMem.noMemL, optI, mapO, norm, trimT, trimB, forget, hasN, blksLt, List.set, softChk, softGo, softRd, effTg, tgOf, chgN, sameB, PV.same, PV.same.sameL, PV.same.sameLL, rdP, S24, eI, e1, r1, g1, hk', hk, w1, w3, h11]
      | succ n =>
        have hn : n < R.length := by omega
        have hp := List.getElem?_eq_getElem hn
        generalize hpp : R[n] = p at hp
        have r2 := iR_get hp
        have g2 := iR_got hp
        have k0 : (0 : Int) < ((n + 1 : Nat) : Int) := by omega
        have w2 : IntKind.i64.wrap (((n + 1 : Nat) : Int) - 1) = (n : Int) := by rw [wrap_i64 _ (by omega) (by omega)]; omega
        have hle : ¬ z ≤ p := by
          intro hle
          rw [if_pos (by simp [prevLe, hp, hle])] at hq
          cases hq
        generalize hK : ((n + 1 : Nat) : Int) = K at *
        have hKN : K.toNat = n + 1 := by omega
        have K0 : (0 : Int) ≤ K := by omega
        unfold c24b0
        simp [evCode, evOps, evOne, evOp, evPur, evEff, evPur.chunks, fillP, AOp.isEff, AO.ev, putP, PV.cells, PV.leaf, getB, getM, mapE, iterE, keyC, mapRows, mfind, eq1, eqL, scal, binP, unP, minP, maxP, foldP, PV.lt, PV.lt.ltL, endP, expoAll, expoG, expo, expo.expoL, frIds, frIds.frIdsL, nodupN, kill, cls, clsFuel, resO, RV.get, loadP, evC_p, evC_s, endS, endT, rowsOf, callP, thinL, unfr, unfr.unfrL, PV.noMem, PV.noMem.noMemL, optI, mapO, norm, trimT, trimB, forget, hasN, blksLt, List.set, softChk, softGo, softRd, effTg, tgOf, chgN, sameB, PV.same, PV.same.sameL, PV.same.sameLL, rdP, S24, eI, e1, r1, g1, r2, g2, hk', hk, w1, w2, k0, K0, hKN, h11, hle, hn, hK])
    (by
      rintro k z hz hk hq
      have r1 := iR_get hz
      have g1 := iR_got hz
      have h11 := f11 l r z hl
      have hk' : (k : Int) < R.length := by omega
      have w1 := wrap_i64 ((k : Int) + 1) (by omega) (by omega)
      unfold refF at hq ⊢
      by_cases hm : z ∈ idsO l
      · obtain ⟨j, hj⟩ := idx_mem hm
        rw [if_pos hm] at hq ⊢
        simp only [fres, hj, eH, eI] at h11
        cases k with
        | zero => simp [prevLe] at hq
        | succ n =>
          have hn : n < R.length := by omega
          have hp := List.getElem?_eq_getElem hn
          generalize hpp : R[n] = p at hp
          have r2 := iR_get hp
          have g2 := iR_got hp
          have k0 : (0 : Int) < ((n + 1 : Nat) : Int) := by omega
          have w2 : IntKind.i64.wrap (((n + 1 : Nat) : Int) - 1) = (n : Int) := by rw [wrap_i64 _ (by omega) (by omega)]; omega
          have hle : z ≤ p := by
            apply Decidable.byContradiction
            intro hle
            rw [if_neg (by simp [prevLe, hp, hle])] at hq
            exact hq rfl
          rw [if_pos (by simp [prevLe, hp, hle])]
          generalize hK : ((n + 1 : Nat) : Int) = K at *
          have hKN : K.toNat = n + 1 := by omega
          have K0 : (0 : Int) ≤ K := by omega
          unfold c24b0
          simp [evCode, evOps, evOne, evOp, evPur, evEff, evPur.chunks, fillP, AOp.isEff, AO.ev, putP, PV.cells, PV.leaf, getB, getM, mapE, iterE, keyC, mapRows, mfind, eq1, eqL, scal, binP, unP, minP, maxP, foldP, PV.lt, PV.lt.ltL, endP, expoAll, expoG, expo, expo.expoL, frIds, frIds.frIdsL, nodupN, kill, cls, clsFuel, resO, RV.get, loadP, evC_p, evC_s, endS, endT, rowsOf, callP, thinL, unfr, unfr.unfrL, PV.noMem, PV.noMem.noMemL, optI, mapO, norm, trimT, trimB, forget, hasN, blksLt, List.set, softChk, softGo, softRd, effTg, tgOf, chgN, sameB, PV.same, PV.same.sameL, PV.same.sameLL, rdP, S24, eI, e1, r1, g1, r2, g2, hk', hk, w2, k0, K0, hKN, h11, hle, hn, hK]
      · rw [if_neg hm]
        have hj := idx_none.2 hm
        simp only [fres, hj, eH, eI] at h11
        unfold c24b0
        simp [evCode, evOps, evOne, evOp, evPur, evEff, evPur.chunks, fillP, AOp.isEff, AO.ev, putP, PV.cells, PV.leaf, getB, getM, mapE, iterE, keyC, mapRows, mfind, eq1, eqL, scal, binP, unP, minP, maxP, foldP, PV.lt, PV.lt.ltL, endP, expoAll, expoG, expo, expo.expoL, frIds, frIds.frIdsL, nodupN, kill, cls, clsFuel, resO, RV.get, loadP, evC_p, evC_s, endS, endT, rowsOf, callP, thinL, unfr, unfr.unfrL, PV.noMem, PV.noMem.noMemL, optI, mapO, norm, trimT, trimB, forget, hasN, blksLt, List.set, softChk, softGo, softRd, effTg, tgOf, chgN, sameB, PV.same, PV.same.sameL, PV.same.sameLL, rdP, S24, eI, e1, r1, g1, hk', hk, h11])
    (by
      intro s
      unfold c24b0
      simp [evCode, evOps, evOne, evOp, evPur, evEff, evPur.chunks, fillP, AOp.isEff, AO.ev, putP, PV.cells, PV.leaf, getB, getM, mapE, iterE, keyC, mapRows, mfind, eq1, eqL, scal, binP, unP, minP, maxP, foldP, PV.lt, PV.lt.ltL, endP, expoAll, expoG, expo, expo.expoL, frIds, frIds.frIdsL, nodupN, kill, cls, clsFuel, resO, RV.get, loadP, evC_p, evC_s, endS, endT, rowsOf, callP, thinL, unfr, unfr.unfrL, PV.noMem, PV.noMem.noMemL, optI, mapO, norm, trimT, trimB, forget, hasN, blksLt, List.set, softChk, softGo, softRd, effTg, tgOf, chgN, sameB, PV.same, PV.same.sameL, PV.same.sameLL, rdP, S24, eI, e1])
    (by omega)
  refine evE_intro (R.length + 1) D24 rfl ?_
  unfold c24
  simp [evCode, evOps, evOne, evOp, evPur, evEff, evPur.chunks, fillP, AOp.isEff, AO.ev, putP, PV.cells, PV.leaf, getB, getM, mapE, iterE, keyC, mapRows, mfind, eq1, eqL, scal, binP, unP, minP, maxP, foldP, PV.lt, PV.lt.ltL, endP, expoAll, expoG, expo, expo.expoL, frIds, frIds.frIdsL, nodupN, kill, cls, clsFuel, resO, RV.get, loadP, evC_p, evC_s, endS, endT, rowsOf, callP, thinL, unfr, unfr.unfrL, PV.noMem, PV.noMem.noMemL, optI, mapO, norm, trimT, trimB, forget, hasN, blksLt, List.set, softChk, softGo, softRd, effTg, tgOf, chgN, sameB, PV.same, PV.same.sameL, PV.same.sameLL, rdP, eH, eI, e1]
  generalize hE : evLoop _ _ _ _ _ = E
  unfold refE
  rcases H _ _ hE (by simp [evCode, evOps, evOne, evOp, evPur, evEff, evPur.chunks, fillP, AOp.isEff, AO.ev, putP, PV.cells, PV.leaf, getB, getM, mapE, iterE, keyC, mapRows, mfind, eq1, eqL, scal, binP, unP, minP, maxP, foldP, PV.lt, PV.lt.ltL, endP, expoAll, expoG, expo, expo.expoL, frIds, frIds.frIdsL, nodupN, kill, cls, clsFuel, resO, RV.get, loadP, evC_p, evC_s, endS, endT, rowsOf, callP, thinL, unfr, unfr.unfrL, PV.noMem, PV.noMem.noMemL, optI, mapO, norm, trimT, trimB, forget, hasN, blksLt, List.set, softChk, softGo, softRd, effTg, tgOf, chgN, sameB, PV.same, PV.same.sameL, PV.same.sameLL, rdP, S24, eI, e1]) with ⟨q1, q2⟩ | ⟨q1, s, q2, q3⟩
  · rw [q2, q1]
    unfold c24b0
    simp [evCode, evOps, evOne, evOp, evPur, evEff, evPur.chunks, fillP, AOp.isEff, AO.ev, putP, PV.cells, PV.leaf, getB, getM, mapE, iterE, keyC, mapRows, mfind, eq1, eqL, scal, binP, unP, minP, maxP, foldP, PV.lt, PV.lt.ltL, endP, expoAll, expoG, expo, expo.expoL, frIds, frIds.frIdsL, nodupN, kill, cls, clsFuel, resO, RV.get, loadP, evC_p, evC_s, endS, endT, rowsOf, callP, thinL, unfr, unfr.unfrL, PV.noMem, PV.noMem.noMemL, optI, mapO, norm, trimT, trimB, forget, hasN, blksLt, List.set, softChk, softGo, softRd, effTg, tgOf, chgN, sameB, PV.same, PV.same.sameL, PV.same.sameLL, rdP, S24, eI, e1]
  · rw [q2]
    simp [evCode, evOps, evOne, evOp, evPur, evEff, evPur.chunks, fillP, AOp.isEff, AO.ev, putP, PV.cells, PV.leaf, getB, getM, mapE, iterE, keyC, mapRows, mfind, eq1, eqL, scal, binP, unP, minP, maxP, foldP, PV.lt, PV.lt.ltL, endP, expoAll, expoG, expo, expo.expoL, frIds, frIds.frIdsL, nodupN, kill, cls, clsFuel, resO, RV.get, loadP, evC_p, evC_s, endS, endT, rowsOf, callP, thinL, unfr, unfr.unfrL, PV.noMem, PV.noMem.noMemL, optI, mapO, norm, trimT, trimB, forget, hasN, blksLt, List.set, softChk, softGo, softRd, effTg, tgOf, chgN, sameB, PV.same, PV.same.sameL, PV.same.sameLL, rdP, q3]
end Go.Proofs.YtdbfbaiopmpklaaDoor
