/- heapdump: references against the map of the ids. -/
import Derived.Test.YtdbfbaiopmpklaaDoorHdB
namespace Go.Proofs.YtdbfbaiopmpklaaDoor
open Go Go.RowKit
set_option linter.unusedVariables false
set_option linter.unusedSimpArgs false
set_option maxHeartbeats 4000000

def mR (ids : List Int) : List (List PV) := ids.map fun z => [.int .i64 z, .bool true]
theorem mR_in {z : Int} : ∀ {ids : List Int} (i : Nat), z ∈ ids → ∃ j, mfind [.i] false [.int .i64 z] (mR ids) i = some (some (j, .bool true))
  | [], i, h => by simp at h
  | y :: ids, i, h => by
    have e : mR (y :: ids) = [.int .i64 y, .bool true] :: mR ids := rfl
    rw [e]
    by_cases hy : z = y
    · exact ⟨i, by simp [mfind, keyC, eqL, eq1, hy]⟩
    · obtain ⟨j, hj⟩ := mR_in (i + 1) (show z ∈ ids by simpa [hy] using h)
      refine ⟨j, ?_⟩
      have : (z == y) = false := by simpa using hy
      simp [mfind, keyC, eqL, eq1, this, hj]
theorem mR_out {z : Int} : ∀ {ids : List Int} (i : Nat), ¬ z ∈ ids → mfind [.i] false [.int .i64 z] (mR ids) i = some none
  | [], i, h => rfl
  | y :: ids, i, h => by
    have e : mR (y :: ids) = [.int .i64 y, .bool true] :: mR ids := rfl
    rw [e]
    simp only [List.mem_cons, not_or] at h
    have : (z == y) = false := by simpa using h.1
    simp [mfind, keyC, eqL, eq1, this, mR_out (i + 1) h.2]
theorem mR_app (ids : List Int) (z : Int) : mR ids ++ [[.int .i64 z, .bool true]] = mR (ids ++ [z]) := by simp [mR]
def S22 (b : Nat) (bl : Blks) (R : List Int) (k : Nat) : St := ⟨[.mp b 0, eI R, .top, .top, .top, .top, .top, eI R, .int .i64 R.length, .int .i64 k] ++ List.replicate 20 .top, bl⟩
set_option maxRecDepth 100000 in
theorem f22 (b : Nat) (bl : Blks) (ids R : List Int) (hb : bl[b]? = some (some ⟨0, 1000000000, true, mR ids⟩)) (hR : R.length ≤ 9223372036854775807) : evS Dg 22 [.mp b 0, eI R] bl = some (.int .i64 (refE ids R), bl) := by
  have e1 := iR_len R
  have hbl : b < bl.length := (List.getElem?_eq_some_iff.1 hb).1
  have hbg : ∀ q, bl[b]'q = some ⟨0, 1000000000, true, mR ids⟩ := fun q => by
    rw [List.getElem?_eq_getElem q] at hb
    exact Option.some.inj hb
  have H := loop_first (body := evCode (evC Dg) (R.length + 1) c22b0) (keep := [0, 1, 7, 8, 9]) (n0 := bl.length) (fuel := R.length + 1) R (S22 b bl R) (refF ids R) (fun e t => t.sl[4]?.getD .top = .int .i64 e ∧ t.bl = bl)
    (by
      rintro k z hz hk hq
      have r1 := iR_get hz
      have g1 := iR_got hz
      unfold refF at hq
      have hm : z ∈ ids := by
        apply Decidable.byContradiction
        intro hn
        rw [if_neg hn] at hq
        cases hq
      obtain ⟨j, hj⟩ := mR_in 0 hm
      rw [if_pos hm] at hq
      have hk' : (k : Int) < R.length := by omega
      have w1 := wrap_i64 ((k : Int) + 1) (by omega) (by omega)
      cases k with
      | zero =>
        have w3 : IntKind.i64.wrap 1 = 1 := rfl
        unfold c22b0
        simp [evCode, evOps, evOne, evOp, evPur, evEff, evPur.chunks, fillP, AOp.isEff, AO.ev, putP, PV.cells, PV.leaf, getB, getM, mapE, iterE, keyC, mapRows, mfind, eq1, eqL, scal, binP, unP, minP, maxP, foldP, PV.lt, PV.lt.ltL, endP, expoAll, expoG, expo, expo.expoL, frIds, frIds.frIdsL, nodupN, kill, cls, clsFuel, resO, RV.get, loadP, evC_p, evC_s, endS, endT, rowsOf, callP, thinL, unfr, unfr.unfrL, PV.noMem, PV.noMem.noMemL, optI, mapO, norm, trimT, trimB, forget, hasN, blksLt, List.set, softChk, softGo, softRd, effTg, tgOf, chgN, sameB, PV.same, PV.same.sameL, PV.same.sameLL, rdP, S22, eI, e1, r1, g1, hk', hk, w1, w3, hb, hbg, hbl, hj]
      | succ n =>
        have hn : n < R.length := by omega
        have hp := List.getElem?_eq_getElem hn
        generalize hpp : R[n] = p at hp
        have r2 := iR_get hp
        have g2 := iR_got hp
        have k0 : (0 : Int) < ((n + 1 : Nat) : Int) := by omega
        have w2 : IntKind.i64.wrap (((n + 1 : Nat) : Int) - 1) = (n : Int) := by rw [wrap_i64 _ (by omega) (by omega)]; omega
        have hle : ¬ z ≤ p := by
          intro hle
          rw [if_pos (by simp [prevLe, hp, hle])] at hq
          cases hq
        generalize hK : ((n + 1 : Nat) : Int) = K at *
        have hKN : K.toNat = n + 1 := by omega
        have K0 : (0 : Int) ≤ K := by omega
        unfold c22b0
        simp [evCode, evOps, evOne, evOp, evPur, evEff, evPur.chunks, fillP, AOp.isEff, AO.ev, putP, PV.cells, PV.leaf, getB, getM, mapE, iterE, keyC, mapRows, mfind, eq1, eqL, scal, binP, unP, minP, maxP, foldP, PV.lt, PV.lt.ltL, endP, expoAll, expoG, expo, expo.expoL, frIds, frIds.frIdsL, nodupN, kill, cls, clsFuel, resO, RV.get, loadP, evC_p, evC_s, endS, endT, rowsOf, callP, thinL, unfr, unfr.unfrL, PV.noMem, PV.noMem.noMemL, optI, mapO, norm, trimT, trimB, forget, hasN, blksLt, List.set, softChk, softGo, softRd, effTg, tgOf, chgN, sameB, PV.same, PV.same.sameL, PV.same.sameLL, rdP, S22, eI, e1, r1, g1, r2, g2, hk', hk, w1, w2, k0, K0, hKN, hle, hn, hK, hb, hbg, hbl, hj])
    (by
      rintro k z hz hk hq
      have r1 := iR_get hz
      have g1 := iR_got hz
      have hk' : (k : Int) < R.length := by omega
      have w1 := wrap_i64 ((k : Int) + 1) (by omega) (by omega)
      unfold refF at hq ⊢
      by_cases hm : z ∈ ids
      · obtain ⟨j, hj⟩ := mR_in 0 hm
        rw [if_pos hm] at hq ⊢
        cases k with
        | zero => simp [prevLe] at hq
        | succ n =>
          have hn : n < R.length := by omega
          have hp := List.getElem?_eq_getElem hn
          generalize hpp : R[n] = p at hp
          have r2 := iR_get hp
          have g2 := iR_got hp
          have k0 : (0 : Int) < ((n + 1 : Nat) : Int) := by omega
          have w2 : IntKind.i64.wrap (((n + 1 : Nat) : Int) - 1) = (n : Int) := by rw [wrap_i64 _ (by omega) (by omega)]; omega
          have hle : z ≤ p := by
            apply Decidable.byContradiction
            intro hle
            rw [if_neg (by simp [prevLe, hp, hle])] at hq
            exact hq rfl
          rw [if_pos (by simp [prevLe, hp, hle])]
          generalize hK : ((n + 1 : Nat) : Int) = K at *
          have hKN : K.toNat = n + 1 := by omega
          have K0 : (0 : Int) ≤ K := by omega
          unfold c22b0
          simp [evCode, evOps, evOne, evOp, evPur, evEff, evPur.chunks, fillP, AOp.isEff, AO.ev, putP, PV.cells, PV.leaf, getB, getM, mapE, iterE, keyC, mapRows, mfind, eq1, eqL, scal, binP, unP, minP, maxP, foldP, PV.lt, PV.lt.ltL, endP, expoAll, expoG, expo, expo.expoL, frIds, frIds.frIdsL, nodupN, kill, cls, clsFuel, resO, RV.get, loadP, evC_p, evC_s, endS, endT, rowsOf, callP, thinL, unfr, unfr.unfrL, PV.noMem, PV.noMem.noMemL, optI, mapO, norm, trimT, trimB, forget, hasN, blksLt, List.set, softChk, softGo, softRd, effTg, tgOf, chgN, sameB, PV.same, PV.same.sameL, PV.same.sameLL, rdP, S22, eI, e1, r1, g1, r2, g2, hk', hk, w2, k0, K0, hKN, hle, hn, hK, hb, hbg, hbl, hj]
      · rw [if_neg hm]
        have hj := mR_out 0 hm
        unfold c22b0
        simp [evCode, evOps, evOne, evOp, evPur, evEff, evPur.chunks, fillP, AOp.isEff, AO.ev, putP, PV.cells, PV.leaf, getB, getM, mapE, iterE, keyC, mapRows, mfind, eq1, eqL, scal, binP, unP, minP, maxP, foldP, PV.lt, PV.lt.ltL, endP, expoAll, expoG, expo, expo.expoL, frIds, frIds.frIdsL, nodupN, kill, cls, clsFuel, resO, RV.get, loadP, evC_p, evC_s, endS, endT, rowsOf, callP, thinL, unfr, unfr.unfrL, PV.noMem, PV.noMem.noMemL, optI, mapO, norm, trimT, trimB, forget, hasN, blksLt, List.set, softChk, softGo, softRd, effTg, tgOf, chgN, sameB, PV.same, PV.same.sameL, PV.same.sameLL, rdP, S22, eI, e1, r1, g1, hk', hk, hb, hbg, hbl, hj])
    (by
      intro s
      unfold c22b0
      simp [evCode, evOps, evOne, evOp, evPur, evEff, evPur.chunks, fillP, AOp.isEff, AO.ev, putP, PV.cells, PV.leaf, getB, getM, mapE, iterE, keyC, mapRows, mfind, eq1, eqL, scal, binP, unP, minP, maxP, foldP, PV.lt, PV.lt.ltL, endP, expoAll, expoG, expo, expo.expoL, frIds, frIds.frIdsL, nodupN, kill, cls, clsFuel, resO, RV.get, loadP, evC_p, evC_s, endS, endT, rowsOf, callP, thinL, unfr, unfr.unfrL, PV.noMem, PV.noMem.noMemL, optI, mapO, norm, trimT, trimB, forget, hasN, blksLt, List.set, softChk, softGo, softRd, effTg, tgOf, chgN, sameB, PV.same, PV.same.sameL, PV.same.sameLL, rdP, S22, eI, e1])
    (by omega)
  refine evS_intro (R.length + 1) D22 rfl ?_
  unfold c22
  simp [evCode, evOps, evOne, evOp, evPur, evEff, evPur.chunks, fillP, AOp.isEff, AO.ev, putP, PV.cells, PV.leaf, getB, getM, mapE, iterE, keyC, mapRows, mfind, eq1, eqL, scal, binP, unP, minP, maxP, foldP, PV.lt, PV.lt.ltL, endP, expoAll, expoG, expo, expo.expoL, frIds, frIds.frIdsL, nodupN, kill, cls, clsFuel, resO, RV.get, loadP, evC_p, evC_s, endS, endT, rowsOf, callP, thinL, unfr, unfr.unfrL, PV.noMem, PV.noMem.noMemL, optI, mapO, norm, trimT, trimB, forget, hasN, blksLt, List.set, softChk, softGo, softRd, effTg, tgOf, chgN, sameB, PV.same, PV.same.sameL, PV.same.sameLL, rdP, eI, e1]
  generalize hE : evLoop _ _ _ _ _ = E
  unfold refE
  rcases H _ _ hE (by simp [evCode, evOps, evOne, evOp, evPur, evEff, evPur.chunks, fillP, AOp.isEff, AO.ev, putP, PV.cells, PV.leaf, getB, getM, mapE, iterE, keyC, mapRows, mfind, eq1, eqL, scal, binP, unP, minP, maxP, foldP, PV.lt, PV.lt.ltL, endP, expoAll, expoG, expo, expo.expoL, frIds, frIds.frIdsL, nodupN, kill, cls, clsFuel, resO, RV.get, loadP, evC_p, evC_s, endS, endT, rowsOf, callP, thinL, unfr, unfr.unfrL, PV.noMem, PV.noMem.noMemL, optI, mapO, norm, trimT, trimB, forget, hasN, blksLt, List.set, softChk, softGo, softRd, effTg, tgOf, chgN, sameB, PV.same, PV.same.sameL, PV.same.sameLL, rdP, S22, eI, e1]) with ⟨q1, q2⟩ | ⟨q1, s, q2, q3, q4⟩
  · rw [q2, q1]
    unfold c22b0
    simp [evCode, evOps, evOne, evOp, evPur, evEff, evPur.chunks, fillP, AOp.isEff, AO.ev, putP, PV.cells, PV.leaf, getB, getM, mapE, iterE, keyC, mapRows, mfind, eq1, eqL, scal, binP, unP, minP, maxP, foldP, PV.lt, PV.lt.ltL, endP, expoAll, expoG, expo, expo.expoL, frIds, frIds.frIdsL, nodupN, kill, cls, clsFuel, resO, RV.get, loadP, evC_p, evC_s, endS, endT, rowsOf, callP, thinL, unfr, unfr.unfrL, PV.noMem, PV.noMem.noMemL, optI, mapO, norm, trimT, trimB, forget, hasN, blksLt, List.set, softChk, softGo, softRd, effTg, tgOf, chgN, sameB, PV.same, PV.same.sameL, PV.same.sameLL, rdP, S22, eI, e1]
  · rw [q2]
    simp [evCode, evOps, evOne, evOp, evPur, evEff, evPur.chunks, fillP, AOp.isEff, AO.ev, putP, PV.cells, PV.leaf, getB, getM, mapE, iterE, keyC, mapRows, mfind, eq1, eqL, scal, binP, unP, minP, maxP, foldP, PV.lt, PV.lt.ltL, endP, expoAll, expoG, expo, expo.expoL, frIds, frIds.frIdsL, nodupN, kill, cls, clsFuel, resO, RV.get, loadP, evC_p, evC_s, endS, endT, rowsOf, callP, thinL, unfr, unfr.unfrL, PV.noMem, PV.noMem.noMemL, optI, mapO, norm, trimT, trimB, forget, hasN, blksLt, List.set, softChk, softGo, softRd, effTg, tgOf, chgN, sameB, PV.same, PV.same.sameL, PV.same.sameLL, rdP, q3, q4]
end Go.Proofs.YtdbfbaiopmpklaaDoor
