/- event: CheckAll of both; EventLists. -/
import Derived.Test.YtidkdiooempkpaaDoorEtG
namespace Go.Proofs.YtidkdiooempkpaaDoor
open Go Go.RowKit
set_option linter.unusedVariables false
set_option linter.unusedSimpArgs false
set_option maxHeartbeats 4000000
set_option maxRecDepth 100000

theorem eCt (e : Ev) : eC e = [.int .i64 e.at_, .int .i64 e.k, .str e.name, .int .i64 e.n, .int .i64 e.m, .sl false 1 (tR e.st)] := rfl
def eR (l : List Ev) : List (List PV) := l.map eC
theorem eR_len (l : List Ev) : (eR l).length = l.length := by simp [eR]
theorem eR_get {l : List Ev} {k : Nat} {e : Ev} (h : l[k]? = some e) : (eR l)[k]? = some (eC e) := by simp [eR, h]
theorem eR_got {l : List Ev} {k : Nat} {e : Ev} (h : l[k]? = some e) : ∀ q, (eR l)[k]'q = eC e := fun q => by
  have := eR_get h
  rw [List.getElem?_eq_getElem q] at this
  exact Option.some.inj this
theorem eR_cut (l : List Ev) (a b : Nat) : List.drop a (List.take b (eR l)) = eR ((l.take b).drop a) := by simp [eR, List.map_take, List.map_drop]
/-- earlier than the one before -/
def early (l : List Ev) (k : Nat) (t : Int) : Bool := match k with
  | 0 => false
  | j + 1 => match l[j]? with
    | some p => decide (t < p.at_)
    | none => false
def allF (l : List Ev) (k : Nat) (e : Ev) : Int := if errV e = 0 then (if early l k e.at_ = true then 11 else 0) else errV e
def allE (l : List Ev) : Int := firstF (allF l) l 0
def S19 (x : Bool) (l : List Ev) (k : Nat) : St := ⟨[.sl x 6 (eR l), .top, .top, .top, .top, .top, .sl x 6 (eR l), .int .i64 l.length, .int .i64 k] ++ List.replicate 23 .top, []⟩
theorem f19 (x : Bool) (l : List Ev) (hl : l.length ≤ 100000) : evE Dg 19 [.sl x 6 (eR l)] = some (.int .i64 (allE l)) := by
  have e1 := eR_len l
  have H := loop_first (body := evCode (evC Dg) (l.length + 1) c19b0) (keep := [0, 6, 7, 8]) (n0 := 0) (fuel := l.length + 1) l (S19 x l) (allF l) (fun e t => t.sl[2]?.getD .top = .int .i64 e)
    (by
      rintro k e he hk hq
      have r1 := eR_get he
      have g1 := eR_got he
      rw [eCt] at r1 g1
      have h11 := f11 e
      rw [eE'] at h11
      unfold allF at hq
      have hz : errV e = 0 := Decidable.byContradiction fun h => by rw [if_neg h] at hq; exact h hq
      rw [if_pos hz] at hq
      rw [hz] at h11
      have hk' : (k : Int) < l.length := by omega
      have w1 := wrap_i64 ((k : Int) + 1) (by omega) (by omega)
      cases k with
      | zero =>
        have w3 : IntKind.i64.wrap 1 = 1 := rfl
        unfold c19b0
        simp [evCode, evOps, evOne, evOp, evPur, evEff, evPur.chunks, fillP, AOp.isEff, AO.ev, putP, PV.cells, PV.leaf, getB, getM, mapE, iterE, keyC, mapRows, mfind, eq1, eqL, scal, binP, unP, minP, maxP, foldP, PV.lt, PV.lt.ltL, endP, expoAll, expoG, expo, expo.expoL, frIds, frIds.frIdsL, nodupN, kill, cls, clsFuel, resO, RV.get, loadP, evC_p, evC_s, endS, endT, rowsOf, callP, thinL, unfr, unfr.unfrL, PV.noMem, PV.noMem.noMemL, optI, mapO, norm, trimT, trimB, forget, hasN, blksLt, List.set, softChk, softGo, softRd, effTg, tgOf, chgN, sameB, PV.same, PV.same.sameL, PV.same.sameLL, rdP, S19, e1, r1, g1, hk', hk, w1, w3, h11]
      | succ n =>
        have hn : n < l.length := by omega
        have hp := List.getElem?_eq_getElem hn
        generalize hpp : l[n] = p at hp
        have r2 := eR_get hp
        have g2 := eR_got hp
        rw [eCt] at r2 g2
        have k0 : (0 : Int) < ((n + 1 : Nat) : Int) := by omega
        have w2 : IntKind.i64.wrap (((n + 1 : Nat) : Int) - 1) = (n : Int) := by rw [wrap_i64 _ (by omega) (by omega)]; omega
        have hle : ¬ e.at_ < p.at_ := by
          intro hle
          rw [if_pos (by simp [early, hp, hle])] at hq
          cases hq
        generalize hK : ((n + 1 : Nat) : Int) = K at *
        have hKN : K.toNat = n + 1 := by omega
        have K0 : (0 : Int) ≤ K := by omega
        unfold c19b0
        simp [evCode, evOps, evOne, evOp, evPur, evEff, evPur.chunks, fillP, AOp.isEff, AO.ev, putP, PV.cells, PV.leaf, getB, getM, mapE, iterE, keyC, mapRows, mfind, eq1, eqL, scal, binP, unP, minP, maxP, foldP, PV.lt, PV.lt.ltL, endP, expoAll, expoG, expo, expo.expoL, frIds, frIds.frIdsL, nodupN, kill, cls, clsFuel, resO, RV.get, loadP, evC_p, evC_s, endS, endT, rowsOf, callP, thinL, unfr, unfr.unfrL, PV.noMem, PV.noMem.noMemL, optI, mapO, norm, trimT, trimB, forget, hasN, blksLt, List.set, softChk, softGo, softRd, effTg, tgOf, chgN, sameB, PV.same, PV.same.sameL, PV.same.sameLL, rdP, S19, e1, r1, g1, r2, g2, hk', hk, w1, w2, k0, K0, hKN, h11, hle, hn, hK])
    (by
      rintro k e he hk hq
      have r1 := eR_get he
      have g1 := eR_got he
      rw [eCt] at r1 g1
      have h11 := f11 e
      rw [eE'] at h11
      have hk' : (k : Int) < l.length := by omega
      have w1 := wrap_i64 ((k : Int) + 1) (by omega) (by omega)
      unfold allF at hq ⊢
      by_cases hz : errV e = 0
      · rw [if_pos hz] at hq ⊢
        rw [hz] at h11
        cases k with
        | zero => simp [early] at hq
        | succ n =>
          have hn : n < l.length := by omega
          have hp := List.getElem?_eq_getElem hn
          generalize hpp : l[n] = p at hp
          have r2 := eR_get hp
          have g2 := eR_got hp
          rw [eCt] at r2 g2
          have k0 : (0 : Int) < ((n + 1 : Nat) : Int) := by omega
          have w2 : IntKind.i64.wrap (((n + 1 : Nat) : Int) - 1) = (n : Int) := by rw [wrap_i64 _ (by omega) (by omega)]; omega
          have hle : e.at_ < p.at_ := by
            apply Decidable.byContradiction
            intro hle
            rw [if_neg (by simp [early, hp, hle])] at hq
            exact hq rfl
          rw [if_pos (by simp [early, hp, hle])]
          generalize hK : ((n + 1 : Nat) : Int) = K at *
          have hKN : K.toNat = n + 1 := by omega
          have K0 : (0 : Int) ≤ K := by omega
          unfold c19b0
          simp [evCode, evOps, evOne, evOp, evPur, evEff, evPur.chunks, fillP, AOp.isEff, AO.ev, putP, PV.cells, PV.leaf, getB, getM, mapE, iterE, keyC, mapRows, mfind, eq1, eqL, scal, binP, unP, minP, maxP, foldP, PV.lt, PV.lt.ltL, endP, expoAll, expoG, expo, expo.expoL, frIds, frIds.frIdsL, nodupN, kill, cls, clsFuel, resO, RV.get, loadP, evC_p, evC_s, endS, endT, rowsOf, callP, thinL, unfr, unfr.unfrL, PV.noMem, PV.noMem.noMemL, optI, mapO, norm, trimT, trimB, forget, hasN, blksLt, List.set, softChk, softGo, softRd, effTg, tgOf, chgN, sameB, PV.same, PV.same.sameL, PV.same.sameLL, rdP, S19, e1, r1, g1, r2, g2, hk', hk, w2, k0, K0, hKN, h11, hle, hn, hK]
      · rw [if_neg hz]
        generalize errV e = y at *
        unfold c19b0
        simp [evCode, evOps, evOne, evOp, evPur, evEff, evPur.chunks, fillP, AOp.isEff, AO.ev, putP, PV.cells, PV.leaf, getB, getM, mapE, iterE, keyC, mapRows, mfind, eq1, eqL, scal, binP, unP, minP, maxP, foldP, PV.lt, PV.lt.ltL, endP, expoAll, expoG, expo, expo.expoL, frIds, frIds.frIdsL, nodupN, kill, cls, clsFuel, resO, RV.get, loadP, evC_p, evC_s, endS, endT, rowsOf, callP, thinL, unfr, unfr.unfrL, PV.noMem, PV.noMem.noMemL, optI, mapO, norm, trimT, trimB, forget, hasN, blksLt, List.set, softChk, softGo, softRd, effTg, tgOf, chgN, sameB, PV.same, PV.same.sameL, PV.same.sameLL, rdP, S19, e1, r1, g1, hk', hk, h11, hz])
    (by
      intro s
      unfold c19b0
      simp [evCode, evOps, evOne, evOp, evPur, evEff, evPur.chunks, fillP, AOp.isEff, AO.ev, putP, PV.cells, PV.leaf, getB, getM, mapE, iterE, keyC, mapRows, mfind, eq1, eqL, scal, binP, unP, minP, maxP, foldP, PV.lt, PV.lt.ltL, endP, expoAll, expoG, expo, expo.expoL, frIds, frIds.frIdsL, nodupN, kill, cls, clsFuel, resO, RV.get, loadP, evC_p, evC_s, endS, endT, rowsOf, callP, thinL, unfr, unfr.unfrL, PV.noMem, PV.noMem.noMemL, optI, mapO, norm, trimT, trimB, forget, hasN, blksLt, List.set, softChk, softGo, softRd, effTg, tgOf, chgN, sameB, PV.same, PV.same.sameL, PV.same.sameLL, rdP, S19, e1])
    (by omega)
  refine evE_intro (l.length + 1) D19 rfl ?_
  unfold c19
  simp [evCode, evOps, evOne, evOp, evPur, evEff, evPur.chunks, fillP, AOp.isEff, AO.ev, putP, PV.cells, PV.leaf, getB, getM, mapE, iterE, keyC, mapRows, mfind, eq1, eqL, scal, binP, unP, minP, maxP, foldP, PV.lt, PV.lt.ltL, endP, expoAll, expoG, expo, expo.expoL, frIds, frIds.frIdsL, nodupN, kill, cls, clsFuel, resO, RV.get, loadP, evC_p, evC_s, endS, endT, rowsOf, callP, thinL, unfr, unfr.unfrL, PV.noMem, PV.noMem.noMemL, optI, mapO, norm, trimT, trimB, forget, hasN, blksLt, List.set, softChk, softGo, softRd, effTg, tgOf, chgN, sameB, PV.same, PV.same.sameL, PV.same.sameLL, rdP, e1]
  generalize hE : evLoop _ _ _ _ _ = E
  unfold allE
  rcases H _ _ hE (by simp [evCode, evOps, evOne, evOp, evPur, evEff, evPur.chunks, fillP, AOp.isEff, AO.ev, putP, PV.cells, PV.leaf, getB, getM, mapE, iterE, keyC, mapRows, mfind, eq1, eqL, scal, binP, unP, minP, maxP, foldP, PV.lt, PV.lt.ltL, endP, expoAll, expoG, expo, expo.expoL, frIds, frIds.frIdsL, nodupN, kill, cls, clsFuel, resO, RV.get, loadP, evC_p, evC_s, endS, endT, rowsOf, callP, thinL, unfr, unfr.unfrL, PV.noMem, PV.noMem.noMemL, optI, mapO, norm, trimT, trimB, forget, hasN, blksLt, List.set, softChk, softGo, softRd, effTg, tgOf, chgN, sameB, PV.same, PV.same.sameL, PV.same.sameLL, rdP, S19, e1]) with ⟨q1, q2⟩ | ⟨q1, s, q2, q3⟩
  · rw [q2, q1]
    unfold c19b0
    simp [evCode, evOps, evOne, evOp, evPur, evEff, evPur.chunks, fillP, AOp.isEff, AO.ev, putP, PV.cells, PV.leaf, getB, getM, mapE, iterE, keyC, mapRows, mfind, eq1, eqL, scal, binP, unP, minP, maxP, foldP, PV.lt, PV.lt.ltL, endP, expoAll, expoG, expo, expo.expoL, frIds, frIds.frIdsL, nodupN, kill, cls, clsFuel, resO, RV.get, loadP, evC_p, evC_s, endS, endT, rowsOf, callP, thinL, unfr, unfr.unfrL, PV.noMem, PV.noMem.noMemL, optI, mapO, norm, trimT, trimB, forget, hasN, blksLt, List.set, softChk, softGo, softRd, effTg, tgOf, chgN, sameB, PV.same, PV.same.sameL, PV.same.sameLL, rdP, S19, e1]
  · rw [q2]
    simp [evCode, evOps, evOne, evOp, evPur, evEff, evPur.chunks, fillP, AOp.isEff, AO.ev, putP, PV.cells, PV.leaf, getB, getM, mapE, iterE, keyC, mapRows, mfind, eq1, eqL, scal, binP, unP, minP, maxP, foldP, PV.lt, PV.lt.ltL, endP, expoAll, expoG, expo, expo.expoL, frIds, frIds.frIdsL, nodupN, kill, cls, clsFuel, resO, RV.get, loadP, evC_p, evC_s, endS, endT, rowsOf, callP, thinL, unfr, unfr.unfrL, PV.noMem, PV.noMem.noMemL, optI, mapO, norm, trimT, trimB, forget, hasN, blksLt, List.set, softChk, softGo, softRd, effTg, tgOf, chgN, sameB, PV.same, PV.same.sameL, PV.same.sameLL, rdP, q3]
def S20 (x : Bool) (l : List Ev) (k : Nat) : St := ⟨[.sl x 6 (eR l), .top, .top, .int .i64 k] ++ List.replicate 31 .top, []⟩
theorem f20 (x : Bool) (l : List Ev) (hl : l.length ≤ 100000) : evE Dg 20 [.sl x 6 (eR l)] = some (.int .i64 (allE l)) := by
  have e1 := eR_len l
  have H := loop_first (body := evCode (evC Dg) (l.length + 1) c20b0) (keep := [0, 3]) (n0 := 0) (fuel := l.length + 1) l (S20 x l) (allF l) (fun e t => t.sl[2]?.getD .top = .int .i64 e)
    (by
      rintro k e he hk hq
      have r1 := eR_get he
      have g1 := eR_got he
      rw [eCt] at r1 g1
      have h12 := f12 e
      rw [eE'] at h12
      unfold allF at hq
      have hz : errV e = 0 := Decidable.byContradiction fun h => by rw [if_neg h] at hq; exact h hq
      rw [if_pos hz] at hq
      rw [hz] at h12
      have hk' : (k : Int) < l.length := by omega
      have w1 := wrap_i64 ((k : Int) + 1) (by omega) (by omega)
      cases k with
      | zero =>
        have w3 : IntKind.i64.wrap 1 = 1 := rfl
        unfold c20b0
        simp [evCode, evOps, evOne, evOp, evPur, evEff, evPur.chunks, fillP, AOp.isEff, AO.ev, putP, PV.cells, PV.leaf, getB, getM, mapE, iterE, keyC, mapRows, mfind, eq1, eqL, scal, binP, unP, minP, maxP, foldP, PV.lt, PV.lt.ltL, endP, expoAll, expoG, expo, expo.expoL, frIds, frIds.frIdsL, nodupN, kill, cls, clsFuel, resO, RV.get, loadP, evC_p, evC_s, endS, endT, rowsOf, callP, thinL, unfr, unfr.unfrL, PV.noMem, PV.noMem.noMemL, optI, mapO, norm, trimT, trimB, forget, hasN, blksLt, List.set, softChk, softGo, softRd, effTg, tgOf, chgN, sameB, PV.same, PV.same.sameL, PV.same.sameLL, rdP, S20, e1, r1, g1, hk', hk, w1, w3, h12]
      | succ n =>
        have hn : n < l.length := by omega
        have hp := List.getElem?_eq_getElem hn
        generalize hpp : l[n] = p at hp
        have r2 := eR_get hp
        have g2 := eR_got hp
        rw [eCt] at r2 g2
        have k0 : (0 : Int) < ((n + 1 : Nat) : Int) := by omega
        have w2 : IntKind.i64.wrap (((n + 1 : Nat) : Int) - 1) = (n : Int) := by rw [wrap_i64 _ (by omega) (by omega)]; omega
        have hle : ¬ e.at_ < p.at_ := by
          intro hle
          rw [if_pos (by simp [early, hp, hle])] at hq
          cases hq
        generalize hK : ((n + 1 : Nat) : Int) = K at *
        have hKN : K.toNat = n + 1 := by omega
        have K0 : (0 : Int) ≤ K := by omega
        unfold c20b0
        simp [evCode, evOps, evOne, evOp, evPur, evEff, evPur.chunks, fillP, AOp.isEff, AO.ev, putP, PV.cells, PV.leaf, getB, getM, mapE, iterE, keyC, mapRows, mfind, eq1, eqL, scal, binP, unP, minP, maxP, foldP, PV.lt, PV.lt.ltL, endP, expoAll, expoG, expo, expo.expoL, frIds, frIds.frIdsL, nodupN, kill, cls, clsFuel, resO, RV.get, loadP, evC_p, evC_s, endS, endT, rowsOf, callP, thinL, unfr, unfr.unfrL, PV.noMem, PV.noMem.noMemL, optI, mapO, norm, trimT, trimB, forget, hasN, blksLt, List.set, softChk, softGo, softRd, effTg, tgOf, chgN, sameB, PV.same, PV.same.sameL, PV.same.sameLL, rdP, S20, e1, r1, g1, r2, g2, hk', hk, w1, w2, k0, K0, hKN, h12, hle, hn, hK])
    (by
      rintro k e he hk hq
      have r1 := eR_get he
      have g1 := eR_got he
      rw [eCt] at r1 g1
      have h12 := f12 e
      rw [eE'] at h12
      have hk' : (k : Int) < l.length := by omega
      have w1 := wrap_i64 ((k : Int) + 1) (by omega) (by omega)
      unfold allF at hq ⊢
      by_cases hz : errV e = 0
      · rw [if_pos hz] at hq ⊢
        rw [hz] at h12
        cases k with
        | zero => simp [early] at hq
        | succ n =>
          have hn : n < l.length := by omega
          have hp := List.getElem?_eq_getElem hn
          generalize hpp : l[n] = p at hp
          have r2 := eR_get hp
          have g2 := eR_got hp
          rw [eCt] at r2 g2
          have k0 : (0 : Int) < ((n + 1 : Nat) : Int) := by omega
          have w2 : IntKind.i64.wrap (((n + 1 : Nat) : Int) - 1) = (n : Int) := by rw [wrap_i64 _ (by omega) (by omega)]; omega
          have hle : e.at_ < p.at_ := by
            apply Decidable.byContradiction
            intro hle
            rw [if_neg (by simp [early, hp, hle])] at hq
            exact hq rfl
          rw [if_pos (by simp [early, hp, hle])]
          generalize hK : ((n + 1 : Nat) : Int) = K at *
          have hKN : K.toNat = n + 1 := by omega
          have K0 : (0 : Int) ≤ K := by omega
          unfold c20b0
          simp [evCode, evOps, evOne, evOp, evPur, evEff, evPur.chunks, fillP, AOp.isEff, AO.ev, putP, PV.cells, PV.leaf, getB, getM, mapE, iterE, keyC, mapRows, mfind, eq1, eqL, scal, binP, unP, minP, maxP, foldP, PV.lt, PV.lt.ltL, endP, expoAll, expoG, expo, expo.expoL, frIds, frIds.frIdsL, nodupN, kill, cls, clsFuel, resO, RV.get, loadP, evC_p, evC_s, endS, endT, rowsOf, callP, thinL, unfr, unfr.unfrL, PV.noMem, PV.noMem.noMemL, optI, mapO, norm, trimT, trimB, forget, hasN, blksLt, List.set, softChk, softGo, softRd, effTg, tgOf, chgN, sameB, PV.same, PV.same.sameL, PV.same.sameLL, rdP, S20, e1, r1, g1, r2, g2, hk', hk, w2, k0, K0, hKN, h12, hle, hn, hK]
      · rw [if_neg hz]
        generalize errV e = y at *
        unfold c20b0
        simp [evCode, evOps, evOne, evOp, evPur, evEff, evPur.chunks, fillP, AOp.isEff, AO.ev, putP, PV.cells, PV.leaf, getB, getM, mapE, iterE, keyC, mapRows, mfind, eq1, eqL, scal, binP, unP, minP, maxP, foldP, PV.lt, PV.lt.ltL, endP, expoAll, expoG, expo, expo.expoL, frIds, frIds.frIdsL, nodupN, kill, cls, clsFuel, resO, RV.get, loadP, evC_p, evC_s, endS, endT, rowsOf, callP, thinL, unfr, unfr.unfrL, PV.noMem, PV.noMem.noMemL, optI, mapO, norm, trimT, trimB, forget, hasN, blksLt, List.set, softChk, softGo, softRd, effTg, tgOf, chgN, sameB, PV.same, PV.same.sameL, PV.same.sameLL, rdP, S20, e1, r1, g1, hk', hk, h12, hz])
    (by
      intro s
      unfold c20b0
      simp [evCode, evOps, evOne, evOp, evPur, evEff, evPur.chunks, fillP, AOp.isEff, AO.ev, putP, PV.cells, PV.leaf, getB, getM, mapE, iterE, keyC, mapRows, mfind, eq1, eqL, scal, binP, unP, minP, maxP, foldP, PV.lt, PV.lt.ltL, endP, expoAll, expoG, expo, expo.expoL, frIds, frIds.frIdsL, nodupN, kill, cls, clsFuel, resO, RV.get, loadP, evC_p, evC_s, endS, endT, rowsOf, callP, thinL, unfr, unfr.unfrL, PV.noMem, PV.noMem.noMemL, optI, mapO, norm, trimT, trimB, forget, hasN, blksLt, List.set, softChk, softGo, softRd, effTg, tgOf, chgN, sameB, PV.same, PV.same.sameL, PV.same.sameLL, rdP, S20, e1])
    (by omega)
  refine evE_intro (l.length + 1) D20 rfl ?_
  unfold c20
  simp [evCode, evOps, evOne, evOp, evPur, evEff, evPur.chunks, fillP, AOp.isEff, AO.ev, putP, PV.cells, PV.leaf, getB, getM, mapE, iterE, keyC, mapRows, mfind, eq1, eqL, scal, binP, unP, minP, maxP, foldP, PV.lt, PV.lt.ltL, endP, expoAll, expoG, expo, expo.expoL, frIds, frIds.frIdsL, nodupN, kill, cls, clsFuel, resO, RV.get, loadP, evC_p, evC_s, endS, endT, rowsOf, callP, thinL, unfr, unfr.unfrL, PV.noMem, PV.noMem.noMemL, optI, mapO, norm, trimT, trimB, forget, hasN, blksLt, List.set, softChk, softGo, softRd, effTg, tgOf, chgN, sameB, PV.same, PV.same.sameL, PV.same.sameLL, rdP, e1]
  generalize hE : evLoop _ _ _ _ _ = E
  unfold allE
  rcases H _ _ hE (by simp [evCode, evOps, evOne, evOp, evPur, evEff, evPur.chunks, fillP, AOp.isEff, AO.ev, putP, PV.cells, PV.leaf, getB, getM, mapE, iterE, keyC, mapRows, mfind, eq1, eqL, scal, binP, unP, minP, maxP, foldP, PV.lt, PV.lt.ltL, endP, expoAll, expoG, expo, expo.expoL, frIds, frIds.frIdsL, nodupN, kill, cls, clsFuel, resO, RV.get, loadP, evC_p, evC_s, endS, endT, rowsOf, callP, thinL, unfr, unfr.unfrL, PV.noMem, PV.noMem.noMemL, optI, mapO, norm, trimT, trimB, forget, hasN, blksLt, List.set, softChk, softGo, softRd, effTg, tgOf, chgN, sameB, PV.same, PV.same.sameL, PV.same.sameLL, rdP, S20, e1]) with ⟨q1, q2⟩ | ⟨q1, s, q2, q3⟩
  · rw [q2, q1]
    unfold c20b0
    simp [evCode, evOps, evOne, evOp, evPur, evEff, evPur.chunks, fillP, AOp.isEff, AO.ev, putP, PV.cells, PV.leaf, getB, getM, mapE, iterE, keyC, mapRows, mfind, eq1, eqL, scal, binP, unP, minP, maxP, foldP, PV.lt, PV.lt.ltL, endP, expoAll, expoG, expo, expo.expoL, frIds, frIds.frIdsL, nodupN, kill, cls, clsFuel, resO, RV.get, loadP, evC_p, evC_s, endS, endT, rowsOf, callP, thinL, unfr, unfr.unfrL, PV.noMem, PV.noMem.noMemL, optI, mapO, norm, trimT, trimB, forget, hasN, blksLt, List.set, softChk, softGo, softRd, effTg, tgOf, chgN, sameB, PV.same, PV.same.sameL, PV.same.sameLL, rdP, S20, e1]
  · rw [q2]
    simp [evCode, evOps, evOne, evOp, evPur, evEff, evPur.chunks, fillP, AOp.isEff, AO.ev, putP, PV.cells, PV.leaf, getB, getM, mapE, iterE, keyC, mapRows, mfind, eq1, eqL, scal, binP, unP, minP, maxP, foldP, PV.lt, PV.lt.ltL, endP, expoAll, expoG, expo, expo.expoL, frIds, frIds.frIdsL, nodupN, kill, cls, clsFuel, resO, RV.get, loadP, evC_p, evC_s, endS, endT, rowsOf, callP, thinL, unfr, unfr.unfrL, PV.noMem, PV.noMem.noMemL, optI, mapO, norm, trimT, trimB, forget, hasN, blksLt, List.set, softChk, softGo, softRd, effTg, tgOf, chgN, sameB, PV.same, PV.same.sameL, PV.same.sameLL, rdP, q3]
/-- every part of a list that is accepted -/
theorem all_part {l : List Ev} (h : allE l = 0) (a b : Nat) : allE ((l.take b).drop a) = 0 := by
  have h0 := (firstF_zero l 0).1 h
  unfold allE
  rw [firstF_zero]
  intro k e he
  rw [List.getElem?_drop, List.getElem?_take] at he
  split at he
  · rename_i hb
    have := h0 (a + k) e he
    rw [Nat.zero_add] at this ⊢
    unfold allF at this ⊢
    by_cases hz : errV e = 0
    · rw [if_pos hz] at this ⊢
      cases k with
      | zero => simp [early]
      | succ j =>
        have hp : ((l.take b).drop a)[j]? = l[a + j]? := by
          rw [List.getElem?_drop, List.getElem?_take, if_pos (by omega)]
        unfold early at this ⊢
        rw [show a + (j + 1) = (a + j) + 1 by omega] at this
        simp only [hp] at this ⊢
        exact this
    · rw [if_neg hz] at this
      exact absurd this hz
  · cases he
def S8 (l : List Ev) (u v : Nat) (k : Nat) : St := ⟨[.sl false 6 (eR l), .int .i64 0, .top] ++ List.replicate 60 .top, []⟩
def S8' (l : List Ev) (u v : Nat) (k : Nat) : St := ⟨[.sl false 6 (eR l), .int .u8 (u : Int), .int .u8 (v : Int), .top, .top, .top, .top, .int .i64 k] ++ List.replicate 55 .top, []⟩
theorem f8 (l : List Ev) (u v : Nat) (hu : u < 256) (hv : v < 256) : evE Dg 8 [.sl false 6 (eR l), .int .u8 (u : Int), .int .u8 (v : Int)] = some (.bool true) := by
  have h10 := f10
  have e1 := eR_len l
  by_cases hl : l.length ≤ 40
  · have hl' : ¬ (40 < (l.length : Int)) := by omega
    have H := loop_all (body := evCode (evC Dg) (l.length + 1) c8b0) (keep := [0, 1, 2, 7]) (n0 := 0) (fuel := l.length + 1) l (S8' l u v) smB (fun t => t.sl[6]?.getD .top = .bool true)
      (by
        rintro k e he hk hq
        have r1 := eR_get he
        have g1 := eR_got he
        rw [eCt] at r1 g1
        have h9 := f9 e
        rw [eE', hq] at h9
        have hk' : (k : Int) < l.length := by omega
        have w1 := wrap_i64 ((k : Int) + 1) (by omega) (by omega)
        unfold c8b0
        simp [evCode, evOps, evOne, evOp, evPur, evEff, evPur.chunks, fillP, AOp.isEff, AO.ev, putP, PV.cells, PV.leaf, getB, getM, mapE, iterE, keyC, mapRows, mfind, eq1, eqL, scal, binP, unP, minP, maxP, foldP, PV.lt, PV.lt.ltL, endP, expoAll, expoG, expo, expo.expoL, frIds, frIds.frIdsL, nodupN, kill, cls, clsFuel, resO, RV.get, loadP, evC_p, evC_s, endS, endT, rowsOf, callP, thinL, unfr, unfr.unfrL, PV.noMem, PV.noMem.noMemL, optI, mapO, norm, trimT, trimB, forget, hasN, blksLt, List.set, softChk, softGo, softRd, effTg, tgOf, chgN, sameB, PV.same, PV.same.sameL, PV.same.sameLL, rdP, S8', e1, r1, g1, hk', hk, w1, h9])
      (by
        rintro k e he hk hq
        have r1 := eR_get he
        have g1 := eR_got he
        rw [eCt] at r1 g1
        have h9 := f9 e
        rw [eE', hq] at h9
        have hk' : (k : Int) < l.length := by omega
        unfold c8b0
        simp [evCode, evOps, evOne, evOp, evPur, evEff, evPur.chunks, fillP, AOp.isEff, AO.ev, putP, PV.cells, PV.leaf, getB, getM, mapE, iterE, keyC, mapRows, mfind, eq1, eqL, scal, binP, unP, minP, maxP, foldP, PV.lt, PV.lt.ltL, endP, expoAll, expoG, expo, expo.expoL, frIds, frIds.frIdsL, nodupN, kill, cls, clsFuel, resO, RV.get, loadP, evC_p, evC_s, endS, endT, rowsOf, callP, thinL, unfr, unfr.unfrL, PV.noMem, PV.noMem.noMemL, optI, mapO, norm, trimT, trimB, forget, hasN, blksLt, List.set, softChk, softGo, softRd, effTg, tgOf, chgN, sameB, PV.same, PV.same.sameL, PV.same.sameLL, rdP, S8', e1, r1, g1, hk', hk, h9])
      (by
        intro s
        unfold c8b0
        simp [evCode, evOps, evOne, evOp, evPur, evEff, evPur.chunks, fillP, AOp.isEff, AO.ev, putP, PV.cells, PV.leaf, getB, getM, mapE, iterE, keyC, mapRows, mfind, eq1, eqL, scal, binP, unP, minP, maxP, foldP, PV.lt, PV.lt.ltL, endP, expoAll, expoG, expo, expo.expoL, frIds, frIds.frIdsL, nodupN, kill, cls, clsFuel, resO, RV.get, loadP, evC_p, evC_s, endS, endT, rowsOf, callP, thinL, unfr, unfr.unfrL, PV.noMem, PV.noMem.noMemL, optI, mapO, norm, trimT, trimB, forget, hasN, blksLt, List.set, softChk, softGo, softRd, effTg, tgOf, chgN, sameB, PV.same, PV.same.sameL, PV.same.sameLL, rdP, S8', e1])
      (by omega)
    have h19 := f19 false l (by omega)
    have h20 := f20 false l (by omega)
    refine evE_intro (l.length + 1) D8 rfl ?_
    unfold c8
    simp [evCode, evOps, evOne, evOp, evPur, evEff, evPur.chunks, fillP, AOp.isEff, AO.ev, putP, PV.cells, PV.leaf, getB, getM, mapE, iterE, keyC, mapRows, mfind, eq1, eqL, scal, binP, unP, minP, maxP, foldP, PV.lt, PV.lt.ltL, endP, expoAll, expoG, expo, expo.expoL, frIds, frIds.frIdsL, nodupN, kill, cls, clsFuel, resO, RV.get, loadP, evC_p, evC_s, endS, endT, rowsOf, callP, thinL, unfr, unfr.unfrL, PV.noMem, PV.noMem.noMemL, optI, mapO, norm, trimT, trimB, forget, hasN, blksLt, List.set, softChk, softGo, softRd, effTg, tgOf, chgN, sameB, PV.same, PV.same.sameL, PV.same.sameLL, rdP, h10, e1, hl']
    generalize hE : evLoop _ _ _ _ _ = E
    rcases H _ _ hE (by simp [evCode, evOps, evOne, evOp, evPur, evEff, evPur.chunks, fillP, AOp.isEff, AO.ev, putP, PV.cells, PV.leaf, getB, getM, mapE, iterE, keyC, mapRows, mfind, eq1, eqL, scal, binP, unP, minP, maxP, foldP, PV.lt, PV.lt.ltL, endP, expoAll, expoG, expo, expo.expoL, frIds, frIds.frIdsL, nodupN, kill, cls, clsFuel, resO, RV.get, loadP, evC_p, evC_s, endS, endT, rowsOf, callP, thinL, unfr, unfr.unfrL, PV.noMem, PV.noMem.noMemL, optI, mapO, norm, trimT, trimB, forget, hasN, blksLt, List.set, softChk, softGo, softRd, effTg, tgOf, chgN, sameB, PV.same, PV.same.sameL, PV.same.sameLL, rdP, S8', e1]) with ⟨q1, q2⟩ | ⟨q1, s, q2, q3⟩
    · rw [q2]
      have hpos : 0 < l.length + 1 := by omega
      have ha := Nat.mod_lt u hpos
      generalize hA : u % (l.length + 1) = a at *
      have hpos2 : 0 < l.length - a + 1 := by omega
      have hb := Nat.mod_lt v hpos2
      generalize hB : v % (l.length - a + 1) = b at *
      have wu : IntKind.i64.wrap (u : Int) = u := wrap_i64 _ (by omega) (by omega)
      have wv : IntKind.i64.wrap (v : Int) = v := wrap_i64 _ (by omega) (by omega)
      have w1 := wrap_i64 ((l.length : Int) + 1) (by omega) (by omega)
      have n1 : ¬ ((l.length : Int) + 1 = 0) := by omega
      have m1 : (u : Int).tmod ((l.length : Int) + 1) = (a : Int) := by
        rw [show (l.length : Int) + 1 = ((l.length + 1 : Nat) : Int) by omega, ← Int.ofNat_tmod, hA]
      have w2 : IntKind.i64.wrap ((l.length : Int) - (a : Int)) = (l.length : Int) - (a : Int) := wrap_i64 _ (by omega) (by omega)
      have w3 : IntKind.i64.wrap ((l.length : Int) - (a : Int) + 1) = (l.length : Int) - (a : Int) + 1 := wrap_i64 _ (by omega) (by omega)
      have n2 : ¬ ((l.length : Int) - (a : Int) + 1 = 0) := by omega
      have m2 : (v : Int).tmod ((l.length : Int) - (a : Int) + 1) = (b : Int) := by
        rw [show (l.length : Int) - (a : Int) + 1 = ((l.length - a + 1 : Nat) : Int) by omega, ← Int.ofNat_tmod, hB]
      have w4 : IntKind.i64.wrap ((a : Int) + (b : Int)) = ((a + b : Nat) : Int) := by rw [wrap_i64 _ (by omega) (by omega)]; omega
      generalize hC : ((a + b : Nat) : Int) = C at *
      have c1 : (a : Int) ≤ C := by omega
      have c2 : C ≤ l.length := by omega
      have c3 : C.toNat = a + b := by omega
      have c0 : (0 : Int) ≤ a := by omega
      have cut := eR_cut l a (a + b)
      by_cases hz : allE l = 0
      · rw [hz] at h19 h20
        have hp := all_part hz a (a + b)
        have h19p := fun x => f19 x ((l.take (a + b)).drop a) (by simp; omega)
        rw [hp] at h19p
        unfold c8b0 c8r0
        simp [evCode, evOps, evOne, evOp, evPur, evEff, evPur.chunks, fillP, AOp.isEff, AO.ev, putP, PV.cells, PV.leaf, getB, getM, mapE, iterE, keyC, mapRows, mfind, eq1, eqL, scal, binP, unP, minP, maxP, foldP, PV.lt, PV.lt.ltL, endP, expoAll, expoG, expo, expo.expoL, frIds, frIds.frIdsL, nodupN, kill, cls, clsFuel, resO, RV.get, loadP, evC_p, evC_s, endS, endT, rowsOf, callP, thinL, unfr, unfr.unfrL, PV.noMem, PV.noMem.noMemL, optI, mapO, norm, trimT, trimB, forget, hasN, blksLt, List.set, softChk, softGo, softRd, effTg, tgOf, chgN, sameB, PV.same, PV.same.sameL, PV.same.sameLL, rdP, S8', e1, h19, h20, wu, wv, w1, n1, m1, w2, w3, n2, m2, w4, c0, c1, c2, c3, cut, h19p]
      · generalize allE l = y at *
        unfold c8b0 c8r0
        simp [evCode, evOps, evOne, evOp, evPur, evEff, evPur.chunks, fillP, AOp.isEff, AO.ev, putP, PV.cells, PV.leaf, getB, getM, mapE, iterE, keyC, mapRows, mfind, eq1, eqL, scal, binP, unP, minP, maxP, foldP, PV.lt, PV.lt.ltL, endP, expoAll, expoG, expo, expo.expoL, frIds, frIds.frIdsL, nodupN, kill, cls, clsFuel, resO, RV.get, loadP, evC_p, evC_s, endS, endT, rowsOf, callP, thinL, unfr, unfr.unfrL, PV.noMem, PV.noMem.noMemL, optI, mapO, norm, trimT, trimB, forget, hasN, blksLt, List.set, softChk, softGo, softRd, effTg, tgOf, chgN, sameB, PV.same, PV.same.sameL, PV.same.sameLL, rdP, S8', e1, h19, h20, wu, wv, w1, n1, m1, w2, w3, n2, m2, w4, hz]
    · rw [q2]
      simp [evCode, evOps, evOne, evOp, evPur, evEff, evPur.chunks, fillP, AOp.isEff, AO.ev, putP, PV.cells, PV.leaf, getB, getM, mapE, iterE, keyC, mapRows, mfind, eq1, eqL, scal, binP, unP, minP, maxP, foldP, PV.lt, PV.lt.ltL, endP, expoAll, expoG, expo, expo.expoL, frIds, frIds.frIdsL, nodupN, kill, cls, clsFuel, resO, RV.get, loadP, evC_p, evC_s, endS, endT, rowsOf, callP, thinL, unfr, unfr.unfrL, PV.noMem, PV.noMem.noMemL, optI, mapO, norm, trimT, trimB, forget, hasN, blksLt, List.set, softChk, softGo, softRd, effTg, tgOf, chgN, sameB, PV.same, PV.same.sameL, PV.same.sameLL, rdP, q3]
  · have hl' : (40 < (l.length : Int)) := by omega
    refine evE_intro 1 D8 rfl ?_
    unfold c8
    simp [evCode, evOps, evOne, evOp, evPur, evEff, evPur.chunks, fillP, AOp.isEff, AO.ev, putP, PV.cells, PV.leaf, getB, getM, mapE, iterE, keyC, mapRows, mfind, eq1, eqL, scal, binP, unP, minP, maxP, foldP, PV.lt, PV.lt.ltL, endP, expoAll, expoG, expo, expo.expoL, frIds, frIds.frIdsL, nodupN, kill, cls, clsFuel, resO, RV.get, loadP, evC_p, evC_s, endS, endT, rowsOf, callP, thinL, unfr, unfr.unfrL, PV.noMem, PV.noMem.noMemL, optI, mapO, norm, trimT, trimB, forget, hasN, blksLt, List.set, softChk, softGo, softRd, effTg, tgOf, chgN, sameB, PV.same, PV.same.sameL, PV.same.sameLL, rdP, h10, e1, hl']
theorem wf8 {i : Int} (h : (Lit.int .u8 i).wf = true) : 0 ≤ i ∧ i ≤ 255 := by
  simp [Lit.wf, IntKind.min, IntKind.max, IntKind.signed, IntKind.bits] at h
  omega
theorem in_evs {d : Nat} {p : PV} (h : ArgT Tryd.prog (d + 7) 36 p) : ∃ l : List Ev, p = .sl false 6 (eR l) := by
  obtain ⟨l, h1, h2, h3⟩ := argT_rows (f := eC) (Q := fun _ => True) Tryd.underlying36 (c := 6) (by kernel_rfl) (fun r hr => by
    obtain ⟨e, rfl⟩ := in_ev0 hr
    exact ⟨e, rfl, trivial⟩) (argT_slice Tryd.underlying36 h)
  exact ⟨l, by unfold eR; simpa using h1⟩
theorem in_u8 {d : Nat} {p : PV} (h : ArgT Tryd.prog (d + 1) 5 p) : ∃ u : Nat, p = .int .u8 (u : Int) ∧ u < 256 := by
  obtain ⟨i, rfl, w⟩ := argT_int Tryd.underlying5 h
  obtain ⟨w0, w1⟩ := wf8 w
  obtain ⟨u, rfl⟩ := Int.eq_ofNat_of_zero_le w0
  exact ⟨u, rfl, by omega⟩
theorem law8 (ps : List PV) (h : ArgL Tryd.prog 12 [36, 5, 5] ps) : evE Dg 8 ps = some (.bool true) := by
  obtain ⟨p, q, r, rfl, h1, h2, h3⟩ := argL3 h
  obtain ⟨l, rfl⟩ := in_evs h1
  obtain ⟨u, rfl, hu⟩ := in_u8 h2
  obtain ⟨v, rfl, hv⟩ := in_u8 h3
  exact f8 l u v hu hv
end Go.Proofs.YtidkdiooempkpaaDoor
