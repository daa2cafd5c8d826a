/- heapdump: the reference's Check; few. -/
import Derived.Test.YtdbfbaiopmpklaaDoorHdD
namespace Go.Proofs.YtdbfbaiopmpklaaDoor
open Go Go.RowKit
set_option linter.unusedVariables false
set_option linter.unusedSimpArgs false
set_option maxHeartbeats 4000000

def S13a (l : List Ob) (r : List Int) (k : Nat) (n : Int) : St := ⟨[.top, .ptr 0 1 0 0, .top, .int .i64 n, .int .i64 k] ++ List.replicate 104 .top, [bx l r]⟩
def S13b (l : List Ob) (r : List Int) (k : Nat) : St := ⟨[.top, .ptr 0 1 0 0, .top, .top, .top, .int .i64 k] ++ List.replicate 103 .top, [bx l r]⟩
def S13c (l : List Ob) (r : List Int) (k : Nat) : St := ⟨[.top, .ptr 0 1 0 0, .top, .top, .top, .top, .top, .int .i64 k] ++ List.replicate 101 .top, [bx l r]⟩
theorem l13a (l : List Ob) (r : List Int) (F : Nat) (hF : l.length < F) (ht : sumOk l 0 = true) (hl : l.length ≤ 5000) (s0 : St) (E : Option Out) (hE : evLoop (evCode (evC Dg) F c13b2) [1, 3, 4] 1 F s0 = E) (h0 : norm [1, 3, 4] 1 s0 = S13a l r 0 0) :
    ∃ n, n ≤ 20000 ∧ E = (evCode (evC Dg) F c13b2) (S13a l r l.length n) := by
  have e1 := oR_len l
  have H := loop_inv (body := evCode (evC Dg) F c13b2) (keep := [1, 3, 4]) (n0 := 1) (fuel := F) l (S13a l r) (fun k n => n ≤ 20000 ∧ sumOk (l.drop k) n = true) (fun _ => False)
    (by
      rintro k o n ho hk ⟨hn0, hI⟩
      left
      rw [drop_sum n ho, Bool.and_eq_true, decide_eq_true_eq] at hI
      obtain ⟨hI1, hI2⟩ := hI
      have r1 := oR_get ho
      have g1 := oR_got ho
      have e2 := iR_len o.2.2.2
      have hk' : (k : Int) < l.length := by omega
      have w1 := wrap_i64 ((k : Int) + 1) (by omega) (by omega)
      generalize hw2 : IntKind.i64.wrap (n + (o.2.2.2.length : Int)) = m at *
      refine ⟨m, ?_⟩
      refine (fun ⟨s', q1, q2⟩ => ⟨s', q1, q2, hI1, hI2⟩ : (∃ s', _ ∧ _) → _) ?_
      unfold c13b2
      simp [evCode, evOps, evOne, evOp, evPur, evEff, evPur.chunks, fillP, AOp.isEff, AO.ev, putP, PV.cells, PV.leaf, getB, getM, mapE, iterE, keyC, mapRows, mfind, eq1, eqL, scal, binP, unP, minP, maxP, foldP, PV.lt, PV.lt.ltL, endP, expoAll, expoG, expo, expo.expoL, frIds, frIds.frIdsL, nodupN, kill, cls, clsFuel, resO, RV.get, loadP, evC_p, evC_s, endS, endT, rowsOf, callP, thinL, unfr, unfr.unfrL, PV.noMem, PV.noMem.noMemL, optI, mapO, norm, trimT, trimB, forget, hasN, blksLt, List.set, softChk, softGo, softRd, effTg, tgOf, chgN, sameB, PV.same, PV.same.sameL, PV.same.sameLL, rdP, S13a, bx, oR1, eI, e1, e2, r1, g1, hk', hk, w1, hw2])
    (by
      rintro n _ s
      unfold c13b2
      simp [evCode, evOps, evOne, evOp, evPur, evEff, evPur.chunks, fillP, AOp.isEff, AO.ev, putP, PV.cells, PV.leaf, getB, getM, mapE, iterE, keyC, mapRows, mfind, eq1, eqL, scal, binP, unP, minP, maxP, foldP, PV.lt, PV.lt.ltL, endP, expoAll, expoG, expo, expo.expoL, frIds, frIds.frIdsL, nodupN, kill, cls, clsFuel, resO, RV.get, loadP, evC_p, evC_s, endS, endT, rowsOf, callP, thinL, unfr, unfr.unfrL, PV.noMem, PV.noMem.noMemL, optI, mapO, norm, trimT, trimB, forget, hasN, blksLt, List.set, softChk, softGo, softRd, effTg, tgOf, chgN, sameB, PV.same, PV.same.sameL, PV.same.sameLL, rdP, S13a, bx, e1])
    (by omega) 0 (by rw [List.drop_zero]; exact ⟨by omega, ht⟩) s0 E hE h0
  rcases H with ⟨n, ⟨hn, _⟩, q⟩ | ⟨s, _, q⟩
  · exact ⟨n, hn, q⟩
  · exact absurd q (fun h => h)
theorem l13b (l : List Ob) (r : List Int) (F : Nat) (hF : l.length < F) (hl : l.length ≤ 5000) (s0 : St) (E : Option Out) (hE : evLoop (evCode (evC Dg) F c13b1) [1, 5] 1 F s0 = E) (h0 : norm [1, 5] 1 s0 = S13b l r 0) :
    (objE l = 0 ∧ E = (evCode (evC Dg) F c13b1) (S13b l r l.length)) ∨ (objE l ≠ 0 ∧ ∃ s, E = some (.ret s) ∧ s.sl[2]?.getD .top = .int .i64 (objE l)) := by
  have e1 := oR_len l
  refine loop_first (body := evCode (evC Dg) F c13b1) (keep := [1, 5]) (n0 := 1) (fuel := F) l (S13b l r) (objF l) (fun e t => t.sl[2]?.getD .top = .int .i64 e)
    (by
      rintro k o ho hk hq
      have hb : badO o = false := by
        cases hb : badO o with
        | false => rfl
        | true => simp [objF, hb] at hq
      have hn : nameOk o.2.2.1 = true := by
        cases hn : nameOk o.2.2.1 with
        | true => rfl
        | false => simp [objF, hb, hn] at hq
      have hp : prevLe (idsO l) k o.1 = false := by
        cases hp : prevLe (idsO l) k o.1 with
        | false => rfl
        | true => simp [objF, hb, hn, hp] at hq
      simp only [badO, Bool.or_eq_false_iff, decide_eq_false_iff_not] at hb
      obtain ⟨⟨⟨b1, b2⟩, b3⟩, b4⟩ := hb
      have h23 := f23 o.2.2.1
      rw [nameE, hn, if_pos rfl] at h23
      have r1 := oR_get ho
      have g1 := oR_got ho
      have hk' : (k : Int) < l.length := by omega
      have w1 := wrap_i64 ((k : Int) + 1) (by omega) (by omega)
      cases k with
      | zero =>
        have w3 : IntKind.i64.wrap 1 = 1 := rfl
        unfold c13b1
        simp [evCode, evOps, evOne, evOp, evPur, evEff, evPur.chunks, fillP, AOp.isEff, AO.ev, putP, PV.cells, PV.leaf, getB, getM, mapE, iterE, keyC, mapRows, mfind, eq1, eqL, scal, binP, unP, minP, maxP, foldP, PV.lt, PV.lt.ltL, endP, expoAll, expoG, expo, expo.expoL, frIds, frIds.frIdsL, nodupN, kill, cls, clsFuel, resO, RV.get, loadP, evC_p, evC_s, endS, endT, rowsOf, callP, thinL, unfr, unfr.unfrL, PV.noMem, PV.noMem.noMemL, optI, mapO, norm, trimT, trimB, forget, hasN, blksLt, List.set, softChk, softGo, softRd, effTg, tgOf, chgN, sameB, PV.same, PV.same.sameL, PV.same.sameLL, rdP, S13b, bx, oR1, eI, e1, r1, g1, hk', hk, w1, w3, b1, b2, b3, b4, h23]
      | succ n =>
        have hn1 : n < l.length := by omega
        have hpp := List.getElem?_eq_getElem hn1
        generalize hpq : l[n] = p at hpp
        have r2 := oR_get hpp
        have g2 := oR_got hpp
        have k0 : (0 : Int) < ((n + 1 : Nat) : Int) := by omega
        have w2 : IntKind.i64.wrap (((n + 1 : Nat) : Int) - 1) = (n : Int) := by rw [wrap_i64 _ (by omega) (by omega)]; omega
        have hle : ¬ o.1 ≤ p.1 := by
          simp only [prevLe, idsO_get hpp, decide_eq_false_iff_not] at hp
          exact hp
        generalize hK : ((n + 1 : Nat) : Int) = K at *
        have hKN : K.toNat = n + 1 := by omega
        have K0 : (0 : Int) ≤ K := by omega
        unfold c13b1
        simp [evCode, evOps, evOne, evOp, evPur, evEff, evPur.chunks, fillP, AOp.isEff, AO.ev, putP, PV.cells, PV.leaf, getB, getM, mapE, iterE, keyC, mapRows, mfind, eq1, eqL, scal, binP, unP, minP, maxP, foldP, PV.lt, PV.lt.ltL, endP, expoAll, expoG, expo, expo.expoL, frIds, frIds.frIdsL, nodupN, kill, cls, clsFuel, resO, RV.get, loadP, evC_p, evC_s, endS, endT, rowsOf, callP, thinL, unfr, unfr.unfrL, PV.noMem, PV.noMem.noMemL, optI, mapO, norm, trimT, trimB, forget, hasN, blksLt, List.set, softChk, softGo, softRd, effTg, tgOf, chgN, sameB, PV.same, PV.same.sameL, PV.same.sameLL, rdP, S13b, bx, oR1, eI, e1, r1, g1, r2, g2, hk', hk, w1, w2, k0, K0, hKN, hle, hn1, hK, b1, b2, b3, b4, h23])
    (by
      rintro k o ho hk hq
      have h23 := f23 o.2.2.1
      have r1 := oR_get ho
      have g1 := oR_got ho
      have hk' : (k : Int) < l.length := by omega
      cases hb : badO o with
      | true =>
        have hx : objF l k o = 2 := by simp [objF, hb]
        rw [hx]
        simp only [badO, Bool.or_eq_true, decide_eq_true_eq] at hb
        by_cases b1 : o.1 < 0
        · unfold c13b1
          simp [evCode, evOps, evOne, evOp, evPur, evEff, evPur.chunks, fillP, AOp.isEff, AO.ev, putP, PV.cells, PV.leaf, getB, getM, mapE, iterE, keyC, mapRows, mfind, eq1, eqL, scal, binP, unP, minP, maxP, foldP, PV.lt, PV.lt.ltL, endP, expoAll, expoG, expo, expo.expoL, frIds, frIds.frIdsL, nodupN, kill, cls, clsFuel, resO, RV.get, loadP, evC_p, evC_s, endS, endT, rowsOf, callP, thinL, unfr, unfr.unfrL, PV.noMem, PV.noMem.noMemL, optI, mapO, norm, trimT, trimB, forget, hasN, blksLt, List.set, softChk, softGo, softRd, effTg, tgOf, chgN, sameB, PV.same, PV.same.sameL, PV.same.sameLL, rdP, S13b, bx, oR1, eI, e1, r1, g1, hk', hk, b1]
        · by_cases b2 : 1000000000000000 < o.1
          · unfold c13b1
            simp [evCode, evOps, evOne, evOp, evPur, evEff, evPur.chunks, fillP, AOp.isEff, AO.ev, putP, PV.cells, PV.leaf, getB, getM, mapE, iterE, keyC, mapRows, mfind, eq1, eqL, scal, binP, unP, minP, maxP, foldP, PV.lt, PV.lt.ltL, endP, expoAll, expoG, expo, expo.expoL, frIds, frIds.frIdsL, nodupN, kill, cls, clsFuel, resO, RV.get, loadP, evC_p, evC_s, endS, endT, rowsOf, callP, thinL, unfr, unfr.unfrL, PV.noMem, PV.noMem.noMemL, optI, mapO, norm, trimT, trimB, forget, hasN, blksLt, List.set, softChk, softGo, softRd, effTg, tgOf, chgN, sameB, PV.same, PV.same.sameL, PV.same.sameLL, rdP, S13b, bx, oR1, eI, e1, r1, g1, hk', hk, b1, b2]
          · by_cases b3 : o.2.1 < 0
            · unfold c13b1
              simp [evCode, evOps, evOne, evOp, evPur, evEff, evPur.chunks, fillP, AOp.isEff, AO.ev, putP, PV.cells, PV.leaf, getB, getM, mapE, iterE, keyC, mapRows, mfind, eq1, eqL, scal, binP, unP, minP, maxP, foldP, PV.lt, PV.lt.ltL, endP, expoAll, expoG, expo, expo.expoL, frIds, frIds.frIdsL, nodupN, kill, cls, clsFuel, resO, RV.get, loadP, evC_p, evC_s, endS, endT, rowsOf, callP, thinL, unfr, unfr.unfrL, PV.noMem, PV.noMem.noMemL, optI, mapO, norm, trimT, trimB, forget, hasN, blksLt, List.set, softChk, softGo, softRd, effTg, tgOf, chgN, sameB, PV.same, PV.same.sameL, PV.same.sameLL, rdP, S13b, bx, oR1, eI, e1, r1, g1, hk', hk, b1, b2, b3]
            · have b4 : 1000000000000 < o.2.1 := by omega
              unfold c13b1
              simp [evCode, evOps, evOne, evOp, evPur, evEff, evPur.chunks, fillP, AOp.isEff, AO.ev, putP, PV.cells, PV.leaf, getB, getM, mapE, iterE, keyC, mapRows, mfind, eq1, eqL, scal, binP, unP, minP, maxP, foldP, PV.lt, PV.lt.ltL, endP, expoAll, expoG, expo, expo.expoL, frIds, frIds.frIdsL, nodupN, kill, cls, clsFuel, resO, RV.get, loadP, evC_p, evC_s, endS, endT, rowsOf, callP, thinL, unfr, unfr.unfrL, PV.noMem, PV.noMem.noMemL, optI, mapO, norm, trimT, trimB, forget, hasN, blksLt, List.set, softChk, softGo, softRd, effTg, tgOf, chgN, sameB, PV.same, PV.same.sameL, PV.same.sameLL, rdP, S13b, bx, oR1, eI, e1, r1, g1, hk', hk, b1, b2, b3, b4]
      | false =>
        have hb' := hb
        simp only [badO, Bool.or_eq_false_iff, decide_eq_false_iff_not] at hb
        obtain ⟨⟨⟨b1, b2⟩, b3⟩, b4⟩ := hb
        cases hn : nameOk o.2.2.1 with
        | false =>
          have hx : objF l k o = 3 := by simp [objF, hb', hn]
          rw [hx]
          have h23' : evE Dg 23 [.str o.2.2.1] = some (.int .i64 3) := by rw [h23, nameE, hn]; rfl
          unfold c13b1
          simp [evCode, evOps, evOne, evOp, evPur, evEff, evPur.chunks, fillP, AOp.isEff, AO.ev, putP, PV.cells, PV.leaf, getB, getM, mapE, iterE, keyC, mapRows, mfind, eq1, eqL, scal, binP, unP, minP, maxP, foldP, PV.lt, PV.lt.ltL, endP, expoAll, expoG, expo, expo.expoL, frIds, frIds.frIdsL, nodupN, kill, cls, clsFuel, resO, RV.get, loadP, evC_p, evC_s, endS, endT, rowsOf, callP, thinL, unfr, unfr.unfrL, PV.noMem, PV.noMem.noMemL, optI, mapO, norm, trimT, trimB, forget, hasN, blksLt, List.set, softChk, softGo, softRd, effTg, tgOf, chgN, sameB, PV.same, PV.same.sameL, PV.same.sameLL, rdP, S13b, bx, oR1, eI, e1, r1, g1, hk', hk, b1, b2, b3, b4, h23']
        | true =>
          have h23' : evE Dg 23 [.str o.2.2.1] = some (.int .i64 0) := by rw [h23, nameE, hn]; rfl
          have hp : prevLe (idsO l) k o.1 = true := by
            cases hp : prevLe (idsO l) k o.1 with
            | true => rfl
            | false => simp [objF, hb', hn, hp] at hq
          have hx : objF l k o = 11 := by simp [objF, hb', hn, hp]
          rw [hx]
          cases k with
          | zero => simp [prevLe] at hp
          | succ n =>
            have hn1 : n < l.length := by omega
            have hpp := List.getElem?_eq_getElem hn1
            generalize hpq : l[n] = p at hpp
            have r2 := oR_get hpp
            have g2 := oR_got hpp
            have k0 : (0 : Int) < ((n + 1 : Nat) : Int) := by omega
            have w2 : IntKind.i64.wrap (((n + 1 : Nat) : Int) - 1) = (n : Int) := by rw [wrap_i64 _ (by omega) (by omega)]; omega
            have hle : o.1 ≤ p.1 := by
              simp only [prevLe, idsO_get hpp, decide_eq_true_eq] at hp
              exact hp
            generalize hK : ((n + 1 : Nat) : Int) = K at *
            have hKN : K.toNat = n + 1 := by omega
            have K0 : (0 : Int) ≤ K := by omega
            unfold c13b1
            simp [evCode, evOps, evOne, evOp, evPur, evEff, evPur.chunks, fillP, AOp.isEff, AO.ev, putP, PV.cells, PV.leaf, getB, getM, mapE, iterE, keyC, mapRows, mfind, eq1, eqL, scal, binP, unP, minP, maxP, foldP, PV.lt, PV.lt.ltL, endP, expoAll, expoG, expo, expo.expoL, frIds, frIds.frIdsL, nodupN, kill, cls, clsFuel, resO, RV.get, loadP, evC_p, evC_s, endS, endT, rowsOf, callP, thinL, unfr, unfr.unfrL, PV.noMem, PV.noMem.noMemL, optI, mapO, norm, trimT, trimB, forget, hasN, blksLt, List.set, softChk, softGo, softRd, effTg, tgOf, chgN, sameB, PV.same, PV.same.sameL, PV.same.sameLL, rdP, S13b, bx, oR1, eI, e1, r1, g1, r2, g2, hk', hk, w2, k0, K0, hKN, hle, hn1, hK, b1, b2, b3, b4, h23'])
    (by
      intro s
      unfold c13b1
      simp [evCode, evOps, evOne, evOp, evPur, evEff, evPur.chunks, fillP, AOp.isEff, AO.ev, putP, PV.cells, PV.leaf, getB, getM, mapE, iterE, keyC, mapRows, mfind, eq1, eqL, scal, binP, unP, minP, maxP, foldP, PV.lt, PV.lt.ltL, endP, expoAll, expoG, expo, expo.expoL, frIds, frIds.frIdsL, nodupN, kill, cls, clsFuel, resO, RV.get, loadP, evC_p, evC_s, endS, endT, rowsOf, callP, thinL, unfr, unfr.unfrL, PV.noMem, PV.noMem.noMemL, optI, mapO, norm, trimT, trimB, forget, hasN, blksLt, List.set, softChk, softGo, softRd, effTg, tgOf, chgN, sameB, PV.same, PV.same.sameL, PV.same.sameLL, rdP, S13b, bx, e1])
    (by omega) s0 E hE h0
theorem l13c (l : List Ob) (r : List Int) (F : Nat) (hF : l.length < F) (hl : l.length ≤ 5000) (hm : ∀ o ∈ l, o.2.2.2.length ≤ 9223372036854775807) (s0 : St) (E : Option Out) (hE : evLoop (evCode (evC Dg) F c13b0) [1, 7] 1 F s0 = E) (h0 : norm [1, 7] 1 s0 = S13c l r 0) :
    (rfsE l = 0 ∧ E = (evCode (evC Dg) F c13b0) (S13c l r l.length)) ∨ (rfsE l ≠ 0 ∧ ∃ s, E = some (.ret s) ∧ s.sl[2]?.getD .top = .int .i64 (rfsE l)) := by
  have e1 := oR_len l
  refine loop_first (body := evCode (evC Dg) F c13b0) (keep := [1, 7]) (n0 := 1) (fuel := F) l (S13c l r) (fun _ o => refE (idsO l) o.2.2.2) (fun e t => t.sl[2]?.getD .top = .int .i64 e)
    (by
      rintro k o ho hk hq
      have h24 := f24 l r o.2.2.2 (by omega) (hm o (List.mem_of_getElem? ho))
      have hq' : refE (idsO l) o.2.2.2 = 0 := hq
      rw [hq'] at h24
      simp only [eH, eI] at h24
      have r1 := oR_get ho
      have g1 := oR_got ho
      have hk' : (k : Int) < l.length := by omega
      have w1 := wrap_i64 ((k : Int) + 1) (by omega) (by omega)
      unfold c13b0
      simp [evCode, evOps, evOne, evOp, evPur, evEff, evPur.chunks, fillP, AOp.isEff, AO.ev, putP, PV.cells, PV.leaf, getB, getM, mapE, iterE, keyC, mapRows, mfind, eq1, eqL, scal, binP, unP, minP, maxP, foldP, PV.lt, PV.lt.ltL, endP, expoAll, expoG, expo, expo.expoL, frIds, frIds.frIdsL, nodupN, kill, cls, clsFuel, resO, RV.get, loadP, evC_p, evC_s, endS, endT, rowsOf, callP, thinL, unfr, unfr.unfrL, PV.noMem, PV.noMem.noMemL, optI, mapO, norm, trimT, trimB, forget, hasN, blksLt, List.set, softChk, softGo, softRd, effTg, tgOf, chgN, sameB, PV.same, PV.same.sameL, PV.same.sameLL, rdP, S13c, bx, oR1, eI, e1, r1, g1, hk', hk, w1, h24])
    (by
      rintro k o ho hk hq
      have h24 := f24 l r o.2.2.2 (by omega) (hm o (List.mem_of_getElem? ho))
      have hq' : ¬ refE (idsO l) o.2.2.2 = 0 := hq
      clear hq
      generalize refE (idsO l) o.2.2.2 = e at *
      simp only [eH, eI] at h24
      have r1 := oR_get ho
      have g1 := oR_got ho
      have hk' : (k : Int) < l.length := by omega
      unfold c13b0
      simp [evCode, evOps, evOne, evOp, evPur, evEff, evPur.chunks, fillP, AOp.isEff, AO.ev, putP, PV.cells, PV.leaf, getB, getM, mapE, iterE, keyC, mapRows, mfind, eq1, eqL, scal, binP, unP, minP, maxP, foldP, PV.lt, PV.lt.ltL, endP, expoAll, expoG, expo, expo.expoL, frIds, frIds.frIdsL, nodupN, kill, cls, clsFuel, resO, RV.get, loadP, evC_p, evC_s, endS, endT, rowsOf, callP, thinL, unfr, unfr.unfrL, PV.noMem, PV.noMem.noMemL, optI, mapO, norm, trimT, trimB, forget, hasN, blksLt, List.set, softChk, softGo, softRd, effTg, tgOf, chgN, sameB, PV.same, PV.same.sameL, PV.same.sameLL, rdP, S13c, bx, oR1, eI, e1, r1, g1, hk', hk, h24, hq'])
    (by
      intro s
      unfold c13b0
      simp [evCode, evOps, evOne, evOp, evPur, evEff, evPur.chunks, fillP, AOp.isEff, AO.ev, putP, PV.cells, PV.leaf, getB, getM, mapE, iterE, keyC, mapRows, mfind, eq1, eqL, scal, binP, unP, minP, maxP, foldP, PV.lt, PV.lt.ltL, endP, expoAll, expoG, expo, expo.expoL, frIds, frIds.frIdsL, nodupN, kill, cls, clsFuel, resO, RV.get, loadP, evC_p, evC_s, endS, endT, rowsOf, callP, thinL, unfr, unfr.unfrL, PV.noMem, PV.noMem.noMemL, optI, mapO, norm, trimT, trimB, forget, hasN, blksLt, List.set, softChk, softGo, softRd, effTg, tgOf, chgN, sameB, PV.same, PV.same.sameL, PV.same.sameLL, rdP, S13c, bx, e1])
    (by omega) s0 E hE h0
set_option maxRecDepth 100000 in
theorem f13 (l : List Ob) (r : List Int) (hl : l.length ≤ 5000) (hr : r.length ≤ 5000) (ht : sumOk l 0 = true) (hm : ∀ o ∈ l, o.2.2.2.length ≤ 9223372036854775807) : evE Dg 13 [eH l r] = some (.int .i64 (chkE l r)) := by
  have e1 := oR_len l
  have e2 := iR_len r
  have hl' : ¬ (5000 < (l.length : Int)) := by omega
  have hr' : ¬ (5000 < (r.length : Int)) := by omega
  refine evE_intro (l.length + 1) D13 rfl ?_
  unfold c13
  simp [evCode, evOps, evOne, evOp, evPur, evEff, evPur.chunks, fillP, AOp.isEff, AO.ev, putP, PV.cells, PV.leaf, getB, getM, mapE, iterE, keyC, mapRows, mfind, eq1, eqL, scal, binP, unP, minP, maxP, foldP, PV.lt, PV.lt.ltL, endP, expoAll, expoG, expo, expo.expoL, frIds, frIds.frIdsL, nodupN, kill, cls, clsFuel, resO, RV.get, loadP, evC_p, evC_s, endS, endT, rowsOf, callP, thinL, unfr, unfr.unfrL, PV.noMem, PV.noMem.noMemL, optI, mapO, norm, trimT, trimB, forget, hasN, blksLt, List.set, softChk, softGo, softRd, effTg, tgOf, chgN, sameB, PV.same, PV.same.sameL, PV.same.sameLL, rdP, eH, eI, e1, e2]
  generalize hE : evLoop _ _ _ _ _ = E
  obtain ⟨n, hn, q⟩ := l13a l r _ (by omega) ht hl _ E hE (by simp [evCode, evOps, evOne, evOp, evPur, evEff, evPur.chunks, fillP, AOp.isEff, AO.ev, putP, PV.cells, PV.leaf, getB, getM, mapE, iterE, keyC, mapRows, mfind, eq1, eqL, scal, binP, unP, minP, maxP, foldP, PV.lt, PV.lt.ltL, endP, expoAll, expoG, expo, expo.expoL, frIds, frIds.frIdsL, nodupN, kill, cls, clsFuel, resO, RV.get, loadP, evC_p, evC_s, endS, endT, rowsOf, callP, thinL, unfr, unfr.unfrL, PV.noMem, PV.noMem.noMemL, optI, mapO, norm, trimT, trimB, forget, hasN, blksLt, List.set, softChk, softGo, softRd, effTg, tgOf, chgN, sameB, PV.same, PV.same.sameL, PV.same.sameLL, rdP, S13a, bx, e1])
  have ht' : ¬ (20000 < n) := by omega
  rw [q]
  clear hE q
  unfold c13b2 c13r2
  simp [evCode, evOps, evOne, evOp, evPur, evEff, evPur.chunks, fillP, AOp.isEff, AO.ev, putP, PV.cells, PV.leaf, getB, getM, mapE, iterE, keyC, mapRows, mfind, eq1, eqL, scal, binP, unP, minP, maxP, foldP, PV.lt, PV.lt.ltL, endP, expoAll, expoG, expo, expo.expoL, frIds, frIds.frIdsL, nodupN, kill, cls, clsFuel, resO, RV.get, loadP, evC_p, evC_s, endS, endT, rowsOf, callP, thinL, unfr, unfr.unfrL, PV.noMem, PV.noMem.noMemL, optI, mapO, norm, trimT, trimB, forget, hasN, blksLt, List.set, softChk, softGo, softRd, effTg, tgOf, chgN, sameB, PV.same, PV.same.sameL, PV.same.sameLL, rdP, S13a, bx, e1, e2, hl', hr', ht']
  generalize hE : evLoop _ _ _ _ _ = E2
  rcases l13b l r _ (by omega) hl _ E2 hE (by simp [evCode, evOps, evOne, evOp, evPur, evEff, evPur.chunks, fillP, AOp.isEff, AO.ev, putP, PV.cells, PV.leaf, getB, getM, mapE, iterE, keyC, mapRows, mfind, eq1, eqL, scal, binP, unP, minP, maxP, foldP, PV.lt, PV.lt.ltL, endP, expoAll, expoG, expo, expo.expoL, frIds, frIds.frIdsL, nodupN, kill, cls, clsFuel, resO, RV.get, loadP, evC_p, evC_s, endS, endT, rowsOf, callP, thinL, unfr, unfr.unfrL, PV.noMem, PV.noMem.noMemL, optI, mapO, norm, trimT, trimB, forget, hasN, blksLt, List.set, softChk, softGo, softRd, effTg, tgOf, chgN, sameB, PV.same, PV.same.sameL, PV.same.sameLL, rdP, S13b, bx, e1]) with ⟨q1, q2⟩ | ⟨q1, s, q2, q3⟩
  · rw [q2]
    clear hE
    unfold c13b1 c13r1
    simp [evCode, evOps, evOne, evOp, evPur, evEff, evPur.chunks, fillP, AOp.isEff, AO.ev, putP, PV.cells, PV.leaf, getB, getM, mapE, iterE, keyC, mapRows, mfind, eq1, eqL, scal, binP, unP, minP, maxP, foldP, PV.lt, PV.lt.ltL, endP, expoAll, expoG, expo, expo.expoL, frIds, frIds.frIdsL, nodupN, kill, cls, clsFuel, resO, RV.get, loadP, evC_p, evC_s, endS, endT, rowsOf, callP, thinL, unfr, unfr.unfrL, PV.noMem, PV.noMem.noMemL, optI, mapO, norm, trimT, trimB, forget, hasN, blksLt, List.set, softChk, softGo, softRd, effTg, tgOf, chgN, sameB, PV.same, PV.same.sameL, PV.same.sameLL, rdP, S13b, bx, e1, e2]
    generalize hE : evLoop _ _ _ _ _ = E3
    rcases l13c l r _ (by omega) hl hm _ E3 hE (by simp [evCode, evOps, evOne, evOp, evPur, evEff, evPur.chunks, fillP, AOp.isEff, AO.ev, putP, PV.cells, PV.leaf, getB, getM, mapE, iterE, keyC, mapRows, mfind, eq1, eqL, scal, binP, unP, minP, maxP, foldP, PV.lt, PV.lt.ltL, endP, expoAll, expoG, expo, expo.expoL, frIds, frIds.frIdsL, nodupN, kill, cls, clsFuel, resO, RV.get, loadP, evC_p, evC_s, endS, endT, rowsOf, callP, thinL, unfr, unfr.unfrL, PV.noMem, PV.noMem.noMemL, optI, mapO, norm, trimT, trimB, forget, hasN, blksLt, List.set, softChk, softGo, softRd, effTg, tgOf, chgN, sameB, PV.same, PV.same.sameL, PV.same.sameLL, rdP, S13c, bx, e1]) with ⟨p1, p2⟩ | ⟨p1, s, p2, p3⟩
    · rw [p2, show chkE l r = refE (idsO l) r by unfold chkE; rw [if_neg (by simp [q1]), if_neg (by simp [p1])]]
      have h24 := f24 l r r (by omega) (by omega)
      simp only [eH, eI] at h24
      unfold c13b0 c13r0
      simp [evCode, evOps, evOne, evOp, evPur, evEff, evPur.chunks, fillP, AOp.isEff, AO.ev, putP, PV.cells, PV.leaf, getB, getM, mapE, iterE, keyC, mapRows, mfind, eq1, eqL, scal, binP, unP, minP, maxP, foldP, PV.lt, PV.lt.ltL, endP, expoAll, expoG, expo, expo.expoL, frIds, frIds.frIdsL, nodupN, kill, cls, clsFuel, resO, RV.get, loadP, evC_p, evC_s, endS, endT, rowsOf, callP, thinL, unfr, unfr.unfrL, PV.noMem, PV.noMem.noMemL, optI, mapO, norm, trimT, trimB, forget, hasN, blksLt, List.set, softChk, softGo, softRd, effTg, tgOf, chgN, sameB, PV.same, PV.same.sameL, PV.same.sameLL, rdP, S13c, bx, e1, e2, h24]
    · rw [p2, show chkE l r = rfsE l by unfold chkE; rw [if_neg (by simp [q1]), if_pos p1]]
      simp [evCode, evOps, evOne, evOp, evPur, evEff, evPur.chunks, fillP, AOp.isEff, AO.ev, putP, PV.cells, PV.leaf, getB, getM, mapE, iterE, keyC, mapRows, mfind, eq1, eqL, scal, binP, unP, minP, maxP, foldP, PV.lt, PV.lt.ltL, endP, expoAll, expoG, expo, expo.expoL, frIds, frIds.frIdsL, nodupN, kill, cls, clsFuel, resO, RV.get, loadP, evC_p, evC_s, endS, endT, rowsOf, callP, thinL, unfr, unfr.unfrL, PV.noMem, PV.noMem.noMemL, optI, mapO, norm, trimT, trimB, forget, hasN, blksLt, List.set, softChk, softGo, softRd, effTg, tgOf, chgN, sameB, PV.same, PV.same.sameL, PV.same.sameLL, rdP, p3]
  · rw [q2, show chkE l r = objE l by unfold chkE; rw [if_pos q1]]
    simp [evCode, evOps, evOne, evOp, evPur, evEff, evPur.chunks, fillP, AOp.isEff, AO.ev, putP, PV.cells, PV.leaf, getB, getM, mapE, iterE, keyC, mapRows, mfind, eq1, eqL, scal, binP, unP, minP, maxP, foldP, PV.lt, PV.lt.ltL, endP, expoAll, expoG, expo, expo.expoL, frIds, frIds.frIdsL, nodupN, kill, cls, clsFuel, resO, RV.get, loadP, evC_p, evC_s, endS, endT, rowsOf, callP, thinL, unfr, unfr.unfrL, PV.noMem, PV.noMem.noMemL, optI, mapO, norm, trimT, trimB, forget, hasN, blksLt, List.set, softChk, softGo, softRd, effTg, tgOf, chgN, sameB, PV.same, PV.same.sameL, PV.same.sameLL, rdP, q3]
/-- few -/
def fewT : List Ob → Int → Bool
  | [], _ => true
  | o :: l, n => if 100 < o.2.2.1.length ∨ 300 < IntKind.i64.wrap (n + (o.2.2.2.length : Int)) then false else fewT l (IntKind.i64.wrap (n + (o.2.2.2.length : Int)))
def fewB (l : List Ob) (r : List Int) : Bool := decide (l.length ≤ 60) && decide (r.length ≤ 60) && fewT l 0
theorem fewT_sum : ∀ {l : List Ob} {n : Int}, fewT l n = true → sumOk l n = true
  | [], n, _ => rfl
  | o :: l, n, h => by
    unfold fewT at h
    split at h
    · cases h
    · rename_i hc
      unfold sumOk
      rw [fewT_sum h, Bool.and_true, decide_eq_true_eq]
      omega
theorem few_of {l : List Ob} {r : List Int} (h : fewB l r = true) : l.length ≤ 60 ∧ r.length ≤ 60 ∧ sumOk l 0 = true := by
  simp only [fewB, Bool.and_eq_true, decide_eq_true_eq] at h
  obtain ⟨⟨h1, h2⟩, h3⟩ := h
  exact ⟨h1, h2, fewT_sum h3⟩
def S9 (l : List Ob) (r : List Int) (k : Nat) (n : Int) : St := ⟨[.top, .ptr 0 1 0 0, .top, .int .i64 n, .int .i64 k] ++ List.replicate 38 .top, [bx l r]⟩
set_option maxRecDepth 100000 in
theorem f9 (l : List Ob) (r : List Int) : evE Dg 9 [eH l r] = some (.bool (fewB l r)) := by
  have e1 := oR_len l
  have e2 := iR_len r
  by_cases hl : l.length ≤ 60
  · have hl' : ¬ (60 < (l.length : Int)) := by omega
    by_cases hr : r.length ≤ 60
    · have hr' : ¬ (60 < (r.length : Int)) := by omega
      have H := loop_inv (body := evCode (evC Dg) (l.length + 1) c9b0) (keep := [1, 3, 4]) (n0 := 1) (fuel := l.length + 1) l (S9 l r) (fun k n => fewT (l.drop k) n = fewT l 0) (fun s => fewT l 0 = false ∧ s.sl[2]?.getD .top = .bool false)
        (by
          rintro k o n ho hk hI
          obtain ⟨hi, eo⟩ := List.getElem?_eq_some_iff.1 ho
          rw [List.drop_eq_getElem_cons hi, eo, fewT] at hI
          have r1 := oR_get ho
          have g1 := oR_got ho
          have e3 := iR_len o.2.2.2
          have hk' : (k : Int) < l.length := by omega
          have w1 := wrap_i64 ((k : Int) + 1) (by omega) (by omega)
          generalize hw2 : IntKind.i64.wrap (n + (o.2.2.2.length : Int)) = m at *
          by_cases hc : 100 < o.2.2.1.length
          · right
            rw [if_pos (.inl hc)] at hI
            have hc' : 100 < (o.2.2.1.length : Int) := by omega
            rw [← hI]
            unfold c9b0
            simp [evCode, evOps, evOne, evOp, evPur, evEff, evPur.chunks, fillP, AOp.isEff, AO.ev, putP, PV.cells, PV.leaf, getB, getM, mapE, iterE, keyC, mapRows, mfind, eq1, eqL, scal, binP, unP, minP, maxP, foldP, PV.lt, PV.lt.ltL, endP, expoAll, expoG, expo, expo.expoL, frIds, frIds.frIdsL, nodupN, kill, cls, clsFuel, resO, RV.get, loadP, evC_p, evC_s, endS, endT, rowsOf, callP, thinL, unfr, unfr.unfrL, PV.noMem, PV.noMem.noMemL, optI, mapO, norm, trimT, trimB, forget, hasN, blksLt, List.set, softChk, softGo, softRd, effTg, tgOf, chgN, sameB, PV.same, PV.same.sameL, PV.same.sameLL, rdP, S9, bx, oR1, eI, e1, e3, r1, g1, hk', hk, hw2, hc, hc']
          · have hc' : ¬ 100 < (o.2.2.1.length : Int) := by omega
            by_cases hd : 300 < m
            · right
              rw [if_pos (.inr hd)] at hI
              rw [← hI]
              unfold c9b0
              simp [evCode, evOps, evOne, evOp, evPur, evEff, evPur.chunks, fillP, AOp.isEff, AO.ev, putP, PV.cells, PV.leaf, getB, getM, mapE, iterE, keyC, mapRows, mfind, eq1, eqL, scal, binP, unP, minP, maxP, foldP, PV.lt, PV.lt.ltL, endP, expoAll, expoG, expo, expo.expoL, frIds, frIds.frIdsL, nodupN, kill, cls, clsFuel, resO, RV.get, loadP, evC_p, evC_s, endS, endT, rowsOf, callP, thinL, unfr, unfr.unfrL, PV.noMem, PV.noMem.noMemL, optI, mapO, norm, trimT, trimB, forget, hasN, blksLt, List.set, softChk, softGo, softRd, effTg, tgOf, chgN, sameB, PV.same, PV.same.sameL, PV.same.sameLL, rdP, S9, bx, oR1, eI, e1, e3, r1, g1, hk', hk, hw2, hc, hc', hd]
            · left
              rw [if_neg (fun h => h.elim (fun h => hc h) (fun h => hd h))] at hI
              refine ⟨m, ?_⟩
              refine (fun ⟨s', q1, q2⟩ => ⟨s', q1, q2, hI⟩ : (∃ s', _ ∧ _) → _) ?_
              unfold c9b0
              simp [evCode, evOps, evOne, evOp, evPur, evEff, evPur.chunks, fillP, AOp.isEff, AO.ev, putP, PV.cells, PV.leaf, getB, getM, mapE, iterE, keyC, mapRows, mfind, eq1, eqL, scal, binP, unP, minP, maxP, foldP, PV.lt, PV.lt.ltL, endP, expoAll, expoG, expo, expo.expoL, frIds, frIds.frIdsL, nodupN, kill, cls, clsFuel, resO, RV.get, loadP, evC_p, evC_s, endS, endT, rowsOf, callP, thinL, unfr, unfr.unfrL, PV.noMem, PV.noMem.noMemL, optI, mapO, norm, trimT, trimB, forget, hasN, blksLt, List.set, softChk, softGo, softRd, effTg, tgOf, chgN, sameB, PV.same, PV.same.sameL, PV.same.sameLL, rdP, S9, bx, oR1, eI, e1, e3, r1, g1, hk', hk, w1, hw2, hc, hc', hd])
        (by
          rintro n _ s
          unfold c9b0
          simp [evCode, evOps, evOne, evOp, evPur, evEff, evPur.chunks, fillP, AOp.isEff, AO.ev, putP, PV.cells, PV.leaf, getB, getM, mapE, iterE, keyC, mapRows, mfind, eq1, eqL, scal, binP, unP, minP, maxP, foldP, PV.lt, PV.lt.ltL, endP, expoAll, expoG, expo, expo.expoL, frIds, frIds.frIdsL, nodupN, kill, cls, clsFuel, resO, RV.get, loadP, evC_p, evC_s, endS, endT, rowsOf, callP, thinL, unfr, unfr.unfrL, PV.noMem, PV.noMem.noMemL, optI, mapO, norm, trimT, trimB, forget, hasN, blksLt, List.set, softChk, softGo, softRd, effTg, tgOf, chgN, sameB, PV.same, PV.same.sameL, PV.same.sameLL, rdP, S9, bx, e1])
        (by omega) 0 (by rw [List.drop_zero])
      refine evE_intro (l.length + 1) D9 rfl ?_
      unfold c9
      simp [evCode, evOps, evOne, evOp, evPur, evEff, evPur.chunks, fillP, AOp.isEff, AO.ev, putP, PV.cells, PV.leaf, getB, getM, mapE, iterE, keyC, mapRows, mfind, eq1, eqL, scal, binP, unP, minP, maxP, foldP, PV.lt, PV.lt.ltL, endP, expoAll, expoG, expo, expo.expoL, frIds, frIds.frIdsL, nodupN, kill, cls, clsFuel, resO, RV.get, loadP, evC_p, evC_s, endS, endT, rowsOf, callP, thinL, unfr, unfr.unfrL, PV.noMem, PV.noMem.noMemL, optI, mapO, norm, trimT, trimB, forget, hasN, blksLt, List.set, softChk, softGo, softRd, effTg, tgOf, chgN, sameB, PV.same, PV.same.sameL, PV.same.sameLL, rdP, eH, eI, e1, e2, hl', hr']
      generalize hE : evLoop _ _ _ _ _ = E
      have hfb : fewB l r = fewT l 0 := by simp [fewB, hl, hr]
      rw [hfb]
      rcases H _ _ hE (by simp [evCode, evOps, evOne, evOp, evPur, evEff, evPur.chunks, fillP, AOp.isEff, AO.ev, putP, PV.cells, PV.leaf, getB, getM, mapE, iterE, keyC, mapRows, mfind, eq1, eqL, scal, binP, unP, minP, maxP, foldP, PV.lt, PV.lt.ltL, endP, expoAll, expoG, expo, expo.expoL, frIds, frIds.frIdsL, nodupN, kill, cls, clsFuel, resO, RV.get, loadP, evC_p, evC_s, endS, endT, rowsOf, callP, thinL, unfr, unfr.unfrL, PV.noMem, PV.noMem.noMemL, optI, mapO, norm, trimT, trimB, forget, hasN, blksLt, List.set, softChk, softGo, softRd, effTg, tgOf, chgN, sameB, PV.same, PV.same.sameL, PV.same.sameLL, rdP, S9, bx, e1]) with ⟨n, q1, q2⟩ | ⟨s, q2, q1, q3⟩
      · rw [List.drop_length, fewT] at q1
        rw [q2, ← q1]
        unfold c9b0
        simp [evCode, evOps, evOne, evOp, evPur, evEff, evPur.chunks, fillP, AOp.isEff, AO.ev, putP, PV.cells, PV.leaf, getB, getM, mapE, iterE, keyC, mapRows, mfind, eq1, eqL, scal, binP, unP, minP, maxP, foldP, PV.lt, PV.lt.ltL, endP, expoAll, expoG, expo, expo.expoL, frIds, frIds.frIdsL, nodupN, kill, cls, clsFuel, resO, RV.get, loadP, evC_p, evC_s, endS, endT, rowsOf, callP, thinL, unfr, unfr.unfrL, PV.noMem, PV.noMem.noMemL, optI, mapO, norm, trimT, trimB, forget, hasN, blksLt, List.set, softChk, softGo, softRd, effTg, tgOf, chgN, sameB, PV.same, PV.same.sameL, PV.same.sameLL, rdP, S9, bx, e1]
      · rw [q2, q1]
        simp [evCode, evOps, evOne, evOp, evPur, evEff, evPur.chunks, fillP, AOp.isEff, AO.ev, putP, PV.cells, PV.leaf, getB, getM, mapE, iterE, keyC, mapRows, mfind, eq1, eqL, scal, binP, unP, minP, maxP, foldP, PV.lt, PV.lt.ltL, endP, expoAll, expoG, expo, expo.expoL, frIds, frIds.frIdsL, nodupN, kill, cls, clsFuel, resO, RV.get, loadP, evC_p, evC_s, endS, endT, rowsOf, callP, thinL, unfr, unfr.unfrL, PV.noMem, PV.noMem.noMemL, optI, mapO, norm, trimT, trimB, forget, hasN, blksLt, List.set, softChk, softGo, softRd, effTg, tgOf, chgN, sameB, PV.same, PV.same.sameL, PV.same.sameLL, rdP, q3]
    · have hr' : (60 < (r.length : Int)) := by omega
      have hfb : fewB l r = false := by simp [fewB, hr]
      rw [hfb]
      refine evE_intro 1 D9 rfl ?_
      unfold c9
      simp [evCode, evOps, evOne, evOp, evPur, evEff, evPur.chunks, fillP, AOp.isEff, AO.ev, putP, PV.cells, PV.leaf, getB, getM, mapE, iterE, keyC, mapRows, mfind, eq1, eqL, scal, binP, unP, minP, maxP, foldP, PV.lt, PV.lt.ltL, endP, expoAll, expoG, expo, expo.expoL, frIds, frIds.frIdsL, nodupN, kill, cls, clsFuel, resO, RV.get, loadP, evC_p, evC_s, endS, endT, rowsOf, callP, thinL, unfr, unfr.unfrL, PV.noMem, PV.noMem.noMemL, optI, mapO, norm, trimT, trimB, forget, hasN, blksLt, List.set, softChk, softGo, softRd, effTg, tgOf, chgN, sameB, PV.same, PV.same.sameL, PV.same.sameLL, rdP, eH, eI, e1, e2, hl', hr']
  · have hl' : (60 < (l.length : Int)) := by omega
    have hfb : fewB l r = false := by simp [fewB, hl]
    rw [hfb]
    refine evE_intro 1 D9 rfl ?_
    unfold c9
    simp [evCode, evOps, evOne, evOp, evPur, evEff, evPur.chunks, fillP, AOp.isEff, AO.ev, putP, PV.cells, PV.leaf, getB, getM, mapE, iterE, keyC, mapRows, mfind, eq1, eqL, scal, binP, unP, minP, maxP, foldP, PV.lt, PV.lt.ltL, endP, expoAll, expoG, expo, expo.expoL, frIds, frIds.frIdsL, nodupN, kill, cls, clsFuel, resO, RV.get, loadP, evC_p, evC_s, endS, endT, rowsOf, callP, thinL, unfr, unfr.unfrL, PV.noMem, PV.noMem.noMemL, optI, mapO, norm, trimT, trimB, forget, hasN, blksLt, List.set, softChk, softGo, softRd, effTg, tgOf, chgN, sameB, PV.same, PV.same.sameL, PV.same.sameLL, rdP, eH, eI, e1, e2, hl']
end Go.Proofs.YtdbfbaiopmpklaaDoor
