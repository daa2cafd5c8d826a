/- The statement about Points. -/
import Derived.Test.YtkdalahepedghaaPtF
namespace Go.Proofs.Ytkdalahepedghaa
open Go Go.RowKit
set_option maxHeartbeats 4000000
set_option linter.unusedVariables false
set_option linter.unusedSimpArgs false

theorem f10m (y : Bool) (l : List Sn) : evE Dg 10 [.nilS, eNs y l] = some (.bool (fewF [] l)) := by
  refine evE_intro 1 D10 rfl ?_
  unfold c10 fewF
  by_cases h2 : l.length ≤ 250
  · have h2' : (l.length : Int) ≤ 250 := by omega
    simp [evCode, evOps, evOne, evOp, evPur, evEff, evPur.chunks, fillP, AOp.isEff, AO.ev, putP, PV.cells, PV.leaf, getB, getM, mapE, keyC, mapRows, mfind, eq1, eqL, scal, binP, unP, minP, maxP, foldP, PV.lt, PV.lt.ltL, endP, expoAll, expo, expo.expoL, frIds, frIds.frIdsL, nodupN, kill, cls, clsFuel, resO, RV.get, loadP, evC_p, evC_s, endS, endT, rowsOf, callP, thinL, unfr, unfr.unfrL, PV.noMem, PV.noMem.noMemL, optI, mapO, norm, trimT, trimB, forget, hasN, blksLt, List.set, softChk, softGo, softRd, effTg, rdP, eDs, eNs, h2, h2']
  · have h2' : ¬ (l.length : Int) ≤ 250 := by omega
    simp [evCode, evOps, evOne, evOp, evPur, evEff, evPur.chunks, fillP, AOp.isEff, AO.ev, putP, PV.cells, PV.leaf, getB, getM, mapE, keyC, mapRows, mfind, eq1, eqL, scal, binP, unP, minP, maxP, foldP, PV.lt, PV.lt.ltL, endP, expoAll, expo, expo.expoL, frIds, frIds.frIdsL, nodupN, kill, cls, clsFuel, resO, RV.get, loadP, evC_p, evC_s, endS, endT, rowsOf, callP, thinL, unfr, unfr.unfrL, PV.noMem, PV.noMem.noMemL, optI, mapO, norm, trimT, trimB, forget, hasN, blksLt, List.set, softChk, softGo, softRd, effTg, rdP, eDs, eNs, h2, h2']
def S19 (a : List Int) (k : Nat) : St := ⟨[.sl false 1 (zRows a), .sl false 1 (zRows a), .top, .top, .top, .int .i64 k] ++ List.replicate 20 .top, []⟩
theorem f19 (a : List Int) (hl : a.length ≤ 2000) : evE Dg 19 [.sl false 1 (zRows a), .sl false 1 (zRows a)] = some (.bool true) := by
  have eL := zRows_len a
  refine evE_intro 2100 D19 rfl ?_
  have H := loop_all (body := evCode (evC Dg) 2100 c19b0) (keep := [0, 1, 5]) (n0 := 0) (fuel := 2100) a (S19 a) (fun _ => true) (fun _ => True)
    (by
      intro k x ha hk hq
      have w1 := wrap_i64 ((k : Int) + 1) (by omega) (by omega)
      have hk' : (k : Int) < a.length := by omega
      have ga := zRows_get ha
      have ga' : (zRows a)[k]'(by rw [eL]; exact hk) = [PV.int .i64 x] := (List.getElem?_eq_some_iff.1 ga).2
      unfold c19b0
      simp [evCode, evOps, evOne, evOp, evPur, evEff, evPur.chunks, fillP, AOp.isEff, AO.ev, putP, PV.cells, PV.leaf, getB, getM, mapE, keyC, mapRows, mfind, eq1, eqL, scal, binP, unP, minP, maxP, foldP, PV.lt, PV.lt.ltL, endP, expoAll, expo, expo.expoL, frIds, frIds.frIdsL, nodupN, kill, cls, clsFuel, resO, RV.get, loadP, evC_p, evC_s, endS, endT, rowsOf, callP, thinL, unfr, unfr.unfrL, PV.noMem, PV.noMem.noMemL, optI, mapO, norm, trimT, trimB, forget, hasN, blksLt, List.set, softChk, softGo, softRd, effTg, rdP, S19, eL, ga, ga', hk, hk', w1])
    (by intro k x ha hk hq; cases hq)
    (by
      intro s
      unfold c19b0
      simp [evCode, evOps, evOne, evOp, evPur, evEff, evPur.chunks, fillP, AOp.isEff, AO.ev, putP, PV.cells, PV.leaf, getB, getM, mapE, keyC, mapRows, mfind, eq1, eqL, scal, binP, unP, minP, maxP, foldP, PV.lt, PV.lt.ltL, endP, expoAll, expo, expo.expoL, frIds, frIds.frIdsL, nodupN, kill, cls, clsFuel, resO, RV.get, loadP, evC_p, evC_s, endS, endT, rowsOf, callP, thinL, unfr, unfr.unfrL, PV.noMem, PV.noMem.noMemL, optI, mapO, norm, trimT, trimB, forget, hasN, blksLt, List.set, softChk, softGo, softRd, effTg, rdP, S19, eL]) (by omega)
  unfold c19
  simp [evCode, evOps, evOne, evOp, evPur, evEff, evPur.chunks, fillP, AOp.isEff, AO.ev, putP, PV.cells, PV.leaf, getB, getM, mapE, keyC, mapRows, mfind, eq1, eqL, scal, binP, unP, minP, maxP, foldP, PV.lt, PV.lt.ltL, endP, expoAll, expo, expo.expoL, frIds, frIds.frIdsL, nodupN, kill, cls, clsFuel, resO, RV.get, loadP, evC_p, evC_s, endS, endT, rowsOf, callP, thinL, unfr, unfr.unfrL, PV.noMem, PV.noMem.noMemL, optI, mapO, norm, trimT, trimB, forget, hasN, blksLt, List.set, softChk, softGo, softRd, effTg, rdP, eL]
  generalize hE : evLoop _ _ _ _ _ = E
  rcases H _ _ hE (by simp [evCode, evOps, evOne, evOp, evPur, evEff, evPur.chunks, fillP, AOp.isEff, AO.ev, putP, PV.cells, PV.leaf, getB, getM, mapE, keyC, mapRows, mfind, eq1, eqL, scal, binP, unP, minP, maxP, foldP, PV.lt, PV.lt.ltL, endP, expoAll, expo, expo.expoL, frIds, frIds.frIdsL, nodupN, kill, cls, clsFuel, resO, RV.get, loadP, evC_p, evC_s, endS, endT, rowsOf, callP, thinL, unfr, unfr.unfrL, PV.noMem, PV.noMem.noMemL, optI, mapO, norm, trimT, trimB, forget, hasN, blksLt, List.set, softChk, softGo, softRd, effTg, rdP, S19, eL]) with ⟨k1, k2⟩ | ⟨k1, _⟩
  · rw [k2]
    unfold c19b0
    simp [evCode, evOps, evOne, evOp, evPur, evEff, evPur.chunks, fillP, AOp.isEff, AO.ev, putP, PV.cells, PV.leaf, getB, getM, mapE, keyC, mapRows, mfind, eq1, eqL, scal, binP, unP, minP, maxP, foldP, PV.lt, PV.lt.ltL, endP, expoAll, expo, expo.expoL, frIds, frIds.frIdsL, nodupN, kill, cls, clsFuel, resO, RV.get, loadP, evC_p, evC_s, endS, endT, rowsOf, callP, thinL, unfr, unfr.unfrL, PV.noMem, PV.noMem.noMemL, optI, mapO, norm, trimT, trimB, forget, hasN, blksLt, List.set, softChk, softGo, softRd, effTg, rdP, S19, eL]
  · simp at k1
def S8 (y : Bool) (l : List Sn) (z : Int) (a : List Int) (k : Nat) : St := ⟨[eNs y l, .int .i64 z, .top, .top, .top, .sl false 1 (zRows a), .int .i64 k] ++ List.replicate 31 .top, []⟩
theorem f8 (y : Bool) (l : List Sn) (z : Int) : evE Dg 8 [eNs y l, .int .i64 z] = some (.bool true) := by
  have hw := f10m y l
  refine evE_intro 2100 D8 rfl ?_
  cases hf : fewF [] l with
  | false =>
    rw [hf] at hw
    simp only [eNs] at hw
    unfold c8
    simp [evCode, evOps, evOne, evOp, evPur, evEff, evPur.chunks, fillP, AOp.isEff, AO.ev, putP, PV.cells, PV.leaf, getB, getM, mapE, keyC, mapRows, mfind, eq1, eqL, scal, binP, unP, minP, maxP, foldP, PV.lt, PV.lt.ltL, endP, expoAll, expo, expo.expoL, frIds, frIds.frIdsL, nodupN, kill, cls, clsFuel, resO, RV.get, loadP, evC_p, evC_s, endS, endT, rowsOf, callP, thinL, unfr, unfr.unfrL, PV.noMem, PV.noMem.noMemL, optI, mapO, norm, trimT, trimB, forget, hasN, blksLt, List.set, softChk, softGo, softRd, effTg, rdP, eNs, hw, f11]
  | true =>
    rw [hf] at hw
    simp [fewF] at hf
    obtain ⟨v, a, p1, u1, q1, n1, m1⟩ := f18 y l z (by omega)
    obtain ⟨v', b, p2, u2, q2, n2, m2⟩ := f20 y l z hf
    have hab : a = b := inc_ext q1 q2 (fun x => (m1 x).trans (m2 x).symm)
    subst hab
    have h19 := f19 a n1
    have eL := zRows_len a
    have H := loop_all (body := evCode (evC Dg) 2100 c8b0) (keep := [0, 1, 5, 6]) (n0 := 0) (fuel := 2100) (a.drop 1) (fun j => S8 y l z a (1 + j)) (fun _ => true) (fun _ => True)
      (by
        intro j x ha hj hq
        rw [List.getElem?_drop] at ha
        have hk : 1 + j < a.length := (List.getElem?_eq_some_iff.1 ha).1
        have hb : a[j]? = some a[j] := List.getElem?_eq_getElem (by omega)
        have hlt : a[j] < x := by
          rw [← (List.getElem?_eq_some_iff.1 ha).2]
          exact List.pairwise_iff_getElem.1 q1 j (1 + j) (by omega) hk (by omega)
        generalize a[j] = b at hb hlt
        have ga := zRows_get ha
        have gb := zRows_get hb
        have ga' : (zRows a)[1 + j]'(by rw [eL]; exact hk) = [PV.int .i64 x] := (List.getElem?_eq_some_iff.1 ga).2
        have gb' : (zRows a)[j]'(by rw [eL]; omega) = [PV.int .i64 b] := (List.getElem?_eq_some_iff.1 gb).2
        have w1 := wrap_i64 (1 + (j : Int) + 1) (by omega) (by omega)
        have w2 : IntKind.i64.wrap (1 + (j : Int) - 1) = j := by rw [wrap_i64 _ (by omega) (by omega)]; omega
        have c1 : 1 + (j : Int) < a.length := by omega
        have c2 : (j : Int) < a.length := by omega
        have c3 : j < a.length := by omega
        have c4 : (0 : Int) ≤ 1 + (j : Int) := by omega
        have c5 : (1 + (j : Int)).toNat = 1 + j := by omega
        have c6 : ¬ x ≤ b := by omega
        have c7 : 1 + ((j : Int) + 1) = 1 + (j : Int) + 1 := by omega
        unfold c8b0
        simp [evCode, evOps, evOne, evOp, evPur, evEff, evPur.chunks, fillP, AOp.isEff, AO.ev, putP, PV.cells, PV.leaf, getB, getM, mapE, keyC, mapRows, mfind, eq1, eqL, scal, binP, unP, minP, maxP, foldP, PV.lt, PV.lt.ltL, endP, expoAll, expo, expo.expoL, frIds, frIds.frIdsL, nodupN, kill, cls, clsFuel, resO, RV.get, loadP, evC_p, evC_s, endS, endT, rowsOf, callP, thinL, unfr, unfr.unfrL, PV.noMem, PV.noMem.noMemL, optI, mapO, norm, trimT, trimB, forget, hasN, blksLt, List.set, softChk, softGo, softRd, effTg, rdP, S8, eNs, eL, ga, ga', gb, gb', w1, w2, c1, c2, c3, c4, c5, c6, c7, hk])
      (by intro k x ha hk hq; cases hq)
      (by
        intro s
        rw [List.length_drop]
        have c1 : ¬ (1 : Int) + ((a.length - 1 : Nat) : Int) < a.length := by omega
        unfold c8b0
        simp [evCode, evOps, evOne, evOp, evPur, evEff, evPur.chunks, fillP, AOp.isEff, AO.ev, putP, PV.cells, PV.leaf, getB, getM, mapE, keyC, mapRows, mfind, eq1, eqL, scal, binP, unP, minP, maxP, foldP, PV.lt, PV.lt.ltL, endP, expoAll, expo, expo.expoL, frIds, frIds.frIdsL, nodupN, kill, cls, clsFuel, resO, RV.get, loadP, evC_p, evC_s, endS, endT, rowsOf, callP, thinL, unfr, unfr.unfrL, PV.noMem, PV.noMem.noMemL, optI, mapO, norm, trimT, trimB, forget, hasN, blksLt, List.set, softChk, softGo, softRd, effTg, rdP, S8, eNs, eL, c1]) (by rw [List.length_drop]; omega)
    rw [List.length_drop] at H
    simp only [eNs] at hw p1 p2
    unfold c8
    simp [evCode, evOps, evOne, evOp, evPur, evEff, evPur.chunks, fillP, AOp.isEff, AO.ev, putP, PV.cells, PV.leaf, getB, getM, mapE, keyC, mapRows, mfind, eq1, eqL, scal, binP, unP, minP, maxP, foldP, PV.lt, PV.lt.ltL, endP, expoAll, expo, expo.expoL, frIds, frIds.frIdsL, nodupN, kill, cls, clsFuel, resO, RV.get, loadP, evC_p, evC_s, endS, endT, rowsOf, callP, thinL, unfr, unfr.unfrL, PV.noMem, PV.noMem.noMemL, optI, mapO, norm, trimT, trimB, forget, hasN, blksLt, List.set, softChk, softGo, softRd, effTg, rdP, eNs, hw, p1, u1]
    generalize hE : evLoop _ _ _ _ _ = E
    rcases H _ _ hE (by simp [evCode, evOps, evOne, evOp, evPur, evEff, evPur.chunks, fillP, AOp.isEff, AO.ev, putP, PV.cells, PV.leaf, getB, getM, mapE, keyC, mapRows, mfind, eq1, eqL, scal, binP, unP, minP, maxP, foldP, PV.lt, PV.lt.ltL, endP, expoAll, expo, expo.expoL, frIds, frIds.frIdsL, nodupN, kill, cls, clsFuel, resO, RV.get, loadP, evC_p, evC_s, endS, endT, rowsOf, callP, thinL, unfr, unfr.unfrL, PV.noMem, PV.noMem.noMemL, optI, mapO, norm, trimT, trimB, forget, hasN, blksLt, List.set, softChk, softGo, softRd, effTg, rdP, S8, eNs]) with ⟨k1, k2⟩ | ⟨k1, _⟩
    · rw [k2]
      have c1 : ¬ (1 : Int) + ((a.length - 1 : Nat) : Int) < a.length := by omega
      unfold c8b0 c8r0
      simp [evCode, evOps, evOne, evOp, evPur, evEff, evPur.chunks, fillP, AOp.isEff, AO.ev, putP, PV.cells, PV.leaf, getB, getM, mapE, keyC, mapRows, mfind, eq1, eqL, scal, binP, unP, minP, maxP, foldP, PV.lt, PV.lt.ltL, endP, expoAll, expo, expo.expoL, frIds, frIds.frIdsL, nodupN, kill, cls, clsFuel, resO, RV.get, loadP, evC_p, evC_s, endS, endT, rowsOf, callP, thinL, unfr, unfr.unfrL, PV.noMem, PV.noMem.noMemL, optI, mapO, norm, trimT, trimB, forget, hasN, blksLt, List.set, softChk, softGo, softRd, effTg, rdP, S8, eNs, eL, c1, p2, u2, h19, f11]
    · simp at k1
theorem law8 (ps : List PV) (h : ArgL Try.prog 12 [23, 3] ps) : evE Dg 8 ps = some (.bool true) := by
  obtain ⟨p, q, rfl, h1, h2⟩ := argL2 h
  obtain ⟨l, rfl⟩ := in_snaps h1
  obtain ⟨i, rfl, _⟩ := argT_int Try.underlying3 h2
  exact f8 false l i
end Go.Proofs.Ytkdalahepedghaa
