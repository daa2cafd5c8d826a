/- f30 -/
import Derived.Test.YtkdalahepedghaaPtB1
namespace Go.Proofs.Ytkdalahepedghaa
open Go Go.RowKit
set_option maxHeartbeats 400000
set_option linter.unusedVariables false
set_option linter.unusedSimpArgs false
set_option maxRecDepth 100000 in
theorem f30 (l : List Int) (n : Int) (hl : l.length ≤ 1000) (hp : l.Pairwise (· < ·)) :
    ∃ v r, evE Dg 30 [.sl false 1 (zRows l), .int .i64 n] = some v ∧ unfr v = .sl false 1 (zRows r) ∧ r.Pairwise (· < ·) ∧ r.length ≤ l.length + 1 ∧ ∀ x, x ∈ r ↔ x ∈ l ∨ x = n := by
  suffices h : ∃ v, evE Dg 30 [.sl false 1 (zRows l), .int .i64 n] = some v ∧ ∃ r, unfr v = .sl false 1 (zRows r) ∧ r.Pairwise (· < ·) ∧ r.length ≤ l.length + 1 ∧ ∀ x, x ∈ r ↔ x ∈ l ∨ x = n by
    obtain ⟨v, h1, r, h2⟩ := h
    exact ⟨v, r, h1, h2⟩
  have T := turn30 l n hl
  have eL := zRows_len l
  refine evE_introX 1100 D30 rfl ?_
  unfold c30
  simp [evCode, evOps, evOne, evOp, evPur, evEff, evPur.chunks, fillP, AOp.isEff, AO.ev, putP, PV.cells, PV.leaf, getB, getM, mapE, keyC, mapRows, mfind, eq1, eqL, scal, binP, unP, minP, maxP, foldP, PV.lt, PV.lt.ltL, endP, expoAll, expo, expo.expoL, frIds, frIds.frIdsL, nodupN, kill, cls, clsFuel, resO, RV.get, loadP, evC_p, evC_s, endS, endT, rowsOf, callP, thinL, unfr, unfr.unfrL, PV.noMem, PV.noMem.noMemL, optI, mapO, norm, trimT, trimB, forget, hasN, blksLt, List.set, softChk, softGo, softRd, effTg, rdP, eL]
  generalize hE : evLoop _ _ _ _ _ = E
  obtain ⟨k, k1, k2, k3, k4⟩ := T _ _ hE (by simp [evCode, evOps, evOne, evOp, evPur, evEff, evPur.chunks, fillP, AOp.isEff, AO.ev, putP, PV.cells, PV.leaf, getB, getM, mapE, keyC, mapRows, mfind, eq1, eqL, scal, binP, unP, minP, maxP, foldP, PV.lt, PV.lt.ltL, endP, expoAll, expo, expo.expoL, frIds, frIds.frIdsL, nodupN, kill, cls, clsFuel, resO, RV.get, loadP, evC_p, evC_s, endS, endT, rowsOf, callP, thinL, unfr, unfr.unfrL, PV.noMem, PV.noMem.noMemL, optI, mapO, norm, trimT, trimB, forget, hasN, blksLt, List.set, softChk, softGo, softRd, effTg, rdP, S30])
  rw [k4]
  clear hE k4 T
  have ins : ∀ r : List Int, r = l.take k ++ n :: l.drop k → ∀ x, x ∈ r ↔ x ∈ l ∨ x = n := by
    rintro r rfl x
    have : x ∈ l ↔ x ∈ l.take k ∨ x ∈ l.drop k := by rw [← List.mem_append, List.take_append_drop]
    rw [this, List.mem_append, List.mem_cons]
    constructor
    · rintro (h | h | h)
      · exact .inl (.inl h)
      · exact .inr h
      · exact .inl (.inr h)
    · rintro ((h | h) | h)
      · exact .inl h
      · exact .inr (.inr h)
      · exact .inr (.inl h)
  have er : zRows (l.take k ++ n :: l.drop k) = List.take k (zRows l) ++ [.int .i64 n] :: List.drop k (zRows l) := by simp [zRows, List.map_take, List.map_drop]
  have hz : ∀ q : List Int, (zRows q).all (PV.lt.ltL 0) = true := by
    intro q
    rw [List.all_eq_true]
    intro r hr
    obtain ⟨b, _, rfl⟩ := List.mem_map.1 hr
    rfl
  have et : List.take k (zRows l) = zRows (l.take k) := by simp [zRows, List.map_take]
  have ed : List.drop k (zRows l) = zRows (l.drop k) := by simp [zRows, List.map_drop]
  have lt1 := zRows_len (l.take k)
  have ld1 := zRows_len (l.drop k)
  rw [List.length_take, Nat.min_eq_left k1] at lt1
  rw [List.length_drop] at ld1
  have ha1 := hz (l.take k)
  have ha2 := hz (l.drop k)
  rw [et, ed] at er
  generalize hT : zRows (l.take k) = T at *
  generalize hD : zRows (l.drop k) = D at *
  have hmin : min k l.length = k := Nat.min_eq_left k1
  have k1' : (k : Int) ≤ l.length := by omega
  have a1 : k * 8 ≤ 140737488355328 := by omega
  have a2 : k ≤ 140737488355328 := by omega
  have a3 : (k + 1) * 8 ≤ 140737488355328 := by omega
  have a4 : k + 1 ≤ 140737488355328 := by omega
  have a5 : (k + 1 + (l.length - k)) * 8 ≤ 140737488355328 := by omega
  have a6 : k + 1 + (l.length - k) ≤ 140737488355328 := by omega
  have hll : l.length < 1001 := by omega
  obtain ⟨q, hq⟩ : ∃ q, k + 1 + (l.length - k) = q := ⟨_, rfl⟩
  have hq2 : k + (l.length - k + 1) = q := by omega
  rw [hq] at a5 a6
  generalize hdl : l.length - k = e2 at *
  by_cases hlt : k < l.length
  · have hlt' : (k : Int) < l.length := by omega
    have ha : l[k]? = some l[k] := List.getElem?_eq_getElem hlt
    have hge := k3 _ ha
    generalize l[k] = a at ha hge
    have ga := zRows_get ha
    have ga' : (zRows l)[k]'(by rw [eL]; exact hlt) = [PV.int .i64 a] := (List.getElem?_eq_some_iff.1 ga).2
    have hn : ¬ a < n := by omega
    by_cases e : a = n
    · subst e
      unfold c30b0
      simp [evCode, evOps, evOne, evOp, evPur, evEff, evPur.chunks, fillP, AOp.isEff, AO.ev, putP, PV.cells, PV.leaf, getB, getM, mapE, keyC, mapRows, mfind, eq1, eqL, scal, binP, unP, minP, maxP, foldP, PV.lt, PV.lt.ltL, endP, expoAll, expo, expo.expoL, frIds, frIds.frIdsL, nodupN, kill, cls, clsFuel, resO, RV.get, loadP, evC_p, evC_s, endS, endT, rowsOf, callP, thinL, unfr, unfr.unfrL, PV.noMem, PV.noMem.noMemL, optI, mapO, norm, trimT, trimB, forget, hasN, blksLt, List.set, softChk, softGo, softRd, effTg, rdP, S30, eL, hlt, hlt', ga, ga']
      exact ⟨l, rfl, hp, by omega, fun x => ⟨.inl, fun h => h.elim id (fun h => h ▸ List.mem_of_getElem? ha)⟩⟩
    · have hpw := ins_pw hp k2 (fun b hb => by rw [ha] at hb; obtain rfl := Option.some.inj hb; omega)
      unfold c30b0
      simp [evCode, evOps, evOne, evOp, evPur, evEff, evPur.chunks, fillP, AOp.isEff, AO.ev, putP, PV.cells, PV.leaf, getB, getM, mapE, keyC, mapRows, mfind, eq1, eqL, scal, binP, unP, minP, maxP, foldP, PV.lt, PV.lt.ltL, endP, expoAll, expo, expo.expoL, frIds, frIds.frIdsL, nodupN, kill, cls, clsFuel, resO, RV.get, loadP, evC_p, evC_s, endS, endT, rowsOf, callP, thinL, unfr, unfr.unfrL, PV.noMem, PV.noMem.noMemL, optI, mapO, norm, trimT, trimB, forget, hasN, blksLt, List.set, softChk, softGo, softRd, effTg, rdP, S30, eL, hlt, hlt', ga, ga', hn, e, et, ed, lt1, ld1, ha1, ha2, k1, k1', a1, a2, a3, a4, a5, a6, hq, hq2]
      refine ⟨l.take k ++ n :: l.drop k, by rw [er], hpw, by simp; omega, ins _ rfl⟩
  · have hlt' : ¬ (k : Int) < l.length := by omega
    have hpw := ins_pw hp k2 (fun b hb => by rw [List.getElem?_eq_none (by omega)] at hb; cases hb)
    unfold c30b0
    simp [evCode, evOps, evOne, evOp, evPur, evEff, evPur.chunks, fillP, AOp.isEff, AO.ev, putP, PV.cells, PV.leaf, getB, getM, mapE, keyC, mapRows, mfind, eq1, eqL, scal, binP, unP, minP, maxP, foldP, PV.lt, PV.lt.ltL, endP, expoAll, expo, expo.expoL, frIds, frIds.frIdsL, nodupN, kill, cls, clsFuel, resO, RV.get, loadP, evC_p, evC_s, endS, endT, rowsOf, callP, thinL, unfr, unfr.unfrL, PV.noMem, PV.noMem.noMemL, optI, mapO, norm, trimT, trimB, forget, hasN, blksLt, List.set, softChk, softGo, softRd, effTg, rdP, S30, eL, hlt, hlt', et, ed, lt1, ld1, ha1, ha2, k1, k1', a1, a2, a3, a4, a5, a6, hq, hq2]
    refine ⟨l.take k ++ n :: l.drop k, by rw [er], hpw, by simp; omega, ins _ rfl⟩
end Go.Proofs.Ytkdalahepedghaa
