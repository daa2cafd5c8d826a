/- num: the reference's Quantile. -/
import Derived.Test.YtnodcoemjojlhaaDoorNqA
namespace Go.Proofs.YtnodcoemjojlhaaDoor
open Go Go.RowKit
set_option linter.unusedVariables false
set_option linter.unusedSimpArgs false
set_option maxHeartbeats 8000000

def cnt (zs : List Int) (a : Int) : Nat := zs.countP fun z => decide (z ≤ a)
def Ti (x : Bool) (zs : List Int) (P K : Nat) (b : Int) (f : Bool) (i c j : Nat) : St :=
  ⟨[eZ x zs, .int .i64 P, .int .i64 K, .top, .top, .top, .top, .top, .int .i64 b, .bool f, .int .i64 i, .int .i64 c, .int .i64 j] ++ List.replicate 68 .top, []⟩
theorem cnt_step {zs : List Int} {j : Nat} {z a : Int} (h : zs[j]? = some z) : cnt (zs.take (j + 1)) a = cnt (zs.take j) a + (if z ≤ a then 1 else 0) := by
  unfold cnt
  rw [List.take_add_one, h, List.countP_append]
  simp only [Option.toList_some, List.countP_cons, List.countP_nil, Nat.zero_add, decide_eq_true_eq]
theorem cnt_le (zs : List Int) (a : Int) : cnt zs a ≤ zs.length := List.countP_le_length
set_option maxRecDepth 100000 in
theorem inner (x : Bool) (zs : List Int) (P K : Nat) (b : Int) (f : Bool) (i : Nat) (a : Int) (hN : zs.length ≤ 60) (ha : zs[i]? = some a) (E : Option Out) (s0 : St)
    (hE : evLoop (evCode (evC Dg) 70 c22b0) [0, 1, 2, 8, 9, 10, 11, 12] 0 70 s0 = E) (h0 : norm [0, 1, 2, 8, 9, 10, 11, 12] 0 s0 = Ti x zs P K b f i 0 0) :
    E = evCode (evC Dg) 70 c22b0 (Ti x zs P K b f i (cnt zs a) zs.length) := by
  obtain ⟨N, hNN⟩ := ex_eq zs.length
  have hlz : (intRows zs).length = N := by simp [intRows, hNN]
  have row : ∀ (j : Nat) (z : Int), zs[j]? = some z → (intRows zs)[j]? = some [PV.int .i64 z] := fun j z hz => by unfold intRows; rw [List.getElem?_map, hz]; rfl
  have rowg : ∀ (j : Nat) (z : Int), zs[j]? = some z → ∀ h, (intRows zs)[j]'h = [PV.int .i64 z] := fun j z hz h => by
    have := row j z hz
    rw [List.getElem?_eq_getElem h] at this
    exact Option.some.inj this
  have hi : i < N := by rw [← hNN]; exact (List.getElem?_eq_some_iff.1 ha).1
  have hi' : (i : Int) < N := by omega
  have ra := row i a ha
  have rga := rowg i a ha
  have H := loop_stop (body := evCode (evC Dg) 70 c22b0) (keep := [0, 1, 2, 8, 9, 10, 11, 12]) (n0 := 0) (fuel := 70) (fun j : Nat => Ti x zs P K b f i (cnt (zs.take j) a) j) (fun j => N - j) (fun j => j ≤ N) (fun j => j = N)
    (by
      intro j hj hs
      have hlt : j < N := by omega
      have hlt' : (j : Int) < N := by omega
      obtain ⟨z, hz⟩ : ∃ z, zs[j]? = some z := ⟨_, List.getElem?_eq_getElem (by omega)⟩
      have rz := row j z hz
      have rgz := rowg j z hz
      have st := cnt_step (a := a) hz
      have cl := cnt_le (zs.take j) a
      have tl : (zs.take j).length ≤ 60 := by rw [List.length_take]; omega
      obtain ⟨c, hc⟩ := ex_eq (cnt (zs.take j) a)
      obtain ⟨c2, hc2⟩ := ex_eq (cnt (zs.take (j + 1)) a)
      rw [hc, hc2] at st
      rw [hc] at cl
      have w0 := wrap_i64 ((j : Int) + 1) (by omega) (by omega)
      have w1 := wrap_i64 ((c : Int) + 1) (by omega) (by omega)
      refine ⟨j + 1, ?_⟩
      by_cases q : z ≤ a
      · rw [if_pos q] at st
        unfold c22b0
        simp [evCode, evOps, evOne, evOp, evPur, evEff, evPur.chunks, fillP, AOp.isEff, AO.ev, putP, PV.cells, PV.leaf, getB, getM, mapE, keyC, mapRows, mfind, eq1, eqL, scal, binP, unP, minP, maxP, foldP, PV.lt, PV.lt.ltL, endP, expoAll, expo, expo.expoL, frIds, frIds.frIdsL, nodupN, kill, cls, clsFuel, resO, RV.get, loadP, evC_p, evC_s, endS, endT, rowsOf, callP, thinL, unfr, unfr.unfrL, PV.noMem, PV.noMem.noMemL, optI, mapO, norm, trimT, trimB, forget, hasN, blksLt, List.set, Ti, eZ, hlz, hc, hc2, st, hlt, hlt', hi, hi', ra, rga, rz, rgz, w0, w1, q]
        omega
      · rw [if_neg q, Nat.add_zero] at st
        unfold c22b0
        simp [evCode, evOps, evOne, evOp, evPur, evEff, evPur.chunks, fillP, AOp.isEff, AO.ev, putP, PV.cells, PV.leaf, getB, getM, mapE, keyC, mapRows, mfind, eq1, eqL, scal, binP, unP, minP, maxP, foldP, PV.lt, PV.lt.ltL, endP, expoAll, expo, expo.expoL, frIds, frIds.frIdsL, nodupN, kill, cls, clsFuel, resO, RV.get, loadP, evC_p, evC_s, endS, endT, rowsOf, callP, thinL, unfr, unfr.unfrL, PV.noMem, PV.noMem.noMemL, optI, mapO, norm, trimT, trimB, forget, hasN, blksLt, List.set, Ti, eZ, hlz, hc, hc2, st, hlt, hlt', hi, hi', ra, rga, rz, rgz, w0, w1, q]
        omega)
    (by
      intro j _ hj s
      subst hj
      unfold c22b0
      simp [evCode, evOps, evOne, evOp, evPur, evEff, evPur.chunks, fillP, AOp.isEff, AO.ev, putP, PV.cells, PV.leaf, getB, getM, mapE, keyC, mapRows, mfind, eq1, eqL, scal, binP, unP, minP, maxP, foldP, PV.lt, PV.lt.ltL, endP, expoAll, expo, expo.expoL, frIds, frIds.frIdsL, nodupN, kill, cls, clsFuel, resO, RV.get, loadP, evC_p, evC_s, endS, endT, rowsOf, callP, thinL, unfr, unfr.unfrL, PV.noMem, PV.noMem.noMemL, optI, mapO, norm, trimT, trimB, forget, hasN, blksLt, List.set, Ti, eZ, hlz])
    0 (Nat.zero_le _) (by omega) s0 E hE (by rw [h0]; rfl)
  obtain ⟨j, _, hj, h⟩ := H
  subst hj
  rw [h, ← hNN, List.take_length]
end Go.Proofs.YtnodcoemjojlhaaDoor
