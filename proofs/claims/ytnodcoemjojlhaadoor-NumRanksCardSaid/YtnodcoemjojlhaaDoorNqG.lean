/- num: NumRanks, its two loops. -/
import Derived.Test.YtnodcoemjojlhaaDoorNqF
namespace Go.Proofs.YtnodcoemjojlhaaDoor
open Go Go.RowKit
set_option linter.unusedVariables false
set_option linter.unusedSimpArgs false
set_option maxHeartbeats 8000000

def S8 (x : Bool) (zs : List Int) (P K v : Int) (m : Nat) : St :=
  ⟨[eZ x zs, .int .i64 P, .int .i64 K, .top, .top, .top, .top, .int .i64 v, .top, .own 0 (zs.drop m).length 0 (zs.drop m).length, .int .i64 ((m : Int) - 1)] ++ List.replicate 157 .top,
    [some ⟨(zs.drop m).length, 1, true, intRows (zs.drop m).reverse⟩]⟩
theorem drop_rev {zs : List Int} {j : Nat} {a : Int} (h : zs[j]? = some a) : (zs.drop j).reverse = (zs.drop (j + 1)).reverse ++ [a] := by
  obtain ⟨h1, e⟩ := List.getElem?_eq_some_iff.1 h
  rw [List.drop_eq_getElem_cons h1, e, List.reverse_cons]
set_option maxRecDepth 100000 in
theorem turn8 (x : Bool) (zs : List Int) (P K v : Int) (hN : zs.length ≤ 60) (E : Option Out) (s0 : St)
    (hE : evLoop (evCode (evC Dg) 70 c8b1) [0, 1, 2, 7, 9, 10] 1 70 s0 = E) (h0 : norm [0, 1, 2, 7, 9, 10] 1 s0 = S8 x zs P K v zs.length) :
    E = evCode (evC Dg) 70 c8b1 (S8 x zs P K v 0) := by
  obtain ⟨N, hNN⟩ := ex_eq zs.length
  have hlz : (intRows zs).length = N := by simp [intRows, hNN]
  have H := loop_stop (body := evCode (evC Dg) 70 c8b1) (keep := [0, 1, 2, 7, 9, 10]) (n0 := 1) (fuel := 70) (S8 x zs P K v) (fun m => m) (fun m => m ≤ N) (fun m => m = 0)
    (by
      intro m hm hs
      obtain ⟨j, rfl⟩ : ∃ j, m = j + 1 := ⟨m - 1, by omega⟩
      obtain ⟨a, ha⟩ : ∃ a, zs[j]? = some a := ⟨_, List.getElem?_eq_getElem (by omega)⟩
      have row : (intRows zs)[j]? = some [PV.int .i64 a] := by unfold intRows; rw [List.getElem?_map, ha]; rfl
      have rowg : ∀ h, (intRows zs)[j]'h = [PV.int .i64 a] := fun h => by
        rw [List.getElem?_eq_getElem h] at row
        exact Option.some.inj row
      have hr := drop_rev ha
      obtain ⟨R, hR⟩ := ex_eq (zs.drop (j + 1)).reverse
      have hl2 : (zs.drop (j + 1)).length = R.length := by rw [← hR, List.length_reverse]
      have hl1 : (zs.drop j).length = R.length + 1 := by rw [← List.length_reverse, hr, hR]; simp
      have hir : intRows (R ++ [a]) = intRows R ++ [[PV.int .i64 a]] := by simp [intRows]
      have hil : (intRows R).length = R.length := by simp [intRows]
      have hRl : R.length ≤ 60 := by rw [← hl2, List.length_drop]; omega
      rw [hR] at hr
      have hj' : (j : Int) < N := by omega
      have hj : j < N := by omega
      have w0 : IntKind.i64.wrap ((j : Int) - 1) = (j : Int) - 1 := wrap_i64 _ (by omega) (by omega)
      have m1 : (R.length + 1) * 8 ≤ 140737488355328 := by omega
      have m2 : R.length + 1 ≤ 140737488355328 := by omega
      refine ⟨j, ?_⟩
      unfold c8b1
      simp [evCode, evOps, evOne, evOp, evPur, evEff, evPur.chunks, fillP, AOp.isEff, AO.ev, putP, PV.cells, PV.leaf, getB, getM, mapE, keyC, mapRows, mfind, eq1, eqL, scal, binP, unP, minP, maxP, foldP, PV.lt, PV.lt.ltL, endP, expoAll, expo, expo.expoL, frIds, frIds.frIdsL, nodupN, kill, cls, clsFuel, resO, RV.get, loadP, evC_p, evC_s, endS, endT, rowsOf, callP, thinL, unfr, unfr.unfrL, PV.noMem, PV.noMem.noMemL, optI, mapO, norm, trimT, trimB, forget, hasN, blksLt, List.set, S8, eZ, hlz, hR, hr, hl1, hl2, hir, hil, row, rowg, hj', hj, w0, m1, m2]
      omega)
    (by
      intro m _ hm s
      subst hm
      unfold c8b1
      simp [evCode, evOps, evOne, evOp, evPur, evEff, evPur.chunks, fillP, AOp.isEff, AO.ev, putP, PV.cells, PV.leaf, getB, getM, mapE, keyC, mapRows, mfind, eq1, eqL, scal, binP, unP, minP, maxP, foldP, PV.lt, PV.lt.ltL, endP, expoAll, expo, expo.expoL, frIds, frIds.frIdsL, nodupN, kill, cls, clsFuel, resO, RV.get, loadP, evC_p, evC_s, endS, endT, rowsOf, callP, thinL, unfr, unfr.unfrL, PV.noMem, PV.noMem.noMemL, optI, mapO, norm, trimT, trimB, forget, hasN, blksLt, List.set, S8, eZ, hlz])
    N (Nat.le_refl _) (by omega) s0 E hE (by rw [h0, hNN])
  obtain ⟨m, _, hm, h⟩ := H
  subst hm
  exact h
end Go.Proofs.YtnodcoemjojlhaaDoor
