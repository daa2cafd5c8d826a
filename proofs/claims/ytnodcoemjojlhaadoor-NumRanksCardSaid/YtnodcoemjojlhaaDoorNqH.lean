/- num: NumRanks, the second loop. -/
import Derived.Test.YtnodcoemjojlhaaDoorNqG
namespace Go.Proofs.YtnodcoemjojlhaaDoor
open Go Go.RowKit
set_option linter.unusedVariables false
set_option linter.unusedSimpArgs false
set_option maxHeartbeats 8000000

def S9 (x : Bool) (zs : List Int) (R : List (List PV)) (n : Nat) (v lo hi nx : Int) (u : Nat × Bool) : St :=
  ⟨[eZ x zs, .top, .top, .top, .top, .top, .top, .int .i64 v, .top, .top, .top, .int .i64 v, .bool true, .int .i64 lo, .bool true, .int .i64 hi, .bool true, .int .i64 nx, .bool true, .bool u.2, .int .i64 u.1] ++ List.replicate 147 .top, [some ⟨n, 1, true, R⟩]⟩
set_option maxRecDepth 100000 in
theorem seek8 (x : Bool) (zs : List Int) (R : List (List PV)) (n : Nat) (v lo hi nx : Int) (hN : zs.length ≤ 60) (hb : ∀ z ∈ zs, lo ≤ z ∧ z ≤ hi) (hv : v ∈ zs) (E : Option Out) (s0 : St)
    (hE : evLoop (evCode (evC Dg) 70 c8b0) [0, 7, 11, 12, 13, 14, 15, 16, 17, 18, 19, 20] 1 70 s0 = E) (h0 : norm [0, 7, 11, 12, 13, 14, 15, 16, 17, 18, 19, 20] 1 s0 = S9 x zs R n v lo hi nx (0, false)) :
    E = evCode (evC Dg) 70 c8b0 (S9 x zs R n v lo hi nx (zs.length, true)) := by
  obtain ⟨N, hNN⟩ := ex_eq zs.length
  have hlz : (intRows zs).length = N := by simp [intRows, hNN]
  have H := loop_stop (body := evCode (evC Dg) 70 c8b0) (keep := [0, 7, 11, 12, 13, 14, 15, 16, 17, 18, 19, 20]) (n0 := 1) (fuel := 70) (S9 x zs R n v lo hi nx) (fun u => N - u.1) (fun u => u.1 ≤ N ∧ (v ∈ zs.take u.1 → u.2 = true)) (fun u => u.1 = N)
    (by
      rintro ⟨j, f⟩ ⟨hj0, hf⟩ hs
      simp only at hj0 hf hs
      obtain ⟨a, ha⟩ : ∃ a, zs[j]? = some a := ⟨_, List.getElem?_eq_getElem (by omega)⟩
      have row : (intRows zs)[j]? = some [PV.int .i64 a] := by unfold intRows; rw [List.getElem?_map, ha]; rfl
      have rowg : ∀ h, (intRows zs)[j]'h = [PV.int .i64 a] := fun h => by
        rw [List.getElem?_eq_getElem h] at row
        exact Option.some.inj row
      obtain ⟨b1, b2⟩ := hb a (List.mem_of_getElem? ha)
      have b1' : ¬ a < lo := by omega
      have b2' : ¬ hi < a := by omega
      have hj : j < N := by omega
      have hj' : (j : Int) < N := by omega
      have w0 := wrap_i64 ((j : Int) + 1) (by omega) (by omega)
      have step : ∀ g : Bool, (f = true → g = true) → (a = v → g = true) → (v ∈ zs.take (j + 1) → g = true) := fun g h1 h2 hm => by
        rcases mem_take_succ ha hm with h | h
        · exact h1 (hf h)
        · exact h2 h.symm
      cases f with
      | true =>
        have s1 := step true (fun _ => rfl) (fun _ => rfl)
        refine ⟨(j + 1, true), ?_⟩
        unfold c8b0
        simp [evCode, evOps, evOne, evOp, evPur, evEff, evPur.chunks, fillP, AOp.isEff, AO.ev, putP, PV.cells, PV.leaf, getB, getM, mapE, keyC, mapRows, mfind, eq1, eqL, scal, binP, unP, minP, maxP, foldP, PV.lt, PV.lt.ltL, endP, expoAll, expo, expo.expoL, frIds, frIds.frIdsL, nodupN, kill, cls, clsFuel, resO, RV.get, loadP, evC_p, evC_s, endS, endT, rowsOf, callP, thinL, unfr, unfr.unfrL, PV.noMem, PV.noMem.noMemL, optI, mapO, norm, trimT, trimB, forget, hasN, blksLt, List.set, S9, eZ, hlz, row, rowg, hj, hj', w0, b1', b2']
        omega
      | false =>
        by_cases e : a = v
        · have s1 := step true (fun _ => rfl) (fun _ => rfl)
          subst e
          refine ⟨(j + 1, true), ?_⟩
          unfold c8b0
          simp [evCode, evOps, evOne, evOp, evPur, evEff, evPur.chunks, fillP, AOp.isEff, AO.ev, putP, PV.cells, PV.leaf, getB, getM, mapE, keyC, mapRows, mfind, eq1, eqL, scal, binP, unP, minP, maxP, foldP, PV.lt, PV.lt.ltL, endP, expoAll, expo, expo.expoL, frIds, frIds.frIdsL, nodupN, kill, cls, clsFuel, resO, RV.get, loadP, evC_p, evC_s, endS, endT, rowsOf, callP, thinL, unfr, unfr.unfrL, PV.noMem, PV.noMem.noMemL, optI, mapO, norm, trimT, trimB, forget, hasN, blksLt, List.set, S9, eZ, hlz, row, rowg, hj, hj', w0, b1', b2']
          omega
        · have s1 := step false (fun h => h) (fun h => absurd h e)
          refine ⟨(j + 1, false), ?_⟩
          unfold c8b0
          simp [evCode, evOps, evOne, evOp, evPur, evEff, evPur.chunks, fillP, AOp.isEff, AO.ev, putP, PV.cells, PV.leaf, getB, getM, mapE, keyC, mapRows, mfind, eq1, eqL, scal, binP, unP, minP, maxP, foldP, PV.lt, PV.lt.ltL, endP, expoAll, expo, expo.expoL, frIds, frIds.frIdsL, nodupN, kill, cls, clsFuel, resO, RV.get, loadP, evC_p, evC_s, endS, endT, rowsOf, callP, thinL, unfr, unfr.unfrL, PV.noMem, PV.noMem.noMemL, optI, mapO, norm, trimT, trimB, forget, hasN, blksLt, List.set, S9, eZ, hlz, row, rowg, hj, hj', w0, b1', b2', e]
          refine ⟨⟨by omega, ?_⟩, by omega⟩
          intro hm
          have := s1 hm
          simp at this)
    (by
      rintro ⟨j, f⟩ _ hm s
      simp only at hm
      subst hm
      unfold c8b0
      simp [evCode, evOps, evOne, evOp, evPur, evEff, evPur.chunks, fillP, AOp.isEff, AO.ev, putP, PV.cells, PV.leaf, getB, getM, mapE, keyC, mapRows, mfind, eq1, eqL, scal, binP, unP, minP, maxP, foldP, PV.lt, PV.lt.ltL, endP, expoAll, expo, expo.expoL, frIds, frIds.frIdsL, nodupN, kill, cls, clsFuel, resO, RV.get, loadP, evC_p, evC_s, endS, endT, rowsOf, callP, thinL, unfr, unfr.unfrL, PV.noMem, PV.noMem.noMemL, optI, mapO, norm, trimT, trimB, forget, hasN, blksLt, List.set, S9, eZ, hlz])
    (0, false) ⟨Nat.zero_le _, fun h => by simp at h⟩ (by simp only; omega) s0 E hE (by rw [h0])
  obtain ⟨⟨j, f⟩, ⟨_, hf⟩, hm, h⟩ := H
  simp only at hm hf h
  subst hm
  have : f = true := hf (by rw [← hNN, List.take_length]; exact hv)
  subst this
  rw [hNN]
  exact h
end Go.Proofs.YtnodcoemjojlhaaDoor
