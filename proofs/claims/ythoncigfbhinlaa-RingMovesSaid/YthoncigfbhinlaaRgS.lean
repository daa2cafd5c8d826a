/- ring: bytes written round the end, of the reference. -/
import Derived.Test.YthoncigfbhinlaaRgR
namespace Go.Proofs.Ythoncigfbhinlaa
open Go Go.RowKit
set_option linter.unusedVariables false
set_option linter.unusedSimpArgs false
set_option maxHeartbeats 8000000

/-- the first i bytes of P, written from a on, round the end -/
def wrF (D : List Nat) (a : Nat) (P : List Nat) : Nat → List Nat
  | 0 => D
  | i + 1 => (wrF D a P i).set ((a + i) % D.length) (P[i]?.getD 0)
theorem wrF_len (D : List Nat) (a : Nat) (P : List Nat) (i : Nat) : (wrF D a P i).length = D.length := by
  induction i with
  | zero => rfl
  | succ i ih => simp [wrF, ih]
theorem bR_set (l : List Nat) (k z : Nat) : (bR l).set k [PV.int .u8 (z : Int)] = bR (l.set k z) := by simp [bR, List.map_set]
def S35 (D : List Nat) (a : Nat) (P : List Nat) (k : Nat) : St :=
  ⟨[.top, .int .i64 a, .sl false 1 (bR P), .top, .top, .top, .top, .own 1 D.length 0 D.length, .int .i64 k] ++ List.replicate 22 .top,
    [some ⟨0, 1, true, []⟩, some ⟨D.length, 1, true, bR (wrF D a P k)⟩]⟩
set_option maxRecDepth 100000 in
theorem f35 (x : Bool) (D P : List Nat) (a : Nat) (h1 : 1 ≤ D.length) (h2 : D.length ≤ 100000) (hP : P.length ≤ 10000) (ha : a ≤ 1000000000000000) :
    evE Dg 35 [eB x D, .int .i64 a, .sl false 1 (bR P)] = some (.fr 1 (bR (wrF D a P P.length))) := by
  have e1 := bR_len P
  have eD := bR_len D
  have H := loop_foldE (body := evCode (evC Dg) 10010 c35b0) (keep := [1, 2, 7, 8]) (n0 := 2) (fuel := 10010) P (fun k (_ : Unit) => S35 D a P k) (fun _ _ => ()) (fun _ _ => True)
    (by
      rintro k z _ hz hk -
      refine ⟨trivial, ?_⟩
      have lw := wrF_len D a P k
      have eW := bR_len (wrF D a P k)
      have hlt : (a + k) % D.length < D.length := Nat.mod_lt _ (by omega)
      have hnx : bR (wrF D a P (k + 1)) = (bR (wrF D a P k)).set ((a + k) % D.length) [PV.int .u8 (z : Int)] := by
        rw [bR_set, wrF, hz]; rfl
      have ht : Int.tmod ((a : Int) + k) (D.length : Int) = (((a + k) % D.length : Nat) : Int) := by rw [Int.tmod_eq_emod_of_nonneg (by omega), Int.natCast_emod, Int.natCast_add]
      have n0 : ¬ D.length = 0 := by omega
      have n0' : ¬ (D.length : Int) = 0 := by omega
      have n0'' : ¬ D = [] := fun h => n0 (by rw [h]; rfl)
      have r1 := bR_get hz
      have g1 := bR_got hz
      obtain ⟨W, hW⟩ := ex_eq (wrF D a P k)
      rw [hW] at lw eW hnx
      obtain ⟨j, hj⟩ := ex_eq ((a + k) % D.length)
      rw [hj] at ht hlt hnx
      have hlt' : (j : Int) < D.length := by omega
      have w0 : IntKind.i64.wrap ((a : Int) + k) = (a : Int) + k := wrap_i64 _ (by omega) (by omega)
      have w1 : IntKind.i64.wrap ((k : Int) + 1) = (k : Int) + 1 := wrap_i64 _ (by omega) (by omega)
      obtain ⟨y, hy⟩ : ∃ y, W[j]? = some y := ⟨_, List.getElem?_eq_getElem (by omega)⟩
      have r2 := bR_get hy
      have g2 := bR_got hy
      unfold c35b0
      simp [evCode, evOps, evOne, evOp, evPur, evEff, evPur.chunks, fillP, AOp.isEff, AO.ev, putP, PV.cells, PV.leaf, getB, getM, mapE, keyC, mapRows, mfind, eq1, eqL, scal, binP, unP, minP, maxP, foldP, PV.lt, PV.lt.ltL, endP, expoAll, expo, expo.expoL, frIds, frIds.frIdsL, nodupN, kill, cls, clsFuel, resO, RV.get, loadP, evC_p, evC_s, endS, endT, rowsOf, callP, thinL, unfr, unfr.unfrL, PV.noMem, PV.noMem.noMemL, optI, mapO, norm, trimT, trimB, forget, hasN, blksLt, List.set, S35, e1, eW, lw, hW, r2, g2, hk, ht, n0, n0', n0'', r1, g1, hlt, hlt', w0, w1, hnx])
    (by
      intro _ _ t
      unfold c35b0
      simp [evCode, evOps, evOne, evOp, evPur, evEff, evPur.chunks, fillP, AOp.isEff, AO.ev, putP, PV.cells, PV.leaf, getB, getM, mapE, keyC, mapRows, mfind, eq1, eqL, scal, binP, unP, minP, maxP, foldP, PV.lt, PV.lt.ltL, endP, expoAll, expo, expo.expoL, frIds, frIds.frIdsL, nodupN, kill, cls, clsFuel, resO, RV.get, loadP, evC_p, evC_s, endS, endT, rowsOf, callP, thinL, unfr, unfr.unfrL, PV.noMem, PV.noMem.noMemL, optI, mapO, norm, trimT, trimB, forget, hasN, blksLt, List.set, S35, e1])
    (by omega) () trivial
  have k1 : List.take D.length (bR D) = bR D := List.take_of_length_le (by rw [eD]; exact Nat.le_refl _)
  have m1 : D.length * 1 ≤ 140737488355328 := by omega
  have m2 : D.length ≤ 140737488355328 := by omega
  have lw := wrF_len D a P P.length
  have eW := bR_len (wrF D a P P.length)
  refine evE_intro 10010 D35 rfl ?_
  unfold c35
  simp [evCode, evOps, evOne, evOp, evPur, evEff, evPur.chunks, fillP, AOp.isEff, AO.ev, putP, PV.cells, PV.leaf, getB, getM, mapE, keyC, mapRows, mfind, eq1, eqL, scal, binP, unP, minP, maxP, foldP, PV.lt, PV.lt.ltL, endP, expoAll, expo, expo.expoL, frIds, frIds.frIdsL, nodupN, kill, cls, clsFuel, resO, RV.get, loadP, evC_p, evC_s, endS, endT, rowsOf, callP, thinL, unfr, unfr.unfrL, PV.noMem, PV.noMem.noMemL, optI, mapO, norm, trimT, trimB, forget, hasN, blksLt, List.set, eB, eD, k1, m1, m2, bR_lt]
  generalize hE : evLoop _ _ _ _ _ = E
  obtain ⟨h, _⟩ := H _ _ hE (by simp [evCode, evOps, evOne, evOp, evPur, evEff, evPur.chunks, fillP, AOp.isEff, AO.ev, putP, PV.cells, PV.leaf, getB, getM, mapE, keyC, mapRows, mfind, eq1, eqL, scal, binP, unP, minP, maxP, foldP, PV.lt, PV.lt.ltL, endP, expoAll, expo, expo.expoL, frIds, frIds.frIdsL, nodupN, kill, cls, clsFuel, resO, RV.get, loadP, evC_p, evC_s, endS, endT, rowsOf, callP, thinL, unfr, unfr.unfrL, PV.noMem, PV.noMem.noMemL, optI, mapO, norm, trimT, trimB, forget, hasN, blksLt, List.set, S35, wrF, bR_lt])
  rw [h]
  obtain ⟨W, hW⟩ := ex_eq (wrF D a P P.length)
  rw [hW] at lw eW ⊢
  unfold c35b0
  simp [evCode, evOps, evOne, evOp, evPur, evEff, evPur.chunks, fillP, AOp.isEff, AO.ev, putP, PV.cells, PV.leaf, getB, getM, mapE, keyC, mapRows, mfind, eq1, eqL, scal, binP, unP, minP, maxP, foldP, PV.lt, PV.lt.ltL, endP, expoAll, expo, expo.expoL, frIds, frIds.frIdsL, nodupN, kill, cls, clsFuel, resO, RV.get, loadP, evC_p, evC_s, endS, endT, rowsOf, callP, thinL, unfr, unfr.unfrL, PV.noMem, PV.noMem.noMemL, optI, mapO, norm, trimT, trimB, forget, hasN, blksLt, List.set, S35, e1, hW, lw, eW, bR_lt]
end Go.Proofs.Ythoncigfbhinlaa
