/- ring: the contents, as the reference reads them. -/
import Derived.Test.YthoncigfbhinlaaRgF
namespace Go.Proofs.Ythoncigfbhinlaa
open Go Go.RowKit
set_option linter.unusedVariables false
set_option linter.unusedSimpArgs false
set_option maxHeartbeats 8000000

def cl (p : Int) (d : PV) (s e f m : Int) : List PV := [.int .i64 p, d, .int .i64 s, .int .i64 e, .int .i64 f, .int .i64 m]
def S30 (x : Bool) (p f m : Int) (D : List Nat) (s e : Nat) (k : Nat) : St :=
  ⟨[.top, .ptr 0 1 0 0, .top, .own 2 k 0 k, .int .i64 ((s : Int) + k)] ++ List.replicate 21 .top,
    [some ⟨1, 6, true, [cl p (eB x D) s e f m]⟩, some ⟨0, 1, true, []⟩, some ⟨k, 1, true, bR (contF D s k)⟩]⟩
set_option maxRecDepth 100000 in
theorem f30 (x : Bool) (p f m : Int) (D : List Nat) (s e : Nat) (h1 : 16 ≤ D.length) (h2 : D.length ≤ 65536) (hse : s ≤ e) (hL : e - s ≤ D.length) (he : e ≤ 1000000000000000) :
    evE Dg 30 [eR p (eB x D) s e f m] = some (.fr 1 (bR (contF D s (e - s)))) := by
  have e1 := bR_len D
  have H := loop_foldE (body := evCode (evC Dg) 65540 c30b0) (keep := [1, 3, 4]) (n0 := 3) (fuel := 65540) (List.replicate (e - s) ()) (fun k (_ : Unit) => S30 x p f m D s e k) (fun _ _ => ()) (fun _ _ => True)
    (by
      rintro k _ _ - hk -
      simp only [List.length_replicate] at hk
      refine ⟨trivial, ?_⟩
      have hlt : (s + k) % D.length < D.length := Nat.mod_lt _ (by omega)
      obtain ⟨z, hz⟩ : ∃ z, D[(s + k) % D.length]? = some z := ⟨_, List.getElem?_eq_getElem hlt⟩
      have hz2 := contF_get (D := D) (s := s) (L := k + 1) (j := k) (by omega) (by omega)
      rw [hz] at hz2
      have l1 := contF_len (D := D) (s := s) (L := k) (by omega)
      have l2 := contF_len (D := D) (s := s) (L := k + 1) (by omega)
      have hnx : contF D s (k + 1) = contF D s k ++ [z] := by
        have t : contF D s k = (contF D s (k + 1)).take k := by unfold contF; rw [List.take_take]; congr 1; omega
        rw [t]
        have := List.take_add_one (l := contF D s (k + 1)) (i := k)
        rw [hz2, List.take_of_length_le (by omega)] at this
        simpa using this
      have ht : Int.tmod ((s : Int) + k) (D.length : Int) = (((s + k) % D.length : Nat) : Int) := by rw [Int.tmod_eq_emod_of_nonneg (by omega), Int.natCast_emod, Int.natCast_add]
      have n0 : ¬ D.length = 0 := by omega
      have n0' : ¬ (D.length : Int) = 0 := by omega
      have n0'' : ¬ D = [] := fun h => n0 (by rw [h]; rfl)
      have r1 := bR_get hz
      have g1 := bR_got hz
      obtain ⟨j, hj⟩ := ex_eq ((s + k) % D.length)
      rw [hj] at ht r1 g1 hlt
      have hse' : (s : Int) + k < e := by omega
      have w1 : IntKind.i64.wrap ((s : Int) + ((k : Int) + 1)) = (s : Int) + ((k : Int) + 1) := wrap_i64 _ (by omega) (by omega)
      have w2 : (s : Int) + k + 1 = (s : Int) + (k + 1) := by omega
      have m1 : (k + 1) * 1 ≤ 140737488355328 := by omega
      have m2 : k + 1 ≤ 140737488355328 := by omega
      have e3 : (bR (contF D s k)).length = k := by rw [bR_len, l1]
      have e4 := bR_app (contF D s k) [z]
      have e5 : bR [z] = [[PV.int .u8 (z : Int)]] := rfl
      unfold c30b0
      simp [evCode, evOps, evOne, evOp, evPur, evEff, evPur.chunks, fillP, AOp.isEff, AO.ev, putP, PV.cells, PV.leaf, getB, getM, mapE, keyC, mapRows, mfind, eq1, eqL, scal, binP, unP, minP, maxP, foldP, PV.lt, PV.lt.ltL, endP, expoAll, expo, expo.expoL, frIds, frIds.frIdsL, nodupN, kill, cls, clsFuel, resO, RV.get, loadP, evC_p, evC_s, endS, endT, rowsOf, callP, thinL, unfr, unfr.unfrL, PV.noMem, PV.noMem.noMemL, optI, mapO, norm, trimT, trimB, forget, hasN, blksLt, List.set, S30, cl, eB, e1, hse', ht, n0, n0', n0'', r1, g1, hlt, w1, w2, m1, m2, e3, hnx, e4, e5])
    (by
      intro _ _ t
      have hse' : ¬ ((s : Int) + ((e - s : Nat) : Int) < e) := by omega
      simp only [List.length_replicate]
      obtain ⟨L, hL⟩ := ex_eq (e - s)
      rw [hL] at hse' ⊢
      unfold c30b0
      simp [evCode, evOps, evOne, evOp, evPur, evEff, evPur.chunks, fillP, AOp.isEff, AO.ev, putP, PV.cells, PV.leaf, getB, getM, mapE, keyC, mapRows, mfind, eq1, eqL, scal, binP, unP, minP, maxP, foldP, PV.lt, PV.lt.ltL, endP, expoAll, expo, expo.expoL, frIds, frIds.frIdsL, nodupN, kill, cls, clsFuel, resO, RV.get, loadP, evC_p, evC_s, endS, endT, rowsOf, callP, thinL, unfr, unfr.unfrL, PV.noMem, PV.noMem.noMemL, optI, mapO, norm, trimT, trimB, forget, hasN, blksLt, List.set, S30, cl, eB, hse'])
    (by simp; omega) () trivial
  refine evE_intro 65540 D30 rfl ?_
  unfold c30
  simp [evCode, evOps, evOne, evOp, evPur, evEff, evPur.chunks, fillP, AOp.isEff, AO.ev, putP, PV.cells, PV.leaf, getB, getM, mapE, keyC, mapRows, mfind, eq1, eqL, scal, binP, unP, minP, maxP, foldP, PV.lt, PV.lt.ltL, endP, expoAll, expo, expo.expoL, frIds, frIds.frIdsL, nodupN, kill, cls, clsFuel, resO, RV.get, loadP, evC_p, evC_s, endS, endT, rowsOf, callP, thinL, unfr, unfr.unfrL, PV.noMem, PV.noMem.noMemL, optI, mapO, norm, trimT, trimB, forget, hasN, blksLt, List.set, eR, eB]
  generalize hE : evLoop _ _ _ _ _ = E
  have hc0 : bR (contF D s 0) = [] := by unfold contF; rfl
  obtain ⟨h, _⟩ := H _ _ hE (by simp [evCode, evOps, evOne, evOp, evPur, evEff, evPur.chunks, fillP, AOp.isEff, AO.ev, putP, PV.cells, PV.leaf, getB, getM, mapE, keyC, mapRows, mfind, eq1, eqL, scal, binP, unP, minP, maxP, foldP, PV.lt, PV.lt.ltL, endP, expoAll, expo, expo.expoL, frIds, frIds.frIdsL, nodupN, kill, cls, clsFuel, resO, RV.get, loadP, evC_p, evC_s, endS, endT, rowsOf, callP, thinL, unfr, unfr.unfrL, PV.noMem, PV.noMem.noMemL, optI, mapO, norm, trimT, trimB, forget, hasN, blksLt, List.set, S30, cl, eB, hc0])
  have hse' : ¬ ((s : Int) + ((e - s : Nat) : Int) < e) := by omega
  have l3 : (bR (contF D s (e - s))).length = e - s := by rw [bR_len, contF_len hL]
  simp only [List.length_replicate] at h
  rw [h]
  obtain ⟨L, hLL⟩ := ex_eq (e - s)
  rw [hLL] at hse' l3 ⊢
  unfold c30b0
  simp [evCode, evOps, evOne, evOp, evPur, evEff, evPur.chunks, fillP, AOp.isEff, AO.ev, putP, PV.cells, PV.leaf, getB, getM, mapE, keyC, mapRows, mfind, eq1, eqL, scal, binP, unP, minP, maxP, foldP, PV.lt, PV.lt.ltL, endP, expoAll, expo, expo.expoL, frIds, frIds.frIdsL, nodupN, kill, cls, clsFuel, resO, RV.get, loadP, evC_p, evC_s, endS, endT, rowsOf, callP, thinL, unfr, unfr.unfrL, PV.noMem, PV.noMem.noMemL, optI, mapO, norm, trimT, trimB, forget, hasN, blksLt, List.set, S30, cl, eB, hse', l3]
end Go.Proofs.Ythoncigfbhinlaa
