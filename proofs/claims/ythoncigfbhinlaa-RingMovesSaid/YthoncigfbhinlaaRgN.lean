/- ring: SameBytes and Same of things that are the same; RingChecks. -/
import Derived.Test.YthoncigfbhinlaaRgM
import Derived.Test.YthoncigfbhinlaaAw
import Derived.Test.YthoncigfbhinlaaGc
namespace Go.Proofs.Ythoncigfbhinlaa
open Go Go.RowKit
set_option linter.unusedVariables false
set_option linter.unusedSimpArgs false
set_option maxHeartbeats 8000000

def strF (l : List Nat) : List UInt8 := l.map fun z => UInt8.ofNat z
theorem strB : ∀ l : List Nat, bytesOfRows (bR l) = some (strF l)
  | [] => rfl
  | z :: l => by
    have := strB l
    unfold bR at this
    simp [bR, bytesOfRows, this, strF]
theorem rcR_got {l : List (List Nat)} {k : Nat} {z : List Nat} (h : l[k]? = some z) : ∀ q, (rcR l)[k]'q = [.sl true 1 (bR z)] := fun q => by
  have : (rcR l)[k]? = some [.sl true 1 (bR z)] := by simp [rcR, h]
  rw [List.getElem?_eq_getElem q] at this
  exact Option.some.inj this
theorem rcN_got {l : List (List Nat)} {k : Nat} {z : List Nat} (h : l[k]? = some z) : ∀ q, (rcN l)[k]'q = [.sl false 1 (bR z)] := fun q => by
  have : (rcN l)[k]? = some [.sl false 1 (bR z)] := by simp [rcN, h]
  rw [List.getElem?_eq_getElem q] at this
  exact Option.some.inj this
theorem rcR_get {l : List (List Nat)} {k : Nat} {z : List Nat} (h : l[k]? = some z) : (rcR l)[k]? = some [.sl true 1 (bR z)] := by simp [rcR, h]
theorem rcN_get {l : List (List Nat)} {k : Nat} {z : List Nat} (h : l[k]? = some z) : (rcN l)[k]? = some [.sl false 1 (bR z)] := by simp [rcN, h]

def S21 (L : List (List Nat)) (k : Nat) : St := ⟨[.sl false 1 (rcR L), .sl false 1 (rcN L), .top, .top, .top, .int .i64 k] ++ List.replicate 22 .top, []⟩
set_option maxRecDepth 100000 in
theorem f21 (L : List (List Nat)) (hL : L.length ≤ 100000) : evE Dg 21 [.sl false 1 (rcR L), .sl false 1 (rcN L)] = some (.bool true) := by
  have l1 := rcR_len L
  have l2 := rcN_len L
  have H := loop_foldE (body := evCode (evC Dg) 100010 c21b0) (keep := [0, 1, 5]) (n0 := 0) (fuel := 100010) L (fun k (_ : Unit) => S21 L k) (fun _ _ => ()) (fun _ _ => True)
    (by
      rintro k a _ ha hk -
      refine ⟨trivial, ?_⟩
      have g1 := rcR_got ha
      have g2 := rcN_got ha
      have g3 := rcR_get ha
      have g4 := rcN_get ha
      have sb := strB a
      have w : IntKind.i64.wrap ((k : Int) + 1) = (k : Int) + 1 := wrap_i64 _ (by omega) (by omega)
      unfold c21b0
      simp [evCode, evOps, evOne, evOp, evPur, evEff, evPur.chunks, fillP, AOp.isEff, AO.ev, putP, PV.cells, PV.leaf, getB, getM, mapE, keyC, mapRows, mfind, eq1, eqL, scal, binP, unP, minP, maxP, foldP, PV.lt, PV.lt.ltL, endP, expoAll, expo, expo.expoL, frIds, frIds.frIdsL, nodupN, kill, cls, clsFuel, resO, RV.get, loadP, evC_p, evC_s, endS, endT, rowsOf, callP, thinL, unfr, unfr.unfrL, PV.noMem, PV.noMem.noMemL, optI, mapO, norm, trimT, trimB, forget, hasN, blksLt, List.set, S21, l1, l2, g1, g2, g3, g4, sb, w, hk])
    (by
      intro _ _ t
      unfold c21b0
      simp [evCode, evOps, evOne, evOp, evPur, evEff, evPur.chunks, fillP, AOp.isEff, AO.ev, putP, PV.cells, PV.leaf, getB, getM, mapE, keyC, mapRows, mfind, eq1, eqL, scal, binP, unP, minP, maxP, foldP, PV.lt, PV.lt.ltL, endP, expoAll, expo, expo.expoL, frIds, frIds.frIdsL, nodupN, kill, cls, clsFuel, resO, RV.get, loadP, evC_p, evC_s, endS, endT, rowsOf, callP, thinL, unfr, unfr.unfrL, PV.noMem, PV.noMem.noMemL, optI, mapO, norm, trimT, trimB, forget, hasN, blksLt, List.set, S21, l1, l2])
    (by omega) () trivial
  refine evE_intro 100010 D21 rfl ?_
  unfold c21
  simp [evCode, evOps, evOne, evOp, evPur, evEff, evPur.chunks, fillP, AOp.isEff, AO.ev, putP, PV.cells, PV.leaf, getB, getM, mapE, keyC, mapRows, mfind, eq1, eqL, scal, binP, unP, minP, maxP, foldP, PV.lt, PV.lt.ltL, endP, expoAll, expo, expo.expoL, frIds, frIds.frIdsL, nodupN, kill, cls, clsFuel, resO, RV.get, loadP, evC_p, evC_s, endS, endT, rowsOf, callP, thinL, unfr, unfr.unfrL, PV.noMem, PV.noMem.noMemL, optI, mapO, norm, trimT, trimB, forget, hasN, blksLt, List.set, l1, l2]
  generalize hE : evLoop _ _ _ _ _ = E
  obtain ⟨h, _⟩ := H _ _ hE (by simp [evCode, evOps, evOne, evOp, evPur, evEff, evPur.chunks, fillP, AOp.isEff, AO.ev, putP, PV.cells, PV.leaf, getB, getM, mapE, keyC, mapRows, mfind, eq1, eqL, scal, binP, unP, minP, maxP, foldP, PV.lt, PV.lt.ltL, endP, expoAll, expo, expo.expoL, frIds, frIds.frIdsL, nodupN, kill, cls, clsFuel, resO, RV.get, loadP, evC_p, evC_s, endS, endT, rowsOf, callP, thinL, unfr, unfr.unfrL, PV.noMem, PV.noMem.noMemL, optI, mapO, norm, trimT, trimB, forget, hasN, blksLt, List.set, S21])
  rw [h]
  unfold c21b0
  simp [evCode, evOps, evOne, evOp, evPur, evEff, evPur.chunks, fillP, AOp.isEff, AO.ev, putP, PV.cells, PV.leaf, getB, getM, mapE, keyC, mapRows, mfind, eq1, eqL, scal, binP, unP, minP, maxP, foldP, PV.lt, PV.lt.ltL, endP, expoAll, expo, expo.expoL, frIds, frIds.frIdsL, nodupN, kill, cls, clsFuel, resO, RV.get, loadP, evC_p, evC_s, endS, endT, rowsOf, callP, thinL, unfr, unfr.unfrL, PV.noMem, PV.noMem.noMemL, optI, mapO, norm, trimT, trimB, forget, hasN, blksLt, List.set, S21, l1, l2]
set_option maxRecDepth 100000 in
theorem f22 (x : Bool) (p : Int) (D : List Nat) (s e f m : Int) (hD : D.length ≤ 100000) (ok : okB D) : evE Dg 22 [eR p (eB x D) s e f m, eR p (eB x D) s e f m] = some (.bool true) := by
  have h := f18 x p D s e f m hD ok
  have hn := err_nums (p := p) (D := D) (s := s) (e := e) (f := f) (m := m)
  have sb := strB D
  generalize errF p D s e f m = er at *
  have e1 := bR_len D
  by_cases c : er = 0
  · subst c
    obtain ⟨_, n0, n1, n2, n3, n4, n5, _, _, _⟩ := hn rfl
    obtain ⟨S, rfl⟩ : ∃ q : Nat, s = q := ⟨s.toNat, by omega⟩
    obtain ⟨T, rfl⟩ : ∃ q : Nat, e = q := ⟨e.toNat, by omega⟩
    have h30 := f30 x p f m D S T (by omega) (by omega) (by omega) (by omega) (by omega)
    have sc := strB (contF D S (T - S))
    generalize contF D S (T - S) = C at *
    simp only [eR, eB] at h h30
    refine evE_intro 3 D22 rfl ?_
    unfold c22
    simp [evCode, evOps, evOne, evOp, evPur, evEff, evPur.chunks, fillP, AOp.isEff, AO.ev, putP, PV.cells, PV.leaf, getB, getM, mapE, keyC, mapRows, mfind, eq1, eqL, scal, binP, unP, minP, maxP, foldP, PV.lt, PV.lt.ltL, endP, expoAll, expo, expo.expoL, frIds, frIds.frIdsL, nodupN, kill, cls, clsFuel, resO, RV.get, loadP, evC_p, evC_s, endS, endT, rowsOf, callP, thinL, unfr, unfr.unfrL, PV.noMem, PV.noMem.noMemL, optI, mapO, norm, trimT, trimB, forget, hasN, blksLt, List.set, eR, eB, h, h30, e1, sc]
  · simp only [eR, eB] at h
    refine evE_intro 3 D22 rfl ?_
    unfold c22
    simp [evCode, evOps, evOne, evOp, evPur, evEff, evPur.chunks, fillP, AOp.isEff, AO.ev, putP, PV.cells, PV.leaf, getB, getM, mapE, keyC, mapRows, mfind, eq1, eqL, scal, binP, unP, minP, maxP, foldP, PV.lt, PV.lt.ltL, endP, expoAll, expo, expo.expoL, frIds, frIds.frIdsL, nodupN, kill, cls, clsFuel, resO, RV.get, loadP, evC_p, evC_s, endS, endT, rowsOf, callP, thinL, unfr, unfr.unfrL, PV.noMem, PV.noMem.noMemL, optI, mapO, norm, trimT, trimB, forget, hasN, blksLt, List.set, eR, eB, h, c, e1, sb]
end Go.Proofs.Ythoncigfbhinlaa
