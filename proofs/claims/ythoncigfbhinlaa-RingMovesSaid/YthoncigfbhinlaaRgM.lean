/- ring: Take of both, and whether two lists of records are the same. -/
import Derived.Test.YthoncigfbhinlaaRgL
namespace Go.Proofs.Ythoncigfbhinlaa
open Go Go.RowKit
set_option linter.unusedVariables false
set_option linter.unusedSimpArgs false
set_option maxHeartbeats 8000000

/-- the buffer after Take -/
def takS (p : Int) (D : List Nat) (s e f m : Int) : Int := if errF p D s e f m = 0 then e else s
def takF (p : Int) (D : List Nat) (s e f m : Int) : Int := if errF p D s e f m = 0 then m else f
/-- rows of a call before: lent, or none, new -/
def eT (er : Int) (rows : List (List PV)) : PV := if er = 0 then .sl false 1 rows else .fr 1 rows
set_option maxRecDepth 100000 in
theorem f16 (x : Bool) (p : Int) (D : List Nat) (s e f m : Int) (hD : D.length ≤ 100000) (ok : okB D) : evE Dg 16 [eR p (eB x D) s e f m] = some (.tup [eT (errF p D s e f m) (rcR (goodL p D s e f m)), eR p (eB x D) (takS p D s e f m) e (takF p D s e f m) m]) := by
  have h := f27 x p D s e f m hD ok
  have hg : ¬ errF p D s e f m = 0 → goodL p D s e f m = [] := fun h => by unfold goodL; rw [if_neg h]
  have el := rcR_len (goodL p D s e f m)
  have z0 : rcR [] = [] := rfl
  unfold takS takF
  generalize errF p D s e f m = er at *
  generalize goodL p D s e f m = l at *
  simp only [eR, eB] at h
  by_cases c : er = 0
  · subst c
    refine evE_intro 3 D16 rfl ?_
    unfold c16
    simp [evCode, evOps, evOne, evOp, evPur, evEff, evPur.chunks, fillP, AOp.isEff, AO.ev, putP, PV.cells, PV.leaf, getB, getM, mapE, keyC, mapRows, mfind, eq1, eqL, scal, binP, unP, minP, maxP, foldP, PV.lt, PV.lt.ltL, endP, expoAll, expo, expo.expoL, frIds, frIds.frIdsL, nodupN, kill, cls, clsFuel, resO, RV.get, loadP, evC_p, evC_s, endS, endT, rowsOf, callP, thinL, unfr, unfr.unfrL, PV.noMem, PV.noMem.noMemL, optI, mapO, norm, trimT, trimB, forget, hasN, blksLt, List.set, eR, eB, eT, h, el]
  · have hl := hg c
    subst hl
    refine evE_intro 3 D16 rfl ?_
    unfold c16
    simp [evCode, evOps, evOne, evOp, evPur, evEff, evPur.chunks, fillP, AOp.isEff, AO.ev, putP, PV.cells, PV.leaf, getB, getM, mapE, keyC, mapRows, mfind, eq1, eqL, scal, binP, unP, minP, maxP, foldP, PV.lt, PV.lt.ltL, endP, expoAll, expo, expo.expoL, frIds, frIds.frIdsL, nodupN, kill, cls, clsFuel, resO, RV.get, loadP, evC_p, evC_s, endS, endT, rowsOf, callP, thinL, unfr, unfr.unfrL, PV.noMem, PV.noMem.noMemL, optI, mapO, norm, trimT, trimB, forget, hasN, blksLt, List.set, eR, eB, eT, h, c, z0]
theorem good_rec {p : Int} {D : List Nat} {s e f m : Int} (h : errF p D s e f m = 0) : recsF D s e = some (goodL p D s e f m) := by
  obtain ⟨a, b⟩ := err_nums h
  unfold goodL
  rw [if_pos h]
  unfold errF at h
  rw [if_pos a, if_pos b] at h
  revert h
  rcases recsF D s e with _ | l
  · intro h; cases h
  · intro h; rfl
set_option maxRecDepth 100000 in
theorem f17 (x : Bool) (p : Int) (D : List Nat) (s e f m : Int) (hD : D.length ≤ 100000) (ok : okB D) : evE Dg 17 [eR p (eB x D) s e f m] = some (.tup [eT (errF p D s e f m) (rcN (goodL p D s e f m)), eR p (eB x D) (takS p D s e f m) e (takF p D s e f m) m]) := by
  have h := f18 x p D s e f m hD ok
  have hg : ¬ errF p D s e f m = 0 → goodL p D s e f m = [] := fun h => by unfold goodL; rw [if_neg h]
  have el := rcN_len (goodL p D s e f m)
  have z0 : rcN [] = [] := rfl
  have hn := err_nums (p := p) (D := D) (s := s) (e := e) (f := f) (m := m)
  have hr := good_rec (p := p) (D := D) (s := s) (e := e) (f := f) (m := m)
  unfold takS takF
  generalize errF p D s e f m = er at *
  generalize goodL p D s e f m = l at *
  by_cases c : er = 0
  · subst c
    obtain ⟨_, n0, n1, n2, n3, n4, n5, _, _, _⟩ := hn rfl
    have hr := hr rfl
    obtain ⟨S, rfl⟩ : ∃ q : Nat, s = q := ⟨s.toNat, by omega⟩
    obtain ⟨T, rfl⟩ : ∃ q : Nat, e = q := ⟨e.toNat, by omega⟩
    have h30 := f30 x p f m D S T (by omega) (by omega) (by omega) (by omega) (by omega)
    have okc := contF_ok (D := D) (s := S) (L := T - S) ok
    have lc := contF_len (D := D) (s := S) (L := T - S) (by omega)
    have hrec : recsF D S T = recF ((contF D S (T - S)).length + 1) (contF D S (T - S)) := by unfold recsF; simp
    have h29 := f29 (contF D S (T - S)) okc (by omega)
    unfold rs29 at h29
    rw [← hrec, hr] at h29
    generalize contF D S (T - S) = C at *
    simp only [eR, eB] at h h30 h29
    refine evE_intro 3 D17 rfl ?_
    unfold c17
    simp [evCode, evOps, evOne, evOp, evPur, evEff, evPur.chunks, fillP, AOp.isEff, AO.ev, putP, PV.cells, PV.leaf, getB, getM, mapE, keyC, mapRows, mfind, eq1, eqL, scal, binP, unP, minP, maxP, foldP, PV.lt, PV.lt.ltL, endP, expoAll, expo, expo.expoL, frIds, frIds.frIdsL, nodupN, kill, cls, clsFuel, resO, RV.get, loadP, evC_p, evC_s, endS, endT, rowsOf, callP, thinL, unfr, unfr.unfrL, PV.noMem, PV.noMem.noMemL, optI, mapO, norm, trimT, trimB, forget, hasN, blksLt, List.set, eR, eB, eT, h, h30, h29, el]
  · have hl := hg c
    subst hl
    simp only [eR, eB] at h
    refine evE_intro 3 D17 rfl ?_
    unfold c17
    simp [evCode, evOps, evOne, evOp, evPur, evEff, evPur.chunks, fillP, AOp.isEff, AO.ev, putP, PV.cells, PV.leaf, getB, getM, mapE, keyC, mapRows, mfind, eq1, eqL, scal, binP, unP, minP, maxP, foldP, PV.lt, PV.lt.ltL, endP, expoAll, expo, expo.expoL, frIds, frIds.frIdsL, nodupN, kill, cls, clsFuel, resO, RV.get, loadP, evC_p, evC_s, endS, endT, rowsOf, callP, thinL, unfr, unfr.unfrL, PV.noMem, PV.noMem.noMemL, optI, mapO, norm, trimT, trimB, forget, hasN, blksLt, List.set, eR, eB, eT, h, c, z0]
end Go.Proofs.Ythoncigfbhinlaa
