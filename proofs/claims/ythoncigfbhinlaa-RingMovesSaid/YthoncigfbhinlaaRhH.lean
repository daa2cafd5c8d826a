/- ring: contents at other positions; lists of records of either kind. -/
import Derived.Test.YthoncigfbhinlaaRhF
namespace Go.Proofs.Ythoncigfbhinlaa
open Go Go.RowKit
set_option linter.unusedVariables false
set_option linter.unusedSimpArgs false
set_option maxHeartbeats 8000000

/-- records, handed on or not -/
def rcM (l : List (Bool × List Nat)) : List (List PV) := l.map fun q => [PV.sl q.1 1 (bR q.2)]
theorem rcM_len (l : List (Bool × List Nat)) : (rcM l).length = l.length := by simp [rcM]
theorem rcM_app (a b : List (Bool × List Nat)) : rcM (a ++ b) = rcM a ++ rcM b := by simp [rcM]
theorem rcM_get {l : List (Bool × List Nat)} {k : Nat} {z : Bool × List Nat} (h : l[k]? = some z) : (rcM l)[k]? = some [.sl z.1 1 (bR z.2)] := by simp [rcM, h]
theorem rcM_got {l : List (Bool × List Nat)} {k : Nat} {z : Bool × List Nat} (h : l[k]? = some z) : ∀ q, (rcM l)[k]'q = [.sl z.1 1 (bR z.2)] := fun q => by
  have := rcM_get h
  rw [List.getElem?_eq_getElem q] at this
  exact Option.some.inj this
theorem rcR_M (l : List (List Nat)) : rcR l = rcM (l.map fun r => (true, r)) := by simp [rcR, rcM, Function.comp_def]
def S21m (A B : List (Bool × List Nat)) (k : Nat) : St := ⟨[.sl false 1 (rcM A), .sl false 1 (rcM B), .top, .top, .top, .int .i64 k] ++ List.replicate 22 .top, []⟩
set_option maxRecDepth 100000 in
theorem f21m (A B : List (Bool × List Nat)) (hAB : A.map (·.2) = B.map (·.2)) (hL : A.length ≤ 100000) : evE Dg 21 [.sl false 1 (rcM A), .sl false 1 (rcM B)] = some (.bool true) := by
  have hl : A.length = B.length := by have := congrArg List.length hAB; simpa using this
  have l1 := rcM_len A
  have l2 := rcM_len B
  rw [← hl] at l2
  have H := loop_foldE (body := evCode (evC Dg) 100010 c21b0) (keep := [0, 1, 5]) (n0 := 0) (fuel := 100010) A (fun k (_ : Unit) => S21m A B k) (fun _ _ => ()) (fun _ _ => True)
    (by
      rintro k a _ ha hk -
      refine ⟨trivial, ?_⟩
      obtain ⟨b, hb⟩ : ∃ b, B[k]? = some b := ⟨_, List.getElem?_eq_getElem (by omega)⟩
      have hab : a.2 = b.2 := by
        have h1 : (A.map (·.2))[k]? = some a.2 := by simp [ha]
        have h2 : (B.map (·.2))[k]? = some b.2 := by simp [hb]
        rw [hAB, h2] at h1
        exact (Option.some.inj h1).symm
      have g1 := rcM_got ha
      have g2 := rcM_got hb
      have g3 := rcM_get ha
      have g4 := rcM_get hb
      rw [← hab] at g2 g4
      have sb := strB a.2
      have w : IntKind.i64.wrap ((k : Int) + 1) = (k : Int) + 1 := wrap_i64 _ (by omega) (by omega)
      unfold c21b0
      simp [evCode, evOps, evOne, evOp, evPur, evEff, evPur.chunks, fillP, AOp.isEff, AO.ev, putP, PV.cells, PV.leaf, getB, getM, mapE, keyC, mapRows, mfind, eq1, eqL, scal, binP, unP, minP, maxP, foldP, PV.lt, PV.lt.ltL, endP, expoAll, expo, expo.expoL, frIds, frIds.frIdsL, nodupN, kill, cls, clsFuel, resO, RV.get, loadP, evC_p, evC_s, endS, endT, rowsOf, callP, thinL, unfr, unfr.unfrL, PV.noMem, PV.noMem.noMemL, optI, mapO, norm, trimT, trimB, forget, hasN, blksLt, List.set, S21m, l1, l2, g1, g2, g3, g4, sb, w, hk])
    (by
      intro _ _ t
      unfold c21b0
      simp [evCode, evOps, evOne, evOp, evPur, evEff, evPur.chunks, fillP, AOp.isEff, AO.ev, putP, PV.cells, PV.leaf, getB, getM, mapE, keyC, mapRows, mfind, eq1, eqL, scal, binP, unP, minP, maxP, foldP, PV.lt, PV.lt.ltL, endP, expoAll, expo, expo.expoL, frIds, frIds.frIdsL, nodupN, kill, cls, clsFuel, resO, RV.get, loadP, evC_p, evC_s, endS, endT, rowsOf, callP, thinL, unfr, unfr.unfrL, PV.noMem, PV.noMem.noMemL, optI, mapO, norm, trimT, trimB, forget, hasN, blksLt, List.set, S21m, l1, l2])
    (by omega) () trivial
  refine evE_intro 100010 D21 rfl ?_
  unfold c21
  simp [evCode, evOps, evOne, evOp, evPur, evEff, evPur.chunks, fillP, AOp.isEff, AO.ev, putP, PV.cells, PV.leaf, getB, getM, mapE, keyC, mapRows, mfind, eq1, eqL, scal, binP, unP, minP, maxP, foldP, PV.lt, PV.lt.ltL, endP, expoAll, expo, expo.expoL, frIds, frIds.frIdsL, nodupN, kill, cls, clsFuel, resO, RV.get, loadP, evC_p, evC_s, endS, endT, rowsOf, callP, thinL, unfr, unfr.unfrL, PV.noMem, PV.noMem.noMemL, optI, mapO, norm, trimT, trimB, forget, hasN, blksLt, List.set, l1, l2]
  generalize hE : evLoop _ _ _ _ _ = E
  obtain ⟨h, _⟩ := H _ _ hE (by simp [evCode, evOps, evOne, evOp, evPur, evEff, evPur.chunks, fillP, AOp.isEff, AO.ev, putP, PV.cells, PV.leaf, getB, getM, mapE, keyC, mapRows, mfind, eq1, eqL, scal, binP, unP, minP, maxP, foldP, PV.lt, PV.lt.ltL, endP, expoAll, expo, expo.expoL, frIds, frIds.frIdsL, nodupN, kill, cls, clsFuel, resO, RV.get, loadP, evC_p, evC_s, endS, endT, rowsOf, callP, thinL, unfr, unfr.unfrL, PV.noMem, PV.noMem.noMemL, optI, mapO, norm, trimT, trimB, forget, hasN, blksLt, List.set, S21m])
  rw [h]
  unfold c21b0
  simp [evCode, evOps, evOne, evOp, evPur, evEff, evPur.chunks, fillP, AOp.isEff, AO.ev, putP, PV.cells, PV.leaf, getB, getM, mapE, keyC, mapRows, mfind, eq1, eqL, scal, binP, unP, minP, maxP, foldP, PV.lt, PV.lt.ltL, endP, expoAll, expo, expo.expoL, frIds, frIds.frIdsL, nodupN, kill, cls, clsFuel, resO, RV.get, loadP, evC_p, evC_s, endS, endT, rowsOf, callP, thinL, unfr, unfr.unfrL, PV.noMem, PV.noMem.noMemL, optI, mapO, norm, trimT, trimB, forget, hasN, blksLt, List.set, S21m, l1, l2]
theorem f21r (l : List (List Nat)) (hL : l.length ≤ 100000) : evE Dg 21 [.sl false 1 (rcR l), .sl false 1 (rcR l)] = some (.bool true) := by
  rw [rcR_M]
  exact f21m _ _ rfl (by simpa using hL)
theorem contF_shift (D : List Nat) (s k L : Nat) : contF D (s + k * D.length) L = contF D s L := by
  unfold contF
  rw [Nat.add_mul_mod_self_right]
theorem recsF_shift (D : List Nat) (s e : Int) (k : Nat) (hs : 0 ≤ s) (he : s ≤ e) : recsF D (s + ((k * D.length : Nat) : Int)) (e + ((k * D.length : Nat) : Int)) = recsF D s e := by
  have h1 : (s + ((k * D.length : Nat) : Int)).toNat = s.toNat + k * D.length := by omega
  have h2 : (e + ((k * D.length : Nat) : Int)).toNat = e.toNat + k * D.length := by omega
  have h3 : e.toNat + k * D.length - (s.toNat + k * D.length) = e.toNat - s.toNat := by omega
  unfold recsF
  rw [h1, h2, h3, contF_shift]
theorem err_shift {p : Int} {D : List Nat} {s e f m : Int} (k : Nat) (h : errF p D s e f m = 0) (hb : e + ((k * D.length : Nat) : Int) ≤ 1000000000000000) : errF p D (s + ((k * D.length : Nat) : Int)) (e + ((k * D.length : Nat) : Int)) f m = 0 := by
  obtain ⟨a, n⟩ := err_nums h
  have n' : numsOk D.length (s + ((k * D.length : Nat) : Int)) (e + ((k * D.length : Nat) : Int)) f m := by
    unfold numsOk at *
    omega
  unfold errF at *
  rw [if_pos a, if_pos n] at h
  rw [if_pos a, if_pos n', recsF_shift D s e k (by have := n.2.2.1; exact this) (by have := n.2.2.2.1; exact this)]
  exact h
theorem good_shift {p : Int} {D : List Nat} {s e f m : Int} (k : Nat) (h : errF p D s e f m = 0) (hb : e + ((k * D.length : Nat) : Int) ≤ 1000000000000000) : goodL p D (s + ((k * D.length : Nat) : Int)) (e + ((k * D.length : Nat) : Int)) f m = goodL p D s e f m := by
  have h' := err_shift k h hb
  have r1 := good_rec h
  have r2 := good_rec h'
  obtain ⟨a, n⟩ := err_nums h
  rw [recsF_shift D s e k (by have := n.2.2.1; exact this) (by have := n.2.2.2.1; exact this), r1] at r2
  exact (Option.some.inj r2).symm
theorem fre_shift {p : Int} {D : List Nat} {s e f m : Int} (k : Nat) (h : errF p D s e f m = 0) (hb : e + ((k * D.length : Nat) : Int) ≤ 1000000000000000) : freF p D (s + ((k * D.length : Nat) : Int)) (e + ((k * D.length : Nat) : Int)) f m = freF p D s e f m := by
  unfold freF
  rw [if_pos h, if_pos (err_shift k h hb)]
  omega
theorem cnt_shift {p : Int} {D : List Nat} {s e f m : Int} (k : Nat) (h : errF p D s e f m = 0) (hb : e + ((k * D.length : Nat) : Int) ≤ 1000000000000000) : cntF p D (s + ((k * D.length : Nat) : Int)) (e + ((k * D.length : Nat) : Int)) f m = cntF p D s e f m := by
  unfold cntF
  rw [if_pos h, if_pos (err_shift k h hb)]
theorem rm_shift {D : List Nat} {s e : Int} (z : Int) : rmF D (s + z) (e + z) = rmF D s e := by
  unfold rmF
  congr 1
  omega
end Go.Proofs.Ythoncigfbhinlaa
