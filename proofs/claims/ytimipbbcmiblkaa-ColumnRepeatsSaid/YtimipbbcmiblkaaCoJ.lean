/- column: the coding with a dictionary, whole. -/
import Derived.Test.YtimipbbcmiblkaaCoI
namespace Go.Proofs.Ytimipbbcmiblkaa
open Go Go.RowKit
set_option linter.unusedVariables false
set_option linter.unusedSimpArgs false
set_option maxHeartbeats 4000000

theorem bR_nm : ∀ (l : List Nat), PV.noMem.noMemLL (bR l) = true
  | [] => rfl
  | z :: l => by
    have := bR_nm l
    simp only [bR, List.map_cons, PV.noMem.noMemLL, PV.noMem.noMemL, PV.noMem, Bool.and_true, Bool.true_and] at this ⊢
    exact this
set_option maxRecDepth 100000 in
theorem f34 (x : Bool) (l : List Val) (hl : l.length ≤ 20000) (hv : ∀ v ∈ l, okW v) : evE Dg 34 [eV x l] = some (.fr 1 (bR (dicB l))) := by
  have e1 := vRows_len l
  have hb0 : ∀ b, Nat.blt b 0 = false := fun b => by cases b <;> rfl
  have H := loop_inv (body := evCode (evC Dg) (l.length + 1) c34b0) (keep := [3, 4, 5, 11, 12, 13]) (n0 := 4) (fuel := l.length + 1) l (S34 x l) (I34 l) (fun _ => False)
    (by
      rintro k v q hu hk hI
      left
      have ok := hv v (List.mem_of_getElem? hu)
      obtain ⟨s', q1, q2⟩ := step34 x l k q v hl hu hk hI ok
      exact ⟨_, s', q1, q2, hI.next (by omega) hu ok⟩)
    (by
      rintro q _ s
      unfold c34b0
      simp [evCode, evOps, evOne, evOp, evPur, evEff, evPur.chunks, fillP, AOp.isEff, AO.ev, putP, PV.cells, PV.leaf, getB, getM, mapE, iterE, keyC, mapRows, mfind, eq1, eqL, scal, binP, unP, minP, maxP, foldP, PV.lt, PV.lt.ltL, endP, expoAll, expoG, expo, expo.expoL, frIds, frIds.frIdsL, nodupN, kill, cls, clsFuel, resO, RV.get, loadP, evC_p, evC_s, endS, endT, rowsOf, callP, thinL, unfr, unfr.unfrL, PV.noMem, PV.noMem.noMemL, optI, mapO, norm, trimT, trimB, forget, hasN, blksLt, List.set, softChk, softGo, softRd, effTg, rdP, S34, eV, e1])
    (by omega) ([], []) ⟨rfl, by simp, by simp, by simp⟩
  refine evE_intro (l.length + 1) D34 rfl ?_
  unfold c34
  simp [evCode, evOps, evOne, evOp, evPur, evEff, evPur.chunks, fillP, AOp.isEff, AO.ev, putP, PV.cells, PV.leaf, getB, getM, mapE, iterE, keyC, mapRows, mfind, eq1, eqL, scal, binP, unP, minP, maxP, foldP, PV.lt, PV.lt.ltL, endP, expoAll, expoG, expo, expo.expoL, frIds, frIds.frIdsL, nodupN, kill, cls, clsFuel, resO, RV.get, loadP, evC_p, evC_s, endS, endT, rowsOf, callP, thinL, unfr, unfr.unfrL, PV.noMem, PV.noMem.noMemL, optI, mapO, norm, trimT, trimB, forget, hasN, blksLt, List.set, softChk, softGo, softRd, effTg, rdP, eV, e1]
  generalize hE : evLoop _ _ _ _ _ = E
  rcases H _ _ hE (by simp [evCode, evOps, evOne, evOp, evPur, evEff, evPur.chunks, fillP, AOp.isEff, AO.ev, putP, PV.cells, PV.leaf, getB, getM, mapE, iterE, keyC, mapRows, mfind, eq1, eqL, scal, binP, unP, minP, maxP, foldP, PV.lt, PV.lt.ltL, endP, expoAll, expoG, expo, expo.expoL, frIds, frIds.frIdsL, nodupN, kill, cls, clsFuel, resO, RV.get, loadP, evC_p, evC_s, endS, endT, rowsOf, callP, thinL, unfr, unfr.unfrL, PV.noMem, PV.noMem.noMemL, optI, mapO, norm, trimT, trimB, forget, hasN, blksLt, List.set, softChk, softGo, softRd, effTg, rdP, S34, eV, e1, flB, mRows, bR]) with ⟨⟨W, T⟩, ⟨hq, hok, h3, h4⟩, q2⟩ | ⟨_, _, q3⟩
  · rw [q2]
    rw [List.take_length] at hq
    simp only at hok h3 h4
    have hd : dicB l = cat [(true, [3]), (false, putI W.length), (false, flB W), (false, T)] := by
      unfold dicB
      rw [← hq]
      simp [cat]
    rw [hd]
    have h45 := f45 (W.length : Int) (by omega) (by omega)
    have hpl := putI_len (n := (W.length : Int)) (by omega) (by omega)
    have hlen := flB_len hok
    have lM := mRows_len W 0
    generalize putI (W.length : Int) = Q at *
    have lQ := bR_len Q
    have lB := bR_len (flB W)
    have lT := bR_len T
    have tQ : (bR Q).take Q.length = bR Q := List.take_of_length_le (by rw [lQ]; exact Nat.le_refl _)
    have tB : (bR (flB W)).take (flB W).length = bR (flB W) := List.take_of_length_le (by rw [lB]; exact Nat.le_refl _)
    have tT : (bR T).take T.length = bR T := List.take_of_length_le (by rw [lT]; exact Nat.le_refl _)
    have h46 := f46 false [(true, [3]), (false, Q), (false, flB W), (false, T)] (by simp) (by simp [cat]) (by simp [cat]; omega)
    generalize cat [(true, [3]), (false, Q), (false, flB W), (false, T)] = R at *
    have lR := bR_len R
    have nR := bR_nm R
    have tR : (bR R).take R.length = bR R := List.take_of_length_le (by rw [lR]; exact Nat.le_refl _)
    have b3 : bR [3] = [[PV.int .u8 3]] := rfl
    simp only [cRows, List.map_cons, List.map_nil, b3] at h46
    have im : ∀ rows, impB (PV.fr 1 rows) = [⟨rows.length, 1, true, rows⟩] := fun _ => rfl
    have iv : ∀ k rows, impV k (PV.fr 1 rows) = .own k rows.length 0 rows.length := fun _ _ => rfl
    unfold c34b0 c34r0
    simp [evCode, evOps, evOne, evOp, evPur, evEff, evPur.chunks, fillP, AOp.isEff, AO.ev, putP, PV.cells, PV.leaf, getB, getM, mapE, iterE, keyC, mapRows, mfind, eq1, eqL, scal, binP, unP, minP, maxP, foldP, PV.lt, PV.lt.ltL, endP, expoAll, expoG, expo, expo.expoL, frIds, frIds.frIdsL, nodupN, kill, cls, clsFuel, resO, RV.get, loadP, evC_p, evC_s, endS, endT, rowsOf, callP, thinL, unfr, unfr.unfrL, PV.noMem, PV.noMem.noMemL, optI, mapO, norm, trimT, trimB, forget, hasN, blksLt, List.set, softChk, softGo, softRd, effTg, rdP, S34, eV, e1, lM, h45, h46, im, iv, lQ, lB, lT, lR, nR, tQ, tB, tT, tR, hb0]
  · exact q3.elim
end Go.Proofs.Ytimipbbcmiblkaa
