/- itree: Of. -/
import Derived.Test.YtkodjmlhmpokoaaItE
namespace Go.Proofs.Ytkodjmlhmpokoaa
open Go Go.RowKit
set_option linter.unusedVariables false
set_option linter.unusedSimpArgs false
set_option maxHeartbeats 4000000

def fil (n k : Nat) : List Int := (List.range k).map (fun (i : Nat) => (i : Int)) ++ List.replicate (n - k) 0
theorem fil_len {n k : Nat} (h : k ≤ n) : (fil n k).length = n := by simp [fil]; omega
theorem fil_set {n k : Nat} (h : k < n) : (fil n k).set k (k : Int) = fil n (k + 1) := by
  unfold fil
  rw [List.set_append_right _ _ (by simp)]
  simp only [List.length_map, List.length_range, Nat.sub_self]
  rw [show n - k = (n - (k + 1)) + 1 by omega, List.replicate_succ, List.set_cons_zero, List.range_succ]
  simp
theorem fil_get {n k : Nat} (h : k < n) : (fil n k)[k]? = some 0 := by
  unfold fil
  rw [List.getElem?_append_right (by simp)]
  simp only [List.length_map, List.length_range, Nat.sub_self]
  rw [List.getElem?_replicate, if_pos (by omega)]
theorem fil_fin (n : Nat) : iR (fil n n) = finRows (List.finRange n) := by
  unfold iR fil finRows
  apply List.ext_getElem
  · simp
  · intro i h1 h2
    simp
def G9 (x : Bool) (l : List Sp) (rows m : List (List PV)) : Blks := [some ⟨1, 1, true, [[eS x l]]⟩, some ⟨1, 2, true, [[.nilS, .nilS]]⟩, some ⟨l.length, 1, true, rows⟩, some ⟨l.length, 1, true, m⟩, some ⟨1, 2, false, [[.own 2 l.length 0 l.length, .own 3 l.length 0 l.length]]⟩]
theorem fam9 (x : Bool) (l : List Sp) (o : List Nat) : Fam 2 3 l.length o 5 (fun m => G9 x l (nR o) (iR m)) where
  len m := rfl
  g1 m := rfl
  g2 m := rfl
  st m m' := rfl
  lt m k hk := by
    have q1 : Nat.blt 2 k = true := blt_of (by omega)
    have q2 : Nat.blt 3 k = true := blt_of (by omega)
    simp [blksLt, G9, PV.lt.ltL, PV.lt, q1, q2]
  l1 := by omega
  l2 := by omega
def S9 (x : Bool) (l : List Sp) (k : Nat) : St := ⟨[.top, .ptr 0 1 0 0, .ptr 1 1 0 0, .ptr 4 1 0 0] ++ List.replicate 9 .top ++ [.int .i64 l.length, .int .i64 k] ++ List.replicate 18 .top, G9 x l (iR (fil l.length k)) (iR (List.replicate l.length 0))⟩
def ordP (l : List Sp) : List Nat := (srtI l (List.finRange l.length)).map (·.val)
theorem nR_ordP (l : List Sp) : finRows (srtI l (List.finRange l.length)) = nR (ordP l) := by simp [finRows, nR, ordP]
def mostP (l : List Sp) : List Int := mst (endN l (ordP l)) l.length 0 l.length (List.replicate l.length 0)
set_option maxRecDepth 100000 in
theorem f9 (x : Bool) (l : List Sp) (hl : l.length < 1000000) (ho : (ordP l).length = l.length) (hm : ∀ i ∈ ordP l, i < l.length) : evE Dg 9 [eS x l] = some (.agg [.fr 1 (nR (ordP l)), .fr 1 (iR (mostP l))]) := by
  have e1 := spRows_len l
  have e2 := iR_len
  have hb0 : ∀ b, Nat.blt b 0 = false := fun b => by cases b <;> rfl
  have h23 : evS Dg 23 [.own 2 l.length 0 l.length, .fn 24 [.ptr 0 1 0 0]] (G9 x l (iR (fil l.length l.length)) (iR (List.replicate l.length 0))) = some (.tup [], G9 x l (nR (ordP l)) (iR (List.replicate l.length 0))) := by
    refine evS_ext D23 rfl ?_
    have hle := fil_len (Nat.le_refl l.length)
    have hfl : (finRows (List.finRange l.length)).length = l.length := by simp [finRows]
    rw [fil_fin]
    simp [xSortI, G9, getB, boxOf, eS, spOf_rows, finOf_rows, nR_ordP, hfl, hl, mapE]
  have h27 := f27 x l (ordP l) 2 3 l.length (by omega) ho (by omega) hm l.length 0 l.length (by omega) (by omega) (by omega) 5 _ (List.replicate l.length 0) (fam9 x l (ordP l)) (by simp)
  change _ = some (PV.tup [], G9 x l (nR (ordP l)) (iR (mostP l))) at h27
  have eM : (mostP l).length = l.length := by unfold mostP; rw [mst_len]; simp
  have eO : (nR (ordP l)).length = l.length := by rw [nR_len, ho]
  generalize mostP l = M at *
  generalize ordP l = o at *
  have H := loop_inv (body := evCode (evC Dg) (l.length + 1) c9b0) (keep := [1, 2, 3, 13, 14]) (n0 := 5) (fuel := l.length + 1) l (fun k (_ : Unit) => S9 x l k) (fun _ _ => True) (fun _ => False)
    (by
      intro k a _ ha hk _
      left
      refine ⟨(), ?_⟩
      refine (fun ⟨s', q1, q2⟩ => ⟨s', q1, q2, trivial⟩ : (∃ s', _ ∧ _) → _) ?_
      have hk' : (k : Int) < l.length := by omega
      have w1 := wrap_i64 ((k : Int) + 1) (by omega) (by omega)
      have fl := fil_len (n := l.length) (k := k) (by omega)
      have fs := fil_set hk
      have g := iR_got (fil_get hk)
      have r := iR_get (fil_get hk)
      have iS := iR_set
      apply NormTo.mk
      unfold c9b0
      simp [evCode, evOps, evOne, evOp, evPur, evEff, evPur.chunks, fillP, AOp.isEff, AO.ev, putP, PV.cells, PV.leaf, getB, getM, mapE, iterE, keyC, mapRows, mfind, eq1, eqL, scal, binP, unP, minP, maxP, foldP, PV.lt, PV.lt.ltL, endP, expoAll, expoG, expo, expo.expoL, frIds, frIds.frIdsL, nodupN, kill, cls, clsFuel, resO, RV.get, loadP, evC_p, evC_s, endS, endT, rowsOf, callP, thinL, unfr, unfr.unfrL, PV.noMem, PV.noMem.noMemL, optI, mapO, norm, trimT, trimB, forget, hasN, blksLt, List.set, softChk, softGo, softRd, effTg, rdP, S9, G9, eS, e1, e2, fl, g, r, hk, hk', w1, iS, fs]
      unfold NormTo
      rw [norm_le (by simp)]
      simp [forget, hasN])
    (by
      intro _ _ s
      unfold c9b0
      simp [evCode, evOps, evOne, evOp, evPur, evEff, evPur.chunks, fillP, AOp.isEff, AO.ev, putP, PV.cells, PV.leaf, getB, getM, mapE, iterE, keyC, mapRows, mfind, eq1, eqL, scal, binP, unP, minP, maxP, foldP, PV.lt, PV.lt.ltL, endP, expoAll, expoG, expo, expo.expoL, frIds, frIds.frIdsL, nodupN, kill, cls, clsFuel, resO, RV.get, loadP, evC_p, evC_s, endS, endT, rowsOf, callP, thinL, unfr, unfr.unfrL, PV.noMem, PV.noMem.noMemL, optI, mapO, norm, trimT, trimB, forget, hasN, blksLt, List.set, softChk, softGo, softRd, effTg, rdP, S9])
    (by omega) () trivial
  refine evE_intro (l.length + 1) D9 rfl ?_
  have hz : List.replicate l.length [PV.int .i64 0] = iR (List.replicate l.length 0) := by simp [iR]
  have b1' : (l.length : Int) * 8 ≤ 140737488355328 := by omega
  have b2' : (l.length : Int) ≤ 140737488355328 := by omega
  have hp : (0 : Int) ≤ (l.length : Int) := by omega
  unfold c9
  simp [evCode, evOps, evOne, evOp, evPur, evEff, evPur.chunks, fillP, AOp.isEff, AO.ev, putP, PV.cells, PV.leaf, getB, getM, mapE, iterE, keyC, mapRows, mfind, eq1, eqL, scal, binP, unP, minP, maxP, foldP, PV.lt, PV.lt.ltL, endP, expoAll, expoG, expo, expo.expoL, frIds, frIds.frIdsL, nodupN, kill, cls, clsFuel, resO, RV.get, loadP, evC_p, evC_s, endS, endT, rowsOf, callP, thinL, unfr, unfr.unfrL, PV.noMem, PV.noMem.noMemL, optI, mapO, norm, trimT, trimB, forget, hasN, blksLt, List.set, softChk, softGo, softRd, effTg, rdP, eS, e1, b1', b2', hp, hz, hb0]
  generalize hE : evLoop _ _ _ _ _ = E
  rcases H _ _ hE (by
    rw [norm_le (by simp)]
    simp [forget, hasN, S9, G9, eS, fil, hz]) with ⟨_, _, q2⟩ | ⟨s, _, q3⟩
  · rw [q2]
    rw [show ((0 : Nat) : Int) = 0 from rfl] at h27
    simp only [eS, G9] at h23 h27
    have fl := fil_len (Nat.le_refl l.length)
    unfold c9b0 c9r0
    simp [evCode, evOps, evOne, evOp, evPur, evEff, evPur.chunks, fillP, AOp.isEff, AO.ev, putP, PV.cells, PV.leaf, getB, getM, mapE, iterE, keyC, mapRows, mfind, eq1, eqL, scal, binP, unP, minP, maxP, foldP, PV.lt, PV.lt.ltL, endP, expoAll, expoG, expo, expo.expoL, frIds, frIds.frIdsL, nodupN, kill, cls, clsFuel, resO, RV.get, loadP, evC_p, evC_s, endS, endT, rowsOf, callP, thinL, unfr, unfr.unfrL, PV.noMem, PV.noMem.noMemL, optI, mapO, norm, trimT, trimB, forget, hasN, blksLt, List.set, softChk, softGo, softRd, effTg, rdP, S9, G9, eS, e1, e2, fl, h23, h27, hb0, eM, ho, eO]
    try rfl
  · exact q3.elim
end Go.Proofs.Ytkodjmlhmpokoaa
