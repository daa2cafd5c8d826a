/- FlowEnds. -/
import Derived.Test.YtlnaibkpmklkiaaOpI
namespace Go.Proofs.Ytlnaibkpmklkiaa
open Go Go.RowKit
set_option maxHeartbeats 4000000
set_option linter.unusedVariables false
set_option linter.unusedSimpArgs false

def S5a (l : List Tm) (F : List Fl) (Z : List Int) (i : Nat) : St :=
  ⟨[.sl false 10 (tRows l), .top, .top, .sl false 7 (fRows F), .sl false 1 (zRows Z), .int .i64 ((flows l i).length : Nat), .int .i64 i] ++ List.replicate 158 .top, []⟩
theorem flows_at {l : List Tm} {i : Nat} {s t : Tm} (hil : i < l.length) (ht : l[i]? = some t) (h7 : t.kd = 7) (hs : lastT l i t.n = some s) :
    flows l (i + 1) = flows l i ++ [mkF s t] ∧ (flows l l.length)[(flows l i).length]? = some (mkF s t) := by
  have e : flows l (i + 1) = flows l i ++ [mkF s t] := by simp only [flows, ht]; rw [if_pos h7, hs]
  refine ⟨e, ?_⟩
  obtain ⟨r, hr⟩ := flows_prefix l (i + 1) l.length (by omega)
  rw [hr, e]
  simp
theorem flows_no {l : List Tm} {i : Nat} {t : Tm} (ht : l[i]? = some t) (h : ¬ t.kd = 7 ∨ lastT l i t.n = none) : flows l (i + 1) = flows l i := by
  simp only [flows, ht]
  rcases h with h | h
  · rw [if_neg h]; simp
  · rw [h]; simp
set_option maxRecDepth 100000 in
theorem step5a (l : List Tm) (Z : List Int) (i : Nat) (t : Tm) (hl : l.length ≤ 300) (hi : l[i]? = some t) :
    ∃ s', evCode (evC Dg) 3000 c5b3 (S5a l (flows l l.length) Z i) = some (.normal s') ∧ norm [0, 3, 4, 5, 6] 0 s' = S5a l (flows l l.length) Z (i + 1) := by
  have hil : i < l.length := (List.getElem?_eq_some_iff.1 hi).1
  have hil' : (i : Int) < l.length := by omega
  have w1 := wrap_i64 ((i : Int) + 1) (by omega) (by omega)
  have eL := tRows_len l
  have gi := tRows_get hi
  have gi' := tRows_getE hi
  have hfl := flows_len l l.length
  have hfi := flows_len l i
  have T := fun F k s0 E => turn5b l F Z k i t hl hi s0 E
  by_cases h7 : t.kd = 7
  · cases hli : lastI l i t.n with
    | none =>
      have hz : lastZ l i t.n = -1 := by simp [lastZ, hli]
      have hno : flows l (i + 1) = flows l i := flows_no hi (.inr (by unfold lastT; rw [hli]; rfl))
      unfold S5a
      rw [hno]
      generalize flows l l.length = F at *
      generalize (flows l i).length = k at *
      unfold c5b3
      simp [evCode, evOps, evOne, evOp, evPur, evEff, evPur.chunks, fillP, AOp.isEff, AO.ev, putP, PV.cells, PV.leaf, getB, getM, mapE, iterE, keyC, mapRows, mfind, eq1, eqL, scal, binP, unP, minP, maxP, foldP, PV.lt, PV.lt.ltL, endP, expoAll, expoG, expo, expo.expoL, frIds, frIds.frIdsL, nodupN, kill, cls, clsFuel, resO, RV.get, loadP, evC_p, evC_s, endS, endT, rowsOf, callP, thinL, unfr, unfr.unfrL, PV.noMem, PV.noMem.noMemL, optI, mapO, norm, trimT, trimB, forget, hasN, blksLt, List.set, softChk, softGo, softRd, effTg, rdP, eL, hil, hil']
      generalize hE : evLoop (evCode (evC Dg) 3000 c5b2) [0, 3, 4, 5, 6, 7, 8] 0 3000 _ = E
      have T2 := T F k _ E hE (by simp [evCode, evOps, evOne, evOp, evPur, evEff, evPur.chunks, fillP, AOp.isEff, AO.ev, putP, PV.cells, PV.leaf, getB, getM, mapE, iterE, keyC, mapRows, mfind, eq1, eqL, scal, binP, unP, minP, maxP, foldP, PV.lt, PV.lt.ltL, endP, expoAll, expoG, expo, expo.expoL, frIds, frIds.frIdsL, nodupN, kill, cls, clsFuel, resO, RV.get, loadP, evC_p, evC_s, endS, endT, rowsOf, callP, thinL, unfr, unfr.unfrL, PV.noMem, PV.noMem.noMemL, optI, mapO, norm, trimT, trimB, forget, hasN, blksLt, List.set, softChk, softGo, softRd, effTg, rdP, S5b])
      rw [T2, hz]
      unfold c5b2
      simp [evCode, evOps, evOne, evOp, evPur, evEff, evPur.chunks, fillP, AOp.isEff, AO.ev, putP, PV.cells, PV.leaf, getB, getM, mapE, iterE, keyC, mapRows, mfind, eq1, eqL, scal, binP, unP, minP, maxP, foldP, PV.lt, PV.lt.ltL, endP, expoAll, expoG, expo, expo.expoL, frIds, frIds.frIdsL, nodupN, kill, cls, clsFuel, resO, RV.get, loadP, evC_p, evC_s, endS, endT, rowsOf, callP, thinL, unfr, unfr.unfrL, PV.noMem, PV.noMem.noMemL, optI, mapO, norm, trimT, trimB, forget, hasN, blksLt, List.set, softChk, softGo, softRd, effTg, rdP, S5b, eL, gi, gi', hil, hil', w1, h7, tRow]
    | some i0 =>
      have hz : lastZ l i t.n = i0 := by simp [lastZ, hli]
      obtain ⟨i1, i2⟩ := lastI_lt l t.n i i0 hli
      obtain ⟨s, hs⟩ : ∃ s, l[i0]? = some s := ⟨l[i0], List.getElem?_eq_getElem i2⟩
      have hsT : lastT l i t.n = some s := by unfold lastT; rw [hli]; exact hs
      obtain ⟨e1, e2⟩ := flows_at hil hi h7 hsT
      have i2' : (i0 : Int) < l.length := by omega
      have gs := tRows_get hs
      have gs' := tRows_getE hs
      have hkF := (List.getElem?_eq_some_iff.1 e2).1
      have hlen : ((flows l (i + 1)).length : Int) = ((flows l i).length : Int) + 1 := by rw [e1]; simp
      unfold S5a
      rw [hlen]
      generalize flows l l.length = F at *
      generalize (flows l i).length = k at *
      have ef := fRows_get e2
      have ef' := fRows_getE e2
      have eF := fRows_len F
      have hkF' : (k : Int) < F.length := by omega
      have hkF2 : ¬ (F.length : Int) ≤ k := by omega
      have w2 := wrap_i64 ((k : Int) + 1) (by omega) (by omega)
      have hneg : ¬ (i0 : Int) < 0 := by omega
      unfold c5b3
      simp [evCode, evOps, evOne, evOp, evPur, evEff, evPur.chunks, fillP, AOp.isEff, AO.ev, putP, PV.cells, PV.leaf, getB, getM, mapE, iterE, keyC, mapRows, mfind, eq1, eqL, scal, binP, unP, minP, maxP, foldP, PV.lt, PV.lt.ltL, endP, expoAll, expoG, expo, expo.expoL, frIds, frIds.frIdsL, nodupN, kill, cls, clsFuel, resO, RV.get, loadP, evC_p, evC_s, endS, endT, rowsOf, callP, thinL, unfr, unfr.unfrL, PV.noMem, PV.noMem.noMemL, optI, mapO, norm, trimT, trimB, forget, hasN, blksLt, List.set, softChk, softGo, softRd, effTg, rdP, eL, hil, hil']
      generalize hE : evLoop (evCode (evC Dg) 3000 c5b2) [0, 3, 4, 5, 6, 7, 8] 0 3000 _ = E
      have T2 := T F k _ E hE (by simp [evCode, evOps, evOne, evOp, evPur, evEff, evPur.chunks, fillP, AOp.isEff, AO.ev, putP, PV.cells, PV.leaf, getB, getM, mapE, iterE, keyC, mapRows, mfind, eq1, eqL, scal, binP, unP, minP, maxP, foldP, PV.lt, PV.lt.ltL, endP, expoAll, expoG, expo, expo.expoL, frIds, frIds.frIdsL, nodupN, kill, cls, clsFuel, resO, RV.get, loadP, evC_p, evC_s, endS, endT, rowsOf, callP, thinL, unfr, unfr.unfrL, PV.noMem, PV.noMem.noMemL, optI, mapO, norm, trimT, trimB, forget, hasN, blksLt, List.set, softChk, softGo, softRd, effTg, rdP, S5b])
      rw [T2, hz]
      unfold c5b2
      simp [evCode, evOps, evOne, evOp, evPur, evEff, evPur.chunks, fillP, AOp.isEff, AO.ev, putP, PV.cells, PV.leaf, getB, getM, mapE, iterE, keyC, mapRows, mfind, eq1, eqL, scal, binP, unP, minP, maxP, foldP, PV.lt, PV.lt.ltL, endP, expoAll, expoG, expo, expo.expoL, frIds, frIds.frIdsL, nodupN, kill, cls, clsFuel, resO, RV.get, loadP, evC_p, evC_s, endS, endT, rowsOf, callP, thinL, unfr, unfr.unfrL, PV.noMem, PV.noMem.noMemL, optI, mapO, norm, trimT, trimB, forget, hasN, blksLt, List.set, softChk, softGo, softRd, effTg, rdP, S5b, eL, eF, gi, gi', gs, gs', ef, ef', hil, hil', i2, i2', hkF, hkF', hkF2, hneg, w1, w2, h7, tRow, fRow, mkF]
  · have hno : flows l (i + 1) = flows l i := flows_no hi (.inl h7)
    unfold S5a
    rw [hno]
    generalize flows l l.length = F at *
    generalize (flows l i).length = k at *
    unfold c5b3
    simp [evCode, evOps, evOne, evOp, evPur, evEff, evPur.chunks, fillP, AOp.isEff, AO.ev, putP, PV.cells, PV.leaf, getB, getM, mapE, iterE, keyC, mapRows, mfind, eq1, eqL, scal, binP, unP, minP, maxP, foldP, PV.lt, PV.lt.ltL, endP, expoAll, expoG, expo, expo.expoL, frIds, frIds.frIdsL, nodupN, kill, cls, clsFuel, resO, RV.get, loadP, evC_p, evC_s, endS, endT, rowsOf, callP, thinL, unfr, unfr.unfrL, PV.noMem, PV.noMem.noMemL, optI, mapO, norm, trimT, trimB, forget, hasN, blksLt, List.set, softChk, softGo, softRd, effTg, rdP, eL, hil, hil']
    generalize hE : evLoop (evCode (evC Dg) 3000 c5b2) [0, 3, 4, 5, 6, 7, 8] 0 3000 _ = E
    have T2 := T F k _ E hE (by simp [evCode, evOps, evOne, evOp, evPur, evEff, evPur.chunks, fillP, AOp.isEff, AO.ev, putP, PV.cells, PV.leaf, getB, getM, mapE, iterE, keyC, mapRows, mfind, eq1, eqL, scal, binP, unP, minP, maxP, foldP, PV.lt, PV.lt.ltL, endP, expoAll, expoG, expo, expo.expoL, frIds, frIds.frIdsL, nodupN, kill, cls, clsFuel, resO, RV.get, loadP, evC_p, evC_s, endS, endT, rowsOf, callP, thinL, unfr, unfr.unfrL, PV.noMem, PV.noMem.noMemL, optI, mapO, norm, trimT, trimB, forget, hasN, blksLt, List.set, softChk, softGo, softRd, effTg, rdP, S5b])
    rw [T2]
    generalize lastZ l i t.n = z
    unfold c5b2
    simp [evCode, evOps, evOne, evOp, evPur, evEff, evPur.chunks, fillP, AOp.isEff, AO.ev, putP, PV.cells, PV.leaf, getB, getM, mapE, iterE, keyC, mapRows, mfind, eq1, eqL, scal, binP, unP, minP, maxP, foldP, PV.lt, PV.lt.ltL, endP, expoAll, expoG, expo, expo.expoL, frIds, frIds.frIdsL, nodupN, kill, cls, clsFuel, resO, RV.get, loadP, evC_p, evC_s, endS, endT, rowsOf, callP, thinL, unfr, unfr.unfrL, PV.noMem, PV.noMem.noMemL, optI, mapO, norm, trimT, trimB, forget, hasN, blksLt, List.set, softChk, softGo, softRd, effTg, rdP, S5b, eL, gi, gi', hil, hil', w1, h7, tRow]

def S5B (l : List Tm) (F : List Fl) (Z : List Int) (k : Int) (q : Int) : St :=
  ⟨[.sl false 10 (tRows l), .top, .top, .sl false 7 (fRows F), .sl false 1 (zRows Z), .int .i64 k, .top, .top, .top, .int .i64 q] ++ List.replicate 155 .top, []⟩
set_option maxRecDepth 100000 in
theorem loop5B (l : List Tm) (F : List Fl) (Z : List Int) (k : Int) (hp : Z.Pairwise (· < ·)) (hZ : Z.length ≤ 2000) (s0 : St) (E : Option Out)
    (hE : evLoop (evCode (evC Dg) 3000 c5b1) [0, 3, 4, 5, 9] 0 3000 s0 = E) (h0 : norm [0, 3, 4, 5, 9] 0 s0 = S5B l F Z k 1) :
    ∃ q : Int, ¬ q < Z.length ∧ E = evCode (evC Dg) 3000 c5b1 (S5B l F Z k q) := by
  have eL := zRows_len Z
  have H := loop_foldE (body := evCode (evC Dg) 3000 c5b1) (keep := [0, 3, 4, 5, 9]) (n0 := 0) (fuel := 3000) (Z.drop 1) (fun j (_ : Unit) => S5B l F Z k (1 + (j : Nat))) (fun _ _ => ()) (fun _ _ => True) ?_ ?_ (by rw [List.length_drop]; omega) () trivial s0 E hE (by rw [h0]; rfl)
  · refine ⟨_, ?_, H.1⟩
    rw [List.length_drop]; omega
  · intro j x o ha hj _
    refine ⟨trivial, ?_⟩
    rw [List.getElem?_drop] at ha
    have hk : 1 + j < Z.length := (List.getElem?_eq_some_iff.1 ha).1
    have hb : Z[j]? = some Z[j] := List.getElem?_eq_getElem (by omega)
    have hlt : Z[j] < x := by
      rw [← (List.getElem?_eq_some_iff.1 ha).2]
      exact List.pairwise_iff_getElem.1 hp j (1 + j) (by omega) hk (by omega)
    generalize Z[j] = b at hb hlt
    have ga := zRows_get ha
    have gb := zRows_get hb
    have ga' : (zRows Z)[1 + j]'(by rw [eL]; exact hk) = [PV.int .i64 x] := (List.getElem?_eq_some_iff.1 ga).2
    have gb' : (zRows Z)[j]'(by rw [eL]; omega) = [PV.int .i64 b] := (List.getElem?_eq_some_iff.1 gb).2
    have w1 := wrap_i64 (1 + (j : Int) + 1) (by omega) (by omega)
    have w2 : IntKind.i64.wrap (1 + (j : Int) - 1) = j := by rw [wrap_i64 _ (by omega) (by omega)]; omega
    have c1 : 1 + (j : Int) < Z.length := by omega
    have c2 : (j : Int) < Z.length := by omega
    have c3 : j < Z.length := by omega
    have c4 : (0 : Int) ≤ 1 + (j : Int) := by omega
    have c5 : (1 + (j : Int)).toNat = 1 + j := by omega
    have c6 : ¬ x ≤ b := by omega
    have c7 : 1 + ((j : Int) + 1) = 1 + (j : Int) + 1 := by omega
    unfold c5b1
    simp [evCode, evOps, evOne, evOp, evPur, evEff, evPur.chunks, fillP, AOp.isEff, AO.ev, putP, PV.cells, PV.leaf, getB, getM, mapE, iterE, keyC, mapRows, mfind, eq1, eqL, scal, binP, unP, minP, maxP, foldP, PV.lt, PV.lt.ltL, endP, expoAll, expoG, expo, expo.expoL, frIds, frIds.frIdsL, nodupN, kill, cls, clsFuel, resO, RV.get, loadP, evC_p, evC_s, endS, endT, rowsOf, callP, thinL, unfr, unfr.unfrL, PV.noMem, PV.noMem.noMemL, optI, mapO, norm, trimT, trimB, forget, hasN, blksLt, List.set, softChk, softGo, softRd, effTg, rdP, S5B, eL, ga, ga', gb, gb', w1, w2, c1, c2, c3, c4, c5, c6, c7, hk]
  · intro o _ s
    rw [List.length_drop]
    have c1 : ¬ (1 : Int) + ((Z.length - 1 : Nat) : Int) < Z.length := by omega
    unfold c5b1
    simp [evCode, evOps, evOne, evOp, evPur, evEff, evPur.chunks, fillP, AOp.isEff, AO.ev, putP, PV.cells, PV.leaf, getB, getM, mapE, iterE, keyC, mapRows, mfind, eq1, eqL, scal, binP, unP, minP, maxP, foldP, PV.lt, PV.lt.ltL, endP, expoAll, expoG, expo, expo.expoL, frIds, frIds.frIdsL, nodupN, kill, cls, clsFuel, resO, RV.get, loadP, evC_p, evC_s, endS, endT, rowsOf, callP, thinL, unfr, unfr.unfrL, PV.noMem, PV.noMem.noMemL, optI, mapO, norm, trimT, trimB, forget, hasN, blksLt, List.set, softChk, softGo, softRd, effTg, rdP, S5B, eL, c1]

def S5C (l : List Tm) (F : List Fl) (Z : List Int) (k : Int) (i : Nat) : St :=
  ⟨[.sl false 10 (tRows l), .top, .top, .sl false 7 (fRows F), .sl false 1 (zRows Z), .int .i64 k, .top, .top, .top, .top, .int .i64 i] ++ List.replicate 154 .top, []⟩
set_option maxRecDepth 100000 in
theorem loop5C (l : List Tm) (F : List Fl) (k : Int) (hl : l.length ≤ 300) (hZ : (sortZ (opens l)).length ≤ 2000) (s0 : St) (E : Option Out)
    (hE : evLoop (evCode (evC Dg) 3000 c5b0) [0, 3, 4, 5, 10] 0 3000 s0 = E) (h0 : norm [0, 3, 4, 5, 10] 0 s0 = S5C l F (sortZ (opens l)) k 0) :
    E = evCode (evC Dg) 3000 c5b0 (S5C l F (sortZ (opens l)) k l.length) := by
  have eL := tRows_len l
  have H := loop_foldE (body := evCode (evC Dg) 3000 c5b0) (keep := [0, 3, 4, 5, 10]) (n0 := 0) (fuel := 3000) l (fun j (_ : Unit) => S5C l F (sortZ (opens l)) k j) (fun _ _ => ()) (fun _ _ => True) ?_ ?_ (by omega) () trivial s0 E hE h0
  · exact H.1
  · intro i t o ht hi _
    refine ⟨trivial, ?_⟩
    have hi' : (i : Int) < l.length := by omega
    have w1 := wrap_i64 ((i : Int) + 1) (by omega) (by omega)
    have eg := tRows_get ht
    have eg' := tRows_getE ht
    have h20 := f20 (sortZ (opens l)) t.n hZ
    have h21 := f21 l t.n (by omega)
    rw [has_waits] at h20
    generalize waitsB l t.n = b at *
    generalize sortZ (opens l) = Z at *
    by_cases h6 : t.kd = 6
    · unfold c5b0
      simp [evCode, evOps, evOne, evOp, evPur, evEff, evPur.chunks, fillP, AOp.isEff, AO.ev, putP, PV.cells, PV.leaf, getB, getM, mapE, iterE, keyC, mapRows, mfind, eq1, eqL, scal, binP, unP, minP, maxP, foldP, PV.lt, PV.lt.ltL, endP, expoAll, expoG, expo, expo.expoL, frIds, frIds.frIdsL, nodupN, kill, cls, clsFuel, resO, RV.get, loadP, evC_p, evC_s, endS, endT, rowsOf, callP, thinL, unfr, unfr.unfrL, PV.noMem, PV.noMem.noMemL, optI, mapO, norm, trimT, trimB, forget, hasN, blksLt, List.set, softChk, softGo, softRd, effTg, rdP, S5C, eL, eg, eg', hi, hi', w1, h6, h20, h21, tRow]
    · unfold c5b0
      simp [evCode, evOps, evOne, evOp, evPur, evEff, evPur.chunks, fillP, AOp.isEff, AO.ev, putP, PV.cells, PV.leaf, getB, getM, mapE, iterE, keyC, mapRows, mfind, eq1, eqL, scal, binP, unP, minP, maxP, foldP, PV.lt, PV.lt.ltL, endP, expoAll, expoG, expo, expo.expoL, frIds, frIds.frIdsL, nodupN, kill, cls, clsFuel, resO, RV.get, loadP, evC_p, evC_s, endS, endT, rowsOf, callP, thinL, unfr, unfr.unfrL, PV.noMem, PV.noMem.noMemL, optI, mapO, norm, trimT, trimB, forget, hasN, blksLt, List.set, softChk, softGo, softRd, effTg, rdP, S5C, eL, eg, eg', hi, hi', w1, h6, tRow]
  · intro o _ s
    unfold c5b0
    simp [evCode, evOps, evOne, evOp, evPur, evEff, evPur.chunks, fillP, AOp.isEff, AO.ev, putP, PV.cells, PV.leaf, getB, getM, mapE, iterE, keyC, mapRows, mfind, eq1, eqL, scal, binP, unP, minP, maxP, foldP, PV.lt, PV.lt.ltL, endP, expoAll, expoG, expo, expo.expoL, frIds, frIds.frIdsL, nodupN, kill, cls, clsFuel, resO, RV.get, loadP, evC_p, evC_s, endS, endT, rowsOf, callP, thinL, unfr, unfr.unfrL, PV.noMem, PV.noMem.noMemL, optI, mapO, norm, trimT, trimB, forget, hasN, blksLt, List.set, softChk, softGo, softRd, effTg, rdP, S5C, eL]

theorem flows0 (l : List Tm) : (flows l 0).length = 0 := rfl
set_option maxRecDepth 100000 in
theorem f5 (l : List Tm) : evE Dg 5 [.sl false 10 (tRows l)] = some (.bool true) := by
  refine evE_intro 3000 D5 rfl ?_
  have eL := tRows_len l
  have h9 := f9
  by_cases hl : 300 < l.length
  · have hl' : (300 : Int) < l.length := by omega
    unfold c5
    simp [evCode, evOps, evOne, evOp, evPur, evEff, evPur.chunks, fillP, AOp.isEff, AO.ev, putP, PV.cells, PV.leaf, getB, getM, mapE, iterE, keyC, mapRows, mfind, eq1, eqL, scal, binP, unP, minP, maxP, foldP, PV.lt, PV.lt.ltL, endP, expoAll, expoG, expo, expo.expoL, frIds, frIds.frIdsL, nodupN, kill, cls, clsFuel, resO, RV.get, loadP, evC_p, evC_s, endS, endT, rowsOf, callP, thinL, unfr, unfr.unfrL, PV.noMem, PV.noMem.noMemL, optI, mapO, norm, trimT, trimB, forget, hasN, blksLt, List.set, softChk, softGo, softRd, effTg, rdP, eL, hl, hl', h9]
  · have hl' : ¬ (300 : Int) < l.length := by omega
    have h1 := f11 false l (by omega)
    have hf := flows_len l l.length
    have h4 := f14 l (by omega)
    have hZl : (sortZ (opens l)).length ≤ 2000 := by
      rw [(sortZ_perm _).length_eq]
      have := opens_len l
      omega
    have hsp := sorted_strict (opens_nodup l)
    have TA := fun Z i t => step5a l Z i t (by omega)
    have TB := fun F k s0 E => loop5B l F (sortZ (opens l)) k hsp hZl s0 E
    have TC := fun F k s0 E => loop5C l F k (by omega) hZl s0 E
    unfold c5
    simp [evCode, evOps, evOne, evOp, evPur, evEff, evPur.chunks, fillP, AOp.isEff, AO.ev, putP, PV.cells, PV.leaf, getB, getM, mapE, iterE, keyC, mapRows, mfind, eq1, eqL, scal, binP, unP, minP, maxP, foldP, PV.lt, PV.lt.ltL, endP, expoAll, expoG, expo, expo.expoL, frIds, frIds.frIdsL, nodupN, kill, cls, clsFuel, resO, RV.get, loadP, evC_p, evC_s, endS, endT, rowsOf, callP, thinL, unfr, unfr.unfrL, PV.noMem, PV.noMem.noMemL, optI, mapO, norm, trimT, trimB, forget, hasN, blksLt, List.set, softChk, softGo, softRd, effTg, rdP, eL, hl, hl', h9, h1, h4]
    generalize hE : evLoop (evCode (evC Dg) 3000 c5b3) [0, 3, 4, 5, 6] 0 3000 _ = E
    have HA := loop_foldE (body := evCode (evC Dg) 3000 c5b3) (keep := [0, 3, 4, 5, 6]) (n0 := 0) (fuel := 3000) l (fun j (_ : Unit) => S5a l (flows l l.length) (sortZ (opens l)) j) (fun _ _ => ()) (fun _ _ => True) ?_ ?_ (by omega) () trivial _ E hE (by simp [evCode, evOps, evOne, evOp, evPur, evEff, evPur.chunks, fillP, AOp.isEff, AO.ev, putP, PV.cells, PV.leaf, getB, getM, mapE, iterE, keyC, mapRows, mfind, eq1, eqL, scal, binP, unP, minP, maxP, foldP, PV.lt, PV.lt.ltL, endP, expoAll, expoG, expo, expo.expoL, frIds, frIds.frIdsL, nodupN, kill, cls, clsFuel, resO, RV.get, loadP, evC_p, evC_s, endS, endT, rowsOf, callP, thinL, unfr, unfr.unfrL, PV.noMem, PV.noMem.noMemL, optI, mapO, norm, trimT, trimB, forget, hasN, blksLt, List.set, softChk, softGo, softRd, effTg, rdP, S5a, flows0])
    · rw [HA.1]
      unfold S5a
      generalize flows l l.length = F at *
      have eF := fRows_len F
      generalize hZ : sortZ (opens l) = Z at *
      have eZ := zRows_len Z
      unfold c5b3
      simp [evCode, evOps, evOne, evOp, evPur, evEff, evPur.chunks, fillP, AOp.isEff, AO.ev, putP, PV.cells, PV.leaf, getB, getM, mapE, iterE, keyC, mapRows, mfind, eq1, eqL, scal, binP, unP, minP, maxP, foldP, PV.lt, PV.lt.ltL, endP, expoAll, expoG, expo, expo.expoL, frIds, frIds.frIdsL, nodupN, kill, cls, clsFuel, resO, RV.get, loadP, evC_p, evC_s, endS, endT, rowsOf, callP, thinL, unfr, unfr.unfrL, PV.noMem, PV.noMem.noMemL, optI, mapO, norm, trimT, trimB, forget, hasN, blksLt, List.set, softChk, softGo, softRd, effTg, rdP, eL]
      unfold c5r2
      simp [evCode, evOps, evOne, evOp, evPur, evEff, evPur.chunks, fillP, AOp.isEff, AO.ev, putP, PV.cells, PV.leaf, getB, getM, mapE, iterE, keyC, mapRows, mfind, eq1, eqL, scal, binP, unP, minP, maxP, foldP, PV.lt, PV.lt.ltL, endP, expoAll, expoG, expo, expo.expoL, frIds, frIds.frIdsL, nodupN, kill, cls, clsFuel, resO, RV.get, loadP, evC_p, evC_s, endS, endT, rowsOf, callP, thinL, unfr, unfr.unfrL, PV.noMem, PV.noMem.noMemL, optI, mapO, norm, trimT, trimB, forget, hasN, blksLt, List.set, softChk, softGo, softRd, effTg, rdP, eL]
      generalize hE2 : evLoop (evCode (evC Dg) 3000 c5b1) [0, 3, 4, 5, 9] 0 3000 _ = E2
      obtain ⟨q, hq, rfl⟩ := TB F F.length _ E2 hE2 (by simp [evCode, evOps, evOne, evOp, evPur, evEff, evPur.chunks, fillP, AOp.isEff, AO.ev, putP, PV.cells, PV.leaf, getB, getM, mapE, iterE, keyC, mapRows, mfind, eq1, eqL, scal, binP, unP, minP, maxP, foldP, PV.lt, PV.lt.ltL, endP, expoAll, expoG, expo, expo.expoL, frIds, frIds.frIdsL, nodupN, kill, cls, clsFuel, resO, RV.get, loadP, evC_p, evC_s, endS, endT, rowsOf, callP, thinL, unfr, unfr.unfrL, PV.noMem, PV.noMem.noMemL, optI, mapO, norm, trimT, trimB, forget, hasN, blksLt, List.set, softChk, softGo, softRd, effTg, rdP, S5B])
      unfold S5B c5b1
      simp [evCode, evOps, evOne, evOp, evPur, evEff, evPur.chunks, fillP, AOp.isEff, AO.ev, putP, PV.cells, PV.leaf, getB, getM, mapE, iterE, keyC, mapRows, mfind, eq1, eqL, scal, binP, unP, minP, maxP, foldP, PV.lt, PV.lt.ltL, endP, expoAll, expoG, expo, expo.expoL, frIds, frIds.frIdsL, nodupN, kill, cls, clsFuel, resO, RV.get, loadP, evC_p, evC_s, endS, endT, rowsOf, callP, thinL, unfr, unfr.unfrL, PV.noMem, PV.noMem.noMemL, optI, mapO, norm, trimT, trimB, forget, hasN, blksLt, List.set, softChk, softGo, softRd, effTg, rdP, eZ, hq]
      unfold c5r1
      simp [evCode, evOps, evOne, evOp, evPur, evEff, evPur.chunks, fillP, AOp.isEff, AO.ev, putP, PV.cells, PV.leaf, getB, getM, mapE, iterE, keyC, mapRows, mfind, eq1, eqL, scal, binP, unP, minP, maxP, foldP, PV.lt, PV.lt.ltL, endP, expoAll, expoG, expo, expo.expoL, frIds, frIds.frIdsL, nodupN, kill, cls, clsFuel, resO, RV.get, loadP, evC_p, evC_s, endS, endT, rowsOf, callP, thinL, unfr, unfr.unfrL, PV.noMem, PV.noMem.noMemL, optI, mapO, norm, trimT, trimB, forget, hasN, blksLt, List.set, softChk, softGo, softRd, effTg, rdP, eL]
      generalize hE3 : evLoop (evCode (evC Dg) 3000 c5b0) [0, 3, 4, 5, 10] 0 3000 _ = E3
      have H3 := TC F F.length _ E3 hE3 (by simp [evCode, evOps, evOne, evOp, evPur, evEff, evPur.chunks, fillP, AOp.isEff, AO.ev, putP, PV.cells, PV.leaf, getB, getM, mapE, iterE, keyC, mapRows, mfind, eq1, eqL, scal, binP, unP, minP, maxP, foldP, PV.lt, PV.lt.ltL, endP, expoAll, expoG, expo, expo.expoL, frIds, frIds.frIdsL, nodupN, kill, cls, clsFuel, resO, RV.get, loadP, evC_p, evC_s, endS, endT, rowsOf, callP, thinL, unfr, unfr.unfrL, PV.noMem, PV.noMem.noMemL, optI, mapO, norm, trimT, trimB, forget, hasN, blksLt, List.set, softChk, softGo, softRd, effTg, rdP, S5C])
      rw [H3]
      unfold S5C c5b0 c5r0
      simp [evCode, evOps, evOne, evOp, evPur, evEff, evPur.chunks, fillP, AOp.isEff, AO.ev, putP, PV.cells, PV.leaf, getB, getM, mapE, iterE, keyC, mapRows, mfind, eq1, eqL, scal, binP, unP, minP, maxP, foldP, PV.lt, PV.lt.ltL, endP, expoAll, expoG, expo, expo.expoL, frIds, frIds.frIdsL, nodupN, kill, cls, clsFuel, resO, RV.get, loadP, evC_p, evC_s, endS, endT, rowsOf, callP, thinL, unfr, unfr.unfrL, PV.noMem, PV.noMem.noMemL, optI, mapO, norm, trimT, trimB, forget, hasN, blksLt, List.set, softChk, softGo, softRd, effTg, rdP, eL, eF, h9]
    · intro i t o ht hi _
      exact ⟨trivial, TA (sortZ (opens l)) i t ht⟩
    · intro o _ s
      unfold c5b3
      simp [evCode, evOps, evOne, evOp, evPur, evEff, evPur.chunks, fillP, AOp.isEff, AO.ev, putP, PV.cells, PV.leaf, getB, getM, mapE, iterE, keyC, mapRows, mfind, eq1, eqL, scal, binP, unP, minP, maxP, foldP, PV.lt, PV.lt.ltL, endP, expoAll, expoG, expo, expo.expoL, frIds, frIds.frIdsL, nodupN, kill, cls, clsFuel, resO, RV.get, loadP, evC_p, evC_s, endS, endT, rowsOf, callP, thinL, unfr, unfr.unfrL, PV.noMem, PV.noMem.noMemL, optI, mapO, norm, trimT, trimB, forget, hasN, blksLt, List.set, softChk, softGo, softRd, effTg, rdP, S5a, eL]
theorem law5 (ps : List PV) (h : ArgL Try.prog 12 [22] ps) : evE Dg 5 ps = some (.bool true) := by
  obtain ⟨p, rfl, h1⟩ := argL1 h
  obtain ⟨l, rfl⟩ := in_timed h1
  exact f5 l
end Go.Proofs.Ytlnaibkpmklkiaa
