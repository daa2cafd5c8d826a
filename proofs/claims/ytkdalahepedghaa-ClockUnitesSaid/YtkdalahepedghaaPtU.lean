/- The statement that the points of two lists are those of both. -/
import Derived.Test.YtkdalahepedghaaPtC
namespace Go.Proofs.Ytkdalahepedghaa
open Go Go.RowKit
set_option maxHeartbeats 4000000
set_option linter.unusedVariables false
set_option linter.unusedSimpArgs false

theorem f10u (y : Bool) (l : List Sn) : evE Dg 10 [.nilS, eNs y l] = some (.bool (fewF [] l)) := by
  refine evE_intro 1 D10 rfl ?_
  unfold c10 fewF
  by_cases h2 : l.length ≤ 250
  · have h2' : (l.length : Int) ≤ 250 := by omega
    simp [evCode, evOps, evOne, evOp, evPur, evEff, evPur.chunks, fillP, AOp.isEff, AO.ev, putP, PV.cells, PV.leaf, getB, getM, mapE, iterE, keyC, mapRows, mfind, eq1, eqL, scal, binP, unP, minP, maxP, foldP, PV.lt, PV.lt.ltL, endP, expoAll, expoG, expo, expo.expoL, frIds, frIds.frIdsL, nodupN, kill, cls, clsFuel, resO, RV.get, loadP, evC_p, evC_s, endS, endT, rowsOf, callP, thinL, unfr, unfr.unfrL, PV.noMem, PV.noMem.noMemL, optI, mapO, norm, trimT, trimB, forget, hasN, blksLt, List.set, softChk, softGo, softRd, effTg, rdP, eDs, eNs, h2, h2']
  · have h2' : ¬ (l.length : Int) ≤ 250 := by omega
    simp [evCode, evOps, evOne, evOp, evPur, evEff, evPur.chunks, fillP, AOp.isEff, AO.ev, putP, PV.cells, PV.leaf, getB, getM, mapE, iterE, keyC, mapRows, mfind, eq1, eqL, scal, binP, unP, minP, maxP, foldP, PV.lt, PV.lt.ltL, endP, expoAll, expoG, expo, expo.expoL, frIds, frIds.frIdsL, nodupN, kill, cls, clsFuel, resO, RV.get, loadP, evC_p, evC_s, endS, endT, rowsOf, callP, thinL, unfr, unfr.unfrL, PV.noMem, PV.noMem.noMemL, optI, mapO, norm, trimT, trimB, forget, hasN, blksLt, List.set, softChk, softGo, softRd, effTg, rdP, eDs, eNs, h2, h2']
theorem Pt_app (z : Int) (a b : List Sn) (x : Int) : Pt z (a ++ b) x ↔ Pt z a x ∨ Pt z b x := by
  unfold Pt
  constructor
  · rintro ⟨s, h, k⟩
    rcases List.mem_append.1 h with h | h
    · exact .inl ⟨s, h, k⟩
    · exact .inr ⟨s, h, k⟩
  · rintro (⟨s, h, k⟩ | ⟨s, h, k⟩)
    · exact ⟨s, List.mem_append_left _ h, k⟩
    · exact ⟨s, List.mem_append_right _ h, k⟩
theorem f21z (z : Int) (l : List Int) (hl : l.length ≤ 10000) : evE Dg 21 [.sl false 1 (zRows l), .int .i64 z] = some (.bool (!nhas z l)) := f21 false z l hl
theorem zmem (l : List Int) : PV.noMem.noMemLL (zRows l) = true := by
  induction l with
  | nil => rfl
  | cons a l ih => exact ih
def S9a (v : Nat) (C : List (List PV)) (X Y Z : List Int) (k : Nat) : St := ⟨[.top, .top, .top, .top, .top, .top, .top, .sl false 1 (zRows X), .sl false 1 (zRows Y), .sl false 1 (zRows Z), .int .i64 k] ++ List.replicate 86 .top, [some ⟨v, 5, true, C⟩]⟩
def S9b (v : Nat) (C : List (List PV)) (X Y Z : List Int) (k : Nat) : St := ⟨[.top, .top, .top, .top, .top, .top, .top, .sl false 1 (zRows X), .sl false 1 (zRows Y), .sl false 1 (zRows Z), .top, .int .i64 k] ++ List.replicate 85 .top, [some ⟨v, 5, true, C⟩]⟩
set_option maxRecDepth 100000 in
theorem turn9a (v : Nat) (C : List (List PV)) (X Y Z : List Int) (hX : X.length ≤ 2000) (hY : Y.length ≤ 2000) (hZ : Z.length ≤ 2000) (h : ∀ x, x ∈ Z → x ∈ X ∨ x ∈ Y) (s0 : St) (E : Option Out)
    (hE : evLoop (evCode (evC Dg) 5000 c9b1) [7, 8, 9, 10] 1 5000 s0 = E) (h0 : norm [7, 8, 9, 10] 1 s0 = S9a v C X Y Z 0) : E = evCode (evC Dg) 5000 c9b1 (S9a v C X Y Z Z.length) := by
  have eZ := zRows_len Z
  have H := loop_foldE (body := evCode (evC Dg) 5000 c9b1) (keep := [7, 8, 9, 10]) (n0 := 1) (fuel := 5000) Z (fun k (_ : Unit) => S9a v C X Y Z k) (fun _ _ => ()) (fun _ _ => True) ?_ ?_ (by omega) () trivial s0 E hE h0
  · exact H.1
  · intro k x o hx hk _
    refine ⟨trivial, ?_⟩
    have hk' : (k : Int) < Z.length := by omega
    have w1 := wrap_i64 ((k : Int) + 1) (by omega) (by omega)
    have eg := zRows_get hx
    have eg' : (zRows Z)[k]'(by rw [eZ]; exact hk) = [PV.int .i64 x] := (List.getElem?_eq_some_iff.1 eg).2
    have q1 := f21z x X (by omega)
    have q2 := f21z x Y (by omega)
    have hm := h x (List.mem_of_getElem? hx)
    by_cases hX' : x ∈ X
    · rw [nhas_iff.2 hX'] at q1
      unfold c9b1
      simp [evCode, evOps, evOne, evOp, evPur, evEff, evPur.chunks, fillP, AOp.isEff, AO.ev, putP, PV.cells, PV.leaf, getB, getM, mapE, iterE, keyC, mapRows, mfind, eq1, eqL, scal, binP, unP, minP, maxP, foldP, PV.lt, PV.lt.ltL, endP, expoAll, expoG, expo, expo.expoL, frIds, frIds.frIdsL, nodupN, kill, cls, clsFuel, resO, RV.get, loadP, evC_p, evC_s, endS, endT, rowsOf, callP, thinL, unfr, unfr.unfrL, PV.noMem, PV.noMem.noMemL, optI, mapO, norm, trimT, trimB, forget, hasN, blksLt, List.set, softChk, softGo, softRd, effTg, rdP, S9a, eZ, eg, eg', hk, hk', w1, q1]
    · have hY' : x ∈ Y := hm.resolve_left hX'
      rw [nhas_iff.2 hY'] at q2
      generalize nhas x X = b at q1
      unfold c9b1
      cases b <;> simp [evCode, evOps, evOne, evOp, evPur, evEff, evPur.chunks, fillP, AOp.isEff, AO.ev, putP, PV.cells, PV.leaf, getB, getM, mapE, iterE, keyC, mapRows, mfind, eq1, eqL, scal, binP, unP, minP, maxP, foldP, PV.lt, PV.lt.ltL, endP, expoAll, expoG, expo, expo.expoL, frIds, frIds.frIdsL, nodupN, kill, cls, clsFuel, resO, RV.get, loadP, evC_p, evC_s, endS, endT, rowsOf, callP, thinL, unfr, unfr.unfrL, PV.noMem, PV.noMem.noMemL, optI, mapO, norm, trimT, trimB, forget, hasN, blksLt, List.set, softChk, softGo, softRd, effTg, rdP, S9a, eZ, eg, eg', hk, hk', w1, q1, q2]
  · intro o _ s
    unfold c9b1
    simp [evCode, evOps, evOne, evOp, evPur, evEff, evPur.chunks, fillP, AOp.isEff, AO.ev, putP, PV.cells, PV.leaf, getB, getM, mapE, iterE, keyC, mapRows, mfind, eq1, eqL, scal, binP, unP, minP, maxP, foldP, PV.lt, PV.lt.ltL, endP, expoAll, expoG, expo, expo.expoL, frIds, frIds.frIdsL, nodupN, kill, cls, clsFuel, resO, RV.get, loadP, evC_p, evC_s, endS, endT, rowsOf, callP, thinL, unfr, unfr.unfrL, PV.noMem, PV.noMem.noMemL, optI, mapO, norm, trimT, trimB, forget, hasN, blksLt, List.set, softChk, softGo, softRd, effTg, rdP, S9a, eZ]
set_option maxRecDepth 100000 in
theorem turn9b (v : Nat) (C : List (List PV)) (X Y Z : List Int) (hX : X.length ≤ 2000) (hY : Y.length ≤ 2000) (hZ : Z.length ≤ 2000) (h : ∀ x, x ∈ X ∨ x ∈ Y → x ∈ Z) (s0 : St) (E : Option Out)
    (hE : evLoop (evCode (evC Dg) 5000 c9b0) [7, 8, 9, 11] 1 5000 s0 = E) (h0 : norm [7, 8, 9, 11] 1 s0 = S9b v C X Y Z 0) : E = evCode (evC Dg) 5000 c9b0 (S9b v C X Y Z (X.length + Y.length)) := by
  have eX := zRows_len X
  have eY := zRows_len Y
  have wl : IntKind.i64.wrap ((X.length : Int) + (Y.length : Int)) = ((X.length + Y.length : Nat) : Int) := by rw [wrap_i64 _ (by omega) (by omega)]; omega
  have hL : (X ++ Y).length = X.length + Y.length := by simp
  have H := loop_foldE (body := evCode (evC Dg) 5000 c9b0) (keep := [7, 8, 9, 11]) (n0 := 1) (fuel := 5000) (X ++ Y) (fun k (_ : Unit) => S9b v C X Y Z k) (fun _ _ => ()) (fun _ _ => True) ?_ ?_ (by omega) () trivial s0 E hE h0
  · rw [← hL]; exact H.1
  · intro k x o hx hk _
    refine ⟨trivial, ?_⟩
    rw [hL] at hk
    have hk' : (k : Int) < ((X.length + Y.length : Nat) : Int) := by omega
    have w1 := wrap_i64 ((k : Int) + 1) (by omega) (by omega)
    have hxZ : x ∈ Z := h x (by rw [← List.mem_append]; exact List.mem_of_getElem? hx)
    have q1 := f21z x Z (by omega)
    rw [nhas_iff.2 hxZ] at q1
    generalize hn : X.length + Y.length = n at *
    by_cases hc : k < X.length
    · rw [List.getElem?_append_left hc] at hx
      have eg := zRows_get hx
      have eg' : (zRows X)[k]'(by rw [eX]; exact hc) = [PV.int .i64 x] := (List.getElem?_eq_some_iff.1 eg).2
      have hc' : (k : Int) < X.length := by omega
      have hc2 : ¬ (X.length : Int) ≤ k := by omega
      unfold c9b0
      simp [evCode, evOps, evOne, evOp, evPur, evEff, evPur.chunks, fillP, AOp.isEff, AO.ev, putP, PV.cells, PV.leaf, getB, getM, mapE, iterE, keyC, mapRows, mfind, eq1, eqL, scal, binP, unP, minP, maxP, foldP, PV.lt, PV.lt.ltL, endP, expoAll, expoG, expo, expo.expoL, frIds, frIds.frIdsL, nodupN, kill, cls, clsFuel, resO, RV.get, loadP, evC_p, evC_s, endS, endT, rowsOf, callP, thinL, unfr, unfr.unfrL, PV.noMem, PV.noMem.noMemL, optI, mapO, norm, trimT, trimB, forget, hasN, blksLt, List.set, softChk, softGo, softRd, effTg, rdP, S9b, eX, eY, wl, eg, eg', hk, hk', hc, hc', hc2, w1, q1]
    · rw [List.getElem?_append_right (by omega)] at hx
      have hj : k - X.length < Y.length := by omega
      have eg := zRows_get hx
      have eg' : (zRows Y)[k - X.length]'(by rw [eY]; exact hj) = [PV.int .i64 x] := (List.getElem?_eq_some_iff.1 eg).2
      have hc' : ¬ (k : Int) < X.length := by omega
      have hc2 : (X.length : Int) ≤ k := by omega
      have w2 : IntKind.i64.wrap ((k : Int) - X.length) = ((k - X.length : Nat) : Int) := by rw [wrap_i64 _ (by omega) (by omega)]; omega
      have hj' : ((k - X.length : Nat) : Int) < Y.length := by omega
      generalize k - X.length = j at *
      unfold c9b0
      simp [evCode, evOps, evOne, evOp, evPur, evEff, evPur.chunks, fillP, AOp.isEff, AO.ev, putP, PV.cells, PV.leaf, getB, getM, mapE, iterE, keyC, mapRows, mfind, eq1, eqL, scal, binP, unP, minP, maxP, foldP, PV.lt, PV.lt.ltL, endP, expoAll, expoG, expo, expo.expoL, frIds, frIds.frIdsL, nodupN, kill, cls, clsFuel, resO, RV.get, loadP, evC_p, evC_s, endS, endT, rowsOf, callP, thinL, unfr, unfr.unfrL, PV.noMem, PV.noMem.noMemL, optI, mapO, norm, trimT, trimB, forget, hasN, blksLt, List.set, softChk, softGo, softRd, effTg, rdP, S9b, eX, eY, wl, eg, eg', hk, hk', hc, hc', hc2, w1, w2, hj, hj', q1]
  · intro o _ s
    rw [hL]
    generalize hn : X.length + Y.length = n at *
    unfold c9b0
    simp [evCode, evOps, evOne, evOp, evPur, evEff, evPur.chunks, fillP, AOp.isEff, AO.ev, putP, PV.cells, PV.leaf, getB, getM, mapE, iterE, keyC, mapRows, mfind, eq1, eqL, scal, binP, unP, minP, maxP, foldP, PV.lt, PV.lt.ltL, endP, expoAll, expoG, expo, expo.expoL, frIds, frIds.frIdsL, nodupN, kill, cls, clsFuel, resO, RV.get, loadP, evC_p, evC_s, endS, endT, rowsOf, callP, thinL, unfr, unfr.unfrL, PV.noMem, PV.noMem.noMemL, optI, mapO, norm, trimT, trimB, forget, hasN, blksLt, List.set, softChk, softGo, softRd, effTg, rdP, S9b, eX, eY, wl]
set_option maxRecDepth 100000 in
theorem f9 (a b : List Sn) (z : Int) : evE Dg 9 [eNs false a, eNs false b, .int .i64 z] = some (.bool true) := by
  have h11 := f11
  have ha := f10u false a
  have hb := f10u false b
  refine evE_intro 5000 D9 rfl ?_
  unfold c9
  cases hfa : fewF [] a with
  | false =>
    rw [hfa] at ha
    simp only [eNs] at ha
    simp [evCode, evOps, evOne, evOp, evPur, evEff, evPur.chunks, fillP, AOp.isEff, AO.ev, putP, PV.cells, PV.leaf, getB, getM, mapE, iterE, keyC, mapRows, mfind, eq1, eqL, scal, binP, unP, minP, maxP, foldP, PV.lt, PV.lt.ltL, endP, expoAll, expoG, expo, expo.expoL, frIds, frIds.frIdsL, nodupN, kill, cls, clsFuel, resO, RV.get, loadP, evC_p, evC_s, endS, endT, rowsOf, callP, thinL, unfr, unfr.unfrL, PV.noMem, PV.noMem.noMemL, optI, mapO, norm, trimT, trimB, forget, hasN, blksLt, List.set, softChk, softGo, softRd, effTg, rdP, eNs, ha, h11]
  | true =>
    rw [hfa] at ha
    cases hfb : fewF [] b with
    | false =>
      rw [hfb] at hb
      simp only [eNs] at ha hb
      simp [evCode, evOps, evOne, evOp, evPur, evEff, evPur.chunks, fillP, AOp.isEff, AO.ev, putP, PV.cells, PV.leaf, getB, getM, mapE, iterE, keyC, mapRows, mfind, eq1, eqL, scal, binP, unP, minP, maxP, foldP, PV.lt, PV.lt.ltL, endP, expoAll, expoG, expo, expo.expoL, frIds, frIds.frIdsL, nodupN, kill, cls, clsFuel, resO, RV.get, loadP, evC_p, evC_s, endS, endT, rowsOf, callP, thinL, unfr, unfr.unfrL, PV.noMem, PV.noMem.noMemL, optI, mapO, norm, trimT, trimB, forget, hasN, blksLt, List.set, softChk, softGo, softRd, effTg, rdP, eNs, ha, hb, h11]
    | true =>
      rw [hfb] at hb
      simp [fewF] at hfa hfb
      obtain ⟨X, p1, q1, n1, m1⟩ := f18F false a z (by omega)
      obtain ⟨Y, p2, q2, n2, m2⟩ := f18F false b z (by omega)
      obtain ⟨Z, p3, q3, n3, m3⟩ := f18F false (a ++ b) z (by simp; omega)
      have hXY : ∀ x, x ∈ Z ↔ x ∈ X ∨ x ∈ Y := fun x => by rw [m1, m2, m3, Pt_app]
      have TA := fun v C => turn9a v C X Y Z n1 n2 n3 (fun x h => (hXY x).1 h)
      have TB := fun v C => turn9b v C X Y Z n1 n2 n3 (fun x h => (hXY x).2 h)
      have eX := zRows_len X
      have eY := zRows_len Y
      have eZ := zRows_len Z
      have z1 := zmem X
      have z2 := zmem Y
      have z3 := zmem Z
      simp only [eNs, List.map_append] at ha hb p1 p2 p3
      have la : (a.map eN).length = a.length := by simp
      have lb : (b.map eN).length = b.length := by simp
      have fa : (a.map eN).all (PV.lt.ltL 0) = true := by rw [List.all_eq_true]; intro r hr; obtain ⟨s, _, rfl⟩ := List.mem_map.1 hr; rfl
      have fb : (b.map eN).all (PV.lt.ltL 0) = true := by rw [List.all_eq_true]; intro r hr; obtain ⟨s, _, rfl⟩ := List.mem_map.1 hr; rfl
      have b1 : a.length * 40 ≤ 140737488355328 := by omega
      have b2 : a.length ≤ 140737488355328 := by omega
      have b3 : (a.length + b.length) * 40 ≤ 140737488355328 := by omega
      have b4 : a.length + b.length ≤ 140737488355328 := by omega
      have lab : (a.map eN ++ b.map eN).length = a.length + b.length := by simp
      simp only [eNs]
      generalize hA : a.map eN = A at *
      generalize hB : b.map eN = B at *
      generalize hC : A ++ B = C at *
      have tk : C.take (a.length + b.length) = C := by rw [← lab]; exact List.take_length
      simp [evCode, evOps, evOne, evOp, evPur, evEff, evPur.chunks, fillP, AOp.isEff, AO.ev, putP, PV.cells, PV.leaf, getB, getM, mapE, iterE, keyC, mapRows, mfind, eq1, eqL, scal, binP, unP, minP, maxP, foldP, PV.lt, PV.lt.ltL, endP, expoAll, expoG, expo, expo.expoL, frIds, frIds.frIdsL, nodupN, kill, cls, clsFuel, resO, RV.get, loadP, evC_p, evC_s, endS, endT, rowsOf, callP, thinL, unfr, unfr.unfrL, PV.noMem, PV.noMem.noMemL, optI, mapO, norm, trimT, trimB, forget, hasN, blksLt, List.set, softChk, softGo, softRd, effTg, rdP, ha, hb, h11, p1, p2, p3, la, lb, lab, tk, fa, fb, b1, b2, b3, b4, hC, z1, z2, z3]
      generalize hE : evLoop (evCode (evC Dg) 5000 c9b1) [7, 8, 9, 10] 1 5000 _ = E
      have H1 := TA (a.length + b.length) C _ E hE (by simp [evCode, evOps, evOne, evOp, evPur, evEff, evPur.chunks, fillP, AOp.isEff, AO.ev, putP, PV.cells, PV.leaf, getB, getM, mapE, iterE, keyC, mapRows, mfind, eq1, eqL, scal, binP, unP, minP, maxP, foldP, PV.lt, PV.lt.ltL, endP, expoAll, expoG, expo, expo.expoL, frIds, frIds.frIdsL, nodupN, kill, cls, clsFuel, resO, RV.get, loadP, evC_p, evC_s, endS, endT, rowsOf, callP, thinL, unfr, unfr.unfrL, PV.noMem, PV.noMem.noMemL, optI, mapO, norm, trimT, trimB, forget, hasN, blksLt, List.set, softChk, softGo, softRd, effTg, rdP, S9a])
      rw [H1]
      unfold S9a c9b1
      simp [evCode, evOps, evOne, evOp, evPur, evEff, evPur.chunks, fillP, AOp.isEff, AO.ev, putP, PV.cells, PV.leaf, getB, getM, mapE, iterE, keyC, mapRows, mfind, eq1, eqL, scal, binP, unP, minP, maxP, foldP, PV.lt, PV.lt.ltL, endP, expoAll, expoG, expo, expo.expoL, frIds, frIds.frIdsL, nodupN, kill, cls, clsFuel, resO, RV.get, loadP, evC_p, evC_s, endS, endT, rowsOf, callP, thinL, unfr, unfr.unfrL, PV.noMem, PV.noMem.noMemL, optI, mapO, norm, trimT, trimB, forget, hasN, blksLt, List.set, softChk, softGo, softRd, effTg, rdP, eZ]
      unfold c9r1
      simp [evCode, evOps, evOne, evOp, evPur, evEff, evPur.chunks, fillP, AOp.isEff, AO.ev, putP, PV.cells, PV.leaf, getB, getM, mapE, iterE, keyC, mapRows, mfind, eq1, eqL, scal, binP, unP, minP, maxP, foldP, PV.lt, PV.lt.ltL, endP, expoAll, expoG, expo, expo.expoL, frIds, frIds.frIdsL, nodupN, kill, cls, clsFuel, resO, RV.get, loadP, evC_p, evC_s, endS, endT, rowsOf, callP, thinL, unfr, unfr.unfrL, PV.noMem, PV.noMem.noMemL, optI, mapO, norm, trimT, trimB, forget, hasN, blksLt, List.set, softChk, softGo, softRd, effTg, rdP, eZ]
      generalize hE2 : evLoop (evCode (evC Dg) 5000 c9b0) [7, 8, 9, 11] 1 5000 _ = E2
      have H2 := TB (a.length + b.length) C _ E2 hE2 (by simp [evCode, evOps, evOne, evOp, evPur, evEff, evPur.chunks, fillP, AOp.isEff, AO.ev, putP, PV.cells, PV.leaf, getB, getM, mapE, iterE, keyC, mapRows, mfind, eq1, eqL, scal, binP, unP, minP, maxP, foldP, PV.lt, PV.lt.ltL, endP, expoAll, expoG, expo, expo.expoL, frIds, frIds.frIdsL, nodupN, kill, cls, clsFuel, resO, RV.get, loadP, evC_p, evC_s, endS, endT, rowsOf, callP, thinL, unfr, unfr.unfrL, PV.noMem, PV.noMem.noMemL, optI, mapO, norm, trimT, trimB, forget, hasN, blksLt, List.set, softChk, softGo, softRd, effTg, rdP, S9b])
      have wl : IntKind.i64.wrap ((X.length : Int) + (Y.length : Int)) = ((X.length + Y.length : Nat) : Int) := by rw [wrap_i64 _ (by omega) (by omega)]; omega
      rw [H2]
      unfold S9b
      generalize X.length + Y.length = n at *
      unfold c9b0 c9r0
      simp [evCode, evOps, evOne, evOp, evPur, evEff, evPur.chunks, fillP, AOp.isEff, AO.ev, putP, PV.cells, PV.leaf, getB, getM, mapE, iterE, keyC, mapRows, mfind, eq1, eqL, scal, binP, unP, minP, maxP, foldP, PV.lt, PV.lt.ltL, endP, expoAll, expoG, expo, expo.expoL, frIds, frIds.frIdsL, nodupN, kill, cls, clsFuel, resO, RV.get, loadP, evC_p, evC_s, endS, endT, rowsOf, callP, thinL, unfr, unfr.unfrL, PV.noMem, PV.noMem.noMemL, optI, mapO, norm, trimT, trimB, forget, hasN, blksLt, List.set, softChk, softGo, softRd, effTg, rdP, eX, eY, wl, h11]
theorem law9 (ps : List PV) (h : ArgL Try.prog 12 [23, 23, 3] ps) : evE Dg 9 ps = some (.bool true) := by
  obtain ⟨p, q, r, rfl, h1, h2, h3⟩ := argL3 h
  obtain ⟨a, rfl⟩ := in_snaps h1
  obtain ⟨b, rfl⟩ := in_snaps h2
  obtain ⟨i, rfl, _⟩ := argT_int Try.underlying3 h3
  exact f9 a b i
end Go.Proofs.Ytkdalahepedghaa
