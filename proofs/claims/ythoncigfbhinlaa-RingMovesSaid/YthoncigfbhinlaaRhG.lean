/- ring: RingPuts, of pure arguments. -/
import Derived.Test.YthoncigfbhinlaaRhF
import Derived.Test.YthoncigfbhinlaaRgO
namespace Go.Proofs.Ythoncigfbhinlaa
open Go Go.RowKit
set_option linter.unusedVariables false
set_option linter.unusedSimpArgs false
set_option maxHeartbeats 8000000

set_option maxRecDepth 100000 in
theorem f15b (x : Bool) (p : Int) (D b : List Nat) (s e f m : Int) : evE Dg 15 [eR p (eB x D) s e f m, eB false b] = some (.bool (decide (D.length ≤ 70000 ∧ b.length ≤ 70000))) := by
  have e1 := bR_len D
  have e2 := bR_len b
  by_cases c : D.length ≤ 70000
  · have c' : (D.length : Int) ≤ 70000 := by omega
    by_cases d : b.length ≤ 70000
    · have d' : (b.length : Int) ≤ 70000 := by omega
      refine evE_intro 3 D15 rfl ?_
      unfold c15
      simp [evCode, evOps, evOne, evOp, evPur, evEff, evPur.chunks, fillP, AOp.isEff, AO.ev, putP, PV.cells, PV.leaf, getB, getM, mapE, keyC, mapRows, mfind, eq1, eqL, scal, binP, unP, minP, maxP, foldP, PV.lt, PV.lt.ltL, endP, expoAll, expo, expo.expoL, frIds, frIds.frIdsL, nodupN, kill, cls, clsFuel, resO, RV.get, loadP, evC_p, evC_s, endS, endT, rowsOf, callP, thinL, unfr, unfr.unfrL, PV.noMem, PV.noMem.noMemL, optI, mapO, norm, trimT, trimB, forget, hasN, blksLt, List.set, eR, eB, e1, e2, c, c', d, d']
    · have d' : ¬ (b.length : Int) ≤ 70000 := by omega
      refine evE_intro 3 D15 rfl ?_
      unfold c15
      simp [evCode, evOps, evOne, evOp, evPur, evEff, evPur.chunks, fillP, AOp.isEff, AO.ev, putP, PV.cells, PV.leaf, getB, getM, mapE, keyC, mapRows, mfind, eq1, eqL, scal, binP, unP, minP, maxP, foldP, PV.lt, PV.lt.ltL, endP, expoAll, expo, expo.expoL, frIds, frIds.frIdsL, nodupN, kill, cls, clsFuel, resO, RV.get, loadP, evC_p, evC_s, endS, endT, rowsOf, callP, thinL, unfr, unfr.unfrL, PV.noMem, PV.noMem.noMemL, optI, mapO, norm, trimT, trimB, forget, hasN, blksLt, List.set, eR, eB, e1, e2, c, c', d, d']
  · have c' : ¬ (D.length : Int) ≤ 70000 := by omega
    refine evE_intro 3 D15 rfl ?_
    unfold c15
    simp [evCode, evOps, evOne, evOp, evPur, evEff, evPur.chunks, fillP, AOp.isEff, AO.ev, putP, PV.cells, PV.leaf, getB, getM, mapE, keyC, mapRows, mfind, eq1, eqL, scal, binP, unP, minP, maxP, foldP, PV.lt, PV.lt.ltL, endP, expoAll, expo, expo.expoL, frIds, frIds.frIdsL, nodupN, kill, cls, clsFuel, resO, RV.get, loadP, evC_p, evC_s, endS, endT, rowsOf, callP, thinL, unfr, unfr.unfrL, PV.noMem, PV.noMem.noMemL, optI, mapO, norm, trimT, trimB, forget, hasN, blksLt, List.set, eR, eB, e1, e2, c, c']
theorem okB_put {b : List Nat} (hl : b.length < 8192) (h : okB b) : okB (putF b.length ++ b) := by
  intro z hz
  rcases List.mem_append.1 hz with hz | hz
  · unfold putF at hz
    split at hz
    · simp at hz; omega
    · simp at hz; omega
  · exact h z hz
theorem in_bytes1 {d : Nat} {p : PV} (h : ArgT Try.prog (d + 3) 23 p) : ∃ D : List Nat, p = eB false D ∧ okB D := by
  obtain ⟨D, e, ok⟩ := in_bytes (argT_slice Try.underlying23 h)
  exact ⟨D, (List.cons.inj e).1, ok⟩
set_option maxRecDepth 100000 in
theorem f5_of (p : Int) (D b : List Nat) (s e f m : Int) (hD : D.length ≤ 70000) (hb : b.length ≤ 70000) (W : List Nat) (p' s' e' f' m' K er : Int) (hW : W.length ≤ 100000) (okW : okB W) (dd : PV) (hdd : dd = eB false W ∨ dd = .fr 1 (bR W))
    (h23 : evE Dg 23 [eR p (eB false D) s e f m, eB false b] = some (pR (eR p' dd s' e' f' m') K er))
    (h24 : evE Dg 24 [eR p (eB false D) s e f m, eB false b] = some (pR (eR p' (eB false W) s' e' f' m') K er)) :
    evE Dg 5 [eR p (eB false D) s e f m, eB false b] = some (.bool true) := by
  have h15 := f15b false p D b s e f m
  have aw := f14
  have h22 := f22 false p' W s' e' f' m' hW okW
  simp only [eR, eB] at h15 h22
  rcases hdd with rfl | rfl
  · simp only [eR, eB, pR] at h23 h24
    refine evE_intro 3 D5 rfl ?_
    unfold c5
    simp [evCode, evOps, evOne, evOp, evPur, evEff, evPur.chunks, fillP, AOp.isEff, AO.ev, putP, PV.cells, PV.leaf, getB, getM, mapE, keyC, mapRows, mfind, eq1, eqL, scal, binP, unP, minP, maxP, foldP, PV.lt, PV.lt.ltL, endP, expoAll, expo, expo.expoL, frIds, frIds.frIdsL, nodupN, kill, cls, clsFuel, resO, RV.get, loadP, evC_p, evC_s, endS, endT, rowsOf, callP, thinL, unfr, unfr.unfrL, PV.noMem, PV.noMem.noMemL, optI, mapO, norm, trimT, trimB, forget, hasN, blksLt, List.set, eR, eB, h15, hD, hb, h23, h24, h22, aw]
  · simp only [eR, eB, pR] at h23 h24
    refine evE_intro 3 D5 rfl ?_
    unfold c5
    simp [evCode, evOps, evOne, evOp, evPur, evEff, evPur.chunks, fillP, AOp.isEff, AO.ev, putP, PV.cells, PV.leaf, getB, getM, mapE, keyC, mapRows, mfind, eq1, eqL, scal, binP, unP, minP, maxP, foldP, PV.lt, PV.lt.ltL, endP, expoAll, expo, expo.expoL, frIds, frIds.frIdsL, nodupN, kill, cls, clsFuel, resO, RV.get, loadP, evC_p, evC_s, endS, endT, rowsOf, callP, thinL, unfr, unfr.unfrL, PV.noMem, PV.noMem.noMemL, optI, mapO, norm, trimT, trimB, forget, hasN, blksLt, List.set, eR, eB, h15, hD, hb, h23, h24, h22, aw]
set_option maxRecDepth 100000 in
theorem f5 (p : Int) (D b : List Nat) (s e f m : Int) (ok : okB D) (okb : okB b) : evE Dg 5 [eR p (eB false D) s e f m, eB false b] = some (.bool true) := by
  by_cases c : D.length ≤ 70000 ∧ b.length ≤ 70000
  · obtain ⟨hD, hbl⟩ := c
    by_cases h : errF p D s e f m = 0
    · by_cases hb : 2000 < b.length
      · obtain ⟨G, h34⟩ : ∃ G, evE Dg 34 [eB false b] = some (.fr 1 (bR G)) := by
          by_cases d : b.length ≤ 8191
          · exact ⟨_, f34 false b d⟩
          · exact ⟨_, f34l false b (by omega) (by omega)⟩
        exact f5_of p D b s e f m hD hbl D p s e f m 0 7 (by omega) ok _ (.inl rfl) (p23_long false p D b s e f m (by omega) ok h (.inl hb)) (p24_long false p D b G s e f m (by omega) ok h h34 (.inl hb))
      · have h34 := f34 false b (by omega)
        have hP := putF_len b.length
        have hG : (putF b.length ++ b).length ≤ 10000 := by rw [List.length_append]; omega
        by_cases hb2 : D.length < (putF b.length ++ b).length
        · exact f5_of p D b s e f m hD hbl D p s e f m 0 7 (by omega) ok _ (.inl rfl) (p23_long false p D b s e f m (by omega) ok h (.inr hb2)) (p24_long false p D b _ s e f m (by omega) ok h h34 (.inr hb2))
        · by_cases hf : p = 2 ∧ freF p D s e f m < (putF b.length ++ b).length
          · obtain ⟨rfl, hf⟩ := hf
            exact f5_of 2 D b s e f m hD hbl D 2 s e f m 0 6 (by omega) ok _ (.inl rfl) (p23_full false D b s e f m (by omega) ok h hb hb2 hf) (p24_full false D b _ s e f m (by omega) ok h h34 hb hb2 hf)
          · have hf : p = 2 → ¬ freF p D s e f m < (putF b.length ++ b).length := fun q r => hf ⟨q, r⟩
            by_cases hr : 1000000000000000 < e + (putF b.length ++ b).length ∨ m = 1000000000000000
            · exact f5_of p D b s e f m hD hbl D p s e f m 0 2 (by omega) ok _ (.inl rfl) (p23_range false p D b s e f m (by omega) ok h hb hb2 hf hr) (p24_range false p D b _ s e f m (by omega) ok h h34 hb hb2 hf hr)
            · have hr1 : ¬ 1000000000000000 < e + (putF b.length ++ b).length := fun q => hr (.inl q)
              have hr2 : ¬ m = 1000000000000000 := fun q => hr (.inr q)
              obtain ⟨K, Z, hKZ⟩ : ∃ K Z, lstF (putF b.length ++ b).length (rmF D s e) (goodL p D s e f m) = (K, Z) := ⟨_, _, rfl⟩
              exact f5_of p D b s e f m hD hbl _ p _ _ _ _ K 0 (by rw [wrF_len]; omega) (wrF_ok ok (okB_put (by omega) okb) _) _ (.inr rfl) (p23_run false p D b s e f m (by omega) ok h hb hb2 hf hr1 hr2 K Z hKZ) (p24_run false p D b _ s e f m (by omega) ok h h34 hb hb2 hG hf hr1 hr2 K Z hKZ)
    · exact f5_of p D b s e f m hD hbl D p s e f m 0 _ (by omega) ok _ (.inl rfl) (p23_bad false p D b s e f m (by omega) ok h) (p24_bad false p D b s e f m (by omega) ok h)
  · have h15 := f15b false p D b s e f m
    have aw := f14
    simp only [eR, eB] at h15
    have c' : (decide (D.length ≤ 70000 ∧ b.length ≤ 70000)) = false := decide_eq_false c
    rw [c'] at h15
    refine evE_intro 3 D5 rfl ?_
    unfold c5
    simp [evCode, evOps, evOne, evOp, evPur, evEff, evPur.chunks, fillP, AOp.isEff, AO.ev, putP, PV.cells, PV.leaf, getB, getM, mapE, keyC, mapRows, mfind, eq1, eqL, scal, binP, unP, minP, maxP, foldP, PV.lt, PV.lt.ltL, endP, expoAll, expo, expo.expoL, frIds, frIds.frIdsL, nodupN, kill, cls, clsFuel, resO, RV.get, loadP, evC_p, evC_s, endS, endT, rowsOf, callP, thinL, unfr, unfr.unfrL, PV.noMem, PV.noMem.noMemL, optI, mapO, norm, trimT, trimB, forget, hasN, blksLt, List.set, eR, eB, h15, aw]
theorem law5 (ps : List PV) (h : ArgL Try.prog 12 [25, 23] ps) : evE Dg 5 ps = some (.bool true) := by
  obtain ⟨p, q, rfl, h1, h2⟩ := argL2 h
  obtain ⟨z, D, s, e, f, m, rfl, ok⟩ := in_ring h1
  obtain ⟨b, rfl, okb⟩ := in_bytes1 h2
  exact f5 z D b s e f m ok okb
end Go.Proofs.Ythoncigfbhinlaa
