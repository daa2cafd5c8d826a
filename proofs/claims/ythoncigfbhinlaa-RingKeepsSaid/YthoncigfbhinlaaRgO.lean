/- ring: RingChecks, of pure arguments. -/
import Derived.Test.YthoncigfbhinlaaRgN
namespace Go.Proofs.Ythoncigfbhinlaa
open Go Go.RowKit
set_option linter.unusedVariables false
set_option linter.unusedSimpArgs false
set_option maxHeartbeats 8000000

theorem good_len (p : Int) (D : List Nat) (s e f m : Int) : (goodL p D s e f m).length ≤ 65536 := by
  by_cases h : errF p D s e f m = 0
  · have hr := good_rec h
    obtain ⟨_, n0, n1, n2, n3, n4, n5, _, _, _⟩ := err_nums h
    unfold recsF at hr
    have := recF_len _ _ _ hr
    rw [contF_len (by omega)] at this
    omega
  · unfold goodL
    rw [if_neg h]
    simp
set_option maxRecDepth 100000 in
theorem f15 (x : Bool) (p : Int) (D : List Nat) (s e f m : Int) : evE Dg 15 [eR p (eB x D) s e f m, .nilS] = some (.bool (decide (D.length ≤ 70000))) := by
  have e1 := bR_len D
  by_cases c : D.length ≤ 70000
  · have c' : (D.length : Int) ≤ 70000 := by omega
    refine evE_intro 3 D15 rfl ?_
    unfold c15
    simp [evCode, evOps, evOne, evOp, evPur, evEff, evPur.chunks, fillP, AOp.isEff, AO.ev, putP, PV.cells, PV.leaf, getB, getM, mapE, keyC, mapRows, mfind, eq1, eqL, scal, binP, unP, minP, maxP, foldP, PV.lt, PV.lt.ltL, endP, expoAll, expo, expo.expoL, frIds, frIds.frIdsL, nodupN, kill, cls, clsFuel, resO, RV.get, loadP, evC_p, evC_s, endS, endT, rowsOf, callP, thinL, unfr, unfr.unfrL, PV.noMem, PV.noMem.noMemL, optI, mapO, norm, trimT, trimB, forget, hasN, blksLt, List.set, eR, eB, e1, c, c']
  · have c' : ¬ (D.length : Int) ≤ 70000 := by omega
    refine evE_intro 3 D15 rfl ?_
    unfold c15
    simp [evCode, evOps, evOne, evOp, evPur, evEff, evPur.chunks, fillP, AOp.isEff, AO.ev, putP, PV.cells, PV.leaf, getB, getM, mapE, keyC, mapRows, mfind, eq1, eqL, scal, binP, unP, minP, maxP, foldP, PV.lt, PV.lt.ltL, endP, expoAll, expo, expo.expoL, frIds, frIds.frIdsL, nodupN, kill, cls, clsFuel, resO, RV.get, loadP, evC_p, evC_s, endS, endT, rowsOf, callP, thinL, unfr, unfr.unfrL, PV.noMem, PV.noMem.noMemL, optI, mapO, norm, trimT, trimB, forget, hasN, blksLt, List.set, eR, eB, e1, c, c']
set_option maxRecDepth 100000 in
theorem f4 (p : Int) (D : List Nat) (s e f m : Int) (ok : okB D) : evE Dg 4 [eR p (eB false D) s e f m] = some (.bool true) := by
  have h15 := f15 false p D s e f m
  have aw := f14
  by_cases c : D.length ≤ 70000
  · have hD : D.length ≤ 100000 := by omega
    have h16 := f16 false p D s e f m hD ok
    have h17 := f17 false p D s e f m hD ok
    have h11 := f11 false p D s e f m hD ok
    have h18 := f18 false p D s e f m hD ok
    have h12 := f12 false p D s e f m hD ok
    have h19 := f19 false p D s e f m hD ok
    have h13 := f13 false p D s e f m hD ok
    have h20 := f20 false p D s e f m hD ok
    have h21 := f21 (goodL p D s e f m) (by have := good_len p D s e f m; omega)
    have h22 := f22 false p D (takS p D s e f m) e (takF p D s e f m) m hD ok
    generalize errF p D s e f m = er at *
    generalize cntF p D s e f m = cn at *
    generalize freF p D s e f m = fr at *
    generalize takS p D s e f m = ts at *
    generalize takF p D s e f m = tf at *
    generalize goodL p D s e f m = l at *
    simp only [eR, eB] at h15 h16 h17 h11 h18 h12 h19 h13 h20 h22
    by_cases ce : er = 0
    · subst ce
      simp only [eT, if_true] at h16 h17
      refine evE_intro 3 D4 rfl ?_
      unfold c4
      simp [evCode, evOps, evOne, evOp, evPur, evEff, evPur.chunks, fillP, AOp.isEff, AO.ev, putP, PV.cells, PV.leaf, getB, getM, mapE, keyC, mapRows, mfind, eq1, eqL, scal, binP, unP, minP, maxP, foldP, PV.lt, PV.lt.ltL, endP, expoAll, expo, expo.expoL, frIds, frIds.frIdsL, nodupN, kill, cls, clsFuel, resO, RV.get, loadP, evC_p, evC_s, endS, endT, rowsOf, callP, thinL, unfr, unfr.unfrL, PV.noMem, PV.noMem.noMemL, optI, mapO, norm, trimT, trimB, forget, hasN, blksLt, List.set, eR, eB, h15, c, h16, h17, h11, h18, h12, h19, h13, h20, h21, h22, aw]
    · simp only [eT, ce, if_false] at h16 h17
      refine evE_intro 3 D4 rfl ?_
      unfold c4
      simp [evCode, evOps, evOne, evOp, evPur, evEff, evPur.chunks, fillP, AOp.isEff, AO.ev, putP, PV.cells, PV.leaf, getB, getM, mapE, keyC, mapRows, mfind, eq1, eqL, scal, binP, unP, minP, maxP, foldP, PV.lt, PV.lt.ltL, endP, expoAll, expo, expo.expoL, frIds, frIds.frIdsL, nodupN, kill, cls, clsFuel, resO, RV.get, loadP, evC_p, evC_s, endS, endT, rowsOf, callP, thinL, unfr, unfr.unfrL, PV.noMem, PV.noMem.noMemL, optI, mapO, norm, trimT, trimB, forget, hasN, blksLt, List.set, eR, eB, h15, c, h16, h17, h11, h18, h12, h19, h13, h20, h21, h22, aw]
  · simp only [eR, eB] at h15
    refine evE_intro 3 D4 rfl ?_
    unfold c4
    simp [evCode, evOps, evOne, evOp, evPur, evEff, evPur.chunks, fillP, AOp.isEff, AO.ev, putP, PV.cells, PV.leaf, getB, getM, mapE, keyC, mapRows, mfind, eq1, eqL, scal, binP, unP, minP, maxP, foldP, PV.lt, PV.lt.ltL, endP, expoAll, expo, expo.expoL, frIds, frIds.frIdsL, nodupN, kill, cls, clsFuel, resO, RV.get, loadP, evC_p, evC_s, endS, endT, rowsOf, callP, thinL, unfr, unfr.unfrL, PV.noMem, PV.noMem.noMemL, optI, mapO, norm, trimT, trimB, forget, hasN, blksLt, List.set, eR, eB, h15, c, aw]
theorem wf_u8 {i : Int} (h : (Lit.int .u8 i).wf = true) : 0 ≤ i ∧ i ≤ 255 := by
  simp [Lit.wf, IntKind.min, IntKind.max, IntKind.signed, IntKind.bits] at h
  omega
/-- the bytes of an argument -/
theorem in_bytes {d : Nat} {ps : List PV} (h : HT Try.prog (d + 3) 23 ps) : ∃ D : List Nat, ps = [eB false D] ∧ okB D := by
  obtain ⟨l, h1, h2, h3⟩ := argT_rows (f := fun z : Nat => [PV.int .u8 (z : Int)]) (Q := fun z => z ≤ 255) Try.underlying23 (c := 1) (by kernel_rfl) (fun r hr => by
    obtain ⟨i, h1, h2⟩ := ht_int Try.underlying5 hr
    have h3 := wf_u8 h2
    exact ⟨i.toNat, by rw [h1, Int.toNat_of_nonneg h3.1], by omega⟩) h
  exact ⟨l, h1, h3⟩
theorem in_ring {d : Nat} {p : PV} (h : ArgT Try.prog (d + 4) 25 p) : ∃ z D s e f m, p = eR z (eB false D) s e f m ∧ okB D := by
  obtain ⟨ps, rfl, g⟩ := argT_struct Try.underlying25 h
  clear h
  obtain ⟨q0, r0, rfl, h0, h⟩ := htf_cons (ht_struct Try.underlying25 g)
  obtain ⟨q1, r1, rfl, h1, h⟩ := htf_cons h
  obtain ⟨q2, r2, rfl, h2, h⟩ := htf_cons h
  obtain ⟨q3, r3, rfl, h3, h⟩ := htf_cons h
  obtain ⟨q4, r4, rfl, h4, h⟩ := htf_cons h
  obtain ⟨q5, r5, rfl, h5, h⟩ := htf_cons h
  obtain rfl := htf_nil h
  obtain ⟨i0, rfl, _⟩ := ht_int Try.underlying22 h0
  obtain ⟨D, rfl, ok⟩ := in_bytes h1
  obtain ⟨i2, rfl, _⟩ := ht_int Try.underlying3 h2
  obtain ⟨i3, rfl, _⟩ := ht_int Try.underlying3 h3
  obtain ⟨i4, rfl, _⟩ := ht_int Try.underlying3 h4
  obtain ⟨i5, rfl, _⟩ := ht_int Try.underlying3 h5
  exact ⟨i0, D, i2, i3, i4, i5, rfl, ok⟩
theorem law4 (ps : List PV) (h : ArgL Try.prog 12 [25] ps) : evE Dg 4 ps = some (.bool true) := by
  obtain ⟨p, rfl, h1⟩ := argL1 h
  obtain ⟨z, D, s, e, f, m, rfl, ok⟩ := in_ring h1
  exact f4 z D s e f m ok
end Go.Proofs.Ythoncigfbhinlaa
