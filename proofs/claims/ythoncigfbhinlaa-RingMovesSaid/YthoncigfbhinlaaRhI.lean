/- ring: RingMoves, of pure arguments. -/
-- BIG
import Derived.Test.YthoncigfbhinlaaRhG
import Derived.Test.YthoncigfbhinlaaRhH
namespace Go.Proofs.Ythoncigfbhinlaa
open Go Go.RowKit
set_option linter.unusedVariables false
set_option linter.unusedSimpArgs false
set_option maxHeartbeats 8000000

set_option maxRecDepth 100000 in
/-- a law that gives up -/
theorem f8_out (p : Int) (D b : List Nat) (s e f m k : Int) (ok : okB D) (h : ¬ (D.length ≤ 70000 ∧ b.length ≤ 70000) ∨ ¬ errF p D s e f m = 0) : evE Dg 8 [eR p (eB false D) s e f m, eB false b, .int .u16 k] = some (.bool true) := by
  have h15 := f15b false p D b s e f m
  have aw := f14
  by_cases c : D.length ≤ 70000 ∧ b.length ≤ 70000
  · have h := h.resolve_left (fun q => q c)
    have h11 := f11 false p D s e f m (by omega) ok
    rw [show decide (D.length ≤ 70000 ∧ b.length ≤ 70000) = true from decide_eq_true c] at h15
    generalize errF p D s e f m = er at *
    simp only [eR, eB] at h15 h11
    refine evE_intro 3 D8 rfl ?_
    unfold c8
    simp (maxSteps := 100000000) [evCode, evOps, evOne, evOp, evPur, evEff, evPur.chunks, fillP, AOp.isEff, AO.ev, putP, PV.cells, PV.leaf, getB, getM, mapE, keyC, mapRows, mfind, eq1, eqL, scal, binP, unP, minP, maxP, foldP, PV.lt, PV.lt.ltL, endP, expoAll, expo, expo.expoL, frIds, frIds.frIdsL, nodupN, kill, cls, clsFuel, resO, RV.get, loadP, evC_p, evC_s, endS, endT, rowsOf, callP, thinL, unfr, unfr.unfrL, PV.noMem, PV.noMem.noMemL, optI, mapO, norm, trimT, trimB, forget, hasN, blksLt, List.set, eR, eB, h15, h11, h, aw]
  · rw [show decide (D.length ≤ 70000 ∧ b.length ≤ 70000) = false from decide_eq_false c] at h15
    simp only [eR, eB] at h15
    refine evE_intro 3 D8 rfl ?_
    unfold c8
    simp (maxSteps := 100000000) [evCode, evOps, evOne, evOp, evPur, evEff, evPur.chunks, fillP, AOp.isEff, AO.ev, putP, PV.cells, PV.leaf, getB, getM, mapE, keyC, mapRows, mfind, eq1, eqL, scal, binP, unP, minP, maxP, foldP, PV.lt, PV.lt.ltL, endP, expoAll, expo, expo.expoL, frIds, frIds.frIdsL, nodupN, kill, cls, clsFuel, resO, RV.get, loadP, evC_p, evC_s, endS, endT, rowsOf, callP, thinL, unfr, unfr.unfrL, PV.noMem, PV.noMem.noMemL, optI, mapO, norm, trimT, trimB, forget, hasN, blksLt, List.set, eR, eB, h15, aw]
set_option maxRecDepth 100000 in
theorem f8_far (p : Int) (D b : List Nat) (s e f m : Int) (k : Nat) (hk : k ≤ 65535) (hD : D.length ≤ 70000) (hb : b.length ≤ 70000) (ok : okB D) (h : errF p D s e f m = 0) (hf : 1000000000000000 - ((k * D.length : Nat) : Int) - 65536 < e ∨ 1000000000000000 ≤ m) : evE Dg 8 [eR p (eB false D) s e f m, eB false b, .int .u16 k] = some (.bool true) := by
  have h15 := f15b false p D b s e f m
  have aw := f14
  have h11 := f11 false p D s e f m (by omega) ok
  have hkb : k * D.length ≤ 65535 * 70000 := Nat.mul_le_mul hk hD
  have w0 : IntKind.i64.wrap (k : Int) = k := wrap_i64 _ (by omega) (by omega)
  have w1 : IntKind.i64.wrap ((k : Int) * D.length) = ((k * D.length : Nat) : Int) := by rw [← Int.natCast_mul]; exact wrap_i64 _ (by omega) (by omega)
  rw [show decide (D.length ≤ 70000 ∧ b.length ≤ 70000) = true from decide_eq_true ⟨hD, hb⟩] at h15
  have e1 := bR_len D
  rw [h] at h11
  generalize k * D.length = by_ at *
  have w2 : IntKind.i64.wrap (1000000000000000 - (by_ : Int)) = 1000000000000000 - by_ := wrap_i64 _ (by omega) (by omega)
  have w3 : IntKind.i64.wrap (1000000000000000 - (by_ : Int) - 65536) = 1000000000000000 - by_ - 65536 := wrap_i64 _ (by omega) (by omega)
  simp only [eR, eB] at h15 h11
  by_cases c : 1000000000000000 - (by_ : Int) - 65536 < e
  · refine evE_intro 3 D8 rfl ?_
    unfold c8
    simp (maxSteps := 100000000) [evCode, evOps, evOne, evOp, evPur, evEff, evPur.chunks, fillP, AOp.isEff, AO.ev, putP, PV.cells, PV.leaf, getB, getM, mapE, keyC, mapRows, mfind, eq1, eqL, scal, binP, unP, minP, maxP, foldP, PV.lt, PV.lt.ltL, endP, expoAll, expo, expo.expoL, frIds, frIds.frIdsL, nodupN, kill, cls, clsFuel, resO, RV.get, loadP, evC_p, evC_s, endS, endT, rowsOf, callP, thinL, unfr, unfr.unfrL, PV.noMem, PV.noMem.noMemL, optI, mapO, norm, trimT, trimB, forget, hasN, blksLt, List.set, eR, eB, h15, h11, e1, w0, w1, w2, w3, c, aw]
  · have hm := hf.resolve_left c
    refine evE_intro 3 D8 rfl ?_
    unfold c8
    simp (maxSteps := 100000000) [evCode, evOps, evOne, evOp, evPur, evEff, evPur.chunks, fillP, AOp.isEff, AO.ev, putP, PV.cells, PV.leaf, getB, getM, mapE, keyC, mapRows, mfind, eq1, eqL, scal, binP, unP, minP, maxP, foldP, PV.lt, PV.lt.ltL, endP, expoAll, expo, expo.expoL, frIds, frIds.frIdsL, nodupN, kill, cls, clsFuel, resO, RV.get, loadP, evC_p, evC_s, endS, endT, rowsOf, callP, thinL, unfr, unfr.unfrL, PV.noMem, PV.noMem.noMemL, optI, mapO, norm, trimT, trimB, forget, hasN, blksLt, List.set, eR, eB, h15, h11, e1, w0, w1, w2, w3, c, hm, aw]
set_option maxRecDepth 100000 in
theorem f8_of (p : Int) (D b : List Nat) (s e f m : Int) (k : Nat) (hk : k ≤ 65535) (hD : D.length ≤ 70000) (hb : b.length ≤ 70000) (ok : okB D) (h : errF p D s e f m = 0) (hf1 : ¬ 1000000000000000 - ((k * D.length : Nat) : Int) - 65536 < e) (hf2 : ¬ 1000000000000000 ≤ m)
    (s' e' f' m' K er : Int) (hs : -10000000000000000 ≤ s' ∧ s' ≤ 10000000000000000) (he : -10000000000000000 ≤ e' ∧ e' ≤ 10000000000000000) (dd d2 : PV) (W W2 : List Nat) (hdd : dd = eB false D ∧ d2 = eB false D ∨ dd = .fr 1 (bR W) ∧ d2 = .fr 1 (bR W2))
    (h23 : evE Dg 23 [eR p (eB false D) s e f m, eB false b] = some (pR (eR p dd s' e' f' m') K er))
    (h23' : evE Dg 23 [eR p (eB false D) (s + ((k * D.length : Nat) : Int)) (e + ((k * D.length : Nat) : Int)) f m, eB false b] = some (pR (eR p d2 (s' + ((k * D.length : Nat) : Int)) (e' + ((k * D.length : Nat) : Int)) f' m') K er)) :
    evE Dg 8 [eR p (eB false D) s e f m, eB false b, .int .u16 k] = some (.bool true) := by
  have h15 := f15b false p D b s e f m
  have aw := f14
  have h11 := f11 false p D s e f m (by omega) ok
  have hkb : k * D.length ≤ 65535 * 70000 := Nat.mul_le_mul hk hD
  obtain ⟨_, n0, n0', n1, n2, n3, n4, n5, n6, n7⟩ := err_nums h
  have hbd : e + ((k * D.length : Nat) : Int) ≤ 1000000000000000 := by omega
  have g11 := f11 false p D (s + ((k * D.length : Nat) : Int)) (e + ((k * D.length : Nat) : Int)) f m (by omega) ok
  have h12 := f12 false p D s e f m (by omega) ok
  have g12 := f12 false p D (s + ((k * D.length : Nat) : Int)) (e + ((k * D.length : Nat) : Int)) f m (by omega) ok
  have h13 := f13 false p D s e f m (by omega) ok
  have g13 := f13 false p D (s + ((k * D.length : Nat) : Int)) (e + ((k * D.length : Nat) : Int)) f m (by omega) ok
  have h16 := f16 false p D s e f m (by omega) ok
  have g16 := f16 false p D (s + ((k * D.length : Nat) : Int)) (e + ((k * D.length : Nat) : Int)) f m (by omega) ok
  have gl := good_len p D s e f m
  have h21 := f21r (goodL p D s e f m) (by omega)
  rw [err_shift k h hbd] at g11 g16
  rw [cnt_shift k h hbd] at g12
  rw [fre_shift k h hbd] at g13
  rw [good_shift k h hbd] at g16
  rw [h] at h11 h16
  simp only [eT, if_true] at h16 g16
  generalize takS p D s e f m = t1 at *
  generalize takF p D s e f m = t2 at *
  generalize takS p D (s + ((k * D.length : Nat) : Int)) (e + ((k * D.length : Nat) : Int)) f m = t3 at *
  generalize takF p D (s + ((k * D.length : Nat) : Int)) (e + ((k * D.length : Nat) : Int)) f m = t4 at *
  generalize goodL p D s e f m = l at *
  generalize cntF p D s e f m = cn at *
  generalize freF p D s e f m = fr at *
  have w0 : IntKind.i64.wrap (k : Int) = k := wrap_i64 _ (by omega) (by omega)
  have w1 : IntKind.i64.wrap ((k : Int) * D.length) = ((k * D.length : Nat) : Int) := by rw [← Int.natCast_mul]; exact wrap_i64 _ (by omega) (by omega)
  rw [show decide (D.length ≤ 70000 ∧ b.length ≤ 70000) = true from decide_eq_true ⟨hD, hb⟩] at h15
  have e1 := bR_len D
  generalize k * D.length = by_ at *
  have w2 : IntKind.i64.wrap (1000000000000000 - (by_ : Int)) = 1000000000000000 - by_ := wrap_i64 _ (by omega) (by omega)
  have w3 : IntKind.i64.wrap (1000000000000000 - (by_ : Int) - 65536) = 1000000000000000 - by_ - 65536 := wrap_i64 _ (by omega) (by omega)
  have w4 : IntKind.i64.wrap (s + (by_ : Int)) = s + by_ := wrap_i64 _ (by omega) (by omega)
  have w5 : IntKind.i64.wrap (e + (by_ : Int)) = e + by_ := wrap_i64 _ (by omega) (by omega)
  obtain ⟨z1, hz1⟩ := ex_eq (s' + (by_ : Int))
  obtain ⟨z2, hz2⟩ := ex_eq (e' + (by_ : Int))
  have w6 : IntKind.i64.wrap (z1 - s') = by_ := by rw [wrap_i64 _ (by omega) (by omega)]; omega
  have w7 : IntKind.i64.wrap (z2 - e') = by_ := by rw [wrap_i64 _ (by omega) (by omega)]; omega
  rw [hz1, hz2] at h23'
  obtain ⟨y1, hy1⟩ := ex_eq (s + (by_ : Int))
  obtain ⟨y2, hy2⟩ := ex_eq (e + (by_ : Int))
  rw [hy1, hy2] at h23' g11 g12 g13 g16
  rw [hy1] at w4
  rw [hy2] at w5
  simp only [eR, eB] at h15 h11 g11 h12 g12 h13 g13 h16 g16
  rcases hdd with ⟨rfl, rfl⟩ | ⟨rfl, rfl⟩
  · simp only [eR, eB, pR] at h23 h23'
    refine evE_intro 3 D8 rfl ?_
    unfold c8
    simp (maxSteps := 100000000) [evCode, evOps, evOne, evOp, evPur, evEff, evPur.chunks, fillP, AOp.isEff, AO.ev, putP, PV.cells, PV.leaf, getB, getM, mapE, keyC, mapRows, mfind, eq1, eqL, scal, binP, unP, minP, maxP, foldP, PV.lt, PV.lt.ltL, endP, expoAll, expo, expo.expoL, frIds, frIds.frIdsL, nodupN, kill, cls, clsFuel, resO, RV.get, loadP, evC_p, evC_s, endS, endT, rowsOf, callP, thinL, unfr, unfr.unfrL, PV.noMem, PV.noMem.noMemL, optI, mapO, norm, trimT, trimB, forget, hasN, blksLt, List.set, eR, eB, h15, h11, e1, w0, w1, w2, w3, w4, w5, hy1, hy2, hf1, hf2, h16, g16, h23, h23', g11, g12, h12, g13, h13, h21, w6, w7, aw]
  · simp only [eR, eB, pR] at h23 h23'
    refine evE_intro 3 D8 rfl ?_
    unfold c8
    simp (maxSteps := 100000000) [evCode, evOps, evOne, evOp, evPur, evEff, evPur.chunks, fillP, AOp.isEff, AO.ev, putP, PV.cells, PV.leaf, getB, getM, mapE, keyC, mapRows, mfind, eq1, eqL, scal, binP, unP, minP, maxP, foldP, PV.lt, PV.lt.ltL, endP, expoAll, expo, expo.expoL, frIds, frIds.frIdsL, nodupN, kill, cls, clsFuel, resO, RV.get, loadP, evC_p, evC_s, endS, endT, rowsOf, callP, thinL, unfr, unfr.unfrL, PV.noMem, PV.noMem.noMemL, optI, mapO, norm, trimT, trimB, forget, hasN, blksLt, List.set, eR, eB, h15, h11, e1, w0, w1, w2, w3, w4, w5, hy1, hy2, hf1, hf2, h16, g16, h23, h23', g11, g12, h12, g13, h13, h21, w6, w7, aw]
theorem f8 (p : Int) (D b : List Nat) (s e f m : Int) (k : Nat) (hk : k ≤ 65535) (ok : okB D) : evE Dg 8 [eR p (eB false D) s e f m, eB false b, .int .u16 k] = some (.bool true) := by
  by_cases c : D.length ≤ 70000 ∧ b.length ≤ 70000
  · by_cases h : errF p D s e f m = 0
    · obtain ⟨hD, hbl⟩ := c
      by_cases hf : 1000000000000000 - ((k * D.length : Nat) : Int) - 65536 < e ∨ 1000000000000000 ≤ m
      · exact f8_far p D b s e f m k hk hD hbl ok h hf
      · have hf1 : ¬ 1000000000000000 - ((k * D.length : Nat) : Int) - 65536 < e := fun q => hf (.inl q)
        have hf2 : ¬ 1000000000000000 ≤ m := fun q => hf (.inr q)
        have hkb : k * D.length ≤ 65535 * 70000 := Nat.mul_le_mul hk hD
        obtain ⟨_, n0, n0', n1, n2, n3, n4, n5, n6, n7⟩ := err_nums h
        have hbd : e + ((k * D.length : Nat) : Int) ≤ 1000000000000000 := by omega
        have h' := err_shift k h hbd
        have hfr := fre_shift k h hbd
        have hgd := good_shift k h hbd
        have hrm : rmF D (s + ((k * D.length : Nat) : Int)) (e + ((k * D.length : Nat) : Int)) = rmF D s e := rm_shift _
        by_cases hb : 2000 < b.length ∨ D.length < (putF b.length ++ b).length
        · exact f8_of p D b s e f m k hk hD hbl ok h hf1 hf2 s e f m 0 7 (by omega) (by omega) _ _ D D (.inl ⟨rfl, rfl⟩) (p23_long false p D b s e f m (by omega) ok h hb) (p23_long false p D b _ _ f m (by omega) ok h' hb)
        · have hb1 : ¬ 2000 < b.length := fun q => hb (.inl q)
          have hb2 : ¬ D.length < (putF b.length ++ b).length := fun q => hb (.inr q)
          by_cases hf : p = 2 ∧ freF p D s e f m < (putF b.length ++ b).length
          · obtain ⟨rfl, hf⟩ := hf
            exact f8_of 2 D b s e f m k hk hD hbl ok h hf1 hf2 s e f m 0 6 (by omega) (by omega) _ _ D D (.inl ⟨rfl, rfl⟩) (p23_full false D b s e f m (by omega) ok h hb1 hb2 hf) (p23_full false D b _ _ f m (by omega) ok h' hb1 hb2 (by rw [hfr]; exact hf))
          · have hf : p = 2 → ¬ freF p D s e f m < (putF b.length ++ b).length := fun q r => hf ⟨q, r⟩
            have hf' : p = 2 → ¬ freF p D (s + ((k * D.length : Nat) : Int)) (e + ((k * D.length : Nat) : Int)) f m < (putF b.length ++ b).length := by rw [hfr]; exact hf
            obtain ⟨K, Z, hKZ⟩ : ∃ K Z, lstF (putF b.length ++ b).length (rmF D s e) (goodL p D s e f m) = (K, Z) := ⟨_, _, rfl⟩
            have hKZ' : lstF (putF b.length ++ b).length (rmF D (s + ((k * D.length : Nat) : Int)) (e + ((k * D.length : Nat) : Int))) (goodL p D (s + ((k * D.length : Nat) : Int)) (e + ((k * D.length : Nat) : Int)) f m) = (K, Z) := by rw [hrm, hgd]; exact hKZ
            have hZ : Z ≤ 70000 := by
              have hs := good_sz h
              have := lstF_le (putF b.length ++ b).length (rmF D s e) (goodL p D s e f m)
              rw [hKZ] at this
              simp only at this
              omega
            have r1 := p23_run false p D b s e f m (by omega) ok h hb1 hb2 hf (by omega) (by omega) K Z hKZ
            have r2 := p23_run false p D b _ _ f m (by omega) ok h' hb1 hb2 hf' (by omega) (by omega) K Z hKZ'
            have q1 : s + ((k * D.length : Nat) : Int) + Z = s + Z + ((k * D.length : Nat) : Int) := by omega
            have q2 : e + ((k * D.length : Nat) : Int) + ((putF b.length ++ b).length : Nat) = e + ((putF b.length ++ b).length : Nat) + ((k * D.length : Nat) : Int) := by omega
            rw [q1, q2] at r2
            exact f8_of p D b s e f m k hk hD hbl ok h hf1 hf2 _ _ _ _ K 0 (by omega) (by omega) _ _ _ _ (.inr ⟨rfl, rfl⟩) r1 r2
    · exact f8_out p D b s e f m k ok (.inr h)
  · exact f8_out p D b s e f m k ok (.inl c)
theorem wf_u16 {i : Int} (h : (Lit.int .u16 i).wf = true) : 0 ≤ i ∧ i ≤ 65535 := by
  simp [Lit.wf, IntKind.min, IntKind.max, IntKind.signed, IntKind.bits] at h
  omega
theorem law8 (ps : List PV) (h : ArgL Try.prog 12 [25, 23, 44] ps) : evE Dg 8 ps = some (.bool true) := by
  obtain ⟨p, q, r, rfl, h1, h2, h3⟩ := argL3 h
  obtain ⟨z, D, s, e, f, m, rfl, ok⟩ := in_ring h1
  obtain ⟨b, rfl, okb⟩ := in_bytes1 h2
  obtain ⟨i, rfl, w⟩ := argT_int Try.underlying44 h3
  have w := wf_u16 w
  obtain ⟨k, rfl⟩ : ∃ k : Nat, i = k := ⟨i.toNat, by omega⟩
  exact f8 z D b s e f m k (by omega) ok
end Go.Proofs.Ythoncigfbhinlaa
