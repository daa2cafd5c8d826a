/- itree: ItreeChecks. -/
-- BIG
import Derived.Test.YtkodjmlhmpokoaaItU
import Derived.Test.YtkodjmlhmpokoaaItL
namespace Go.Proofs.Ytkodjmlhmpokoaa
open Go Go.RowKit
set_option linter.unusedVariables false
set_option linter.unusedSimpArgs false
set_option maxHeartbeats 8000000

theorem wf64 {i : Int} (h : (Lit.int .i64 i).wf = true) : -9223372036854775808 ≤ i ∧ i ≤ 9223372036854775807 := by
  simp [Lit.wf, IntKind.min, IntKind.max, IntKind.signed, IntKind.bits] at h
  omega
theorem f11_nil (y : Bool) : evE Dg 11 [.nilS, .sl y 1 []] = some (.bool true) := by
  refine evE_intro 2 D11 rfl ?_
  unfold c11 c11b0
  simp (maxSteps := 100000000) [evCode, evOps, evOne, evOp, evPur, evEff, evPur.chunks, fillP, AOp.isEff, AO.ev, putP, PV.cells, PV.leaf, getB, getM, mapE, iterE, keyC, mapRows, mfind, eq1, eqL, scal, binP, unP, minP, maxP, foldP, PV.lt, PV.lt.ltL, endP, expoAll, expoG, expo, expo.expoL, frIds, frIds.frIdsL, nodupN, kill, cls, clsFuel, resO, RV.get, loadP, evC_p, evC_s, endS, endT, rowsOf, callP, thinL, unfr, unfr.unfrL, PV.noMem, PV.noMem.noMemL, optI, mapO, norm, trimT, trimB, forget, hasN, blksLt, List.set, softChk, softGo, softRd, effTg, rdP, evLoop]
/-- Stab is Overlap for a span of one time -/
theorem stb_com (u : Sp) (t : Int) (h1 : -9223372036854775808 ≤ t) (h2 : t ≤ 9223372036854775807) : comB u (t, IntKind.i64.wrap (t + 1)) = stbB u t := by
  unfold comB stbB
  by_cases hm : t = 9223372036854775807
  · subst hm
    have : IntKind.i64.wrap (9223372036854775807 + 1) = -9223372036854775808 := by decide
    rw [this]
    cases hv : valB u with
    | false => simp
    | true =>
      have h3 : u.2 ≤ 1000000000000 := by
        unfold valB at hv
        simp at hv
        exact hv.2
      have : ¬ (9223372036854775807 : Int) < u.2 := by omega
      simp [valB, this]
  · rw [wrap_i64 _ (by omega) (by omega)]
    cases hv : valB u with
    | false => simp
    | true =>
      have h3 : (0 ≤ u.1 ∧ u.1 < u.2) ∧ u.2 ≤ 1000000000000 := by
        unfold valB at hv
        simpa using hv
      unfold valB
      by_cases c1 : u.1 ≤ t
      · by_cases c2 : t < u.2
        · have e1 : u.1 < t + 1 := by omega
          have e2 : (0 : Int) ≤ t := by omega
          have e3 : t < t + 1 := by omega
          have e4 : t + 1 ≤ 1000000000000 := by omega
          simp [c1, c2, e1, e2, e3, e4]
        · simp [c1, c2]
      · have e1 : ¬ u.1 < t + 1 := by omega
        simp [c1, e1]
theorem stb_list (l : List Sp) (t : Int) (h1 : -9223372036854775808 ≤ t) (h2 : t ≤ 9223372036854775807) : fil2 (fun i => stbB (spA l i) t) l.length = comL l (t, IntKind.i64.wrap (t + 1)) := by
  unfold fil2 comL
  congr 1
  funext i
  exact (stb_com _ t h1 h2).symm
theorem same11 (y : Bool) (d : List Nat) (hd : d.length ≤ 1000000) : (∀ p, (resD d = .nilS ∧ p = .nilS ∨ ∃ x, p = .sl x 1 (nR d) ∧ d ≠ []) → evE Dg 11 [p, .sl y 1 (nR d)] = some (.bool true)) := by
  intro p hp
  rcases hp with ⟨h1, rfl⟩ | ⟨x, rfl, _⟩
  · cases d with
    | nil => exact f11_nil y
    | cons z d => simp [resD] at h1
  · have := f11 x y (castL d) (castL d) (by simp [castL]; exact hd)
    simp only [decide_true] at this
    rw [nR_int]
    exact this
set_option maxRecDepth 100000 in
theorem f4_few (x a b : Bool) (l : List Sp) (o m : List Int) (s : Sp) (hs1 : -9223372036854775808 ≤ s.1) (hs2 : s.1 ≤ 9223372036854775807) (hf : ((decide (l.length ≤ 200) && decide (o.length ≤ 300)) && decide (m.length ≤ 300)) = true) : evE Dg 4 [eS x l, .agg [eI a o, eI b m], vS s] = some (.bool true) := by
  have h13 := f13 x a b l o m
  rw [hf] at h13
  simp only [Bool.and_eq_true, decide_eq_true_eq] at hf
  obtain ⟨⟨hl, ho⟩, hm⟩ := hf
  have h12 := f12 x a b l o m (by omega) (ordP_len l) (ordP_lt l) (by omega) (by omega)
  have h14 := f14 x a b l o m (by omega) (by omega) (by omega)
  have h15 := f15 x a b l o m s (by omega) (by omega) (by omega)
  have h16 := f16 x a b l o m s (by omega) (by omega) (by omega)
  have h17 := f17 x a b l o m s.1 (by omega) (by omega) (by omega)
  have h18 := f18 x a b l o m s.1 (by omega) (by omega) (by omega)
  rw [stb_list l s.1 hs1 hs2] at h18
  have h19 := f19 x a b l o m s (by omega) (by omega) (by omega)
  have h20 := f20 x a b l o m s (by omega) (by omega) (by omega)
  have h8 := f8
  have d1 : (if (decide (o = ordI l) && decide (m = mostP l)) = true then comL l s else []).length ≤ 1000000 := by
    split
    · have := List.length_filter_le (fun i => comB (spA l i) s) (List.range l.length)
      unfold comL
      simp at this
      omega
    · simp
  have d2 : (if (decide (o = ordI l) && decide (m = mostP l)) = true then comL l (s.1, IntKind.i64.wrap (s.1 + 1)) else []).length ≤ 1000000 := by
    split
    · have := List.length_filter_le (fun i => comB (spA l i) (s.1, IntKind.i64.wrap (s.1 + 1))) (List.range l.length)
      unfold comL
      simp at this
      omega
    · simp
  generalize (if (decide (o = ordI l) && decide (m = mostP l)) = true then comL l s else []) = A at *
  generalize (if (decide (o = ordI l) && decide (m = mostP l)) = true then comL l (s.1, IntKind.i64.wrap (s.1 + 1)) else []) = B at *
  generalize (if (decide (o = ordI l) && decide (m = mostP l)) = true then exv l s l.length 0 l.length else 0) = n at *
  generalize (decide (o = ordI l) && decide (m = mostP l)) = ok at *
  have SA := fun y => same11 y A d1
  have SB := fun y => same11 y B d2
  simp only [eI, eS, vS] at h12 h13 h14 h15 h16 h17 h18 h19 h20
  have hb0 : ∀ b, Nat.blt b 0 = false := fun b => by cases b <;> rfl
  have im : ∀ rows, impB (PV.fr 1 rows) = [⟨rows.length, 1, true, rows⟩] := fun _ => rfl
  have iv : ∀ k rows, impV k (PV.fr 1 rows) = .own k rows.length 0 rows.length := fun _ _ => rfl
  have eN := nR_len
  have eN0 : nR [] = [] := rfl
  have hok : decide (ok = ok) = true := by simp
  refine evE_intro 1 D4 rfl ?_
  unfold c4
  cases A with
  | nil =>
    have SA' := f11_nil
    simp only [resD] at h15
    cases B with
    | nil =>
      have SB' := f11_nil
      simp only [resL] at h17
      simp (maxSteps := 100000000) [evCode, evOps, evOne, evOp, evPur, evEff, evPur.chunks, fillP, AOp.isEff, AO.ev, putP, PV.cells, PV.leaf, getB, getM, mapE, iterE, keyC, mapRows, mfind, eq1, eqL, scal, binP, unP, minP, maxP, foldP, PV.lt, PV.lt.ltL, endP, expoAll, expoG, expo, expo.expoL, frIds, frIds.frIdsL, nodupN, kill, cls, clsFuel, resO, RV.get, loadP, evC_p, evC_s, endS, endT, rowsOf, callP, thinL, unfr, unfr.unfrL, PV.noMem, PV.noMem.noMemL, optI, mapO, norm, trimT, trimB, forget, hasN, blksLt, List.set, softChk, softGo, softRd, effTg, rdP, hok, eI, eS, vS, h8, h12, h13, h14, h15, h16, h17, h18, h19, h20, SA', SB', hb0, im, iv, eN, eN0]
    | cons z B =>
      have SB' := fun y => SB y (.sl false 1 (nR (z :: B))) (.inr ⟨_, rfl, by simp⟩)
      simp only [resL] at h17
      simp (maxSteps := 100000000) [evCode, evOps, evOne, evOp, evPur, evEff, evPur.chunks, fillP, AOp.isEff, AO.ev, putP, PV.cells, PV.leaf, getB, getM, mapE, iterE, keyC, mapRows, mfind, eq1, eqL, scal, binP, unP, minP, maxP, foldP, PV.lt, PV.lt.ltL, endP, expoAll, expoG, expo, expo.expoL, frIds, frIds.frIdsL, nodupN, kill, cls, clsFuel, resO, RV.get, loadP, evC_p, evC_s, endS, endT, rowsOf, callP, thinL, unfr, unfr.unfrL, PV.noMem, PV.noMem.noMemL, optI, mapO, norm, trimT, trimB, forget, hasN, blksLt, List.set, softChk, softGo, softRd, effTg, rdP, hok, eI, eS, vS, h8, h12, h13, h14, h15, h16, h17, h18, h19, h20, SA', SB', hb0, im, iv, eN, eN0]
  | cons w A =>
    have SA' := fun y => SA y (.sl false 1 (nR (w :: A))) (.inr ⟨_, rfl, by simp⟩)
    simp only [resD] at h15
    cases B with
    | nil =>
      have SB' := f11_nil
      simp only [resL] at h17
      simp (maxSteps := 100000000) [evCode, evOps, evOne, evOp, evPur, evEff, evPur.chunks, fillP, AOp.isEff, AO.ev, putP, PV.cells, PV.leaf, getB, getM, mapE, iterE, keyC, mapRows, mfind, eq1, eqL, scal, binP, unP, minP, maxP, foldP, PV.lt, PV.lt.ltL, endP, expoAll, expoG, expo, expo.expoL, frIds, frIds.frIdsL, nodupN, kill, cls, clsFuel, resO, RV.get, loadP, evC_p, evC_s, endS, endT, rowsOf, callP, thinL, unfr, unfr.unfrL, PV.noMem, PV.noMem.noMemL, optI, mapO, norm, trimT, trimB, forget, hasN, blksLt, List.set, softChk, softGo, softRd, effTg, rdP, hok, eI, eS, vS, h8, h12, h13, h14, h15, h16, h17, h18, h19, h20, SA', SB', hb0, im, iv, eN, eN0]
    | cons z B =>
      have SB' := fun y => SB y (.sl false 1 (nR (z :: B))) (.inr ⟨_, rfl, by simp⟩)
      simp only [resL] at h17
      simp (maxSteps := 100000000) [evCode, evOps, evOne, evOp, evPur, evEff, evPur.chunks, fillP, AOp.isEff, AO.ev, putP, PV.cells, PV.leaf, getB, getM, mapE, iterE, keyC, mapRows, mfind, eq1, eqL, scal, binP, unP, minP, maxP, foldP, PV.lt, PV.lt.ltL, endP, expoAll, expoG, expo, expo.expoL, frIds, frIds.frIdsL, nodupN, kill, cls, clsFuel, resO, RV.get, loadP, evC_p, evC_s, endS, endT, rowsOf, callP, thinL, unfr, unfr.unfrL, PV.noMem, PV.noMem.noMemL, optI, mapO, norm, trimT, trimB, forget, hasN, blksLt, List.set, softChk, softGo, softRd, effTg, rdP, hok, eI, eS, vS, h8, h12, h13, h14, h15, h16, h17, h18, h19, h20, SA', SB', hb0, im, iv, eN, eN0]
set_option maxRecDepth 100000 in
theorem f4 (x a b : Bool) (l : List Sp) (o m : List Int) (s : Sp) (hs1 : -9223372036854775808 ≤ s.1) (hs2 : s.1 ≤ 9223372036854775807) : evE Dg 4 [eS x l, .agg [eI a o, eI b m], vS s] = some (.bool true) := by
  cases hf : ((decide (l.length ≤ 200) && decide (o.length ≤ 300)) && decide (m.length ≤ 300)) with
  | true => exact f4_few x a b l o m s hs1 hs2 hf
  | false =>
    have h13 := f13 x a b l o m
    rw [hf] at h13
    have h8 := f8
    simp only [eI, eS, vS] at h13
    refine evE_intro 1 D4 rfl ?_
    unfold c4
    simp (maxSteps := 100000000) [evCode, evOps, evOne, evOp, evPur, evEff, evPur.chunks, fillP, AOp.isEff, AO.ev, putP, PV.cells, PV.leaf, getB, getM, mapE, iterE, keyC, mapRows, mfind, eq1, eqL, scal, binP, unP, minP, maxP, foldP, PV.lt, PV.lt.ltL, endP, expoAll, expoG, expo, expo.expoL, frIds, frIds.frIdsL, nodupN, kill, cls, clsFuel, resO, RV.get, loadP, evC_p, evC_s, endS, endT, rowsOf, callP, thinL, unfr, unfr.unfrL, PV.noMem, PV.noMem.noMemL, optI, mapO, norm, trimT, trimB, forget, hasN, blksLt, List.set, softChk, softGo, softRd, effTg, rdP, eI, eS, vS, h8, h13]
set_option maxRecDepth 100000 in
theorem ht_ints {d : Nat} {ps : List PV} (h : HT Try.prog (d + 2) 24 ps) : ∃ o : List Int, ps = [eI false o] := by
  obtain ⟨l, h1, _, _⟩ := argT_rows (f := fun z : Int => [.int .i64 z]) (Q := fun _ => True) Try.underlying24 (c := 1) (by kernel_rfl) (fun r hr => by
    obtain ⟨u, rfl, _⟩ := ht_int Try.underlying3 hr
    exact ⟨u, rfl, trivial⟩) h
  exact ⟨l, h1⟩
theorem in_index {d : Nat} {p : PV} (h : ArgT Try.prog (d + 3) 26 p) : ∃ o m, p = .agg [eI false o, eI false m] := by
  obtain ⟨ps, rfl, h2⟩ := argT_struct Try.underlying26 h
  have hf := ht_struct Try.underlying26 h2
  obtain ⟨p1, q1, rfl, a1, b1⟩ := htf_cons hf
  obtain ⟨p2, q2, rfl, a2, b2⟩ := htf_cons b1
  obtain rfl := htf_nil b2
  obtain ⟨o, rfl⟩ := ht_ints a1
  obtain ⟨m, rfl⟩ := ht_ints a2
  exact ⟨o, m, rfl⟩
theorem in_span {d : Nat} {p : PV} (h : ArgT Try.prog (d + 2) 32 p) : ∃ s : Sp, p = vS s ∧ (-9223372036854775808 ≤ s.1 ∧ s.1 ≤ 9223372036854775807) ∧ (-9223372036854775808 ≤ s.2 ∧ s.2 ≤ 9223372036854775807) := by
  obtain ⟨ps, rfl, h2⟩ := argT_struct Try.underlying32 h
  have hf := ht_struct Try.underlying32 h2
  obtain ⟨p1, q1, rfl, a1, b1⟩ := htf_cons hf
  obtain ⟨p2, q2, rfl, a2, b2⟩ := htf_cons b1
  obtain rfl := htf_nil b2
  obtain ⟨u, rfl, w1⟩ := ht_int Try.underlying3 a1
  obtain ⟨v, rfl, w2⟩ := ht_int Try.underlying3 a2
  exact ⟨(u, v), rfl, wf64 w1, wf64 w2⟩
theorem law4 (ps : List PV) (h : ArgL Try.prog 12 [22, 26, 32] ps) : evE Dg 4 ps = some (.bool true) := by
  obtain ⟨p, q, r, rfl, h1, h2, h3⟩ := argL3 h
  obtain ⟨l, rfl⟩ := in_spans h1
  obtain ⟨o, m, rfl⟩ := in_index h2
  obtain ⟨s, rfl, hs, _⟩ := in_span h3
  exact f4 false false false l o m s hs.1 hs.2
end Go.Proofs.Ytkodjmlhmpokoaa
