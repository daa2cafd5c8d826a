/- itree: ItreeFinds. -/
-- BIG
import Derived.Test.YtkodjmlhmpokoaaItY
namespace Go.Proofs.Ytkodjmlhmpokoaa
open Go Go.RowKit
set_option linter.unusedVariables false
set_option linter.unusedSimpArgs false
set_option maxHeartbeats 8000000

theorem fil2_at (q : Nat → Bool) (k n : Nat) (hk : k < n) (hq : q k = true) : (fil2 q n)[(fil2 q k).length]? = some k := by
  obtain ⟨e, rfl⟩ : ∃ e, n = k + (1 + e) := ⟨n - (k + 1), by omega⟩
  have h : List.range (k + (1 + e)) = List.range k ++ ([k] ++ List.range' (k + 1) e) := by
    rw [List.range_eq_range', List.range_eq_range', ← List.range'_append_1 (m := k), ← List.range'_append_1 (m := 1)]
    simp
  unfold fil2
  rw [h, List.filter_append, List.filter_append]
  simp [hq]
theorem f22 (a b : Int) : evE Dg 22 [.int .i64 a, .int .i64 b] = some (vS (a, b)) := by
  refine evE_intro 1 D22 rfl ?_
  unfold c22
  simp (maxSteps := 100000000) [evCode, evOps, evOne, evOp, evPur, evEff, evPur.chunks, fillP, AOp.isEff, AO.ev, putP, PV.cells, PV.leaf, getB, getM, mapE, iterE, keyC, mapRows, mfind, eq1, eqL, scal, binP, unP, minP, maxP, foldP, PV.lt, PV.lt.ltL, endP, expoAll, expoG, expo, expo.expoL, frIds, frIds.frIdsL, nodupN, kill, cls, clsFuel, resO, RV.get, loadP, evC_p, evC_s, endS, endT, rowsOf, callP, thinL, unfr, unfr.unfrL, PV.noMem, PV.noMem.noMemL, optI, mapO, norm, trimT, trimB, forget, hasN, blksLt, List.set, softChk, softGo, softRd, effTg, rdP, vS]
theorem f11_nn : evE Dg 11 [.nilS, .nilS] = some (.bool true) := by
  refine evE_intro 2 D11 rfl ?_
  unfold c11 c11b0
  simp (maxSteps := 100000000) [evCode, evOps, evOne, evOp, evPur, evEff, evPur.chunks, fillP, AOp.isEff, AO.ev, putP, PV.cells, PV.leaf, getB, getM, mapE, iterE, keyC, mapRows, mfind, eq1, eqL, scal, binP, unP, minP, maxP, foldP, PV.lt, PV.lt.ltL, endP, expoAll, expoG, expo, expo.expoL, frIds, frIds.frIdsL, nodupN, kill, cls, clsFuel, resO, RV.get, loadP, evC_p, evC_s, endS, endT, rowsOf, callP, thinL, unfr, unfr.unfrL, PV.noMem, PV.noMem.noMemL, optI, mapO, norm, trimT, trimB, forget, hasN, blksLt, List.set, softChk, softGo, softRd, effTg, rdP, evLoop]
theorem comL_out (l : List Sp) (t : Int) (h1 : -9223372036854775808 ≤ t) (h2 : t ≤ 9223372036854775807) (h : t < 0 ∨ 1000000000000 ≤ t) : comL l (t, IntKind.i64.wrap (t + 1)) = [] := by
  have hv : valB (t, IntKind.i64.wrap (t + 1)) = false := by
    unfold valB
    rcases h with h | h
    · have : ¬ 0 ≤ t := by omega
      simp [this]
    · by_cases hm : t = 9223372036854775807
      · subst hm
        have : IntKind.i64.wrap (9223372036854775807 + 1) = -9223372036854775808 := by decide
        rw [this]
        decide
      · rw [wrap_i64 _ (by omega) (by omega)]
        have : ¬ t + 1 ≤ 1000000000000 := by omega
        simp [this]
  unfold comL
  rw [List.filter_eq_nil_iff]
  intro i _
  unfold comB
  rw [hv]
  simp
def qC (l : List Sp) (s : Sp) (i : Nat) : Bool := comB (spA l i) s
theorem comL_fil (l : List Sp) (s : Sp) : comL l s = fil2 (qC l s) l.length := rfl
def fndP (d : List Nat) : PV := match d with
  | [] => .nilS
  | _ :: _ => .sl false 1 (nR d)
def S6 (x : Bool) (l : List Sp) (s : Sp) (t : Int) (d : List Nat) (k : Nat) : St := ⟨[eS x l, .top, .int .i64 t, .top, .ptr 0 1 0 0, .top, .top, .ptr 1 1 0 0, fndP d, .int .i64 ((fil2 (qC l s) k).length : Int), .int .i64 (k : Int)] ++ List.replicate 84 .top, [bxS s, some ⟨1, 2, true, [[.sl false 1 (iR (ordI l)), .sl false 1 (iR (mostP l))]]⟩]⟩
theorem one_row (x : Bool) (s : Sp) : PV.sl x 2 [[.int .i64 s.1, .int .i64 s.2]] = .sl x 2 [row2 s] := rfl
set_option maxRecDepth 100000 in
theorem round6 (x : Bool) (l : List Sp) (s : Sp) (t : Int) (k : Nat) (hl : l.length ≤ 200) (hk : k < l.length) : ∃ s', evCode (evC Dg) (l.length + 1) c6b0 (S6 x l s t (comL l s) k) = some (.normal s') ∧ norm [0, 2, 4, 7, 8, 9, 10] 2 s' = S6 x l s t (comL l s) (k + 1) := by
  have hu := List.getElem?_eq_getElem hk
  have hs := spA_get hu
  generalize l[k] = u at *
  have r1 := spRows_get hu
  have g1 := spRows_got hu
  have e1 := spRows_len l
  have hk' : (k : Int) < l.length := by omega
  have w1 := wrap_i64 ((k : Int) + 1) (by omega) (by omega)
  obtain ⟨rows, h21, hrow⟩ := f21_1 true true u s
  have hC : comL l s = fil2 (qC l s) l.length := rfl
  have hS := fil2_succ (qC l s) k
  have hq : qC l s k = comB u s := by unfold qC; rw [hs]
  have hn := fil2_len (qC l s) k
  have w2 := wrap_i64 (((fil2 (qC l s) k).length : Int) + 1) (by omega) (by omega)
  rw [hq] at hS
  have hb0 : ∀ b, Nat.blt b 0 = false := fun b => by cases b <;> rfl
  have im : ∀ rows, impB (PV.fr 2 rows) = [⟨rows.length, 2, true, rows⟩] := fun _ => rfl
  have iv : ∀ k rows, impV k (PV.fr 2 rows) = .own k rows.length 0 rows.length := fun _ _ => rfl
  have eN := nR_len
  simp only [row2] at h21
  unfold c6b0
  cases hc : comB u s with
  | false =>
    rw [hc] at hS hrow
    have h0 : rows.length = 0 := hrow.2 rfl
    simp only [if_false, Bool.false_eq_true] at hS
    have hr : rows = [] := List.length_eq_zero_iff.1 h0
    subst hr
    cases hd : comL l s with
    | nil => simp [evCode, evOps, evOne, evOp, evPur, evEff, evPur.chunks, fillP, AOp.isEff, AO.ev, putP, PV.cells, PV.leaf, getB, getM, mapE, iterE, keyC, mapRows, mfind, eq1, eqL, scal, binP, unP, minP, maxP, foldP, PV.lt, PV.lt.ltL, endP, expoAll, expoG, expo, expo.expoL, frIds, frIds.frIdsL, nodupN, kill, cls, clsFuel, resO, RV.get, loadP, evC_p, evC_s, endS, endT, rowsOf, callP, thinL, unfr, unfr.unfrL, PV.noMem, PV.noMem.noMemL, optI, mapO, norm, trimT, trimB, forget, hasN, blksLt, List.set, softChk, softGo, softRd, effTg, rdP, S6, fndP, bxS, eS, e1, r1, g1, hk', hk, w1, h21, hS, im, iv, hb0]
    | cons y r => simp [evCode, evOps, evOne, evOp, evPur, evEff, evPur.chunks, fillP, AOp.isEff, AO.ev, putP, PV.cells, PV.leaf, getB, getM, mapE, iterE, keyC, mapRows, mfind, eq1, eqL, scal, binP, unP, minP, maxP, foldP, PV.lt, PV.lt.ltL, endP, expoAll, expoG, expo, expo.expoL, frIds, frIds.frIdsL, nodupN, kill, cls, clsFuel, resO, RV.get, loadP, evC_p, evC_s, endS, endT, rowsOf, callP, thinL, unfr, unfr.unfrL, PV.noMem, PV.noMem.noMemL, optI, mapO, norm, trimT, trimB, forget, hasN, blksLt, List.set, softChk, softGo, softRd, effTg, rdP, S6, fndP, bxS, eS, e1, r1, g1, hk', hk, w1, h21, hS, im, iv, hb0, eN]
  | true =>
    rw [hc] at hS hrow
    simp only [if_true] at hS
    have h0 : ¬ rows.length = 0 := fun h => by have := hrow.1 h; simp at this
    have h0' : ¬ (rows.length : Int) = 0 := by omega
    have hat := fil2_at (qC l s) k l.length hk (by rw [hq, hc])
    rw [← hC] at hat
    have hlt := (List.getElem?_eq_some_iff.1 hat).1
    have gA := nR_get hat
    have gA' := nR_got hat
    have hSl : (fil2 (qC l s) (k + 1)).length = (fil2 (qC l s) k).length + 1 := by rw [hS]; simp
    cases hd : comL l s with
    | nil => rw [hd] at hlt; simp at hlt
    | cons y r =>
      rw [hd] at hlt gA gA'
      simp only [List.length_cons] at hlt
      have c1 : ¬ (r.length : Int) + 1 ≤ ((fil2 (qC l s) k).length : Nat) := by omega
      have c2 : (((fil2 (qC l s) k).length : Nat) : Int) < (r.length : Int) + 1 := by omega
      simp (maxSteps := 100000000) [evCode, evOps, evOne, evOp, evPur, evEff, evPur.chunks, fillP, AOp.isEff, AO.ev, putP, PV.cells, PV.leaf, getB, getM, mapE, iterE, keyC, mapRows, mfind, eq1, eqL, scal, binP, unP, minP, maxP, foldP, PV.lt, PV.lt.ltL, endP, expoAll, expoG, expo, expo.expoL, frIds, frIds.frIdsL, nodupN, kill, cls, clsFuel, resO, RV.get, loadP, evC_p, evC_s, endS, endT, rowsOf, callP, thinL, unfr, unfr.unfrL, PV.noMem, PV.noMem.noMemL, optI, mapO, norm, trimT, trimB, forget, hasN, blksLt, List.set, softChk, softGo, softRd, effTg, rdP, S6, fndP, bxS, eS, e1, r1, g1, hk', hk, w1, w2, h21, hSl, im, iv, hb0, eN, h0, h0', c1, c2, hlt, gA, gA']
theorem comL_le (l : List Sp) (s : Sp) : (comL l s).length ≤ exv l s l.length 0 l.length := by
  rw [← (exf_perm l s).length_eq]
  exact exf_le l s l.length 0 l.length
set_option maxRecDepth 100000 in
theorem f6_nil (x : Bool) (l : List Sp) (s : Sp) (t : Int) (t1 : -9223372036854775808 ≤ t) (t2 : t ≤ 9223372036854775807) (hl : l.length ≤ 200) (hd : comL l s = []) : evE Dg 6 [eS x l, vS s, .int .i64 t] = some (.bool true) := by
  have h9 := f9 x l (by omega) (ordP_len l) (ordP_lt l)
  rw [nR_iR] at h9
  change _ = some (PV.agg [.fr 1 (iR (ordI l)), .fr 1 (iR (mostP l))]) at h9
  have h19 := fun a b => f19 x a b l (ordI l) (mostP l) s (by omega) (by rw [ordI_len]; omega) (by rw [mostP_len]; omega)
  have h15 := fun a b => f15 x a b l (ordI l) (mostP l) s (by omega) (by rw [ordI_len]; omega) (by rw [mostP_len]; omega)
  have h15' := fun a b => f15 x a b l (ordI l) (mostP l) (t, IntKind.i64.wrap (t + 1)) (by omega) (by rw [ordI_len]; omega) (by rw [mostP_len]; omega)
  have h17 := fun a b => f17 x a b l (ordI l) (mostP l) t (by omega) (by rw [ordI_len]; omega) (by rw [mostP_len]; omega)
  simp only [decide_true, Bool.and_self, if_true] at h19 h15 h15' h17
  have h22 := f22 t (IntKind.i64.wrap (t + 1))
  have hout := comL_out l t t1 t2
  have h8 := f8
  have e1 := spRows_len l
  have e2 := iR_len
  have eO := ordI_len l
  have eM := mostP_len l
  have eN := nR_len
  have hb0 : ∀ b, Nat.blt b 0 = false := fun b => by cases b <;> rfl
  have im : ∀ rows, impB (PV.fr 1 rows) = [⟨rows.length, 1, true, rows⟩] := fun _ => rfl
  have iv : ∀ k rows, impV k (PV.fr 1 rows) = .own k rows.length 0 rows.length := fun _ _ => rfl
  have H := loop_inv (body := evCode (evC Dg) (l.length + 1) c6b0) (keep := [0, 2, 4, 7, 8, 9, 10]) (n0 := 2) (fuel := l.length + 1) l (fun k (_ : Unit) => S6 x l s t (comL l s) k) (fun _ _ => True) (fun _ => False)
    (by
      rintro k u _ hu hk _
      left
      obtain ⟨s', q1, q2⟩ := round6 x l s t k hl hk
      exact ⟨(), s', q1, q2, trivial⟩)
    (by
      rintro _ _ s'
      unfold c6b0
      simp (maxSteps := 100000000) [evCode, evOps, evOne, evOp, evPur, evEff, evPur.chunks, fillP, AOp.isEff, AO.ev, putP, PV.cells, PV.leaf, getB, getM, mapE, iterE, keyC, mapRows, mfind, eq1, eqL, scal, binP, unP, minP, maxP, foldP, PV.lt, PV.lt.ltL, endP, expoAll, expoG, expo, expo.expoL, frIds, frIds.frIdsL, nodupN, kill, cls, clsFuel, resO, RV.get, loadP, evC_p, evC_s, endS, endT, rowsOf, callP, thinL, unfr, unfr.unfrL, PV.noMem, PV.noMem.noMemL, optI, mapO, norm, trimT, trimB, forget, hasN, blksLt, List.set, softChk, softGo, softRd, effTg, rdP, S6, eS, e1])
    (by omega) () trivial
  have hl' : ¬ (200 : Int) < l.length := by omega
  have v1 := exv_le l s l.length 0 l.length (by omega)
  have v2 := comL_le l s
  have hlen : (fil2 (qC l s) l.length).length = (comL l s).length := rfl
  have hlen0 : (fil2 (qC l s) 0).length = 0 := rfl
  have sT := fun a => same11 a (comL l (t, IntKind.i64.wrap (t + 1))) (by
    have := List.length_filter_le (fun i => comB (spA l i) (t, IntKind.i64.wrap (t + 1))) (List.range l.length)
    unfold comL
    simp at this
    omega)
  simp only [eS, eI, vS] at h9 h15 h15' h17 h19 h22
  generalize exv l s l.length 0 l.length = n at *
  have n1 : ¬ (l.length : Int) < n := by omega
  refine evE_intro (l.length + 1) D6 rfl ?_
  unfold c6
  rw [hd] at h15 H hlen v2
  simp only [resD] at h15
  simp only [List.length_nil] at hlen
  simp (maxSteps := 100000000) [evCode, evOps, evOne, evOp, evPur, evEff, evPur.chunks, fillP, AOp.isEff, AO.ev, putP, PV.cells, PV.leaf, getB, getM, mapE, iterE, keyC, mapRows, mfind, eq1, eqL, scal, binP, unP, minP, maxP, foldP, PV.lt, PV.lt.ltL, endP, expoAll, expoG, expo, expo.expoL, frIds, frIds.frIdsL, nodupN, kill, cls, clsFuel, resO, RV.get, loadP, evC_p, evC_s, endS, endT, rowsOf, callP, thinL, unfr, unfr.unfrL, PV.noMem, PV.noMem.noMemL, optI, mapO, norm, trimT, trimB, forget, hasN, blksLt, List.set, softChk, softGo, softRd, effTg, rdP, eS, vS, e1, hl', h9, h15, im, iv, hb0]
  generalize hE : evLoop _ _ _ _ _ = E
  rcases H _ _ hE (by simp [evCode, evOps, evOne, evOp, evPur, evEff, evPur.chunks, fillP, AOp.isEff, AO.ev, putP, PV.cells, PV.leaf, getB, getM, mapE, iterE, keyC, mapRows, mfind, eq1, eqL, scal, binP, unP, minP, maxP, foldP, PV.lt, PV.lt.ltL, endP, expoAll, expoG, expo, expo.expoL, frIds, frIds.frIdsL, nodupN, kill, cls, clsFuel, resO, RV.get, loadP, evC_p, evC_s, endS, endT, rowsOf, callP, thinL, unfr, unfr.unfrL, PV.noMem, PV.noMem.noMemL, optI, mapO, norm, trimT, trimB, forget, hasN, blksLt, List.set, softChk, softGo, softRd, effTg, rdP, S6, fndP, bxS, eS, hlen0]) with ⟨_, _, q2⟩ | ⟨_, _, q3⟩
  · rw [q2]
    have n2 : ¬ (n : Int) < 0 := by omega
    unfold c6b0 c6r0
    by_cases c1 : t < 0
    · have hE2 := hout (.inl c1)
      rw [hE2] at h15' h17
      simp only [resD, resL] at h15' h17
      simp (maxSteps := 100000000) [evCode, evOps, evOne, evOp, evPur, evEff, evPur.chunks, fillP, AOp.isEff, AO.ev, putP, PV.cells, PV.leaf, getB, getM, mapE, iterE, keyC, mapRows, mfind, eq1, eqL, scal, binP, unP, minP, maxP, foldP, PV.lt, PV.lt.ltL, endP, expoAll, expoG, expo, expo.expoL, frIds, frIds.frIdsL, nodupN, kill, cls, clsFuel, resO, RV.get, loadP, evC_p, evC_s, endS, endT, rowsOf, callP, thinL, unfr, unfr.unfrL, PV.noMem, PV.noMem.noMemL, optI, mapO, norm, trimT, trimB, forget, hasN, blksLt, List.set, softChk, softGo, softRd, effTg, rdP, S6, fndP, bxS, eS, e1, e2, eO, eM, hlen, h8, h19, h15', h17, h22, f11_nil, im, iv, hb0, n1, n2, c1]
    · by_cases c2 : 1000000000000 ≤ t
      · have hE2 := hout (.inr c2)
        rw [hE2] at h15' h17
        simp only [resD, resL] at h15' h17
        simp (maxSteps := 100000000) [evCode, evOps, evOne, evOp, evPur, evEff, evPur.chunks, fillP, AOp.isEff, AO.ev, putP, PV.cells, PV.leaf, getB, getM, mapE, iterE, keyC, mapRows, mfind, eq1, eqL, scal, binP, unP, minP, maxP, foldP, PV.lt, PV.lt.ltL, endP, expoAll, expoG, expo, expo.expoL, frIds, frIds.frIdsL, nodupN, kill, cls, clsFuel, resO, RV.get, loadP, evC_p, evC_s, endS, endT, rowsOf, callP, thinL, unfr, unfr.unfrL, PV.noMem, PV.noMem.noMemL, optI, mapO, norm, trimT, trimB, forget, hasN, blksLt, List.set, softChk, softGo, softRd, effTg, rdP, S6, fndP, bxS, eS, e1, e2, eO, eM, hlen, h8, h19, h15', h17, h22, f11_nil, im, iv, hb0, n1, n2, c1, c2]
      · generalize comL l (t, IntKind.i64.wrap (t + 1)) = B at *
        cases B with
        | nil =>
          simp only [resD, resL] at h15' h17
          simp (maxSteps := 100000000) [evCode, evOps, evOne, evOp, evPur, evEff, evPur.chunks, fillP, AOp.isEff, AO.ev, putP, PV.cells, PV.leaf, getB, getM, mapE, iterE, keyC, mapRows, mfind, eq1, eqL, scal, binP, unP, minP, maxP, foldP, PV.lt, PV.lt.ltL, endP, expoAll, expoG, expo, expo.expoL, frIds, frIds.frIdsL, nodupN, kill, cls, clsFuel, resO, RV.get, loadP, evC_p, evC_s, endS, endT, rowsOf, callP, thinL, unfr, unfr.unfrL, PV.noMem, PV.noMem.noMemL, optI, mapO, norm, trimT, trimB, forget, hasN, blksLt, List.set, softChk, softGo, softRd, effTg, rdP, S6, fndP, bxS, eS, e1, e2, eO, eM, hlen, h8, h19, h15', h17, h22, f11_nn, im, iv, hb0, n1, n2, c1, c2]
        | cons z B =>
          have sT' := fun a => sT a (.sl false 1 (nR (z :: B))) (.inr ⟨_, rfl, by simp⟩)
          simp only [resD, resL] at h15' h17
          simp (maxSteps := 100000000) [evCode, evOps, evOne, evOp, evPur, evEff, evPur.chunks, fillP, AOp.isEff, AO.ev, putP, PV.cells, PV.leaf, getB, getM, mapE, iterE, keyC, mapRows, mfind, eq1, eqL, scal, binP, unP, minP, maxP, foldP, PV.lt, PV.lt.ltL, endP, expoAll, expoG, expo, expo.expoL, frIds, frIds.frIdsL, nodupN, kill, cls, clsFuel, resO, RV.get, loadP, evC_p, evC_s, endS, endT, rowsOf, callP, thinL, unfr, unfr.unfrL, PV.noMem, PV.noMem.noMemL, optI, mapO, norm, trimT, trimB, forget, hasN, blksLt, List.set, softChk, softGo, softRd, effTg, rdP, S6, fndP, bxS, eS, e1, e2, eO, eM, eN, hlen, h8, h19, h15', h17, h22, sT', im, iv, hb0, n1, n2, c1, c2]
  · exact q3.elim
set_option maxRecDepth 100000 in
theorem f6_cons (x : Bool) (l : List Sp) (s : Sp) (t : Int) (t1 : -9223372036854775808 ≤ t) (t2 : t ≤ 9223372036854775807) (hl : l.length ≤ 200) (y : Nat) (r : List Nat) (hd : comL l s = y :: r) : evE Dg 6 [eS x l, vS s, .int .i64 t] = some (.bool true) := by
  have h9 := f9 x l (by omega) (ordP_len l) (ordP_lt l)
  rw [nR_iR] at h9
  change _ = some (PV.agg [.fr 1 (iR (ordI l)), .fr 1 (iR (mostP l))]) at h9
  have h19 := fun a b => f19 x a b l (ordI l) (mostP l) s (by omega) (by rw [ordI_len]; omega) (by rw [mostP_len]; omega)
  have h15 := fun a b => f15 x a b l (ordI l) (mostP l) s (by omega) (by rw [ordI_len]; omega) (by rw [mostP_len]; omega)
  have h15' := fun a b => f15 x a b l (ordI l) (mostP l) (t, IntKind.i64.wrap (t + 1)) (by omega) (by rw [ordI_len]; omega) (by rw [mostP_len]; omega)
  have h17 := fun a b => f17 x a b l (ordI l) (mostP l) t (by omega) (by rw [ordI_len]; omega) (by rw [mostP_len]; omega)
  simp only [decide_true, Bool.and_self, if_true] at h19 h15 h15' h17
  have h22 := f22 t (IntKind.i64.wrap (t + 1))
  have hout := comL_out l t t1 t2
  have h8 := f8
  have e1 := spRows_len l
  have e2 := iR_len
  have eO := ordI_len l
  have eM := mostP_len l
  have eN := nR_len
  have hb0 : ∀ b, Nat.blt b 0 = false := fun b => by cases b <;> rfl
  have im : ∀ rows, impB (PV.fr 1 rows) = [⟨rows.length, 1, true, rows⟩] := fun _ => rfl
  have iv : ∀ k rows, impV k (PV.fr 1 rows) = .own k rows.length 0 rows.length := fun _ _ => rfl
  have H := loop_inv (body := evCode (evC Dg) (l.length + 1) c6b0) (keep := [0, 2, 4, 7, 8, 9, 10]) (n0 := 2) (fuel := l.length + 1) l (fun k (_ : Unit) => S6 x l s t (comL l s) k) (fun _ _ => True) (fun _ => False)
    (by
      rintro k u _ hu hk _
      left
      obtain ⟨s', q1, q2⟩ := round6 x l s t k hl hk
      exact ⟨(), s', q1, q2, trivial⟩)
    (by
      rintro _ _ s'
      unfold c6b0
      simp (maxSteps := 100000000) [evCode, evOps, evOne, evOp, evPur, evEff, evPur.chunks, fillP, AOp.isEff, AO.ev, putP, PV.cells, PV.leaf, getB, getM, mapE, iterE, keyC, mapRows, mfind, eq1, eqL, scal, binP, unP, minP, maxP, foldP, PV.lt, PV.lt.ltL, endP, expoAll, expoG, expo, expo.expoL, frIds, frIds.frIdsL, nodupN, kill, cls, clsFuel, resO, RV.get, loadP, evC_p, evC_s, endS, endT, rowsOf, callP, thinL, unfr, unfr.unfrL, PV.noMem, PV.noMem.noMemL, optI, mapO, norm, trimT, trimB, forget, hasN, blksLt, List.set, softChk, softGo, softRd, effTg, rdP, S6, eS, e1])
    (by omega) () trivial
  have hl' : ¬ (200 : Int) < l.length := by omega
  have v1 := exv_le l s l.length 0 l.length (by omega)
  have v2 := comL_le l s
  have hlen : (fil2 (qC l s) l.length).length = (comL l s).length := rfl
  have hlen0 : (fil2 (qC l s) 0).length = 0 := rfl
  have sT := fun a => same11 a (comL l (t, IntKind.i64.wrap (t + 1))) (by
    have := List.length_filter_le (fun i => comB (spA l i) (t, IntKind.i64.wrap (t + 1))) (List.range l.length)
    unfold comL
    simp at this
    omega)
  simp only [eS, eI, vS] at h9 h15 h15' h17 h19 h22
  generalize exv l s l.length 0 l.length = n at *
  have n1 : ¬ (l.length : Int) < n := by omega
  refine evE_intro (l.length + 1) D6 rfl ?_
  unfold c6
  rw [hd] at h15 H hlen v2
  simp only [resD] at h15
  simp only [List.length_cons] at hlen v2
  simp (maxSteps := 100000000) [evCode, evOps, evOne, evOp, evPur, evEff, evPur.chunks, fillP, AOp.isEff, AO.ev, putP, PV.cells, PV.leaf, getB, getM, mapE, iterE, keyC, mapRows, mfind, eq1, eqL, scal, binP, unP, minP, maxP, foldP, PV.lt, PV.lt.ltL, endP, expoAll, expoG, expo, expo.expoL, frIds, frIds.frIdsL, nodupN, kill, cls, clsFuel, resO, RV.get, loadP, evC_p, evC_s, endS, endT, rowsOf, callP, thinL, unfr, unfr.unfrL, PV.noMem, PV.noMem.noMemL, optI, mapO, norm, trimT, trimB, forget, hasN, blksLt, List.set, softChk, softGo, softRd, effTg, rdP, eS, vS, e1, hl', h9, h15, im, iv, hb0, eN]
  generalize hE : evLoop _ _ _ _ _ = E
  rcases H _ _ hE (by simp [evCode, evOps, evOne, evOp, evPur, evEff, evPur.chunks, fillP, AOp.isEff, AO.ev, putP, PV.cells, PV.leaf, getB, getM, mapE, iterE, keyC, mapRows, mfind, eq1, eqL, scal, binP, unP, minP, maxP, foldP, PV.lt, PV.lt.ltL, endP, expoAll, expoG, expo, expo.expoL, frIds, frIds.frIdsL, nodupN, kill, cls, clsFuel, resO, RV.get, loadP, evC_p, evC_s, endS, endT, rowsOf, callP, thinL, unfr, unfr.unfrL, PV.noMem, PV.noMem.noMemL, optI, mapO, norm, trimT, trimB, forget, hasN, blksLt, List.set, softChk, softGo, softRd, effTg, rdP, S6, fndP, bxS, eS, hlen0, eN]) with ⟨_, _, q2⟩ | ⟨_, _, q3⟩
  · rw [q2]
    have n2 : ¬ (n : Int) < (r.length : Int) + 1 := by omega
    unfold c6b0 c6r0
    by_cases c1 : t < 0
    · have hE2 := hout (.inl c1)
      rw [hE2] at h15' h17
      simp only [resD, resL] at h15' h17
      simp (maxSteps := 100000000) [evCode, evOps, evOne, evOp, evPur, evEff, evPur.chunks, fillP, AOp.isEff, AO.ev, putP, PV.cells, PV.leaf, getB, getM, mapE, iterE, keyC, mapRows, mfind, eq1, eqL, scal, binP, unP, minP, maxP, foldP, PV.lt, PV.lt.ltL, endP, expoAll, expoG, expo, expo.expoL, frIds, frIds.frIdsL, nodupN, kill, cls, clsFuel, resO, RV.get, loadP, evC_p, evC_s, endS, endT, rowsOf, callP, thinL, unfr, unfr.unfrL, PV.noMem, PV.noMem.noMemL, optI, mapO, norm, trimT, trimB, forget, hasN, blksLt, List.set, softChk, softGo, softRd, effTg, rdP, S6, fndP, bxS, eS, e1, e2, eO, eM, eN, hlen, h8, h19, h15', h17, h22, f11_nil, im, iv, hb0, n1, n2, c1]
    · by_cases c2 : 1000000000000 ≤ t
      · have hE2 := hout (.inr c2)
        rw [hE2] at h15' h17
        simp only [resD, resL] at h15' h17
        simp (maxSteps := 100000000) [evCode, evOps, evOne, evOp, evPur, evEff, evPur.chunks, fillP, AOp.isEff, AO.ev, putP, PV.cells, PV.leaf, getB, getM, mapE, iterE, keyC, mapRows, mfind, eq1, eqL, scal, binP, unP, minP, maxP, foldP, PV.lt, PV.lt.ltL, endP, expoAll, expoG, expo, expo.expoL, frIds, frIds.frIdsL, nodupN, kill, cls, clsFuel, resO, RV.get, loadP, evC_p, evC_s, endS, endT, rowsOf, callP, thinL, unfr, unfr.unfrL, PV.noMem, PV.noMem.noMemL, optI, mapO, norm, trimT, trimB, forget, hasN, blksLt, List.set, softChk, softGo, softRd, effTg, rdP, S6, fndP, bxS, eS, e1, e2, eO, eM, eN, hlen, h8, h19, h15', h17, h22, f11_nil, im, iv, hb0, n1, n2, c1, c2]
      · generalize comL l (t, IntKind.i64.wrap (t + 1)) = B at *
        cases B with
        | nil =>
          simp only [resD, resL] at h15' h17
          simp (maxSteps := 100000000) [evCode, evOps, evOne, evOp, evPur, evEff, evPur.chunks, fillP, AOp.isEff, AO.ev, putP, PV.cells, PV.leaf, getB, getM, mapE, iterE, keyC, mapRows, mfind, eq1, eqL, scal, binP, unP, minP, maxP, foldP, PV.lt, PV.lt.ltL, endP, expoAll, expoG, expo, expo.expoL, frIds, frIds.frIdsL, nodupN, kill, cls, clsFuel, resO, RV.get, loadP, evC_p, evC_s, endS, endT, rowsOf, callP, thinL, unfr, unfr.unfrL, PV.noMem, PV.noMem.noMemL, optI, mapO, norm, trimT, trimB, forget, hasN, blksLt, List.set, softChk, softGo, softRd, effTg, rdP, S6, fndP, bxS, eS, e1, e2, eO, eM, eN, hlen, h8, h19, h15', h17, h22, f11_nn, im, iv, hb0, n1, n2, c1, c2]
        | cons z B =>
          have sT' := fun a => sT a (.sl false 1 (nR (z :: B))) (.inr ⟨_, rfl, by simp⟩)
          simp only [resD, resL] at h15' h17
          simp (maxSteps := 100000000) [evCode, evOps, evOne, evOp, evPur, evEff, evPur.chunks, fillP, AOp.isEff, AO.ev, putP, PV.cells, PV.leaf, getB, getM, mapE, iterE, keyC, mapRows, mfind, eq1, eqL, scal, binP, unP, minP, maxP, foldP, PV.lt, PV.lt.ltL, endP, expoAll, expoG, expo, expo.expoL, frIds, frIds.frIdsL, nodupN, kill, cls, clsFuel, resO, RV.get, loadP, evC_p, evC_s, endS, endT, rowsOf, callP, thinL, unfr, unfr.unfrL, PV.noMem, PV.noMem.noMemL, optI, mapO, norm, trimT, trimB, forget, hasN, blksLt, List.set, softChk, softGo, softRd, effTg, rdP, S6, fndP, bxS, eS, e1, e2, eO, eM, eN, hlen, h8, h19, h15', h17, h22, sT', im, iv, hb0, n1, n2, c1, c2]
  · exact q3.elim
theorem f6_few (x : Bool) (l : List Sp) (s : Sp) (t : Int) (t1 : -9223372036854775808 ≤ t) (t2 : t ≤ 9223372036854775807) (hl : l.length ≤ 200) : evE Dg 6 [eS x l, vS s, .int .i64 t] = some (.bool true) := by
  cases hd : comL l s with
  | nil => exact f6_nil x l s t t1 t2 hl hd
  | cons y r => exact f6_cons x l s t t1 t2 hl y r hd
set_option maxRecDepth 100000 in
theorem f6 (x : Bool) (l : List Sp) (s : Sp) (t : Int) (t1 : -9223372036854775808 ≤ t) (t2 : t ≤ 9223372036854775807) : evE Dg 6 [eS x l, vS s, .int .i64 t] = some (.bool true) := by
  by_cases h : l.length ≤ 200
  · exact f6_few x l s t t1 t2 h
  · have h8 := f8
    have e1 := spRows_len l
    have hl' : (200 : Int) < l.length := by omega
    refine evE_intro 1 D6 rfl ?_
    unfold c6
    simp (maxSteps := 100000000) [evCode, evOps, evOne, evOp, evPur, evEff, evPur.chunks, fillP, AOp.isEff, AO.ev, putP, PV.cells, PV.leaf, getB, getM, mapE, iterE, keyC, mapRows, mfind, eq1, eqL, scal, binP, unP, minP, maxP, foldP, PV.lt, PV.lt.ltL, endP, expoAll, expoG, expo, expo.expoL, frIds, frIds.frIdsL, nodupN, kill, cls, clsFuel, resO, RV.get, loadP, evC_p, evC_s, endS, endT, rowsOf, callP, thinL, unfr, unfr.unfrL, PV.noMem, PV.noMem.noMemL, optI, mapO, norm, trimT, trimB, forget, hasN, blksLt, List.set, softChk, softGo, softRd, effTg, rdP, eS, vS, h8, e1, hl']
end Go.Proofs.Ytkodjmlhmpokoaa
