/- column: ColumnShort. -/
import Derived.Test.YtimipbbcmiblkaaCoN
namespace Go.Proofs.Ytimipbbcmiblkaa
open Go Go.RowKit
set_option linter.unusedVariables false
set_option linter.unusedSimpArgs false
set_option maxHeartbeats 4000000

def smV (v : Val) : Nat := 1 + (if v.1 = 3 then 2 + v.2.2.length else 0) + (if v.1 = 1 ∨ v.1 = 2 then 10 else 0)
theorem putI_two (n : Nat) (h : n ≤ 200) : (putI (n : Int)).length ≤ 2 := by
  have e : zz (n : Int) = 2 * n := by unfold zz; rw [if_pos (by omega)]; omega
  unfold putI
  rw [e]
  unfold encU
  split
  · simp
  · unfold encU
    rw [if_pos (by omega)]
    simp
theorem vB_sm {v : Val} (h : okW v) : (vB v).length ≤ smV v := by
  obtain ⟨h0, ⟨h1, h2⟩, h3⟩ := h
  unfold vB tlB smV
  by_cases c : v.1 = 1 ∨ v.1 = 2
  · rw [if_pos c, if_pos c]
    have := putI_len h1 h2
    simp; omega
  · rw [if_neg c, if_neg c]
    by_cases c3 : v.1 = 3
    · rw [if_pos c3, if_pos c3]
      have := putI_two v.2.2.length h3
      unfold putT
      simp [sB_len]
      omega
    · rw [if_neg c3, if_neg c3]
      simp
def smL (l : List Val) : Nat := (l.map smV).sum
theorem smL_take {l : List Val} {k : Nat} {v : Val} (h : l[k]? = some v) : smL (l.take (k + 1)) = smL (l.take k) + smV v := by
  unfold smL
  rw [List.take_add_one, h]
  simp
theorem flB_sm : ∀ {l : List Val}, (∀ v ∈ l, okW v) → (flB l).length ≤ smL l
  | [], _ => by simp [flB, smL]
  | v :: l, h => by
    have h1 := vB_sm (h v (by simp))
    have h2 := flB_sm (l := l) (fun w hw => h w (by simp [hw]))
    simp [flB, smL] at h2 ⊢
    omega
theorem smL_le : ∀ {l : List Val}, (∀ v ∈ l, v.2.2.length ≤ 300) → smL l ≤ 400 * l.length
  | [], _ => by simp [smL]
  | v :: l, h => by
    have h1 := h v (by simp)
    have h2 := smL_le (l := l) (fun w hw => h w (by simp [hw]))
    have h3 : smV v ≤ 400 := by unfold smV; split <;> split <;> omega
    simp [smL] at h2 ⊢
    omega
theorem sel_le (B : List Nat) : ∀ L : List (Option (List Nat)), (L.foldl sel B).length ≤ B.length
  | [] => Nat.le_refl _
  | o :: L => by
    have h1 := sel_le (sel B o) L
    have h2 : (sel B o).length ≤ B.length := by
      unfold sel
      split
      · exact Nat.le_refl _
      · split
        · omega
        · exact Nat.le_refl _
    exact Nat.le_trans h1 h2
theorem short_le (k : Int) {l : List Val} (h : ∀ v ∈ l, okW v) : (short k l).length ≤ 1 + smL l := by
  have h1 := sel_le (0 :: flB l) (cods k l)
  have h2 := flB_sm h
  unfold short
  simp at h1
  omega
def fewB (l : List Val) : Bool := decide (l.length ≤ 60) && l.all fun v => decide (v.2.2.length ≤ 300)
def S11 (x : Bool) (l : List Val) (k : Nat) : St := ⟨[eV x l, .top, .top, .int .i64 (k : Int)] ++ List.replicate 16 .top, []⟩
set_option maxRecDepth 100000 in
theorem f11 (x : Bool) (l : List Val) : evE Dg 11 [eV x l] = some (.bool (fewB l)) := by
  have e1 := vRows_len l
  unfold fewB
  by_cases hl : l.length ≤ 60
  · have hl' : ¬ (60 : Int) < l.length := by omega
    have H := loop_all (body := evCode (evC Dg) (l.length + 1) c11b0) (keep := [0, 3]) (n0 := 0) (fuel := l.length + 1) l (S11 x l) (fun v => decide (v.2.2.length ≤ 300)) (fun t => t.sl[2]?.getD .top = .bool false)
      (by
        rintro k v hp hk hq
        have r1 := vRows_get hp
        have g1 := vRows_got hp
        have hk' : (k : Int) < l.length := by omega
        have w1 := wrap_i64 ((k : Int) + 1) (by omega) (by omega)
        have hq' : ¬ (300 : Int) < v.2.2.length := by simp at hq; omega
        unfold c11b0
        simp [evCode, evOps, evOne, evOp, evPur, evEff, evPur.chunks, fillP, AOp.isEff, AO.ev, putP, PV.cells, PV.leaf, getB, getM, mapE, iterE, keyC, mapRows, mfind, eq1, eqL, scal, binP, unP, minP, maxP, foldP, PV.lt, PV.lt.ltL, endP, expoAll, expoG, expo, expo.expoL, frIds, frIds.frIdsL, nodupN, kill, cls, clsFuel, resO, RV.get, loadP, evC_p, evC_s, endS, endT, rowsOf, callP, thinL, unfr, unfr.unfrL, PV.noMem, PV.noMem.noMemL, optI, mapO, norm, trimT, trimB, forget, hasN, blksLt, List.set, softChk, softGo, softRd, effTg, rdP, S11, eV, vRow, e1, r1, g1, hk', hk, w1, hq'])
      (by
        rintro k v hp hk hq
        have r1 := vRows_get hp
        have g1 := vRows_got hp
        have hk' : (k : Int) < l.length := by omega
        have hq' : (300 : Int) < v.2.2.length := by simp at hq; omega
        unfold c11b0
        simp [evCode, evOps, evOne, evOp, evPur, evEff, evPur.chunks, fillP, AOp.isEff, AO.ev, putP, PV.cells, PV.leaf, getB, getM, mapE, iterE, keyC, mapRows, mfind, eq1, eqL, scal, binP, unP, minP, maxP, foldP, PV.lt, PV.lt.ltL, endP, expoAll, expoG, expo, expo.expoL, frIds, frIds.frIdsL, nodupN, kill, cls, clsFuel, resO, RV.get, loadP, evC_p, evC_s, endS, endT, rowsOf, callP, thinL, unfr, unfr.unfrL, PV.noMem, PV.noMem.noMemL, optI, mapO, norm, trimT, trimB, forget, hasN, blksLt, List.set, softChk, softGo, softRd, effTg, rdP, S11, eV, vRow, e1, r1, g1, hk', hk, hq'])
      (by
        intro s
        unfold c11b0
        simp [evCode, evOps, evOne, evOp, evPur, evEff, evPur.chunks, fillP, AOp.isEff, AO.ev, putP, PV.cells, PV.leaf, getB, getM, mapE, iterE, keyC, mapRows, mfind, eq1, eqL, scal, binP, unP, minP, maxP, foldP, PV.lt, PV.lt.ltL, endP, expoAll, expoG, expo, expo.expoL, frIds, frIds.frIdsL, nodupN, kill, cls, clsFuel, resO, RV.get, loadP, evC_p, evC_s, endS, endT, rowsOf, callP, thinL, unfr, unfr.unfrL, PV.noMem, PV.noMem.noMemL, optI, mapO, norm, trimT, trimB, forget, hasN, blksLt, List.set, softChk, softGo, softRd, effTg, rdP, S11, eV, e1])
      (by omega)
    refine evE_intro (l.length + 1) D11 rfl ?_
    unfold c11
    simp [evCode, evOps, evOne, evOp, evPur, evEff, evPur.chunks, fillP, AOp.isEff, AO.ev, putP, PV.cells, PV.leaf, getB, getM, mapE, iterE, keyC, mapRows, mfind, eq1, eqL, scal, binP, unP, minP, maxP, foldP, PV.lt, PV.lt.ltL, endP, expoAll, expoG, expo, expo.expoL, frIds, frIds.frIdsL, nodupN, kill, cls, clsFuel, resO, RV.get, loadP, evC_p, evC_s, endS, endT, rowsOf, callP, thinL, unfr, unfr.unfrL, PV.noMem, PV.noMem.noMemL, optI, mapO, norm, trimT, trimB, forget, hasN, blksLt, List.set, softChk, softGo, softRd, effTg, rdP, eV, e1, hl']
    generalize hE : evLoop _ _ _ _ _ = E
    rcases H _ _ hE (by simp [evCode, evOps, evOne, evOp, evPur, evEff, evPur.chunks, fillP, AOp.isEff, AO.ev, putP, PV.cells, PV.leaf, getB, getM, mapE, iterE, keyC, mapRows, mfind, eq1, eqL, scal, binP, unP, minP, maxP, foldP, PV.lt, PV.lt.ltL, endP, expoAll, expoG, expo, expo.expoL, frIds, frIds.frIdsL, nodupN, kill, cls, clsFuel, resO, RV.get, loadP, evC_p, evC_s, endS, endT, rowsOf, callP, thinL, unfr, unfr.unfrL, PV.noMem, PV.noMem.noMemL, optI, mapO, norm, trimT, trimB, forget, hasN, blksLt, List.set, softChk, softGo, softRd, effTg, rdP, S11, eV]) with ⟨q1, q2⟩ | ⟨q1, s, q2, q3⟩
    · rw [q2]
      unfold c11b0
      simp [evCode, evOps, evOne, evOp, evPur, evEff, evPur.chunks, fillP, AOp.isEff, AO.ev, putP, PV.cells, PV.leaf, getB, getM, mapE, iterE, keyC, mapRows, mfind, eq1, eqL, scal, binP, unP, minP, maxP, foldP, PV.lt, PV.lt.ltL, endP, expoAll, expoG, expo, expo.expoL, frIds, frIds.frIdsL, nodupN, kill, cls, clsFuel, resO, RV.get, loadP, evC_p, evC_s, endS, endT, rowsOf, callP, thinL, unfr, unfr.unfrL, PV.noMem, PV.noMem.noMemL, optI, mapO, norm, trimT, trimB, forget, hasN, blksLt, List.set, softChk, softGo, softRd, effTg, rdP, S11, eV, e1, hl, q1]
    · rw [q2]
      simp [evCode, evOps, evOne, evOp, evPur, evEff, evPur.chunks, fillP, AOp.isEff, AO.ev, putP, PV.cells, PV.leaf, getB, getM, mapE, iterE, keyC, mapRows, mfind, eq1, eqL, scal, binP, unP, minP, maxP, foldP, PV.lt, PV.lt.ltL, endP, expoAll, expoG, expo, expo.expoL, frIds, frIds.frIdsL, nodupN, kill, cls, clsFuel, resO, RV.get, loadP, evC_p, evC_s, endS, endT, rowsOf, callP, thinL, unfr, unfr.unfrL, PV.noMem, PV.noMem.noMemL, optI, mapO, norm, trimT, trimB, forget, hasN, blksLt, List.set, softChk, softGo, softRd, effTg, rdP, q3, hl]
      simpa using q1
  · have hl' : (60 : Int) < l.length := by omega
    refine evE_intro (l.length + 1) D11 rfl ?_
    unfold c11
    simp [evCode, evOps, evOne, evOp, evPur, evEff, evPur.chunks, fillP, AOp.isEff, AO.ev, putP, PV.cells, PV.leaf, getB, getM, mapE, iterE, keyC, mapRows, mfind, eq1, eqL, scal, binP, unP, minP, maxP, foldP, PV.lt, PV.lt.ltL, endP, expoAll, expoG, expo, expo.expoL, frIds, frIds.frIdsL, nodupN, kill, cls, clsFuel, resO, RV.get, loadP, evC_p, evC_s, endS, endT, rowsOf, callP, thinL, unfr, unfr.unfrL, PV.noMem, PV.noMem.noMemL, optI, mapO, norm, trimT, trimB, forget, hasN, blksLt, List.set, softChk, softGo, softRd, effTg, rdP, eV, e1, hl', hl]
def S6 (x : Bool) (k : Int) (l : List Val) (B : List Nat) (i : Nat) (_ : Unit) : St := ⟨[.top, eV x l, .top, .top, .top, .ptr 0 1 0 0, .top, .int .i64 ((1 + smL (l.take i) : Nat) : Int), .int .i64 (i : Int)] ++ List.replicate 60 .top, [some ⟨1, 3, true, [[.int .i64 k, .int .i64 (l.length : Int), .sl false 1 (bR B)]]⟩]⟩
set_option maxRecDepth 100000 in
theorem step6 (x : Bool) (k : Int) (l : List Val) (B : List Nat) (i : Nat) (v : Val) (fu : Nat) (hu : l[i]? = some v) (hi : i < l.length) (hl : l.length ≤ 60) (ha : ∀ w ∈ l, w.2.2.length ≤ 300) :
    ∃ s', evCode (evC Dg) fu c6b0 (S6 x k l B i ()) = some (.normal s') ∧ norm [1, 5, 7, 8] 1 s' = S6 x k l B (i + 1) () := by
  have e1 := vRows_len l
  have r1 := vRows_get hu
  have g1 := vRows_got hu
  have hi' : (i : Int) < l.length := by omega
  have w1 := wrap_i64 ((i : Int) + 1) (by omega) (by omega)
  have hv := ha v (List.mem_of_getElem? hu)
  have ht := smL_take hu
  have hle := smL_le (l := l.take i) (fun w hw => ha w (List.mem_of_mem_take hw))
  have htl : (l.take i).length ≤ i := by simp; omega
  have hb0 : ∀ b, Nat.blt b 0 = false := fun b => by cases b <;> rfl
  have n1 : Nat.blt 0 1 = true := rfl
  unfold S6
  rw [ht]
  generalize smL (l.take i) = s at *
  have w2 : IntKind.i64.wrap (((1 + s : Nat) : Int) + 1) = ((1 + s : Nat) : Int) + 1 := wrap_i64 _ (by omega) (by omega)
  by_cases c3 : v.1 = 3
  · have hs : ((1 + (s + smV v) : Nat) : Int) = ((1 + s : Nat) : Int) + 1 + 2 + v.2.2.length := by unfold smV; rw [if_pos c3, if_neg (by omega)]; omega
    have w3 : IntKind.i64.wrap (((1 + s : Nat) : Int) + 1 + 2) = ((1 + s : Nat) : Int) + 1 + 2 := wrap_i64 _ (by omega) (by omega)
    have w4 : IntKind.i64.wrap (((1 + s : Nat) : Int) + 1 + 2 + v.2.2.length) = ((1 + s : Nat) : Int) + 1 + 2 + v.2.2.length := wrap_i64 _ (by omega) (by omega)
    rw [hs]
    obtain ⟨z, hz⟩ := ex_eq ((1 + s : Nat) : Int)
    rw [hz] at w2 w3 w4 ⊢
    unfold c6b0
    simp [evCode, evOps, evOne, evOp, evPur, evEff, evPur.chunks, fillP, AOp.isEff, AO.ev, putP, PV.cells, PV.leaf, getB, getM, mapE, iterE, keyC, mapRows, mfind, eq1, eqL, scal, binP, unP, minP, maxP, foldP, PV.lt, PV.lt.ltL, endP, expoAll, expoG, expo, expo.expoL, frIds, frIds.frIdsL, nodupN, kill, cls, clsFuel, resO, RV.get, loadP, evC_p, evC_s, endS, endT, rowsOf, callP, thinL, unfr, unfr.unfrL, PV.noMem, PV.noMem.noMemL, optI, mapO, norm, trimT, trimB, forget, hasN, blksLt, List.set, softChk, softGo, softRd, effTg, rdP, eV, vRow, e1, r1, g1, hi', hi, w1, w2, w3, w4, c3, hb0, n1]
  · by_cases c1 : v.1 = 1
    · have hs : ((1 + (s + smV v) : Nat) : Int) = ((1 + s : Nat) : Int) + 1 + 10 := by unfold smV; rw [if_neg c3, if_pos (.inl c1)]; omega
      have w3 : IntKind.i64.wrap (((1 + s : Nat) : Int) + 1 + 10) = ((1 + s : Nat) : Int) + 1 + 10 := wrap_i64 _ (by omega) (by omega)
      rw [hs]
      obtain ⟨z, hz⟩ := ex_eq ((1 + s : Nat) : Int)
      rw [hz] at w2 w3 ⊢
      unfold c6b0
      simp [evCode, evOps, evOne, evOp, evPur, evEff, evPur.chunks, fillP, AOp.isEff, AO.ev, putP, PV.cells, PV.leaf, getB, getM, mapE, iterE, keyC, mapRows, mfind, eq1, eqL, scal, binP, unP, minP, maxP, foldP, PV.lt, PV.lt.ltL, endP, expoAll, expoG, expo, expo.expoL, frIds, frIds.frIdsL, nodupN, kill, cls, clsFuel, resO, RV.get, loadP, evC_p, evC_s, endS, endT, rowsOf, callP, thinL, unfr, unfr.unfrL, PV.noMem, PV.noMem.noMemL, optI, mapO, norm, trimT, trimB, forget, hasN, blksLt, List.set, softChk, softGo, softRd, effTg, rdP, eV, vRow, e1, r1, g1, hi', hi, w1, w2, w3, c1, hb0, n1]
    · by_cases c2 : v.1 = 2
      · have hs : ((1 + (s + smV v) : Nat) : Int) = ((1 + s : Nat) : Int) + 1 + 10 := by unfold smV; rw [if_neg c3, if_pos (.inr c2)]; omega
        have w3 : IntKind.i64.wrap (((1 + s : Nat) : Int) + 1 + 10) = ((1 + s : Nat) : Int) + 1 + 10 := wrap_i64 _ (by omega) (by omega)
        rw [hs]
        obtain ⟨z, hz⟩ := ex_eq ((1 + s : Nat) : Int)
        rw [hz] at w2 w3 ⊢
        unfold c6b0
        simp [evCode, evOps, evOne, evOp, evPur, evEff, evPur.chunks, fillP, AOp.isEff, AO.ev, putP, PV.cells, PV.leaf, getB, getM, mapE, iterE, keyC, mapRows, mfind, eq1, eqL, scal, binP, unP, minP, maxP, foldP, PV.lt, PV.lt.ltL, endP, expoAll, expoG, expo, expo.expoL, frIds, frIds.frIdsL, nodupN, kill, cls, clsFuel, resO, RV.get, loadP, evC_p, evC_s, endS, endT, rowsOf, callP, thinL, unfr, unfr.unfrL, PV.noMem, PV.noMem.noMemL, optI, mapO, norm, trimT, trimB, forget, hasN, blksLt, List.set, softChk, softGo, softRd, effTg, rdP, eV, vRow, e1, r1, g1, hi', hi, w1, w2, w3, c2, hb0, n1]
      · have hs : ((1 + (s + smV v) : Nat) : Int) = ((1 + s : Nat) : Int) + 1 := by unfold smV; rw [if_neg c3, if_neg (by omega)]; omega
        rw [hs]
        obtain ⟨z, hz⟩ := ex_eq ((1 + s : Nat) : Int)
        rw [hz] at w2 ⊢
        unfold c6b0
        simp [evCode, evOps, evOne, evOp, evPur, evEff, evPur.chunks, fillP, AOp.isEff, AO.ev, putP, PV.cells, PV.leaf, getB, getM, mapE, iterE, keyC, mapRows, mfind, eq1, eqL, scal, binP, unP, minP, maxP, foldP, PV.lt, PV.lt.ltL, endP, expoAll, expoG, expo, expo.expoL, frIds, frIds.frIdsL, nodupN, kill, cls, clsFuel, resO, RV.get, loadP, evC_p, evC_s, endS, endT, rowsOf, callP, thinL, unfr, unfr.unfrL, PV.noMem, PV.noMem.noMemL, optI, mapO, norm, trimT, trimB, forget, hasN, blksLt, List.set, softChk, softGo, softRd, effTg, rdP, eV, vRow, e1, r1, g1, hi', hi, w1, w2, c3, c1, c2, hb0, n1]
end Go.Proofs.Ytimipbbcmiblkaa
