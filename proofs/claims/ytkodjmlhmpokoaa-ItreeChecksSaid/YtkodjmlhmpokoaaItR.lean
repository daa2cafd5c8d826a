/- itree: the reference's Overlap and Stab. -/
import Derived.Test.YtkodjmlhmpokoaaItP
namespace Go.Proofs.Ytkodjmlhmpokoaa
open Go Go.RowKit
set_option linter.unusedVariables false
set_option linter.unusedSimpArgs false
set_option maxHeartbeats 4000000

def fil2 (q : Nat → Bool) (k : Nat) : List Nat := (List.range k).filter q
theorem fil2_succ (q : Nat → Bool) (k : Nat) : fil2 q (k + 1) = if q k then fil2 q k ++ [k] else fil2 q k := by
  unfold fil2
  rw [List.range_succ, List.filter_append]
  cases h : q k <;> simp [h]
theorem fil2_len (q : Nat → Bool) (k : Nat) : (fil2 q k).length ≤ k := by
  have := List.length_filter_le q (List.range k)
  simpa [fil2] using this
def bxX (a b : Bool) (o m : List Int) : Option Blk := some ⟨1, 2, true, [[eI a o, eI b m]]⟩
def bxS (s : Sp) : Option Blk := some ⟨1, 2, true, [[.int .i64 s.1, .int .i64 s.2]]⟩
def S16 (x a b : Bool) (l : List Sp) (o m : List Int) (s : Sp) (k : Nat) (d : List Nat) : St := ⟨[eS x l, .top, .top, .top, .top, .ptr 1 1 0 0, .top, .own 3 d.length 0 d.length, .int .i64 k] ++ List.replicate 22 .top, [bxX a b o m, bxS s, some ⟨0, 1, true, []⟩, some ⟨d.length, 1, true, nR d⟩]⟩
def S18 (x a b : Bool) (l : List Sp) (o m : List Int) (t : Int) (k : Nat) (d : List Nat) : St := ⟨[eS x l, .top, .int .i64 t, .top, .top, .top, .top, .own 2 d.length 0 d.length, .int .i64 k] ++ List.replicate 39 .top, [bxX a b o m, some ⟨0, 1, true, []⟩, some ⟨d.length, 1, true, nR d⟩]⟩
theorem spA_get {l : List Sp} {k : Nat} {s : Sp} (h : l[k]? = some s) : spA l k = s := by
  unfold spA
  rw [List.getD_eq_getElem?_getD, h]
  rfl
set_option maxRecDepth 100000 in
theorem f16 (x a b : Bool) (l : List Sp) (o m : List Int) (s : Sp) (hl : l.length < 1000000) (hol : o.length ≤ 1000000) (hml : m.length ≤ 1000000) :
    evE Dg 16 [eS x l, .agg [eI a o, eI b m], vS s] = some (.fr 1 (nR (if (decide (o = ordI l) && decide (m = mostP l)) = true then comL l s else []))) := by
  have e1 := spRows_len l
  have e2 := iR_len
  have eR := nR_len
  have eN : nR [] = [] := rfl
  have h14 := f14 x a b l o m hl hol hml
  generalize (decide (o = ordI l) && decide (m = mostP l)) = ok at *
  have hb0 : ∀ b, Nat.blt b 0 = false := fun b => by cases b <;> rfl
  have n1 : (Nat.blt 3 4) = true := rfl
  have H := loop_inv (body := evCode (evC Dg) (l.length + 1) c16b0) (keep := [0, 5, 7, 8]) (n0 := 4) (fuel := l.length + 1) l (S16 x a b l o m s) (fun k d => d = fil2 (fun i => comB (spA l i) s) k) (fun _ => False)
    (by
      rintro k u d hu hk hd
      left
      have hs := spA_get hu
      have h33 := f33 u s
      simp only [vS] at h33
      have r1 := spRows_get hu
      have g1 := spRows_got hu
      have hk' : (k : Int) < l.length := by omega
      have w1 := wrap_i64 ((k : Int) + 1) (by omega) (by omega)
      have hS := fil2_succ (fun i => comB (spA l i) s) k
      simp only [hs] at hS
      have hn := fil2_len (fun i => comB (spA l i) s) k
      rw [← hd] at hS hn
      cases hc : comB u s with
      | false =>
        rw [hc] at h33 hS
        refine ⟨d, ?_⟩
        have J : d = fil2 (fun i => comB (spA l i) s) (k + 1) := by rw [hS]; rfl
        refine (fun ⟨s', q1, q2⟩ => ⟨s', q1, q2, J⟩ : (∃ s', _ ∧ _) → _) ?_
        unfold c16b0
        simp [evCode, evOps, evOne, evOp, evPur, evEff, evPur.chunks, fillP, AOp.isEff, AO.ev, putP, PV.cells, PV.leaf, getB, getM, mapE, iterE, keyC, mapRows, mfind, eq1, eqL, scal, binP, unP, minP, maxP, foldP, PV.lt, PV.lt.ltL, endP, expoAll, expoG, expo, expo.expoL, frIds, frIds.frIdsL, nodupN, kill, cls, clsFuel, resO, RV.get, loadP, evC_p, evC_s, endS, endT, rowsOf, callP, thinL, unfr, unfr.unfrL, PV.noMem, PV.noMem.noMemL, optI, mapO, norm, trimT, trimB, forget, hasN, blksLt, List.set, softChk, softGo, softRd, effTg, rdP, S16, bxX, bxS, eS, eI, e1, eR, r1, g1, hk', hk, w1, h33]
      | true =>
        rw [hc] at h33 hS
        refine ⟨d ++ [k], ?_⟩
        have J : d ++ [k] = fil2 (fun i => comB (spA l i) s) (k + 1) := by rw [hS]; rfl
        refine (fun ⟨s', q1, q2⟩ => ⟨s', q1, q2, J⟩ : (∃ s', _ ∧ _) → _) ?_
        unfold c16b0
        have b1 : (d.length + 1) * 8 ≤ 140737488355328 := by omega
        have b2 : d.length + 1 ≤ 140737488355328 := by omega
        simp [evCode, evOps, evOne, evOp, evPur, evEff, evPur.chunks, fillP, AOp.isEff, AO.ev, putP, PV.cells, PV.leaf, getB, getM, mapE, iterE, keyC, mapRows, mfind, eq1, eqL, scal, binP, unP, minP, maxP, foldP, PV.lt, PV.lt.ltL, endP, expoAll, expoG, expo, expo.expoL, frIds, frIds.frIdsL, nodupN, kill, cls, clsFuel, resO, RV.get, loadP, evC_p, evC_s, endS, endT, rowsOf, callP, thinL, unfr, unfr.unfrL, PV.noMem, PV.noMem.noMemL, optI, mapO, norm, trimT, trimB, forget, hasN, blksLt, List.set, softChk, softGo, softRd, effTg, rdP, S16, bxX, bxS, eS, eI, e1, eR, r1, g1, hk', hk, w1, h33, nR, b1, b2])
    (by
      rintro d hd s
      unfold c16b0
      simp [evCode, evOps, evOne, evOp, evPur, evEff, evPur.chunks, fillP, AOp.isEff, AO.ev, putP, PV.cells, PV.leaf, getB, getM, mapE, iterE, keyC, mapRows, mfind, eq1, eqL, scal, binP, unP, minP, maxP, foldP, PV.lt, PV.lt.ltL, endP, expoAll, expoG, expo, expo.expoL, frIds, frIds.frIdsL, nodupN, kill, cls, clsFuel, resO, RV.get, loadP, evC_p, evC_s, endS, endT, rowsOf, callP, thinL, unfr, unfr.unfrL, PV.noMem, PV.noMem.noMemL, optI, mapO, norm, trimT, trimB, forget, hasN, blksLt, List.set, softChk, softGo, softRd, effTg, rdP, S16, eS, e1])
    (by omega) [] rfl
  refine evE_intro (l.length + 1) D16 rfl ?_
  unfold c16
  simp only [eI, eS] at h14
  cases ok with
  | false => simp [evCode, evOps, evOne, evOp, evPur, evEff, evPur.chunks, fillP, AOp.isEff, AO.ev, putP, PV.cells, PV.leaf, getB, getM, mapE, iterE, keyC, mapRows, mfind, eq1, eqL, scal, binP, unP, minP, maxP, foldP, PV.lt, PV.lt.ltL, endP, expoAll, expoG, expo, expo.expoL, frIds, frIds.frIdsL, nodupN, kill, cls, clsFuel, resO, RV.get, loadP, evC_p, evC_s, endS, endT, rowsOf, callP, thinL, unfr, unfr.unfrL, PV.noMem, PV.noMem.noMemL, optI, mapO, norm, trimT, trimB, forget, hasN, blksLt, List.set, softChk, softGo, softRd, effTg, rdP, eI, eS, vS, e1, h14, eN]
  | true =>
    simp [evCode, evOps, evOne, evOp, evPur, evEff, evPur.chunks, fillP, AOp.isEff, AO.ev, putP, PV.cells, PV.leaf, getB, getM, mapE, iterE, keyC, mapRows, mfind, eq1, eqL, scal, binP, unP, minP, maxP, foldP, PV.lt, PV.lt.ltL, endP, expoAll, expoG, expo, expo.expoL, frIds, frIds.frIdsL, nodupN, kill, cls, clsFuel, resO, RV.get, loadP, evC_p, evC_s, endS, endT, rowsOf, callP, thinL, unfr, unfr.unfrL, PV.noMem, PV.noMem.noMemL, optI, mapO, norm, trimT, trimB, forget, hasN, blksLt, List.set, softChk, softGo, softRd, effTg, rdP, eI, eS, vS, e1, h14]
    generalize hE : evLoop _ _ _ _ _ = E
    rcases H _ _ hE (by simp [evCode, evOps, evOne, evOp, evPur, evEff, evPur.chunks, fillP, AOp.isEff, AO.ev, putP, PV.cells, PV.leaf, getB, getM, mapE, iterE, keyC, mapRows, mfind, eq1, eqL, scal, binP, unP, minP, maxP, foldP, PV.lt, PV.lt.ltL, endP, expoAll, expoG, expo, expo.expoL, frIds, frIds.frIdsL, nodupN, kill, cls, clsFuel, resO, RV.get, loadP, evC_p, evC_s, endS, endT, rowsOf, callP, thinL, unfr, unfr.unfrL, PV.noMem, PV.noMem.noMemL, optI, mapO, norm, trimT, trimB, forget, hasN, blksLt, List.set, softChk, softGo, softRd, effTg, rdP, S16, bxX, bxS, eS, eI, eN]) with ⟨d, hd, q2⟩ | ⟨_, _, q3⟩
    · rw [q2]
      have : d = comL l s := hd
      rw [← this]
      unfold c16b0
      simp [evCode, evOps, evOne, evOp, evPur, evEff, evPur.chunks, fillP, AOp.isEff, AO.ev, putP, PV.cells, PV.leaf, getB, getM, mapE, iterE, keyC, mapRows, mfind, eq1, eqL, scal, binP, unP, minP, maxP, foldP, PV.lt, PV.lt.ltL, endP, expoAll, expoG, expo, expo.expoL, frIds, frIds.frIdsL, nodupN, kill, cls, clsFuel, resO, RV.get, loadP, evC_p, evC_s, endS, endT, rowsOf, callP, thinL, unfr, unfr.unfrL, PV.noMem, PV.noMem.noMemL, optI, mapO, norm, trimT, trimB, forget, hasN, blksLt, List.set, softChk, softGo, softRd, effTg, rdP, S16, bxX, bxS, eS, eI, e1, eR, nR]
    · exact q3.elim
def stbB (u : Sp) (t : Int) : Bool := (valB u && decide (u.1 ≤ t)) && decide (t < u.2)
set_option maxRecDepth 100000 in
theorem f18 (x a b : Bool) (l : List Sp) (o m : List Int) (t : Int) (hl : l.length < 1000000) (hol : o.length ≤ 1000000) (hml : m.length ≤ 1000000) :
    evE Dg 18 [eS x l, .agg [eI a o, eI b m], .int .i64 t] = some (.fr 1 (nR (if (decide (o = ordI l) && decide (m = mostP l)) = true then fil2 (fun i => stbB (spA l i) t) l.length else []))) := by
  have e1 := spRows_len l
  have e2 := iR_len
  have eR := nR_len
  have eN : nR [] = [] := rfl
  have h14 := f14 x a b l o m hl hol hml
  generalize (decide (o = ordI l) && decide (m = mostP l)) = ok at *
  have hb0 : ∀ b, Nat.blt b 0 = false := fun b => by cases b <;> rfl
  have n1 : (Nat.blt 2 3) = true := rfl
  have H := loop_inv (body := evCode (evC Dg) (l.length + 1) c18b0) (keep := [0, 2, 7, 8]) (n0 := 3) (fuel := l.length + 1) l (S18 x a b l o m t) (fun k d => d = fil2 (fun i => stbB (spA l i) t) k) (fun _ => False)
    (by
      rintro k u d hu hk hd
      left
      have hs := spA_get hu
      have h34 := f34 u
      simp only [vS] at h34
      have r1 := spRows_get hu
      have g1 := spRows_got hu
      have hk' : (k : Int) < l.length := by omega
      have w1 := wrap_i64 ((k : Int) + 1) (by omega) (by omega)
      have hS := fil2_succ (fun i => stbB (spA l i) t) k
      simp only [hs] at hS
      have hn := fil2_len (fun i => stbB (spA l i) t) k
      rw [← hd] at hS hn
      cases hc : stbB u t with
      | false =>
        rw [hc] at hS
        refine ⟨d, ?_⟩
        have J : d = fil2 (fun i => stbB (spA l i) t) (k + 1) := by rw [hS]; rfl
        refine (fun ⟨s', q1, q2⟩ => ⟨s', q1, q2, J⟩ : (∃ s', _ ∧ _) → _) ?_
        unfold stbB at hc
        unfold c18b0
        cases hv : valB u with
        | false =>
          rw [hv] at h34
          simp [evCode, evOps, evOne, evOp, evPur, evEff, evPur.chunks, fillP, AOp.isEff, AO.ev, putP, PV.cells, PV.leaf, getB, getM, mapE, iterE, keyC, mapRows, mfind, eq1, eqL, scal, binP, unP, minP, maxP, foldP, PV.lt, PV.lt.ltL, endP, expoAll, expoG, expo, expo.expoL, frIds, frIds.frIdsL, nodupN, kill, cls, clsFuel, resO, RV.get, loadP, evC_p, evC_s, endS, endT, rowsOf, callP, thinL, unfr, unfr.unfrL, PV.noMem, PV.noMem.noMemL, optI, mapO, norm, trimT, trimB, forget, hasN, blksLt, List.set, softChk, softGo, softRd, effTg, rdP, S18, bxX, bxS, eS, eI, e1, eR, r1, g1, hk', hk, w1, h34]
        | true =>
          rw [hv] at h34 hc
          by_cases c1 : u.1 ≤ t
          · have c2 : ¬ t < u.2 := by simpa [c1] using hc
            simp [evCode, evOps, evOne, evOp, evPur, evEff, evPur.chunks, fillP, AOp.isEff, AO.ev, putP, PV.cells, PV.leaf, getB, getM, mapE, iterE, keyC, mapRows, mfind, eq1, eqL, scal, binP, unP, minP, maxP, foldP, PV.lt, PV.lt.ltL, endP, expoAll, expoG, expo, expo.expoL, frIds, frIds.frIdsL, nodupN, kill, cls, clsFuel, resO, RV.get, loadP, evC_p, evC_s, endS, endT, rowsOf, callP, thinL, unfr, unfr.unfrL, PV.noMem, PV.noMem.noMemL, optI, mapO, norm, trimT, trimB, forget, hasN, blksLt, List.set, softChk, softGo, softRd, effTg, rdP, S18, bxX, bxS, eS, eI, e1, eR, r1, g1, hk', hk, w1, h34, c1, c2]
          · cases d with
            | nil => simp [evCode, evOps, evOne, evOp, evPur, evEff, evPur.chunks, fillP, AOp.isEff, AO.ev, putP, PV.cells, PV.leaf, getB, getM, mapE, iterE, keyC, mapRows, mfind, eq1, eqL, scal, binP, unP, minP, maxP, foldP, PV.lt, PV.lt.ltL, endP, expoAll, expoG, expo, expo.expoL, frIds, frIds.frIdsL, nodupN, kill, cls, clsFuel, resO, RV.get, loadP, evC_p, evC_s, endS, endT, rowsOf, callP, thinL, unfr, unfr.unfrL, PV.noMem, PV.noMem.noMemL, optI, mapO, norm, trimT, trimB, forget, hasN, blksLt, List.set, softChk, softGo, softRd, effTg, rdP, S18, bxX, bxS, eS, eI, e1, eR, r1, g1, hk', hk, w1, h34, c1]
            | cons y d => simp [evCode, evOps, evOne, evOp, evPur, evEff, evPur.chunks, fillP, AOp.isEff, AO.ev, putP, PV.cells, PV.leaf, getB, getM, mapE, iterE, keyC, mapRows, mfind, eq1, eqL, scal, binP, unP, minP, maxP, foldP, PV.lt, PV.lt.ltL, endP, expoAll, expoG, expo, expo.expoL, frIds, frIds.frIdsL, nodupN, kill, cls, clsFuel, resO, RV.get, loadP, evC_p, evC_s, endS, endT, rowsOf, callP, thinL, unfr, unfr.unfrL, PV.noMem, PV.noMem.noMemL, optI, mapO, norm, trimT, trimB, forget, hasN, blksLt, List.set, softChk, softGo, softRd, effTg, rdP, S18, bxX, bxS, eS, eI, e1, eR, r1, g1, hk', hk, w1, h34, c1]
      | true =>
        rw [hc] at hS
        refine ⟨d ++ [k], ?_⟩
        have J : d ++ [k] = fil2 (fun i => stbB (spA l i) t) (k + 1) := by rw [hS]; rfl
        refine (fun ⟨s', q1, q2⟩ => ⟨s', q1, q2, J⟩ : (∃ s', _ ∧ _) → _) ?_
        unfold stbB at hc
        simp only [Bool.and_eq_true, decide_eq_true_eq] at hc
        obtain ⟨⟨hv, c1⟩, c2⟩ := hc
        rw [hv] at h34
        unfold c18b0
        have b1 : (d.length + 1) * 8 ≤ 140737488355328 := by omega
        have b2 : d.length + 1 ≤ 140737488355328 := by omega
        simp [evCode, evOps, evOne, evOp, evPur, evEff, evPur.chunks, fillP, AOp.isEff, AO.ev, putP, PV.cells, PV.leaf, getB, getM, mapE, iterE, keyC, mapRows, mfind, eq1, eqL, scal, binP, unP, minP, maxP, foldP, PV.lt, PV.lt.ltL, endP, expoAll, expoG, expo, expo.expoL, frIds, frIds.frIdsL, nodupN, kill, cls, clsFuel, resO, RV.get, loadP, evC_p, evC_s, endS, endT, rowsOf, callP, thinL, unfr, unfr.unfrL, PV.noMem, PV.noMem.noMemL, optI, mapO, norm, trimT, trimB, forget, hasN, blksLt, List.set, softChk, softGo, softRd, effTg, rdP, S18, bxX, bxS, eS, eI, e1, eR, r1, g1, hk', hk, w1, h34, nR, b1, b2, c1, c2])
    (by
      rintro d hd s
      unfold c18b0
      simp [evCode, evOps, evOne, evOp, evPur, evEff, evPur.chunks, fillP, AOp.isEff, AO.ev, putP, PV.cells, PV.leaf, getB, getM, mapE, iterE, keyC, mapRows, mfind, eq1, eqL, scal, binP, unP, minP, maxP, foldP, PV.lt, PV.lt.ltL, endP, expoAll, expoG, expo, expo.expoL, frIds, frIds.frIdsL, nodupN, kill, cls, clsFuel, resO, RV.get, loadP, evC_p, evC_s, endS, endT, rowsOf, callP, thinL, unfr, unfr.unfrL, PV.noMem, PV.noMem.noMemL, optI, mapO, norm, trimT, trimB, forget, hasN, blksLt, List.set, softChk, softGo, softRd, effTg, rdP, S18, eS, e1])
    (by omega) [] rfl
  refine evE_intro (l.length + 1) D18 rfl ?_
  unfold c18
  simp only [eI, eS] at h14
  cases ok with
  | false => simp [evCode, evOps, evOne, evOp, evPur, evEff, evPur.chunks, fillP, AOp.isEff, AO.ev, putP, PV.cells, PV.leaf, getB, getM, mapE, iterE, keyC, mapRows, mfind, eq1, eqL, scal, binP, unP, minP, maxP, foldP, PV.lt, PV.lt.ltL, endP, expoAll, expoG, expo, expo.expoL, frIds, frIds.frIdsL, nodupN, kill, cls, clsFuel, resO, RV.get, loadP, evC_p, evC_s, endS, endT, rowsOf, callP, thinL, unfr, unfr.unfrL, PV.noMem, PV.noMem.noMemL, optI, mapO, norm, trimT, trimB, forget, hasN, blksLt, List.set, softChk, softGo, softRd, effTg, rdP, eI, eS, vS, e1, h14, eN]
  | true =>
    simp [evCode, evOps, evOne, evOp, evPur, evEff, evPur.chunks, fillP, AOp.isEff, AO.ev, putP, PV.cells, PV.leaf, getB, getM, mapE, iterE, keyC, mapRows, mfind, eq1, eqL, scal, binP, unP, minP, maxP, foldP, PV.lt, PV.lt.ltL, endP, expoAll, expoG, expo, expo.expoL, frIds, frIds.frIdsL, nodupN, kill, cls, clsFuel, resO, RV.get, loadP, evC_p, evC_s, endS, endT, rowsOf, callP, thinL, unfr, unfr.unfrL, PV.noMem, PV.noMem.noMemL, optI, mapO, norm, trimT, trimB, forget, hasN, blksLt, List.set, softChk, softGo, softRd, effTg, rdP, eI, eS, vS, e1, h14]
    generalize hE : evLoop _ _ _ _ _ = E
    rcases H _ _ hE (by simp [evCode, evOps, evOne, evOp, evPur, evEff, evPur.chunks, fillP, AOp.isEff, AO.ev, putP, PV.cells, PV.leaf, getB, getM, mapE, iterE, keyC, mapRows, mfind, eq1, eqL, scal, binP, unP, minP, maxP, foldP, PV.lt, PV.lt.ltL, endP, expoAll, expoG, expo, expo.expoL, frIds, frIds.frIdsL, nodupN, kill, cls, clsFuel, resO, RV.get, loadP, evC_p, evC_s, endS, endT, rowsOf, callP, thinL, unfr, unfr.unfrL, PV.noMem, PV.noMem.noMemL, optI, mapO, norm, trimT, trimB, forget, hasN, blksLt, List.set, softChk, softGo, softRd, effTg, rdP, S18, bxX, bxS, eS, eI, eN]) with ⟨d, hd, q2⟩ | ⟨_, _, q3⟩
    · rw [q2]
      rw [← hd]
      unfold c18b0
      simp [evCode, evOps, evOne, evOp, evPur, evEff, evPur.chunks, fillP, AOp.isEff, AO.ev, putP, PV.cells, PV.leaf, getB, getM, mapE, iterE, keyC, mapRows, mfind, eq1, eqL, scal, binP, unP, minP, maxP, foldP, PV.lt, PV.lt.ltL, endP, expoAll, expoG, expo, expo.expoL, frIds, frIds.frIdsL, nodupN, kill, cls, clsFuel, resO, RV.get, loadP, evC_p, evC_s, endS, endT, rowsOf, callP, thinL, unfr, unfr.unfrL, PV.noMem, PV.noMem.noMemL, optI, mapO, norm, trimT, trimB, forget, hasN, blksLt, List.set, softChk, softGo, softRd, effTg, rdP, S18, bxX, bxS, eS, eI, e1, eR, nR]
    · exact q3.elim
end Go.Proofs.Ytkodjmlhmpokoaa
