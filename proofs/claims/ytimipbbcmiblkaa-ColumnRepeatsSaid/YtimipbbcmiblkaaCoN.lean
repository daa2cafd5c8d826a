/- column: Encode. -/
import Derived.Test.YtimipbbcmiblkaaCoM
import Derived.Test.YtimipbbcmiblkaaCoA
namespace Go.Proofs.Ytimipbbcmiblkaa
open Go Go.RowKit
set_option linter.unusedVariables false
set_option linter.unusedSimpArgs false
set_option maxHeartbeats 4000000

def valV (k : Int) (v : Val) : Int := valE k v.1 v.2.1 v.2.2
def i64V (v : Val) : Prop := -9223372036854775808 ≤ v.2.1 ∧ v.2.1 ≤ 9223372036854775807
theorem valV_ok {k : Int} {v : Val} (h : valV k v = 0) (hi : i64V v) : okW v := by
  obtain ⟨d, n, s⟩ := v
  simp only [valV, valE] at h
  simp only [i64V] at hi
  by_cases h0 : d = 0
  · rw [if_pos h0] at h
    by_cases hn : n = 0
    · rw [if_pos hn] at h
      by_cases hs : s = []
      · subst hs; exact ⟨by simp only; omega, hi, by simp⟩
      · rw [if_neg hs] at h; omega
    · rw [if_neg hn] at h; omega
  · rw [if_neg h0] at h
    by_cases hk : d = k ∧ typB k = true
    · rw [if_pos hk] at h
      obtain ⟨rfl, ht⟩ := hk
      have h3 := typ_cases ht
      by_cases h1 : d = 1
      · rw [if_pos h1] at h
        split at h
        · by_cases hs : s = []
          · subst hs; exact ⟨by simp only; omega, hi, by simp⟩
          · rw [if_neg hs] at h; omega
        · omega
      · rw [if_neg h1] at h
        by_cases h2 : d = 2
        · rw [if_pos h2] at h
          split at h
          · by_cases hs : s = []
            · subst hs; exact ⟨by simp only; omega, hi, by simp⟩
            · rw [if_neg hs] at h; omega
          · omega
        · rw [if_neg h2] at h
          split at h
          · omega
          · exact ⟨by simp only; omega, hi, by simp only; omega⟩
    · rw [if_neg hk] at h; omega
def errL (k : Int) : List Val → Int
  | [] => 0
  | v :: r => if valV k v = 0 then errL k r else valV k v
theorem errL_all {k : Int} : ∀ {l : List Val}, errL k l = 0 → ∀ v ∈ l, valV k v = 0
  | [], _, v, hv => by simp at hv
  | w :: r, h, v, hv => by
    unfold errL at h
    split at h
    · rename_i hw
      rcases List.mem_cons.1 hv with rfl | hv
      · exact hw
      · exact errL_all h v hv
    · rename_i hw; exact absurd h hw
theorem drop_cons' {l : List Val} {i : Nat} {v : Val} (h : l[i]? = some v) : l.drop i = v :: l.drop (i + 1) := by
  obtain ⟨hi, e⟩ := List.getElem?_eq_some_iff.1 h
  rw [List.drop_eq_getElem_cons hi, e]
def noP (e : Int) : PV := .tup [.agg [.int .i64 0, .int .i64 0, .nilS], .int .i64 e]
def encP (k : Int) (l : List Val) : PV :=
  if typB k = true then (if 20000 < l.length then noP 7 else if errL k l = 0 then .tup [.agg [.int .i64 k, .int .i64 (l.length : Int), .fr 1 (bR (short k l))], .int .i64 0] else noP (errL k l)) else noP 1
def S12 (x : Bool) (k : Int) (l : List Val) (i : Nat) (_ : Unit) : St := ⟨[.int .i64 k, eV x l, .top, .top, .ptr 0 1 0 0, .top, .top, .top, .top, .top, .top, .top, .top, .top, .top, .top, .top, eV x l, .int .i64 (l.length : Int), .int .i64 (i : Int)] ++ List.replicate 18 .top, [some ⟨1, 3, true, [[.int .i64 0, .int .i64 0, .nilS]]⟩]⟩
set_option maxRecDepth 100000 in
theorem f12 (x : Bool) (k : Int) (l : List Val) (hv : ∀ v ∈ l, i64V v) : evE Dg 12 [.int .i64 k, eV x l] = some (encP k l) := by
  have e1 := vRows_len l
  have h19 := f19 k
  have hb0 : ∀ b, Nat.blt b 0 = false := fun b => by cases b <;> rfl
  have n1 : Nat.blt 0 1 = true := rfl
  unfold encP
  cases ht : typB k with
  | false =>
    rw [ht] at h19
    refine evE_intro 1 D12 rfl ?_
    unfold c12
    simp [evCode, evOps, evOne, evOp, evPur, evEff, evPur.chunks, fillP, AOp.isEff, AO.ev, putP, PV.cells, PV.leaf, getB, getM, mapE, iterE, keyC, mapRows, mfind, eq1, eqL, scal, binP, unP, minP, maxP, foldP, PV.lt, PV.lt.ltL, endP, expoAll, expoG, expo, expo.expoL, frIds, frIds.frIdsL, nodupN, kill, cls, clsFuel, resO, RV.get, loadP, evC_p, evC_s, endS, endT, rowsOf, callP, thinL, unfr, unfr.unfrL, PV.noMem, PV.noMem.noMemL, optI, mapO, norm, trimT, trimB, forget, hasN, blksLt, List.set, softChk, softGo, softRd, effTg, rdP, eV, h19, noP]
  | true =>
    rw [ht] at h19
    by_cases hl : 20000 < l.length
    · have hl' : (20000 : Int) < l.length := by omega
      refine evE_intro 1 D12 rfl ?_
      unfold c12
      simp [evCode, evOps, evOne, evOp, evPur, evEff, evPur.chunks, fillP, AOp.isEff, AO.ev, putP, PV.cells, PV.leaf, getB, getM, mapE, iterE, keyC, mapRows, mfind, eq1, eqL, scal, binP, unP, minP, maxP, foldP, PV.lt, PV.lt.ltL, endP, expoAll, expoG, expo, expo.expoL, frIds, frIds.frIdsL, nodupN, kill, cls, clsFuel, resO, RV.get, loadP, evC_p, evC_s, endS, endT, rowsOf, callP, thinL, unfr, unfr.unfrL, PV.noMem, PV.noMem.noMemL, optI, mapO, norm, trimT, trimB, forget, hasN, blksLt, List.set, softChk, softGo, softRd, effTg, rdP, eV, h19, noP, e1, hl, hl']
    · have hl' : ¬ (20000 : Int) < l.length := by omega
      have H := loop_inv (body := evCode (evC Dg) (l.length + 1) c12b0) (keep := [0, 1, 4, 17, 18, 19]) (n0 := 1) (fuel := l.length + 1) l (S12 x k l) (fun i _ => errL k l = errL k (l.drop i)) (fun s => errL k l ≠ 0 ∧ s.sl[4]?.getD .top = .ptr 0 1 0 0 ∧ s.sl[5]?.getD .top = .int .i64 (errL k l) ∧ s.bl[0]? = some (some ⟨1, 3, true, [[.int .i64 0, .int .i64 0, .nilS]]⟩))
        (by
          rintro i v _ hu hi hE
          have hd := drop_cons' hu
          rw [hd, errL] at hE
          have h8 := f8 k v.1 v.2.1 v.2.2
          have r1 := vRows_get hu
          have g1 := vRows_got hu
          have hi' : (i : Int) < l.length := by omega
          have w1 := wrap_i64 ((i : Int) + 1) (by omega) (by omega)
          change _ = some (PV.int .i64 (valV k v)) at h8
          simp only [vV] at h8
          by_cases h0 : valV k v = 0
          · left
            rw [if_pos h0] at hE
            rw [h0] at h8
            refine ⟨(), ?_⟩
            refine (fun ⟨s', q1, q2⟩ => ⟨s', q1, q2, hE⟩ : (∃ s', _ ∧ _) → _) ?_
            unfold c12b0
            simp [evCode, evOps, evOne, evOp, evPur, evEff, evPur.chunks, fillP, AOp.isEff, AO.ev, putP, PV.cells, PV.leaf, getB, getM, mapE, iterE, keyC, mapRows, mfind, eq1, eqL, scal, binP, unP, minP, maxP, foldP, PV.lt, PV.lt.ltL, endP, expoAll, expoG, expo, expo.expoL, frIds, frIds.frIdsL, nodupN, kill, cls, clsFuel, resO, RV.get, loadP, evC_p, evC_s, endS, endT, rowsOf, callP, thinL, unfr, unfr.unfrL, PV.noMem, PV.noMem.noMemL, optI, mapO, norm, trimT, trimB, forget, hasN, blksLt, List.set, softChk, softGo, softRd, effTg, rdP, S12, eV, vRow, e1, r1, g1, hi', hi, w1, h8, hb0, n1]
          · right
            rw [if_neg h0] at hE
            generalize valV k v = e at *
            rw [hE]
            unfold c12b0
            simp [evCode, evOps, evOne, evOp, evPur, evEff, evPur.chunks, fillP, AOp.isEff, AO.ev, putP, PV.cells, PV.leaf, getB, getM, mapE, iterE, keyC, mapRows, mfind, eq1, eqL, scal, binP, unP, minP, maxP, foldP, PV.lt, PV.lt.ltL, endP, expoAll, expoG, expo, expo.expoL, frIds, frIds.frIdsL, nodupN, kill, cls, clsFuel, resO, RV.get, loadP, evC_p, evC_s, endS, endT, rowsOf, callP, thinL, unfr, unfr.unfrL, PV.noMem, PV.noMem.noMemL, optI, mapO, norm, trimT, trimB, forget, hasN, blksLt, List.set, softChk, softGo, softRd, effTg, rdP, S12, eV, vRow, e1, r1, g1, hi', hi, w1, h8, h0, hb0, n1])
        (by
          rintro _ _ s
          unfold c12b0
          simp [evCode, evOps, evOne, evOp, evPur, evEff, evPur.chunks, fillP, AOp.isEff, AO.ev, putP, PV.cells, PV.leaf, getB, getM, mapE, iterE, keyC, mapRows, mfind, eq1, eqL, scal, binP, unP, minP, maxP, foldP, PV.lt, PV.lt.ltL, endP, expoAll, expoG, expo, expo.expoL, frIds, frIds.frIdsL, nodupN, kill, cls, clsFuel, resO, RV.get, loadP, evC_p, evC_s, endS, endT, rowsOf, callP, thinL, unfr, unfr.unfrL, PV.noMem, PV.noMem.noMemL, optI, mapO, norm, trimT, trimB, forget, hasN, blksLt, List.set, softChk, softGo, softRd, effTg, rdP, S12, eV, e1])
        (by omega) () rfl
      rw [if_pos rfl, if_neg hl]
      refine evE_intro (l.length + 1) D12 rfl ?_
      unfold c12
      simp [evCode, evOps, evOne, evOp, evPur, evEff, evPur.chunks, fillP, AOp.isEff, AO.ev, putP, PV.cells, PV.leaf, getB, getM, mapE, iterE, keyC, mapRows, mfind, eq1, eqL, scal, binP, unP, minP, maxP, foldP, PV.lt, PV.lt.ltL, endP, expoAll, expoG, expo, expo.expoL, frIds, frIds.frIdsL, nodupN, kill, cls, clsFuel, resO, RV.get, loadP, evC_p, evC_s, endS, endT, rowsOf, callP, thinL, unfr, unfr.unfrL, PV.noMem, PV.noMem.noMemL, optI, mapO, norm, trimT, trimB, forget, hasN, blksLt, List.set, softChk, softGo, softRd, effTg, rdP, eV, h19, e1, hl']
      generalize hE : evLoop _ _ _ _ _ = E
      rcases H _ _ hE (by simp [evCode, evOps, evOne, evOp, evPur, evEff, evPur.chunks, fillP, AOp.isEff, AO.ev, putP, PV.cells, PV.leaf, getB, getM, mapE, iterE, keyC, mapRows, mfind, eq1, eqL, scal, binP, unP, minP, maxP, foldP, PV.lt, PV.lt.ltL, endP, expoAll, expoG, expo, expo.expoL, frIds, frIds.frIdsL, nodupN, kill, cls, clsFuel, resO, RV.get, loadP, evC_p, evC_s, endS, endT, rowsOf, callP, thinL, unfr, unfr.unfrL, PV.noMem, PV.noMem.noMemL, optI, mapO, norm, trimT, trimB, forget, hasN, blksLt, List.set, softChk, softGo, softRd, effTg, rdP, S12, eV, e1]) with ⟨_, hz, q2⟩ | ⟨s, q2, q3, q4, q5, q6⟩
      · rw [q2]
        rw [List.drop_length] at hz
        have hz' : errL k l = 0 := hz
        rw [if_pos hz']
        have hok : ∀ v ∈ l, okW v := fun v hm => valV_ok (errL_all hz' v hm) (hv v hm)
        have h23 := f23 x k l (by omega) hok
        generalize short k l = B at *
        have nB := bR_lt B
        have lB := bR_len B
        have im : ∀ rows, impB (PV.fr 1 rows) = [⟨rows.length, 1, true, rows⟩] := fun _ => rfl
        have iv : ∀ k rows, impV k (PV.fr 1 rows) = .own k rows.length 0 rows.length := fun _ _ => rfl
        simp only [eV] at h23
        unfold c12b0 c12r0
        simp [evCode, evOps, evOne, evOp, evPur, evEff, evPur.chunks, fillP, AOp.isEff, AO.ev, putP, PV.cells, PV.leaf, getB, getM, mapE, iterE, keyC, mapRows, mfind, eq1, eqL, scal, binP, unP, minP, maxP, foldP, PV.lt, PV.lt.ltL, endP, expoAll, expoG, expo, expo.expoL, frIds, frIds.frIdsL, nodupN, kill, cls, clsFuel, resO, RV.get, loadP, evC_p, evC_s, endS, endT, rowsOf, callP, thinL, unfr, unfr.unfrL, PV.noMem, PV.noMem.noMemL, optI, mapO, norm, trimT, trimB, forget, hasN, blksLt, List.set, softChk, softGo, softRd, effTg, rdP, S12, eV, e1, h23, hb0, im, iv, lB]
      · rw [q2, if_neg q3]
        have q6' := got_of q6
        have q7 : 0 < s.bl.length := (List.getElem?_eq_some_iff.1 q6).1
        simp [evCode, evOps, evOne, evOp, evPur, evEff, evPur.chunks, fillP, AOp.isEff, AO.ev, putP, PV.cells, PV.leaf, getB, getM, mapE, iterE, keyC, mapRows, mfind, eq1, eqL, scal, binP, unP, minP, maxP, foldP, PV.lt, PV.lt.ltL, endP, expoAll, expoG, expo, expo.expoL, frIds, frIds.frIdsL, nodupN, kill, cls, clsFuel, resO, RV.get, loadP, evC_p, evC_s, endS, endT, rowsOf, callP, thinL, unfr, unfr.unfrL, PV.noMem, PV.noMem.noMemL, optI, mapO, norm, trimT, trimB, forget, hasN, blksLt, List.set, softChk, softGo, softRd, effTg, rdP, q4, q5, q6, q6', q7, noP]
end Go.Proofs.Ytimipbbcmiblkaa
