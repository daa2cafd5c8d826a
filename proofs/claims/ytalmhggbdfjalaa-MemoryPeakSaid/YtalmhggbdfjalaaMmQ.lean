/- Live, and Peak of the layer. -/
import Derived.Test.YtalmhggbdfjalaaMmA
namespace Go.Proofs.Ytalmhggbdfjalaa
open Go Go.RowKit
set_option linter.unusedVariables false
set_option linter.unusedSectionVars false
set_option linter.unusedSimpArgs false
set_option maxHeartbeats 4000000

/-- sizes from 1 to MaxTime, few blocks -/
def Siz (l : List Bk) : Prop := l.length ≤ 200 ∧ ∀ b ∈ l, 1 ≤ b.s ∧ b.s ≤ 1000000000000
def lvN (t : Int) (n : Int) (b : Bk) : Int := if b.f ≤ t ∧ t < b.e then n + b.s else n
def live (l : List Bk) (t : Int) : Int := l.foldl (lvN t) 0
def S20 (l : List Bk) (t : Int) (k : Nat) (n : Int) : St := ⟨[.top, .int .i64 t, .top, .top, .top, .int .i64 n, .top, .top, .sl false 7 (bRows l), .int .i64 l.length, .int .i64 k] ++ List.replicate 22 .top, []⟩
set_option maxRecDepth 100000 in
theorem f20 (l : List Bk) (t : Int) (hS : Siz l) : evE Dg 20 [.sl false 7 (bRows l), .int .i64 t] = some (.int .i64 (live l t)) := by
  have eL := bRows_len l
  obtain ⟨hl, hs⟩ := hS
  have H := fun (s0 : St) (E : Option Out) => loop_foldE (body := evCode (evC Dg) 3000 c20b0) (keep := [1, 5, 8, 9, 10]) (n0 := 0) (fuel := 3000) l (S20 l t) (lvN t) (fun k n => 0 ≤ n ∧ n ≤ k * 1000000000000) (by
    intro k b n hb hk ⟨h1, h2⟩
    obtain ⟨s1, s2⟩ := hs b (List.mem_of_getElem? hb)
    have hk' : (k : Int) < l.length := by omega
    have w1 := wrap_i64 ((k : Int) + 1) (by omega) (by omega)
    have w2 := wrap_i64 (n + b.s) (by omega) (by omega)
    have c1 : ¬ 1000000000000000 < n + b.s := by omega
    have eg := bRows_get hb
    have eg' := bRows_getE hb
    refine ⟨by unfold lvN; split <;> omega, ?_⟩
    unfold lvN
    by_cases h3 : b.f ≤ t
    · by_cases h4 : t < b.e
      · rw [if_pos ⟨h3, h4⟩]
        unfold c20b0
        simp [evCode, evOps, evOne, evOp, evPur, evEff, evPur.chunks, fillP, AOp.isEff, AO.ev, putP, PV.cells, PV.leaf, getB, getM, mapE, iterE, keyC, mapRows, mfind, eq1, eqL, scal, binP, unP, minP, maxP, foldP, PV.lt, PV.lt.ltL, endP, expoAll, expoG, expo, expo.expoL, frIds, frIds.frIdsL, nodupN, kill, cls, clsFuel, resO, RV.get, loadP, evC_p, evC_s, endS, endT, rowsOf, callP, thinL, unfr, unfr.unfrL, PV.noMem, PV.noMem.noMemL, optI, mapO, norm, trimT, trimB, forget, hasN, blksLt, List.set, softChk, softGo, softRd, effTg, rdP, S20, hk, hk', w1, w2, c1, eL, eg, eg', bRow, eTx, h3, h4]
      · rw [if_neg (fun h => h4 h.2)]
        unfold c20b0
        simp [evCode, evOps, evOne, evOp, evPur, evEff, evPur.chunks, fillP, AOp.isEff, AO.ev, putP, PV.cells, PV.leaf, getB, getM, mapE, iterE, keyC, mapRows, mfind, eq1, eqL, scal, binP, unP, minP, maxP, foldP, PV.lt, PV.lt.ltL, endP, expoAll, expoG, expo, expo.expoL, frIds, frIds.frIdsL, nodupN, kill, cls, clsFuel, resO, RV.get, loadP, evC_p, evC_s, endS, endT, rowsOf, callP, thinL, unfr, unfr.unfrL, PV.noMem, PV.noMem.noMemL, optI, mapO, norm, trimT, trimB, forget, hasN, blksLt, List.set, softChk, softGo, softRd, effTg, rdP, S20, hk, hk', w1, eL, eg, eg', bRow, eTx, h3, h4]
    · rw [if_neg (fun h => h3 h.1)]
      unfold c20b0
      simp [evCode, evOps, evOne, evOp, evPur, evEff, evPur.chunks, fillP, AOp.isEff, AO.ev, putP, PV.cells, PV.leaf, getB, getM, mapE, iterE, keyC, mapRows, mfind, eq1, eqL, scal, binP, unP, minP, maxP, foldP, PV.lt, PV.lt.ltL, endP, expoAll, expoG, expo, expo.expoL, frIds, frIds.frIdsL, nodupN, kill, cls, clsFuel, resO, RV.get, loadP, evC_p, evC_s, endS, endT, rowsOf, callP, thinL, unfr, unfr.unfrL, PV.noMem, PV.noMem.noMemL, optI, mapO, norm, trimT, trimB, forget, hasN, blksLt, List.set, softChk, softGo, softRd, effTg, rdP, S20, hk, hk', w1, eL, eg, eg', bRow, eTx, h3]) (by
    intro n _ s
    unfold c20b0
    simp [evCode, evOps, evOne, evOp, evPur, evEff, evPur.chunks, fillP, AOp.isEff, AO.ev, putP, PV.cells, PV.leaf, getB, getM, mapE, iterE, keyC, mapRows, mfind, eq1, eqL, scal, binP, unP, minP, maxP, foldP, PV.lt, PV.lt.ltL, endP, expoAll, expoG, expo, expo.expoL, frIds, frIds.frIdsL, nodupN, kill, cls, clsFuel, resO, RV.get, loadP, evC_p, evC_s, endS, endT, rowsOf, callP, thinL, unfr, unfr.unfrL, PV.noMem, PV.noMem.noMemL, optI, mapO, norm, trimT, trimB, forget, hasN, blksLt, List.set, softChk, softGo, softRd, effTg, rdP, S20, eL]) (by omega) 0 ⟨by omega, by omega⟩ s0 E
  refine evE_intro 3000 D20 rfl ?_
  unfold c20
  simp [evCode, evOps, evOne, evOp, evPur, evEff, evPur.chunks, fillP, AOp.isEff, AO.ev, putP, PV.cells, PV.leaf, getB, getM, mapE, iterE, keyC, mapRows, mfind, eq1, eqL, scal, binP, unP, minP, maxP, foldP, PV.lt, PV.lt.ltL, endP, expoAll, expoG, expo, expo.expoL, frIds, frIds.frIdsL, nodupN, kill, cls, clsFuel, resO, RV.get, loadP, evC_p, evC_s, endS, endT, rowsOf, callP, thinL, unfr, unfr.unfrL, PV.noMem, PV.noMem.noMemL, optI, mapO, norm, trimT, trimB, forget, hasN, blksLt, List.set, softChk, softGo, softRd, effTg, rdP, eL]
  generalize hE : evLoop (evCode (evC Dg) 3000 c20b0) [1, 5, 8, 9, 10] 0 3000 _ = E
  obtain ⟨h, -⟩ := H _ E hE (by simp [evCode, evOps, evOne, evOp, evPur, evEff, evPur.chunks, fillP, AOp.isEff, AO.ev, putP, PV.cells, PV.leaf, getB, getM, mapE, iterE, keyC, mapRows, mfind, eq1, eqL, scal, binP, unP, minP, maxP, foldP, PV.lt, PV.lt.ltL, endP, expoAll, expoG, expo, expo.expoL, frIds, frIds.frIdsL, nodupN, kill, cls, clsFuel, resO, RV.get, loadP, evC_p, evC_s, endS, endT, rowsOf, callP, thinL, unfr, unfr.unfrL, PV.noMem, PV.noMem.noMemL, optI, mapO, norm, trimT, trimB, forget, hasN, blksLt, List.set, softChk, softGo, softRd, effTg, rdP, S20])
  rw [h]
  have : l.foldl (lvN t) 0 = live l t := rfl
  rw [this]
  generalize live l t = z
  unfold c20b0
  simp [evCode, evOps, evOne, evOp, evPur, evEff, evPur.chunks, fillP, AOp.isEff, AO.ev, putP, PV.cells, PV.leaf, getB, getM, mapE, iterE, keyC, mapRows, mfind, eq1, eqL, scal, binP, unP, minP, maxP, foldP, PV.lt, PV.lt.ltL, endP, expoAll, expoG, expo, expo.expoL, frIds, frIds.frIdsL, nodupN, kill, cls, clsFuel, resO, RV.get, loadP, evC_p, evC_s, endS, endT, rowsOf, callP, thinL, unfr, unfr.unfrL, PV.noMem, PV.noMem.noMemL, optI, mapO, norm, trimT, trimB, forget, hasN, blksLt, List.set, softChk, softGo, softRd, effTg, rdP, S20, eL]
theorem srt_len (l : List Sp) : (Try.srt l).length = l.length := by
  have := (Try.srt_all l).1.1
  simpa using this
theorem srt_perm (l : List Sp) : (Try.srt l).Perm l := by
  obtain ⟨h1, _, h3⟩ := (Try.srt_all l).1
  have hs := srt_len l
  simp only [List.size_toArray] at h3
  have e1 : ((Try.srt l).toArray.extract 0 l.length).toList = Try.srt l := by simp [← hs]
  have e2 : (l.toArray.extract 0 l.length).toList = l := by simp
  rw [e1] at h3
  rwa [e2] at h3
theorem srt_sorted (l : List Sp) : (Try.srt l).Pairwise (fun a b => a.1 ≤ b.1) := by
  have h := (Try.srt_all l).2
  have hs := srt_len l
  rw [List.pairwise_iff_getElem]
  intro i j hi hj hij
  have := h i j (Nat.zero_le _) hij (by simp; omega)
  rw [Try.ltSp] at this
  rw [getElem!_pos _ _ (by simp; omega), getElem!_pos _ _ (by simp; omega)] at this
  simp at this
  exact this

/-- what Normal returns -/

theorem s40 (l : List Sp) (h1 : l.length < 1000000) : evS Dg 40 [.own 0 l.length 0 l.length, .fn 41 []] [some ⟨l.length, 2, true, spRows l⟩] = some (.tup [], [some ⟨l.length, 2, true, spRows (Try.srt l)⟩]) := by
  refine evS_ext D40 rfl ?_
  simp only [xSortF, getB, List.getElem?_cons_zero, List.getElem?_cons_succ]
  rw [if_pos (by simp [mapE])]
  simp only
  rw [if_pos (by simp [spRows, h1]), spOf_rows]
  rfl
theorem spRows_len (l : List Sp) : (spRows l).length = l.length := by simp [spRows]
theorem spRows_get {l : List Sp} {i : Nat} {t : Sp} (h : l[i]? = some t) : (spRows l)[i]? = some [.int .i64 t.1, .int .i64 t.2] := by simp [spRows, h]
theorem spRows_getE {l : List Sp} {i : Nat} {t : Sp} (h : l[i]? = some t) : ∀ g, (spRows l)[i]'g = [.int .i64 t.1, .int .i64 t.2] := fun g => by
  have := spRows_get h
  rw [List.getElem?_eq_getElem g] at this
  exact Option.some.inj this
theorem spRows_two (l : List Sp) (a b : Sp) : spRows l ++ [[.int .i64 a.1, .int .i64 a.2], [.int .i64 b.1, .int .i64 b.2]] = spRows (l ++ [a, b]) := by simp [spRows]
/-- the changes -/
def chgN (o : List Sp) (b : Bk) : List Sp := o ++ [(b.f, b.s), (b.e, -b.s)]
def chg (l : List Bk) : List Sp := l.foldl chgN []
def S18a (l : List Bk) (k : Nat) (o : List Sp) : St := ⟨[.top, .top, .top, .top, .own 0 o.length 0 o.length, .top, .top, .top, .top, .top, .top, .top, .top, .sl false 7 (bRows l), .int .i64 l.length, .int .i64 k] ++ List.replicate 60 .top, [some ⟨o.length, 2, true, spRows o⟩]⟩
def stepP (R : List Sp) (k : Nat) (x : Int × Int × Int) : Int × Int × Int := match R[k]? with
  | some c => match R[k + 1]? with
    | some d => if d.1 = c.1 then (x.1, x.2.1, x.2.2 + c.2) else if x.2.1 < x.2.2 + c.2 then (c.1, x.2.2 + c.2, x.2.2 + c.2) else (x.1, x.2.1, x.2.2 + c.2)
    | none => if x.2.1 < x.2.2 + c.2 then (c.1, x.2.2 + c.2, x.2.2 + c.2) else (x.1, x.2.1, x.2.2 + c.2)
  | none => x
def runP (R : List Sp) : Nat → Int × Int × Int
  | 0 => (0, 0, 0)
  | k + 1 => stepP R k (runP R k)
def S18b (R : List Sp) (k : Nat) (x : Int × Int × Int) : St := ⟨[.top, .top, .top, .top, .own 0 R.length 0 R.length, .top, .top, .int .i64 x.1, .int .i64 x.2.1, .int .i64 x.2.2] ++ List.replicate 28 .top ++ [.own 0 R.length 0 R.length, .int .i64 R.length, .int .i64 k] ++ List.replicate 35 .top, [some ⟨R.length, 2, true, spRows R⟩]⟩
set_option maxRecDepth 100000 in
theorem step18 (R : List Sp) (hl : R.length ≤ 400) (hb : ∀ c ∈ R, -1000000000000 ≤ c.2 ∧ c.2 ≤ 1000000000000) (k : Nat) (c : Sp) (hc : R[k]? = some c) (x : Int × Int × Int) (h1 : -(k * 1000000000000) ≤ x.2.2) (h2 : x.2.2 ≤ k * 1000000000000) :
    ∃ s, evCode (evC Dg) 3000 c18b0 (S18b R k x) = some (.normal s) ∧ norm [4, 7, 8, 9, 38, 39, 40] 1 s = S18b R (k + 1) (stepP R k x) := by
  obtain ⟨p, m, s⟩ := x
  simp only at h1 h2
  obtain ⟨b1, b2⟩ := hb c (List.mem_of_getElem? hc)
  have hk : k < R.length := (List.getElem?_eq_some_iff.1 hc).1
  have hk' : (k : Int) < R.length := by omega
  have w1 := wrap_i64 ((k : Int) + 1) (by omega) (by omega)
  have w2 := wrap_i64 (s + c.2) (by omega) (by omega)
  have c1 : ¬ 1000000000000000 < s + c.2 := by omega
  have eL := spRows_len R
  have eg := spRows_get hc
  have eg' := spRows_getE hc
  unfold stepP
  rw [hc]
  simp only
  cases hd : R[k + 1]? with
  | some d =>
    have j1 : k + 1 < R.length := (List.getElem?_eq_some_iff.1 hd).1
    have j2 : (k : Int) + 1 < R.length := by omega
    have j0 : (0 : Int) ≤ (k : Int) + 1 := by omega
    have ug := spRows_get hd
    have ug' := spRows_getE hd
    simp only
    by_cases h3 : d.1 = c.1
    · rw [if_pos h3]
      unfold c18b0
      simp [evCode, evOps, evOne, evOp, evPur, evEff, evPur.chunks, fillP, AOp.isEff, AO.ev, putP, PV.cells, PV.leaf, getB, getM, mapE, iterE, keyC, mapRows, mfind, eq1, eqL, scal, binP, unP, minP, maxP, foldP, PV.lt, PV.lt.ltL, endP, expoAll, expoG, expo, expo.expoL, frIds, frIds.frIdsL, nodupN, kill, cls, clsFuel, resO, RV.get, loadP, evC_p, evC_s, endS, endT, rowsOf, callP, thinL, unfr, unfr.unfrL, PV.noMem, PV.noMem.noMemL, optI, mapO, norm, trimT, trimB, forget, hasN, blksLt, List.set, softChk, softGo, softRd, effTg, rdP, S18b, hk, hk', w1, w2, c1, eL, eg, eg', j0, j1, j2, ug, ug', h3]
    · rw [if_neg h3]
      by_cases h4 : m < s + c.2
      · rw [if_pos h4]
        unfold c18b0
        simp [evCode, evOps, evOne, evOp, evPur, evEff, evPur.chunks, fillP, AOp.isEff, AO.ev, putP, PV.cells, PV.leaf, getB, getM, mapE, iterE, keyC, mapRows, mfind, eq1, eqL, scal, binP, unP, minP, maxP, foldP, PV.lt, PV.lt.ltL, endP, expoAll, expoG, expo, expo.expoL, frIds, frIds.frIdsL, nodupN, kill, cls, clsFuel, resO, RV.get, loadP, evC_p, evC_s, endS, endT, rowsOf, callP, thinL, unfr, unfr.unfrL, PV.noMem, PV.noMem.noMemL, optI, mapO, norm, trimT, trimB, forget, hasN, blksLt, List.set, softChk, softGo, softRd, effTg, rdP, S18b, hk, hk', w1, w2, c1, eL, eg, eg', j0, j1, j2, ug, ug', h3, h4]
      · rw [if_neg h4]
        unfold c18b0
        simp [evCode, evOps, evOne, evOp, evPur, evEff, evPur.chunks, fillP, AOp.isEff, AO.ev, putP, PV.cells, PV.leaf, getB, getM, mapE, iterE, keyC, mapRows, mfind, eq1, eqL, scal, binP, unP, minP, maxP, foldP, PV.lt, PV.lt.ltL, endP, expoAll, expoG, expo, expo.expoL, frIds, frIds.frIdsL, nodupN, kill, cls, clsFuel, resO, RV.get, loadP, evC_p, evC_s, endS, endT, rowsOf, callP, thinL, unfr, unfr.unfrL, PV.noMem, PV.noMem.noMemL, optI, mapO, norm, trimT, trimB, forget, hasN, blksLt, List.set, softChk, softGo, softRd, effTg, rdP, S18b, hk, hk', w1, w2, c1, eL, eg, eg', j0, j1, j2, ug, ug', h3, h4]
  | none =>
    have j2 : ¬ (k : Int) + 1 < R.length := by
      have := List.getElem?_eq_none_iff.1 hd
      omega
    simp only
    by_cases h4 : m < s + c.2
    · rw [if_pos h4]
      unfold c18b0
      simp [evCode, evOps, evOne, evOp, evPur, evEff, evPur.chunks, fillP, AOp.isEff, AO.ev, putP, PV.cells, PV.leaf, getB, getM, mapE, iterE, keyC, mapRows, mfind, eq1, eqL, scal, binP, unP, minP, maxP, foldP, PV.lt, PV.lt.ltL, endP, expoAll, expoG, expo, expo.expoL, frIds, frIds.frIdsL, nodupN, kill, cls, clsFuel, resO, RV.get, loadP, evC_p, evC_s, endS, endT, rowsOf, callP, thinL, unfr, unfr.unfrL, PV.noMem, PV.noMem.noMemL, optI, mapO, norm, trimT, trimB, forget, hasN, blksLt, List.set, softChk, softGo, softRd, effTg, rdP, S18b, hk, hk', w1, w2, c1, eL, eg, eg', j2, h4]
    · rw [if_neg h4]
      unfold c18b0
      simp [evCode, evOps, evOne, evOp, evPur, evEff, evPur.chunks, fillP, AOp.isEff, AO.ev, putP, PV.cells, PV.leaf, getB, getM, mapE, iterE, keyC, mapRows, mfind, eq1, eqL, scal, binP, unP, minP, maxP, foldP, PV.lt, PV.lt.ltL, endP, expoAll, expoG, expo, expo.expoL, frIds, frIds.frIdsL, nodupN, kill, cls, clsFuel, resO, RV.get, loadP, evC_p, evC_s, endS, endT, rowsOf, callP, thinL, unfr, unfr.unfrL, PV.noMem, PV.noMem.noMemL, optI, mapO, norm, trimT, trimB, forget, hasN, blksLt, List.set, softChk, softGo, softRd, effTg, rdP, S18b, hk, hk', w1, w2, c1, eL, eg, eg', j2, h4]
end Go.Proofs.Ytalmhggbdfjalaa
