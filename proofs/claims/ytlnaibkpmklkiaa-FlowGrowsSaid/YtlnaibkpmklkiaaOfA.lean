/- Of of both: times, the last sending, a map of events. -/
import Derived.Test.YtlnaibkpmklkiaaFlE
namespace Go.Proofs.Ytlnaibkpmklkiaa
open Go Go.RowKit
set_option linter.unusedVariables false
set_option linter.unusedSimpArgs false

def tmT (t : Tm) : Int := if 1000000000000 < (if t.lo < 0 then 0 else t.lo) then 1000000000000 else (if t.lo < 0 then 0 else t.lo)
theorem f22 (t : Tm) : evE Dg 22 [.agg (tRow t)] = some (.int .i64 (tmT t)) := by
  refine evE_intro 1 D22 rfl ?_
  have g1 := tmh1 t
  have g2 := tmh2 t
  unfold c22 tmT
  simp [evCode, evOps, evOne, evOp, evPur, evEff, evPur.chunks, fillP, AOp.isEff, AO.ev, putP, PV.cells, PV.leaf, getB, getM, mapE, iterE, keyC, mapRows, mfind, eq1, eqL, scal, binP, unP, minP, maxP, foldP, PV.lt, PV.lt.ltL, endP, expoAll, expoG, expo, expo.expoL, frIds, frIds.frIdsL, nodupN, kill, cls, clsFuel, resO, RV.get, loadP, evC_p, evC_s, endS, endT, rowsOf, callP, thinL, unfr, unfr.unfrL, PV.noMem, PV.noMem.noMemL, optI, mapO, norm, trimT, trimB, forget, hasN, blksLt, List.set, softChk, softGo, softRd, effTg, rdP, tRow, ↓g1, ↓g2]
theorem f24 (t : Tm) : evE Dg 24 [.agg (tRow t)] = some (.int .i64 (tmT t)) := by
  refine evE_intro 1 D24 rfl ?_
  have g1 := tmh1 t
  have g2 := tmh2 t
  unfold c24 tmT
  simp [evCode, evOps, evOne, evOp, evPur, evEff, evPur.chunks, fillP, AOp.isEff, AO.ev, putP, PV.cells, PV.leaf, getB, getM, mapE, iterE, keyC, mapRows, mfind, eq1, eqL, scal, binP, unP, minP, maxP, foldP, PV.lt, PV.lt.ltL, endP, expoAll, expoG, expo, expo.expoL, frIds, frIds.frIdsL, nodupN, kill, cls, clsFuel, resO, RV.get, loadP, evC_p, evC_s, endS, endT, rowsOf, callP, thinL, unfr, unfr.unfrL, PV.noMem, PV.noMem.noMemL, optI, mapO, norm, trimT, trimB, forget, hasN, blksLt, List.set, softChk, softGo, softRd, effTg, rdP, tRow, ↓g1, ↓g2]

theorem tRows_getE {l : List Tm} {i : Nat} {t : Tm} (h : l[i]? = some t) : ∀ g, (tRows l)[i]'g = tRow t := fun g => by
  have := tRows_get h
  rw [List.getElem?_eq_getElem g] at this
  exact Option.some.inj this

/-- the last sending before a place -/
def lastI (l : List Tm) : Nat → Int → Option Nat
  | 0, _ => none
  | k + 1, n => match l[k]? with
    | some t => if t.kd = 6 ∧ t.n = n then some k else lastI l k n
    | none => lastI l k n
def lastZ (l : List Tm) (k : Nat) (n : Int) : Int := match lastI l k n with | some i => i | none => -1
theorem lastI_lt (l : List Tm) (n : Int) : ∀ k i, lastI l k n = some i → i < k ∧ i < l.length
  | 0, i, h => by simp [lastI] at h
  | k + 1, i, h => by
    simp only [lastI] at h
    split at h
    · rename_i t ht
      split at h
      · cases h; exact ⟨by omega, (List.getElem?_eq_some_iff.1 ht).1⟩
      · have := lastI_lt l n k i h; omega
    · have := lastI_lt l n k i h; omega
def S25 (ex : Bool) (l : List Tm) (n : Int) (x : Nat) : St := ⟨[.sl ex 10 (tRows l), .top, .int .i64 n, .top, .top, .top, .top, .int .i64 ((x : Int) - 1)] ++ List.replicate 24 .top, []⟩
def R25 (l : List Tm) (b : Nat) (n : Int) (o : Out) : Prop :=
  (∃ s i, o = .ret s ∧ s.sl[6]?.getD .top = .int .i64 (i : Nat) ∧ lastI l b n = some i) ∨ ∃ ex, o = .exit 0 ⟨[.sl ex 10 (tRows l), .top, .int .i64 n, .top, .top, .top, .top, .int .i64 (-1), .top, .top, .int .i64 (-1), .bool false] ++ List.replicate 20 .top, []⟩ ∧ lastI l b n = none
set_option maxRecDepth 100000 in
theorem f25 (ex : Bool) (l : List Tm) (b : Nat) (n : Int) (hl : l.length ≤ 2000) (hb : b ≤ l.length) : evE Dg 25 [.sl ex 10 (tRows l), .int .i64 b, .int .i64 n] = some (.int .i64 (lastZ l b n)) := by
  refine evE_intro 3000 D25 rfl ?_
  unfold c25
  have eL := tRows_len l
  have w0 := wrap_i64 ((b : Int) - 1) (by omega) (by omega)
  simp [evCode, evOps, evOne, evOp, evPur, evEff, evPur.chunks, fillP, AOp.isEff, AO.ev, putP, PV.cells, PV.leaf, getB, getM, mapE, iterE, keyC, mapRows, mfind, eq1, eqL, scal, binP, unP, minP, maxP, foldP, PV.lt, PV.lt.ltL, endP, expoAll, expoG, expo, expo.expoL, frIds, frIds.frIdsL, nodupN, kill, cls, clsFuel, resO, RV.get, loadP, evC_p, evC_s, endS, endT, rowsOf, callP, thinL, unfr, unfr.unfrL, PV.noMem, PV.noMem.noMemL, optI, mapO, norm, trimT, trimB, forget, hasN, blksLt, List.set, softChk, softGo, softRd, effTg, rdP, eL, w0]
  generalize hE : evLoop (evCode (evC Dg) 3000 c25b0) [0, 2, 7] 0 3000 _ = E
  have H := loop_while (body := evCode (evC Dg) 3000 c25b0) (keep := [0, 2, 7]) (n0 := 0) (fuel := 3000) (S25 ex l n) (fun x => x) (fun x => x ≤ b ∧ lastI l b n = lastI l x n) (R25 l b n) ?_ b ⟨Nat.le_refl _, rfl⟩ (by omega) _ E hE (by simp [evCode, evOps, evOne, evOp, evPur, evEff, evPur.chunks, fillP, AOp.isEff, AO.ev, putP, PV.cells, PV.leaf, getB, getM, mapE, iterE, keyC, mapRows, mfind, eq1, eqL, scal, binP, unP, minP, maxP, foldP, PV.lt, PV.lt.ltL, endP, expoAll, expoG, expo, expo.expoL, frIds, frIds.frIdsL, nodupN, kill, cls, clsFuel, resO, RV.get, loadP, evC_p, evC_s, endS, endT, rowsOf, callP, thinL, unfr, unfr.unfrL, PV.noMem, PV.noMem.noMemL, optI, mapO, norm, trimT, trimB, forget, hasN, blksLt, List.set, softChk, softGo, softRd, effTg, rdP, S25])
  · obtain ⟨o, rfl, hR⟩ := H
    rcases hR with ⟨s, i, rfl, h1, h2⟩ | ⟨x, rfl, h2⟩
    · obtain ⟨sl, bl⟩ := s
      simp only at h1
      simp [evCode, evOps, evOne, evOp, evPur, evEff, evPur.chunks, fillP, AOp.isEff, AO.ev, putP, PV.cells, PV.leaf, getB, getM, mapE, iterE, keyC, mapRows, mfind, eq1, eqL, scal, binP, unP, minP, maxP, foldP, PV.lt, PV.lt.ltL, endP, expoAll, expoG, expo, expo.expoL, frIds, frIds.frIdsL, nodupN, kill, cls, clsFuel, resO, RV.get, loadP, evC_p, evC_s, endS, endT, rowsOf, callP, thinL, unfr, unfr.unfrL, PV.noMem, PV.noMem.noMemL, optI, mapO, norm, trimT, trimB, forget, hasN, blksLt, List.set, softChk, softGo, softRd, effTg, rdP, h1, lastZ, h2]
    · simp [evCode, evOps, evOne, evOp, evPur, evEff, evPur.chunks, fillP, AOp.isEff, AO.ev, putP, PV.cells, PV.leaf, getB, getM, mapE, iterE, keyC, mapRows, mfind, eq1, eqL, scal, binP, unP, minP, maxP, foldP, PV.lt, PV.lt.ltL, endP, expoAll, expoG, expo, expo.expoL, frIds, frIds.frIdsL, nodupN, kill, cls, clsFuel, resO, RV.get, loadP, evC_p, evC_s, endS, endT, rowsOf, callP, thinL, unfr, unfr.unfrL, PV.noMem, PV.noMem.noMemL, optI, mapO, norm, trimT, trimB, forget, hasN, blksLt, List.set, softChk, softGo, softRd, effTg, rdP, lastZ, h2]
  · rintro x ⟨hx, hI⟩
    rcases Nat.eq_zero_or_pos x with rfl | hx0
    · right
      refine ⟨.exit 0 _, (by unfold c25b0; simp [evCode, evOps, evOne, evOp, evPur, evEff, evPur.chunks, fillP, AOp.isEff, AO.ev, putP, PV.cells, PV.leaf, getB, getM, mapE, iterE, keyC, mapRows, mfind, eq1, eqL, scal, binP, unP, minP, maxP, foldP, PV.lt, PV.lt.ltL, endP, expoAll, expoG, expo, expo.expoL, frIds, frIds.frIdsL, nodupN, kill, cls, clsFuel, resO, RV.get, loadP, evC_p, evC_s, endS, endT, rowsOf, callP, thinL, unfr, unfr.unfrL, PV.noMem, PV.noMem.noMemL, optI, mapO, norm, trimT, trimB, forget, hasN, blksLt, List.set, softChk, softGo, softRd, effTg, rdP, S25]), (fun s h => by cases h), .inr ⟨ex, rfl, (by rw [hI]; simp [lastI])⟩⟩
    · obtain ⟨y, rfl⟩ : ∃ y, x = y + 1 := ⟨x - 1, by omega⟩
      have hy : y < l.length := by omega
      obtain ⟨t, ht⟩ : ∃ t, l[y]? = some t := ⟨l[y], List.getElem?_eq_getElem hy⟩
      have eg := tRows_get ht
      have eg' := tRows_getE ht
      have e1 : ((y + 1 : Nat) : Int) - 1 = y := by omega
      have hy' : (y : Int) < l.length := by omega
      have w1 := wrap_i64 ((y : Int) - 1) (by omega) (by omega)
      simp only [lastI, ht] at hI
      by_cases h6 : t.kd = 6
      · by_cases hn : t.n = n
        · rw [if_pos ⟨h6, hn⟩] at hI
          right
          refine ⟨.ret _, (by unfold c25b0; simp [evCode, evOps, evOne, evOp, evPur, evEff, evPur.chunks, fillP, AOp.isEff, AO.ev, putP, PV.cells, PV.leaf, getB, getM, mapE, iterE, keyC, mapRows, mfind, eq1, eqL, scal, binP, unP, minP, maxP, foldP, PV.lt, PV.lt.ltL, endP, expoAll, expoG, expo, expo.expoL, frIds, frIds.frIdsL, nodupN, kill, cls, clsFuel, resO, RV.get, loadP, evC_p, evC_s, endS, endT, rowsOf, callP, thinL, unfr, unfr.unfrL, PV.noMem, PV.noMem.noMemL, optI, mapO, norm, trimT, trimB, forget, hasN, blksLt, List.set, softChk, softGo, softRd, effTg, rdP, S25, e1, hy, hy', eL, eg, eg', tRow, h6, hn]; rfl), (fun s h => by cases h), .inl ⟨_, y, rfl, (by simp), hI⟩⟩
        · rw [if_neg (fun h => hn h.2)] at hI
          left
          refine ⟨y, _, (by unfold c25b0; simp [evCode, evOps, evOne, evOp, evPur, evEff, evPur.chunks, fillP, AOp.isEff, AO.ev, putP, PV.cells, PV.leaf, getB, getM, mapE, iterE, keyC, mapRows, mfind, eq1, eqL, scal, binP, unP, minP, maxP, foldP, PV.lt, PV.lt.ltL, endP, expoAll, expoG, expo, expo.expoL, frIds, frIds.frIdsL, nodupN, kill, cls, clsFuel, resO, RV.get, loadP, evC_p, evC_s, endS, endT, rowsOf, callP, thinL, unfr, unfr.unfrL, PV.noMem, PV.noMem.noMemL, optI, mapO, norm, trimT, trimB, forget, hasN, blksLt, List.set, softChk, softGo, softRd, effTg, rdP, S25, e1, hy, hy', eL, eg, eg', tRow, h6, hn, w1]; rfl), (by simp [evCode, evOps, evOne, evOp, evPur, evEff, evPur.chunks, fillP, AOp.isEff, AO.ev, putP, PV.cells, PV.leaf, getB, getM, mapE, iterE, keyC, mapRows, mfind, eq1, eqL, scal, binP, unP, minP, maxP, foldP, PV.lt, PV.lt.ltL, endP, expoAll, expoG, expo, expo.expoL, frIds, frIds.frIdsL, nodupN, kill, cls, clsFuel, resO, RV.get, loadP, evC_p, evC_s, endS, endT, rowsOf, callP, thinL, unfr, unfr.unfrL, PV.noMem, PV.noMem.noMemL, optI, mapO, norm, trimT, trimB, forget, hasN, blksLt, List.set, softChk, softGo, softRd, effTg, rdP, S25]), ⟨by omega, hI⟩, (by omega)⟩
      · rw [if_neg (fun h => h6 h.1)] at hI
        left
        refine ⟨y, _, (by unfold c25b0; simp [evCode, evOps, evOne, evOp, evPur, evEff, evPur.chunks, fillP, AOp.isEff, AO.ev, putP, PV.cells, PV.leaf, getB, getM, mapE, iterE, keyC, mapRows, mfind, eq1, eqL, scal, binP, unP, minP, maxP, foldP, PV.lt, PV.lt.ltL, endP, expoAll, expoG, expo, expo.expoL, frIds, frIds.frIdsL, nodupN, kill, cls, clsFuel, resO, RV.get, loadP, evC_p, evC_s, endS, endT, rowsOf, callP, thinL, unfr, unfr.unfrL, PV.noMem, PV.noMem.noMemL, optI, mapO, norm, trimT, trimB, forget, hasN, blksLt, List.set, softChk, softGo, softRd, effTg, rdP, S25, e1, hy, hy', eL, eg, eg', tRow, h6, w1]; rfl), (by simp [evCode, evOps, evOne, evOp, evPur, evEff, evPur.chunks, fillP, AOp.isEff, AO.ev, putP, PV.cells, PV.leaf, getB, getM, mapE, iterE, keyC, mapRows, mfind, eq1, eqL, scal, binP, unP, minP, maxP, foldP, PV.lt, PV.lt.ltL, endP, expoAll, expoG, expo, expo.expoL, frIds, frIds.frIdsL, nodupN, kill, cls, clsFuel, resO, RV.get, loadP, evC_p, evC_s, endS, endT, rowsOf, callP, thinL, unfr, unfr.unfrL, PV.noMem, PV.noMem.noMemL, optI, mapO, norm, trimT, trimB, forget, hasN, blksLt, List.set, softChk, softGo, softRd, effTg, rdP, S25]), ⟨by omega, hI⟩, (by omega)⟩

/-- a map of events -/
def aRows (ms : List (Int × Tm)) : List (List PV) := ms.map fun p => [.int .i64 p.1, .agg (tRow p.2)]
def aget (n : Int) : List (Int × Tm) → Option Tm
  | [] => none
  | p :: r => if p.1 = n then some p.2 else aget n r
def aput (n : Int) (t : Tm) : List (Int × Tm) → List (Int × Tm)
  | [] => [(n, t)]
  | p :: r => if p.1 = n then (n, t) :: r else p :: aput n t r
def aidx (n : Int) : List (Int × Tm) → Nat
  | [] => 0
  | p :: r => if p.1 = n then 0 else aidx n r + 1
theorem aRows_nil : aRows [] = [] := rfl
theorem amfind (n : Int) : ∀ (ms : List (Int × Tm)) (i : Nat), mfind [.i] false [.int .i64 n] (aRows ms) i = match aget n ms with | some t => some (some (i + aidx n ms, .agg (tRow t))) | none => some none
  | [], i => by simp [aRows, mfind, aget]
  | (k, t) :: r, i => by
    have ih := amfind n r (i + 1)
    simp only [aRows, List.map_cons] at ih ⊢
    simp only [mfind, keyC, Bool.false_eq_true, if_false, eqL, eq1, if_true, Bool.and_true, aget, aidx]
    by_cases h : n = k
    · subst h; simp
    · have h' : (n == k) = false := by simpa using h
      have h2 : ¬ k = n := fun e => h e.symm
      simp only [h', ih, h2, if_false]
      split
      · rename_i t' ht
        congr 3
        omega
      · rfl
theorem amfind_in {n : Int} {ms : List (Int × Tm)} {t : Tm} (h : aget n ms = some t) : mfind [.i] false [.int .i64 n] (aRows ms) 0 = some (some (aidx n ms, .agg (tRow t))) := by rw [amfind, h]; simp
theorem amfind_out {n : Int} {ms : List (Int × Tm)} (h : aget n ms = none) : mfind [.i] false [.int .i64 n] (aRows ms) 0 = some none := by rw [amfind, h]
theorem aset {n : Int} {t s : Tm} : ∀ {ms : List (Int × Tm)}, aget n ms = some s → (aRows ms).set (aidx n ms) [.int .i64 n, .agg (tRow t)] = aRows (aput n t ms)
  | [], h => by simp [aget] at h
  | (k, x) :: r, h => by
    simp only [aget] at h
    by_cases hk : k = n
    · simp [aRows, aidx, aput, hk]
    · rw [if_neg hk] at h
      have ih := aset (t := t) h
      simp only [aRows] at ih
      simp [aRows, aidx, aput, hk, ih]
theorem aadd {n : Int} {t : Tm} : ∀ {ms : List (Int × Tm)}, aget n ms = none → aRows ms ++ [[.int .i64 n, .agg (tRow t)]] = aRows (aput n t ms)
  | [], h => by simp [aRows, aput]
  | (k, x) :: r, h => by
    simp only [aget] at h
    by_cases hk : k = n
    · rw [if_pos hk] at h; cases h
    · rw [if_neg hk] at h
      have ih := aadd (t := t) h
      simp only [aRows] at ih
      simp [aRows, aput, hk, ih]
theorem aget_put (n m : Int) (t : Tm) : ∀ ms : List (Int × Tm), aget m (aput n t ms) = if n = m then some t else aget m ms
  | [] => by simp [aput, aget]
  | (k, x) :: r => by
    have ih := aget_put n m t r
    simp only [aput]
    by_cases hk : k = n
    · rw [if_pos hk]
      simp only [aget]
      by_cases hm : n = m
      · simp [hm]
      · have : ¬ k = m := fun e => hm (hk ▸ e)
        simp [hm, this]
    · rw [if_neg hk]
      simp only [aget, ih]
      by_cases hm : n = m
      · have : ¬ k = m := fun e => hk (e.trans hm.symm)
        simp [hm, this]
      · simp [hm]

/-- the flows -/
def mkF (s t : Tm) : Fl := ⟨t.n, s.th, s.se, t.th, t.se, tmT s, tmT t⟩
def lastT (l : List Tm) (k : Nat) (n : Int) : Option Tm := (lastI l k n).bind fun i => l[i]?
def flows (l : List Tm) : Nat → List Fl
  | 0 => []
  | k + 1 => flows l k ++ match l[k]? with
    | some t => if t.kd = 7 then match lastT l k t.n with
        | some s => [mkF s t]
        | none => []
      else []
    | none => []
theorem flows_len (l : List Tm) : ∀ k, (flows l k).length ≤ k
  | 0 => by simp [flows]
  | k + 1 => by
    have := flows_len l k
    simp only [flows, List.length_append]
    have h2 : (match l[k]? with | some t => if t.kd = 7 then match lastT l k t.n with | some s => [mkF s t] | none => [] else [] | none => []).length ≤ 1 := by
      split
      · split
        · split <;> simp
        · simp
      · simp
    omega
theorem lastT_step (l : List Tm) (k : Nat) (n : Int) {t : Tm} (ht : l[k]? = some t) : lastT l (k + 1) n = if t.kd = 6 ∧ t.n = n then some t else lastT l k n := by
  unfold lastT
  simp only [lastI, ht]
  split
  · simp [ht]
  · rfl
end Go.Proofs.Ytlnaibkpmklkiaa
