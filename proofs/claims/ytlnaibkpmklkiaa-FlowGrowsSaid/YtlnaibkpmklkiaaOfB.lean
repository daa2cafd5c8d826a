/- Of of both. -/
import Derived.Test.YtlnaibkpmklkiaaOfA
namespace Go.Proofs.Ytlnaibkpmklkiaa
open Go Go.RowKit
set_option linter.unusedVariables false
set_option linter.unusedSimpArgs false

def S12 (ex : Bool) (l : List Tm) (k : Nat) (o : List Fl) : St :=
  ⟨[.sl ex 10 (tRows l), .top, .top, .own 1 o.length 0 o.length, .int .i64 k] ++ List.replicate 56 .top, [some ⟨0, 7, true, []⟩, some ⟨o.length, 7, true, fRows o⟩]⟩
set_option maxHeartbeats 4000000 in
set_option maxRecDepth 100000 in
theorem turn12 (ex : Bool) (l : List Tm) (hl : l.length ≤ 300) (k : Nat) (t : Tm) (ht : l[k]? = some t) (o : List Fl) (ho : o = flows l k) :
    ∃ s', evCode (evC Dg) 3000 c12b0 (S12 ex l k o) = some (.normal s') ∧ norm [0, 3, 4] 2 s' = S12 ex l (k + 1) (flows l (k + 1)) := by
  have hk : k < l.length := (List.getElem?_eq_some_iff.1 ht).1
  have hk' : (k : Int) < l.length := by omega
  have w1 := wrap_i64 ((k : Int) + 1) (by omega) (by omega)
  have eL := tRows_len l
  have eO := fRows_len o
  have eg := tRows_get ht
  have eg' := tRows_getE ht
  have hol : o.length ≤ k := by rw [ho]; exact flows_len l k
  have a1 : (o.length + 1) * 56 ≤ 140737488355328 := by omega
  have a2 : o.length + 1 ≤ 140737488355328 := by omega
  simp only [flows, ht, ← ho]
  by_cases h7 : t.kd = 7
  · rw [if_pos h7]
    have h25 := f25 ex l k t.n (by omega) (by omega)
    unfold lastT
    cases hi : lastI l k t.n with
    | none =>
      have hz : lastZ l k t.n = -1 := by simp [lastZ, hi]
      rw [hz] at h25
      simp only [Option.bind_none, List.append_nil]
      unfold c12b0
      simp [evCode, evOps, evOne, evOp, evPur, evEff, evPur.chunks, fillP, AOp.isEff, AO.ev, putP, PV.cells, PV.leaf, getB, getM, mapE, iterE, keyC, mapRows, mfind, eq1, eqL, scal, binP, unP, minP, maxP, foldP, PV.lt, PV.lt.ltL, endP, expoAll, expoG, expo, expo.expoL, frIds, frIds.frIdsL, nodupN, kill, cls, clsFuel, resO, RV.get, loadP, evC_p, evC_s, endS, endT, rowsOf, callP, thinL, unfr, unfr.unfrL, PV.noMem, PV.noMem.noMemL, optI, mapO, norm, trimT, trimB, forget, hasN, blksLt, List.set, softChk, softGo, softRd, effTg, rdP, S12, hk, hk', w1, eL, eO, eg, eg', tRow, h7, h25]
    | some i =>
      have hz : lastZ l k t.n = i := by simp [lastZ, hi]
      rw [hz] at h25
      obtain ⟨i1, i2⟩ := lastI_lt l t.n k i hi
      obtain ⟨s, hs⟩ : ∃ s, l[i]? = some s := ⟨l[i], List.getElem?_eq_getElem i2⟩
      simp only [Option.bind_some, hs]
      have i2' : (i : Int) < l.length := by omega
      have es := tRows_get hs
      have es' := tRows_getE hs
      have q1 := f22 s
      have q2 := f22 t
      have er := (fRows_add o (mkF s t)).symm
      have g1 := tmh1 t
      have g2 := tmh2 t
      have g3 := tmh1 s
      have g4 := tmh2 s
      simp only [tRow] at q1 q2
      rw [h7] at q2
      unfold c12b0
      simp [evCode, evOps, evOne, evOp, evPur, evEff, evPur.chunks, fillP, AOp.isEff, AO.ev, putP, PV.cells, PV.leaf, getB, getM, mapE, iterE, keyC, mapRows, mfind, eq1, eqL, scal, binP, unP, minP, maxP, foldP, PV.lt, PV.lt.ltL, endP, expoAll, expoG, expo, expo.expoL, frIds, frIds.frIdsL, nodupN, kill, cls, clsFuel, resO, RV.get, loadP, evC_p, evC_s, endS, endT, rowsOf, callP, thinL, unfr, unfr.unfrL, PV.noMem, PV.noMem.noMemL, optI, mapO, norm, trimT, trimB, forget, hasN, blksLt, List.set, softChk, softGo, softRd, effTg, rdP, S12, hk, hk', w1, eL, eO, eg, eg', tRow, h7, h25, i2, i2', es, es', ↓q1, ↓q2, fRow, mkF, a1, a2, ↓g1, ↓g2, ↓g3, ↓g4]
      exact fRows_add o (mkF s t)
  · rw [if_neg h7]
    simp only [List.append_nil]
    unfold c12b0
    simp [evCode, evOps, evOne, evOp, evPur, evEff, evPur.chunks, fillP, AOp.isEff, AO.ev, putP, PV.cells, PV.leaf, getB, getM, mapE, iterE, keyC, mapRows, mfind, eq1, eqL, scal, binP, unP, minP, maxP, foldP, PV.lt, PV.lt.ltL, endP, expoAll, expoG, expo, expo.expoL, frIds, frIds.frIdsL, nodupN, kill, cls, clsFuel, resO, RV.get, loadP, evC_p, evC_s, endS, endT, rowsOf, callP, thinL, unfr, unfr.unfrL, PV.noMem, PV.noMem.noMemL, optI, mapO, norm, trimT, trimB, forget, hasN, blksLt, List.set, softChk, softGo, softRd, effTg, rdP, S12, hk, hk', w1, eL, eO, eg, eg', tRow, h7]
set_option maxRecDepth 100000 in
theorem f12 (ex : Bool) (l : List Tm) (hl : l.length ≤ 300) : evE Dg 12 [.sl ex 10 (tRows l)] = some (.fr 7 (fRows (flows l l.length))) := by
  refine evE_intro 3000 D12 rfl ?_
  unfold c12
  have eL := tRows_len l
  simp [evCode, evOps, evOne, evOp, evPur, evEff, evPur.chunks, fillP, AOp.isEff, AO.ev, putP, PV.cells, PV.leaf, getB, getM, mapE, iterE, keyC, mapRows, mfind, eq1, eqL, scal, binP, unP, minP, maxP, foldP, PV.lt, PV.lt.ltL, endP, expoAll, expoG, expo, expo.expoL, frIds, frIds.frIdsL, nodupN, kill, cls, clsFuel, resO, RV.get, loadP, evC_p, evC_s, endS, endT, rowsOf, callP, thinL, unfr, unfr.unfrL, PV.noMem, PV.noMem.noMemL, optI, mapO, norm, trimT, trimB, forget, hasN, blksLt, List.set, softChk, softGo, softRd, effTg, rdP, eL]
  generalize hE : evLoop (evCode (evC Dg) 3000 c12b0) [0, 3, 4] 2 3000 _ = E
  have H := loop_inv (body := evCode (evC Dg) 3000 c12b0) (keep := [0, 3, 4]) (n0 := 2) (fuel := 3000) l (S12 ex l) (fun k o => o = flows l k) (fun _ => False) ?_ ?_ (by omega) [] rfl _ E hE (by simp [evCode, evOps, evOne, evOp, evPur, evEff, evPur.chunks, fillP, AOp.isEff, AO.ev, putP, PV.cells, PV.leaf, getB, getM, mapE, iterE, keyC, mapRows, mfind, eq1, eqL, scal, binP, unP, minP, maxP, foldP, PV.lt, PV.lt.ltL, endP, expoAll, expoG, expo, expo.expoL, frIds, frIds.frIdsL, nodupN, kill, cls, clsFuel, resO, RV.get, loadP, evC_p, evC_s, endS, endT, rowsOf, callP, thinL, unfr, unfr.unfrL, PV.noMem, PV.noMem.noMemL, optI, mapO, norm, trimT, trimB, forget, hasN, blksLt, List.set, softChk, softGo, softRd, effTg, rdP, S12, fRows])
  · rcases H with ⟨o, ho, rfl⟩ | ⟨s, _, h⟩
    · have eO := fRows_len o
      rw [← ho]
      unfold c12b0
      simp [evCode, evOps, evOne, evOp, evPur, evEff, evPur.chunks, fillP, AOp.isEff, AO.ev, putP, PV.cells, PV.leaf, getB, getM, mapE, iterE, keyC, mapRows, mfind, eq1, eqL, scal, binP, unP, minP, maxP, foldP, PV.lt, PV.lt.ltL, endP, expoAll, expoG, expo, expo.expoL, frIds, frIds.frIdsL, nodupN, kill, cls, clsFuel, resO, RV.get, loadP, evC_p, evC_s, endS, endT, rowsOf, callP, thinL, unfr, unfr.unfrL, PV.noMem, PV.noMem.noMemL, optI, mapO, norm, trimT, trimB, forget, hasN, blksLt, List.set, softChk, softGo, softRd, effTg, rdP, S12, eL, eO]
    · exact h.elim
  · intro k t o ht hk ho
    obtain ⟨s', h1, h2⟩ := turn12 ex l hl k t ht o ho
    exact .inl ⟨_, s', h1, h2, rfl⟩
  · intro o _ s
    unfold c12b0
    simp [evCode, evOps, evOne, evOp, evPur, evEff, evPur.chunks, fillP, AOp.isEff, AO.ev, putP, PV.cells, PV.leaf, getB, getM, mapE, iterE, keyC, mapRows, mfind, eq1, eqL, scal, binP, unP, minP, maxP, foldP, PV.lt, PV.lt.ltL, endP, expoAll, expoG, expo, expo.expoL, frIds, frIds.frIdsL, nodupN, kill, cls, clsFuel, resO, RV.get, loadP, evC_p, evC_s, endS, endT, rowsOf, callP, thinL, unfr, unfr.unfrL, PV.noMem, PV.noMem.noMemL, optI, mapO, norm, trimT, trimB, forget, hasN, blksLt, List.set, softChk, softGo, softRd, effTg, rdP, S12, eL]

def S11 (ex : Bool) (l : List Tm) (k : Nat) (x : List (Int × Tm) × List Fl) : St :=
  ⟨[.top, .top, .top, .mp 1 0, .own 2 x.2.length 0 x.2.length, .top, .top, .top, .top, .top, .sl ex 10 (tRows l), .int .i64 l.length, .int .i64 k] ++ List.replicate 41 .top,
   [some ⟨0, 7, true, []⟩, some ⟨0, mapE, true, aRows x.1⟩, some ⟨x.2.length, 7, true, fRows x.2⟩]⟩
def I11 (l : List Tm) (k : Nat) (x : List (Int × Tm) × List Fl) : Prop := x.2 = flows l k ∧ ∀ n, aget n x.1 = lastT l k n
set_option maxHeartbeats 4000000 in
set_option maxRecDepth 100000 in
theorem turn11 (ex : Bool) (l : List Tm) (hl : l.length ≤ 300) (k : Nat) (t : Tm) (ht : l[k]? = some t) (ms : List (Int × Tm)) (o : List Fl) (ho : o = flows l k) (hm : ∀ n, aget n ms = lastT l k n) :
    ∃ x' s', evCode (evC Dg) 3000 c11b0 (S11 ex l k (ms, o)) = some (.normal s') ∧ norm [3, 4, 10, 11, 12] 3 s' = S11 ex l (k + 1) x' ∧ I11 l (k + 1) x' := by
  have hk : k < l.length := (List.getElem?_eq_some_iff.1 ht).1
  have hk' : (k : Int) < l.length := by omega
  have w1 := wrap_i64 ((k : Int) + 1) (by omega) (by omega)
  have eL := tRows_len l
  have eO := fRows_len o
  have eg := tRows_get ht
  have eg' := tRows_getE ht
  have hol : o.length ≤ k := by rw [ho]; exact flows_len l k
  have a1 : (o.length + 1) * 56 ≤ 140737488355328 := by omega
  have a2 : o.length + 1 ≤ 140737488355328 := by omega
  have g1 := tmh1 t
  have g2 := tmh2 t
  have hstep := fun n => lastT_step l k n ht
  by_cases h6 : t.kd = 6
  · refine ⟨(aput t.n t ms, o), ?_⟩
    have hI : I11 l (k + 1) (aput t.n t ms, o) := by
      refine ⟨by simp only [flows, ht, ← ho]; rw [if_neg (by omega)]; simp, fun n => ?_⟩
      rw [aget_put, hstep n, hm n]
      simp [h6]
    suffices h : ∃ s', evCode (evC Dg) 3000 c11b0 (S11 ex l k (ms, o)) = some (.normal s') ∧ norm [3, 4, 10, 11, 12] 3 s' = S11 ex l (k + 1) (aput t.n t ms, o) by
      obtain ⟨s', h1, h2⟩ := h
      exact ⟨s', h1, h2, hI⟩
    cases hg : aget t.n ms with
    | some s =>
      have f1 := amfind_in hg
      have f2 := aset (t := t) hg
      simp only [tRow] at f2
      rw [h6] at f2
      unfold c11b0
      simp [evCode, evOps, evOne, evOp, evPur, evEff, evPur.chunks, fillP, AOp.isEff, AO.ev, putP, PV.cells, PV.leaf, getB, getM, mapE, iterE, keyC, mapRows, mfind, eq1, eqL, scal, binP, unP, minP, maxP, foldP, PV.lt, PV.lt.ltL, endP, expoAll, expoG, expo, expo.expoL, frIds, frIds.frIdsL, nodupN, kill, cls, clsFuel, resO, RV.get, loadP, evC_p, evC_s, endS, endT, rowsOf, callP, thinL, unfr, unfr.unfrL, PV.noMem, PV.noMem.noMemL, optI, mapO, norm, trimT, trimB, forget, hasN, blksLt, List.set, softChk, softGo, softRd, effTg, rdP, S11, hk, hk', w1, eL, eO, eg, eg', tRow, h6, f1, f2, ↓g1, ↓g2]
    | none =>
      have f1 := amfind_out hg
      have f2 := aadd (t := t) hg
      simp only [tRow] at f2
      rw [h6] at f2
      unfold c11b0
      simp [evCode, evOps, evOne, evOp, evPur, evEff, evPur.chunks, fillP, AOp.isEff, AO.ev, putP, PV.cells, PV.leaf, getB, getM, mapE, iterE, keyC, mapRows, mfind, eq1, eqL, scal, binP, unP, minP, maxP, foldP, PV.lt, PV.lt.ltL, endP, expoAll, expoG, expo, expo.expoL, frIds, frIds.frIdsL, nodupN, kill, cls, clsFuel, resO, RV.get, loadP, evC_p, evC_s, endS, endT, rowsOf, callP, thinL, unfr, unfr.unfrL, PV.noMem, PV.noMem.noMemL, optI, mapO, norm, trimT, trimB, forget, hasN, blksLt, List.set, softChk, softGo, softRd, effTg, rdP, S11, hk, hk', w1, eL, eO, eg, eg', tRow, h6, f1, f2, ↓g1, ↓g2]
  · have hI : ∀ o', o' = flows l (k + 1) → I11 l (k + 1) (ms, o') := fun o' ho' => ⟨ho', fun n => by rw [hstep n, hm n, if_neg (fun h => h6 h.1)]⟩
    refine ⟨(ms, flows l (k + 1)), ?_⟩
    suffices h : ∃ s', evCode (evC Dg) 3000 c11b0 (S11 ex l k (ms, o)) = some (.normal s') ∧ norm [3, 4, 10, 11, 12] 3 s' = S11 ex l (k + 1) (ms, flows l (k + 1)) by
      obtain ⟨s', h1, h2⟩ := h
      exact ⟨s', h1, h2, hI _ rfl⟩
    simp only [flows, ht, ← ho]
    by_cases h7 : t.kd = 7
    · rw [if_pos h7, ← hm t.n]
      cases hg : aget t.n ms with
      | none =>
        have f1 := amfind_out hg
        simp only [List.append_nil]
        unfold c11b0
        simp [evCode, evOps, evOne, evOp, evPur, evEff, evPur.chunks, fillP, AOp.isEff, AO.ev, putP, PV.cells, PV.leaf, getB, getM, mapE, iterE, keyC, mapRows, mfind, eq1, eqL, scal, binP, unP, minP, maxP, foldP, PV.lt, PV.lt.ltL, endP, expoAll, expoG, expo, expo.expoL, frIds, frIds.frIdsL, nodupN, kill, cls, clsFuel, resO, RV.get, loadP, evC_p, evC_s, endS, endT, rowsOf, callP, thinL, unfr, unfr.unfrL, PV.noMem, PV.noMem.noMemL, optI, mapO, norm, trimT, trimB, forget, hasN, blksLt, List.set, softChk, softGo, softRd, effTg, rdP, S11, hk, hk', w1, eL, eO, eg, eg', tRow, h7, f1, ↓g1, ↓g2]
      | some s =>
        have f1 := amfind_in hg
        have q1 := f24 s
        have q2 := f24 t
        have er := (fRows_add o (mkF s t)).symm
        have g3 := tmh1 s
        have g4 := tmh2 s
        simp only [tRow] at q1 q2
        rw [h7] at q2
        unfold c11b0
        simp [evCode, evOps, evOne, evOp, evPur, evEff, evPur.chunks, fillP, AOp.isEff, AO.ev, putP, PV.cells, PV.leaf, getB, getM, mapE, iterE, keyC, mapRows, mfind, eq1, eqL, scal, binP, unP, minP, maxP, foldP, PV.lt, PV.lt.ltL, endP, expoAll, expoG, expo, expo.expoL, frIds, frIds.frIdsL, nodupN, kill, cls, clsFuel, resO, RV.get, loadP, evC_p, evC_s, endS, endT, rowsOf, callP, thinL, unfr, unfr.unfrL, PV.noMem, PV.noMem.noMemL, optI, mapO, norm, trimT, trimB, forget, hasN, blksLt, List.set, softChk, softGo, softRd, effTg, rdP, S11, hk, hk', w1, eL, eO, eg, eg', tRow, h7, f1, ↓q1, ↓q2, fRow, mkF, a1, a2, ↓g1, ↓g2, ↓g3, ↓g4]
        exact fRows_add o (mkF s t)
    · rw [if_neg h7]
      simp only [List.append_nil]
      unfold c11b0
      simp [evCode, evOps, evOne, evOp, evPur, evEff, evPur.chunks, fillP, AOp.isEff, AO.ev, putP, PV.cells, PV.leaf, getB, getM, mapE, iterE, keyC, mapRows, mfind, eq1, eqL, scal, binP, unP, minP, maxP, foldP, PV.lt, PV.lt.ltL, endP, expoAll, expoG, expo, expo.expoL, frIds, frIds.frIdsL, nodupN, kill, cls, clsFuel, resO, RV.get, loadP, evC_p, evC_s, endS, endT, rowsOf, callP, thinL, unfr, unfr.unfrL, PV.noMem, PV.noMem.noMemL, optI, mapO, norm, trimT, trimB, forget, hasN, blksLt, List.set, softChk, softGo, softRd, effTg, rdP, S11, hk, hk', w1, eL, eO, eg, eg', tRow, h6, h7, ↓g1, ↓g2]
set_option maxRecDepth 100000 in
theorem f11 (ex : Bool) (l : List Tm) (hl : l.length ≤ 300) : evE Dg 11 [.sl ex 10 (tRows l)] = some (.fr 7 (fRows (flows l l.length))) := by
  refine evE_intro 3000 D11 rfl ?_
  unfold c11
  have eL := tRows_len l
  simp [evCode, evOps, evOne, evOp, evPur, evEff, evPur.chunks, fillP, AOp.isEff, AO.ev, putP, PV.cells, PV.leaf, getB, getM, mapE, iterE, keyC, mapRows, mfind, eq1, eqL, scal, binP, unP, minP, maxP, foldP, PV.lt, PV.lt.ltL, endP, expoAll, expoG, expo, expo.expoL, frIds, frIds.frIdsL, nodupN, kill, cls, clsFuel, resO, RV.get, loadP, evC_p, evC_s, endS, endT, rowsOf, callP, thinL, unfr, unfr.unfrL, PV.noMem, PV.noMem.noMemL, optI, mapO, norm, trimT, trimB, forget, hasN, blksLt, List.set, softChk, softGo, softRd, effTg, rdP, eL]
  generalize hE : evLoop (evCode (evC Dg) 3000 c11b0) [3, 4, 10, 11, 12] 3 3000 _ = E
  have H := loop_inv (body := evCode (evC Dg) 3000 c11b0) (keep := [3, 4, 10, 11, 12]) (n0 := 3) (fuel := 3000) l (S11 ex l) (I11 l) (fun _ => False) ?_ ?_ (by omega) ([], []) ⟨rfl, fun n => rfl⟩ _ E hE (by simp [evCode, evOps, evOne, evOp, evPur, evEff, evPur.chunks, fillP, AOp.isEff, AO.ev, putP, PV.cells, PV.leaf, getB, getM, mapE, iterE, keyC, mapRows, mfind, eq1, eqL, scal, binP, unP, minP, maxP, foldP, PV.lt, PV.lt.ltL, endP, expoAll, expoG, expo, expo.expoL, frIds, frIds.frIdsL, nodupN, kill, cls, clsFuel, resO, RV.get, loadP, evC_p, evC_s, endS, endT, rowsOf, callP, thinL, unfr, unfr.unfrL, PV.noMem, PV.noMem.noMemL, optI, mapO, norm, trimT, trimB, forget, hasN, blksLt, List.set, softChk, softGo, softRd, effTg, rdP, S11, fRows, aRows])
  · rcases H with ⟨⟨ms, o⟩, ⟨ho, _⟩, rfl⟩ | ⟨s, _, h⟩
    · have eO := fRows_len o
      simp only at ho
      rw [← ho]
      unfold c11b0
      simp [evCode, evOps, evOne, evOp, evPur, evEff, evPur.chunks, fillP, AOp.isEff, AO.ev, putP, PV.cells, PV.leaf, getB, getM, mapE, iterE, keyC, mapRows, mfind, eq1, eqL, scal, binP, unP, minP, maxP, foldP, PV.lt, PV.lt.ltL, endP, expoAll, expoG, expo, expo.expoL, frIds, frIds.frIdsL, nodupN, kill, cls, clsFuel, resO, RV.get, loadP, evC_p, evC_s, endS, endT, rowsOf, callP, thinL, unfr, unfr.unfrL, PV.noMem, PV.noMem.noMemL, optI, mapO, norm, trimT, trimB, forget, hasN, blksLt, List.set, softChk, softGo, softRd, effTg, rdP, S11, eL, eO]
    · exact h.elim
  · rintro k t ⟨ms, o⟩ ht hk ⟨ho, hm⟩
    exact .inl (turn11 ex l hl k t ht ms o ho hm)
  · rintro ⟨ms, o⟩ _ s
    unfold c11b0
    simp [evCode, evOps, evOne, evOp, evPur, evEff, evPur.chunks, fillP, AOp.isEff, AO.ev, putP, PV.cells, PV.leaf, getB, getM, mapE, iterE, keyC, mapRows, mfind, eq1, eqL, scal, binP, unP, minP, maxP, foldP, PV.lt, PV.lt.ltL, endP, expoAll, expoG, expo, expo.expoL, frIds, frIds.frIdsL, nodupN, kill, cls, clsFuel, resO, RV.get, loadP, evC_p, evC_s, endS, endT, rowsOf, callP, thinL, unfr, unfr.unfrL, PV.noMem, PV.noMem.noMemL, optI, mapO, norm, trimT, trimB, forget, hasN, blksLt, List.set, softChk, softGo, softRd, effTg, rdP, S11, eL]
end Go.Proofs.Ytlnaibkpmklkiaa
