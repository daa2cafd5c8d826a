/- Open of the reference; FlowOf. -/
import Derived.Test.YtlnaibkpmklkiaaOpG
namespace Go.Proofs.Ytlnaibkpmklkiaa
open Go Go.RowKit
set_option maxHeartbeats 4000000
set_option linter.unusedVariables false
set_option linter.unusedSimpArgs false

def slotP : Option (List Int) → PV
  | none => .own 1 0 0 0
  | some l => .sl false 1 (zRows l)
def S15 (l : List Tm) (k : Nat) (o : Option (List Int)) : St :=
  ⟨[.sl false 10 (tRows l), .top, .top, slotP o, .int .i64 k] ++ List.replicate 40 .top, [some ⟨0, 1, true, []⟩, some ⟨0, 1, true, []⟩]⟩
def Good15 (l : List Tm) (k : Nat) (r : List Int) : Prop := r.Pairwise (· < ·) ∧ r.length ≤ k ∧ ∀ x, x ∈ r ↔ ∃ i, i < k ∧ Last l x i
theorem last_next (l : List Tm) (k : Nat) (x : Int) : (∃ i, i < k + 1 ∧ Last l x i) ↔ (∃ i, i < k ∧ Last l x i) ∨ Last l x k := by
  constructor
  · rintro ⟨i, h1, h2⟩
    by_cases e : i = k
    · subst e; exact .inr h2
    · exact .inl ⟨i, by omega, h2⟩
  · rintro (⟨i, h1, h2⟩ | h)
    · exact ⟨i, by omega, h2⟩
    · exact ⟨k, by omega, h⟩
theorem Last_n {l : List Tm} {k : Nat} {t : Tm} (ht : l[k]? = some t) {x : Int} (h : Last l x k) : x = t.n ∧ t.kd = 6 := by
  obtain ⟨u, h1, h2, h3, _⟩ := h
  rw [ht] at h1
  cases h1
  exact ⟨h3.symm, h2⟩
set_option maxRecDepth 100000 in
theorem step15 (l : List Tm) (hl : l.length ≤ 300) (k : Nat) (t : Tm) (ha : l[k]? = some t) (o : Option (List Int)) (r0 : List Int) (hr : o = none ∧ r0 = [] ∨ o = some r0) (g : Good15 l k r0) :
    ∃ o' r', (o' = none ∧ r' = [] ∨ o' = some r') ∧ Good15 l (k + 1) r' ∧ ∃ s', evCode (evC Dg) 1100 c15b0 (S15 l k o) = some (.normal s') ∧ norm [0, 3, 4] 2 s' = S15 l (k + 1) o' := by
  have hk := (List.getElem?_eq_some_iff.1 ha).1
  have hk' : (k : Int) < l.length := by omega
  have w1 := wrap_i64 ((k : Int) + 1) (by omega) (by omega)
  have eL := tRows_len l
  have eg := tRows_get ha
  have eg' := tRows_getE ha
  obtain ⟨g1, g2, g3⟩ := g
  have z0 : zRows [] = [] := rfl
  have hn := fun x => last_next l k x
  have keep : (∀ x, ¬ Last l x k) → Good15 l (k + 1) r0 := fun h => ⟨g1, by omega, fun x => by rw [g3, hn]; simp [h x]⟩
  by_cases h6 : t.kd = 6
  · have h25 := f25 false l l.length t.n (by omega) (Nat.le_refl _)
    by_cases hz : lastZ l l.length t.n = k
    · have hli : lastI l l.length t.n = some k := by
        unfold lastZ at hz
        split at hz
        · rename_i i hi; rw [hi]; congr 1; omega
        · omega
      rw [hz] at h25
      have h27 := f27 l k t.n (by omega) hk
      cases hrc : rcv l k t.n with
      | true =>
        rw [hrc] at h27
        refine ⟨o, r0, hr, keep (fun x hx => ?_), ?_⟩
        · obtain ⟨e, _⟩ := Last_n ha hx
          subst e
          have := (Last_iff.1 hx).2
          rw [hrc] at this
          cases this
        · rcases hr with ⟨rfl, rfl⟩ | rfl
          · unfold c15b0
            simp [evCode, evOps, evOne, evOp, evPur, evEff, evPur.chunks, fillP, AOp.isEff, AO.ev, putP, PV.cells, PV.leaf, getB, getM, mapE, iterE, keyC, mapRows, mfind, eq1, eqL, scal, binP, unP, minP, maxP, foldP, PV.lt, PV.lt.ltL, endP, expoAll, expoG, expo, expo.expoL, frIds, frIds.frIdsL, nodupN, kill, cls, clsFuel, resO, RV.get, loadP, evC_p, evC_s, endS, endT, rowsOf, callP, thinL, unfr, unfr.unfrL, PV.noMem, PV.noMem.noMemL, optI, mapO, norm, trimT, trimB, forget, hasN, blksLt, List.set, softChk, softGo, softRd, effTg, rdP, S15, slotP, eL, eg, eg', hk, hk', w1, h6, h25, h27, tRow]
          · unfold c15b0
            simp [evCode, evOps, evOne, evOp, evPur, evEff, evPur.chunks, fillP, AOp.isEff, AO.ev, putP, PV.cells, PV.leaf, getB, getM, mapE, iterE, keyC, mapRows, mfind, eq1, eqL, scal, binP, unP, minP, maxP, foldP, PV.lt, PV.lt.ltL, endP, expoAll, expoG, expo, expo.expoL, frIds, frIds.frIdsL, nodupN, kill, cls, clsFuel, resO, RV.get, loadP, evC_p, evC_s, endS, endT, rowsOf, callP, thinL, unfr, unfr.unfrL, PV.noMem, PV.noMem.noMemL, optI, mapO, norm, trimT, trimB, forget, hasN, blksLt, List.set, softChk, softGo, softRd, effTg, rdP, S15, slotP, eL, eg, eg', hk, hk', w1, h6, h25, h27, tRow]
      | false =>
        rw [hrc] at h27
        obtain ⟨v1, r1, p1, u1, q1, n1, m1⟩ := f28 r0 t.n (by omega) g1
        refine ⟨some r1, r1, .inr rfl, ⟨q1, by omega, fun x => ?_⟩, ?_⟩
        · rw [m1, g3, hn]
          constructor
          · rintro (h | rfl)
            · exact .inl h
            · exact .inr (Last_iff.2 ⟨hli, hrc⟩)
          · rintro (h | h)
            · exact .inl h
            · exact .inr (Last_n ha h).1
        · rcases hr with ⟨rfl, rfl⟩ | rfl
          · rw [z0] at p1
            unfold c15b0
            simp [evCode, evOps, evOne, evOp, evPur, evEff, evPur.chunks, fillP, AOp.isEff, AO.ev, putP, PV.cells, PV.leaf, getB, getM, mapE, iterE, keyC, mapRows, mfind, eq1, eqL, scal, binP, unP, minP, maxP, foldP, PV.lt, PV.lt.ltL, endP, expoAll, expoG, expo, expo.expoL, frIds, frIds.frIdsL, nodupN, kill, cls, clsFuel, resO, RV.get, loadP, evC_p, evC_s, endS, endT, rowsOf, callP, thinL, unfr, unfr.unfrL, PV.noMem, PV.noMem.noMemL, optI, mapO, norm, trimT, trimB, forget, hasN, blksLt, List.set, softChk, softGo, softRd, effTg, rdP, S15, slotP, eL, eg, eg', hk, hk', w1, h6, h25, h27, tRow, p1, u1]
          · unfold c15b0
            simp [evCode, evOps, evOne, evOp, evPur, evEff, evPur.chunks, fillP, AOp.isEff, AO.ev, putP, PV.cells, PV.leaf, getB, getM, mapE, iterE, keyC, mapRows, mfind, eq1, eqL, scal, binP, unP, minP, maxP, foldP, PV.lt, PV.lt.ltL, endP, expoAll, expoG, expo, expo.expoL, frIds, frIds.frIdsL, nodupN, kill, cls, clsFuel, resO, RV.get, loadP, evC_p, evC_s, endS, endT, rowsOf, callP, thinL, unfr, unfr.unfrL, PV.noMem, PV.noMem.noMemL, optI, mapO, norm, trimT, trimB, forget, hasN, blksLt, List.set, softChk, softGo, softRd, effTg, rdP, S15, slotP, eL, eg, eg', hk, hk', w1, h6, h25, h27, tRow, p1, u1]
    · refine ⟨o, r0, hr, keep (fun x hx => ?_), ?_⟩
      · obtain ⟨e, _⟩ := Last_n ha hx
        subst e
        have := (Last_iff.1 hx).1
        exact hz (by simp [lastZ, this])
      · generalize lastZ l l.length t.n = z at *
        rcases hr with ⟨rfl, rfl⟩ | rfl
        · unfold c15b0
          simp [evCode, evOps, evOne, evOp, evPur, evEff, evPur.chunks, fillP, AOp.isEff, AO.ev, putP, PV.cells, PV.leaf, getB, getM, mapE, iterE, keyC, mapRows, mfind, eq1, eqL, scal, binP, unP, minP, maxP, foldP, PV.lt, PV.lt.ltL, endP, expoAll, expoG, expo, expo.expoL, frIds, frIds.frIdsL, nodupN, kill, cls, clsFuel, resO, RV.get, loadP, evC_p, evC_s, endS, endT, rowsOf, callP, thinL, unfr, unfr.unfrL, PV.noMem, PV.noMem.noMemL, optI, mapO, norm, trimT, trimB, forget, hasN, blksLt, List.set, softChk, softGo, softRd, effTg, rdP, S15, slotP, eL, eg, eg', hk, hk', w1, h6, h25, hz, tRow]
        · unfold c15b0
          simp [evCode, evOps, evOne, evOp, evPur, evEff, evPur.chunks, fillP, AOp.isEff, AO.ev, putP, PV.cells, PV.leaf, getB, getM, mapE, iterE, keyC, mapRows, mfind, eq1, eqL, scal, binP, unP, minP, maxP, foldP, PV.lt, PV.lt.ltL, endP, expoAll, expoG, expo, expo.expoL, frIds, frIds.frIdsL, nodupN, kill, cls, clsFuel, resO, RV.get, loadP, evC_p, evC_s, endS, endT, rowsOf, callP, thinL, unfr, unfr.unfrL, PV.noMem, PV.noMem.noMemL, optI, mapO, norm, trimT, trimB, forget, hasN, blksLt, List.set, softChk, softGo, softRd, effTg, rdP, S15, slotP, eL, eg, eg', hk, hk', w1, h6, h25, hz, tRow]
  · refine ⟨o, r0, hr, keep (fun x hx => h6 (Last_n ha hx).2), ?_⟩
    rcases hr with ⟨rfl, rfl⟩ | rfl
    · unfold c15b0
      simp [evCode, evOps, evOne, evOp, evPur, evEff, evPur.chunks, fillP, AOp.isEff, AO.ev, putP, PV.cells, PV.leaf, getB, getM, mapE, iterE, keyC, mapRows, mfind, eq1, eqL, scal, binP, unP, minP, maxP, foldP, PV.lt, PV.lt.ltL, endP, expoAll, expoG, expo, expo.expoL, frIds, frIds.frIdsL, nodupN, kill, cls, clsFuel, resO, RV.get, loadP, evC_p, evC_s, endS, endT, rowsOf, callP, thinL, unfr, unfr.unfrL, PV.noMem, PV.noMem.noMemL, optI, mapO, norm, trimT, trimB, forget, hasN, blksLt, List.set, softChk, softGo, softRd, effTg, rdP, S15, slotP, eL, eg, eg', hk, hk', w1, h6, tRow]
    · unfold c15b0
      simp [evCode, evOps, evOne, evOp, evPur, evEff, evPur.chunks, fillP, AOp.isEff, AO.ev, putP, PV.cells, PV.leaf, getB, getM, mapE, iterE, keyC, mapRows, mfind, eq1, eqL, scal, binP, unP, minP, maxP, foldP, PV.lt, PV.lt.ltL, endP, expoAll, expoG, expo, expo.expoL, frIds, frIds.frIdsL, nodupN, kill, cls, clsFuel, resO, RV.get, loadP, evC_p, evC_s, endS, endT, rowsOf, callP, thinL, unfr, unfr.unfrL, PV.noMem, PV.noMem.noMemL, optI, mapO, norm, trimT, trimB, forget, hasN, blksLt, List.set, softChk, softGo, softRd, effTg, rdP, S15, slotP, eL, eg, eg', hk, hk', w1, h6, tRow]
set_option maxRecDepth 100000 in
theorem f15 (l : List Tm) (hl : l.length ≤ 300) :
    ∃ v out, evE Dg 15 [.sl false 10 (tRows l)] = some v ∧ unfr v = .sl false 1 (zRows out) ∧ out.Pairwise (· < ·) ∧ out.length ≤ 2000 ∧ ∀ x, x ∈ out ↔ ∃ i, Last l x i := by
  suffices h : ∃ v, evE Dg 15 [.sl false 10 (tRows l)] = some v ∧ ∃ out, unfr v = .sl false 1 (zRows out) ∧ out.Pairwise (· < ·) ∧ out.length ≤ 2000 ∧ ∀ x, x ∈ out ↔ ∃ i, Last l x i by
    obtain ⟨v, h1, r, h2⟩ := h
    exact ⟨v, r, h1, h2⟩
  have eL := tRows_len l
  have H : ∀ (s0 : St) (E : Option Out), evLoop (evCode (evC Dg) 1100 c15b0) [0, 3, 4] 2 1100 s0 = E → norm [0, 3, 4] 2 s0 = S15 l 0 none →
      (∃ o, (∃ r, (o = none ∧ r = [] ∨ o = some r) ∧ Good15 l l.length r) ∧ E = evCode (evC Dg) 1100 c15b0 (S15 l l.length o)) ∨ (∃ s, E = some (.ret s) ∧ False) := by
    intro s0 E hE h0
    refine loop_inv (body := evCode (evC Dg) 1100 c15b0) (keep := [0, 3, 4]) (n0 := 2) (fuel := 1100) l (S15 l) (fun k o => ∃ r, (o = none ∧ r = [] ∨ o = some r) ∧ Good15 l k r) (fun _ => False) ?_ ?_ (by omega) none ⟨[], .inl ⟨rfl, rfl⟩, .nil, by simp, fun x => by simp⟩ s0 E hE h0
    · rintro k s o ha hk ⟨r, hr, g⟩
      left
      obtain ⟨o', r', a1, a2, s', a3, a4⟩ := step15 l hl k s ha o r hr g
      exact ⟨o', s', a3, a4, r', a1, a2⟩
    · intro o _ s
      unfold c15b0
      simp [evCode, evOps, evOne, evOp, evPur, evEff, evPur.chunks, fillP, AOp.isEff, AO.ev, putP, PV.cells, PV.leaf, getB, getM, mapE, iterE, keyC, mapRows, mfind, eq1, eqL, scal, binP, unP, minP, maxP, foldP, PV.lt, PV.lt.ltL, endP, expoAll, expoG, expo, expo.expoL, frIds, frIds.frIdsL, nodupN, kill, cls, clsFuel, resO, RV.get, loadP, evC_p, evC_s, endS, endT, rowsOf, callP, thinL, unfr, unfr.unfrL, PV.noMem, PV.noMem.noMemL, optI, mapO, norm, trimT, trimB, forget, hasN, blksLt, List.set, softChk, softGo, softRd, effTg, rdP, S15, eL]
  have hall : ∀ x, (∃ i, i < l.length ∧ Last l x i) ↔ ∃ i, Last l x i := fun x => ⟨fun ⟨i, _, h⟩ => ⟨i, h⟩, fun ⟨i, h⟩ => ⟨i, (by obtain ⟨t, h1, _⟩ := h; exact (List.getElem?_eq_some_iff.1 h1).1), h⟩⟩
  refine evE_introX 1100 D15 rfl ?_
  unfold c15
  simp [evCode, evOps, evOne, evOp, evPur, evEff, evPur.chunks, fillP, AOp.isEff, AO.ev, putP, PV.cells, PV.leaf, getB, getM, mapE, iterE, keyC, mapRows, mfind, eq1, eqL, scal, binP, unP, minP, maxP, foldP, PV.lt, PV.lt.ltL, endP, expoAll, expoG, expo, expo.expoL, frIds, frIds.frIdsL, nodupN, kill, cls, clsFuel, resO, RV.get, loadP, evC_p, evC_s, endS, endT, rowsOf, callP, thinL, unfr, unfr.unfrL, PV.noMem, PV.noMem.noMemL, optI, mapO, norm, trimT, trimB, forget, hasN, blksLt, List.set, softChk, softGo, softRd, effTg, rdP, eL]
  generalize hE : evLoop _ _ _ _ _ = E
  rcases H _ _ hE (by simp [evCode, evOps, evOne, evOp, evPur, evEff, evPur.chunks, fillP, AOp.isEff, AO.ev, putP, PV.cells, PV.leaf, getB, getM, mapE, iterE, keyC, mapRows, mfind, eq1, eqL, scal, binP, unP, minP, maxP, foldP, PV.lt, PV.lt.ltL, endP, expoAll, expoG, expo, expo.expoL, frIds, frIds.frIdsL, nodupN, kill, cls, clsFuel, resO, RV.get, loadP, evC_p, evC_s, endS, endT, rowsOf, callP, thinL, unfr, unfr.unfrL, PV.noMem, PV.noMem.noMemL, optI, mapO, norm, trimT, trimB, forget, hasN, blksLt, List.set, softChk, softGo, softRd, effTg, rdP, S15, slotP]) with ⟨o, ⟨r, hr, g1, g2, g3⟩, hx⟩ | ⟨_, _, h⟩
  · have g3' := fun x => (g3 x).trans (hall x)
    rw [hx]
    rcases hr with ⟨rfl, rfl⟩ | rfl
    · unfold c15b0
      simp [evCode, evOps, evOne, evOp, evPur, evEff, evPur.chunks, fillP, AOp.isEff, AO.ev, putP, PV.cells, PV.leaf, getB, getM, mapE, iterE, keyC, mapRows, mfind, eq1, eqL, scal, binP, unP, minP, maxP, foldP, PV.lt, PV.lt.ltL, endP, expoAll, expoG, expo, expo.expoL, frIds, frIds.frIdsL, nodupN, kill, cls, clsFuel, resO, RV.get, loadP, evC_p, evC_s, endS, endT, rowsOf, callP, thinL, unfr, unfr.unfrL, PV.noMem, PV.noMem.noMemL, optI, mapO, norm, trimT, trimB, forget, hasN, blksLt, List.set, softChk, softGo, softRd, effTg, rdP, S15, slotP, eL]
      exact ⟨[], rfl, g1, by simp, g3'⟩
    · unfold c15b0
      simp [evCode, evOps, evOne, evOp, evPur, evEff, evPur.chunks, fillP, AOp.isEff, AO.ev, putP, PV.cells, PV.leaf, getB, getM, mapE, iterE, keyC, mapRows, mfind, eq1, eqL, scal, binP, unP, minP, maxP, foldP, PV.lt, PV.lt.ltL, endP, expoAll, expoG, expo, expo.expoL, frIds, frIds.frIdsL, nodupN, kill, cls, clsFuel, resO, RV.get, loadP, evC_p, evC_s, endS, endT, rowsOf, callP, thinL, unfr, unfr.unfrL, PV.noMem, PV.noMem.noMemL, optI, mapO, norm, trimT, trimB, forget, hasN, blksLt, List.set, softChk, softGo, softRd, effTg, rdP, S15, slotP, eL]
      exact ⟨r, rfl, g1, by omega, g3'⟩
  · exact h.elim

theorem sorted_strict {l : List Int} (h : l.Nodup) : (sortZ l).Pairwise (· < ·) := by
  have h1 := sortZ_sorted l
  have h2 : (sortZ l).Nodup := (sortZ_perm l).nodup_iff.2 h
  have h3 := List.Pairwise.and h1 h2
  refine h3.imp ?_
  intro a b ⟨x, y⟩
  have x' : a ≤ b := by simpa using x
  have y' : a ≠ b := y
  omega
theorem f14 (l : List Tm) (hl : l.length ≤ 300) : evE Dg 14 [.sl false 10 (tRows l)] = some (.fr 1 (zRows (sortZ (opens l)))) := by
  refine evE_ext D14 rfl ?_
  unfold openX
  have h := tmsOf_rows l
  have h2 : l.length ≤ 100000 := by omega
  simp [h, h2, zRows_int]
set_option maxRecDepth 100000 in
theorem f3 (l : List Tm) : evE Dg 3 [.sl false 10 (tRows l)] = some (.bool true) := by
  refine evE_intro 1 D3 rfl ?_
  have eL := tRows_len l
  have h9 := f9
  by_cases hl : 300 < l.length
  · have hl' : (300 : Int) < l.length := by omega
    unfold c3
    simp [evCode, evOps, evOne, evOp, evPur, evEff, evPur.chunks, fillP, AOp.isEff, AO.ev, putP, PV.cells, PV.leaf, getB, getM, mapE, iterE, keyC, mapRows, mfind, eq1, eqL, scal, binP, unP, minP, maxP, foldP, PV.lt, PV.lt.ltL, endP, expoAll, expoG, expo, expo.expoL, frIds, frIds.frIdsL, nodupN, kill, cls, clsFuel, resO, RV.get, loadP, evC_p, evC_s, endS, endT, rowsOf, callP, thinL, unfr, unfr.unfrL, PV.noMem, PV.noMem.noMemL, optI, mapO, norm, trimT, trimB, forget, hasN, blksLt, List.set, softChk, softGo, softRd, effTg, rdP, eL, hl, hl', h9]
  · have hl' : ¬ (300 : Int) < l.length := by omega
    have h1 := f11 false l (by omega)
    have h2 := f12 false l (by omega)
    have hf := flows_len l l.length
    have h3 := f10 false false (flows l l.length) (by omega)
    have h4 := f14 l (by omega)
    obtain ⟨v, out, p1, u1, q1, n1, m1⟩ := f15 l (by omega)
    have hout : sortZ (opens l) = out := inc_ext (sorted_strict (opens_nodup l)) q1 (fun x => by rw [(sortZ_perm _).mem_iff, opens_mem, m1])
    rw [hout] at h4
    have h5 := f13 out n1
    generalize flows l l.length = F at *
    unfold c3
    simp [evCode, evOps, evOne, evOp, evPur, evEff, evPur.chunks, fillP, AOp.isEff, AO.ev, putP, PV.cells, PV.leaf, getB, getM, mapE, iterE, keyC, mapRows, mfind, eq1, eqL, scal, binP, unP, minP, maxP, foldP, PV.lt, PV.lt.ltL, endP, expoAll, expoG, expo, expo.expoL, frIds, frIds.frIdsL, nodupN, kill, cls, clsFuel, resO, RV.get, loadP, evC_p, evC_s, endS, endT, rowsOf, callP, thinL, unfr, unfr.unfrL, PV.noMem, PV.noMem.noMemL, optI, mapO, norm, trimT, trimB, forget, hasN, blksLt, List.set, softChk, softGo, softRd, effTg, rdP, eL, hl, hl', h9, h1, h2, h3, h4, p1, u1, h5]
theorem law3 (ps : List PV) (h : ArgL Try.prog 12 [22] ps) : evE Dg 3 ps = some (.bool true) := by
  obtain ⟨p, rfl, h1⟩ := argL1 h
  obtain ⟨l, rfl⟩ := in_timed h1
  exact f3 l
end Go.Proofs.Ytlnaibkpmklkiaa
