/- FlowAccepts. -/
import Derived.Test.YtlnaibkpmklkiaaOfC
namespace Go.Proofs.Ytlnaibkpmklkiaa
open Go Go.RowKit
set_option linter.unusedVariables false
set_option linter.unusedSimpArgs false

def inN (n : Int) : Prop := ¬ n < 0 ∧ ¬ 1000000000000000 < n
def goodT (t : Tm) : Prop := inN t.th ∧ inN t.se ∧ inN t.n
instance (n : Int) : Decidable (inN n) := by unfold inN; infer_instance
instance (t : Tm) : Decidable (goodT t) := by unfold goodT; infer_instance
def preT (l : List Tm) (k : Nat) : Int := ((l[k - 1]?).map tmT).getD 0
def accF (l : List Tm) (k : Nat) (t : Tm) : Int := if goodT t then (if 0 < k ∧ tmT t < preT l k then 1 else 0) else 1
theorem preT_get {l : List Tm} {k : Nat} (h0 : 0 < k) (hk : k ≤ l.length) : ∃ p, l[k - 1]? = some p ∧ preT l k = tmT p := by
  have h : l[k - 1]? = some l[k - 1] := List.getElem?_eq_getElem (by omega)
  exact ⟨_, h, by simp [preT, h]⟩
theorem accF_cases (l : List Tm) (k : Nat) (t : Tm) : (accF l k t = 0 ∧ goodT t ∧ (0 < k → ¬ tmT t < preT l k)) ∨ (accF l k t = 1 ∧ ¬ goodT t) ∨ (accF l k t = 1 ∧ goodT t ∧ 0 < k ∧ tmT t < preT l k) := by
  unfold accF
  by_cases h1 : goodT t
  · by_cases h3 : 0 < k ∧ tmT t < preT l k
    · exact .inr (.inr ⟨by rw [if_pos h1, if_pos h3], h1, h3.1, h3.2⟩)
    · exact .inl ⟨by rw [if_pos h1, if_neg h3], h1, fun a b => h3 ⟨a, b⟩⟩
  · exact .inr (.inl ⟨by rw [if_neg h1], h1⟩)

def S7 (l : List Tm) (k : Nat) : St := ⟨[.sl false 10 (tRows l), .top, .top, .int .i64 k] ++ List.replicate 72 .top, []⟩
def R7 (z : Int) (s : St) : Prop := s.sl.getD 2 .top = .bool true
set_option maxHeartbeats 4000000 in
set_option maxRecDepth 100000 in
theorem bad7 (l : List Tm) (k : Nat) (t : Tm) (hl : l.length ≤ 2000) (hf : l[k]? = some t) (hg : ¬ goodT t) : ∃ s', evCode (evC Dg) 3000 c7b0 (S7 l k) = some (.ret s') ∧ R7 1 s' := by
  have hk : k < l.length := (List.getElem?_eq_some_iff.1 hf).1
  have hk' : (k : Int) < l.length := by omega
  have eL := tRows_len l
  have eg := tRows_get hf
  have eg' := tRows_getE hf
  have g1 := tmh1 t
  have g2 := tmh2 t
  have h9 := f9
  unfold c7b0
  by_cases h1 : t.th < 0
  · simp [evCode, evOps, evOne, evOp, evPur, evEff, evPur.chunks, fillP, AOp.isEff, AO.ev, putP, PV.cells, PV.leaf, getB, getM, mapE, iterE, keyC, mapRows, mfind, eq1, eqL, scal, binP, unP, minP, maxP, foldP, PV.lt, PV.lt.ltL, endP, expoAll, expoG, expo, expo.expoL, frIds, frIds.frIdsL, nodupN, kill, cls, clsFuel, resO, RV.get, loadP, evC_p, evC_s, endS, endT, rowsOf, callP, thinL, unfr, unfr.unfrL, PV.noMem, PV.noMem.noMemL, optI, mapO, norm, trimT, trimB, forget, hasN, blksLt, List.set, softChk, softGo, softRd, effTg, rdP, S7, R7, hk, hk', eL, eg, eg', tRow, ↓g1, ↓g2, h1, h9]
  by_cases h2 : 1000000000000000 < t.th
  · simp [evCode, evOps, evOne, evOp, evPur, evEff, evPur.chunks, fillP, AOp.isEff, AO.ev, putP, PV.cells, PV.leaf, getB, getM, mapE, iterE, keyC, mapRows, mfind, eq1, eqL, scal, binP, unP, minP, maxP, foldP, PV.lt, PV.lt.ltL, endP, expoAll, expoG, expo, expo.expoL, frIds, frIds.frIdsL, nodupN, kill, cls, clsFuel, resO, RV.get, loadP, evC_p, evC_s, endS, endT, rowsOf, callP, thinL, unfr, unfr.unfrL, PV.noMem, PV.noMem.noMemL, optI, mapO, norm, trimT, trimB, forget, hasN, blksLt, List.set, softChk, softGo, softRd, effTg, rdP, S7, R7, hk, hk', eL, eg, eg', tRow, ↓g1, ↓g2, h1, h2, h9]
  by_cases h3 : t.se < 0
  · simp [evCode, evOps, evOne, evOp, evPur, evEff, evPur.chunks, fillP, AOp.isEff, AO.ev, putP, PV.cells, PV.leaf, getB, getM, mapE, iterE, keyC, mapRows, mfind, eq1, eqL, scal, binP, unP, minP, maxP, foldP, PV.lt, PV.lt.ltL, endP, expoAll, expoG, expo, expo.expoL, frIds, frIds.frIdsL, nodupN, kill, cls, clsFuel, resO, RV.get, loadP, evC_p, evC_s, endS, endT, rowsOf, callP, thinL, unfr, unfr.unfrL, PV.noMem, PV.noMem.noMemL, optI, mapO, norm, trimT, trimB, forget, hasN, blksLt, List.set, softChk, softGo, softRd, effTg, rdP, S7, R7, hk, hk', eL, eg, eg', tRow, ↓g1, ↓g2, h1, h2, h3, h9]
  by_cases h4 : 1000000000000000 < t.se
  · simp [evCode, evOps, evOne, evOp, evPur, evEff, evPur.chunks, fillP, AOp.isEff, AO.ev, putP, PV.cells, PV.leaf, getB, getM, mapE, iterE, keyC, mapRows, mfind, eq1, eqL, scal, binP, unP, minP, maxP, foldP, PV.lt, PV.lt.ltL, endP, expoAll, expoG, expo, expo.expoL, frIds, frIds.frIdsL, nodupN, kill, cls, clsFuel, resO, RV.get, loadP, evC_p, evC_s, endS, endT, rowsOf, callP, thinL, unfr, unfr.unfrL, PV.noMem, PV.noMem.noMemL, optI, mapO, norm, trimT, trimB, forget, hasN, blksLt, List.set, softChk, softGo, softRd, effTg, rdP, S7, R7, hk, hk', eL, eg, eg', tRow, ↓g1, ↓g2, h1, h2, h3, h4, h9]
  by_cases h5 : t.n < 0
  · simp [evCode, evOps, evOne, evOp, evPur, evEff, evPur.chunks, fillP, AOp.isEff, AO.ev, putP, PV.cells, PV.leaf, getB, getM, mapE, iterE, keyC, mapRows, mfind, eq1, eqL, scal, binP, unP, minP, maxP, foldP, PV.lt, PV.lt.ltL, endP, expoAll, expoG, expo, expo.expoL, frIds, frIds.frIdsL, nodupN, kill, cls, clsFuel, resO, RV.get, loadP, evC_p, evC_s, endS, endT, rowsOf, callP, thinL, unfr, unfr.unfrL, PV.noMem, PV.noMem.noMemL, optI, mapO, norm, trimT, trimB, forget, hasN, blksLt, List.set, softChk, softGo, softRd, effTg, rdP, S7, R7, hk, hk', eL, eg, eg', tRow, ↓g1, ↓g2, h1, h2, h3, h4, h5, h9]
  by_cases h6 : 1000000000000000 < t.n
  · simp [evCode, evOps, evOne, evOp, evPur, evEff, evPur.chunks, fillP, AOp.isEff, AO.ev, putP, PV.cells, PV.leaf, getB, getM, mapE, iterE, keyC, mapRows, mfind, eq1, eqL, scal, binP, unP, minP, maxP, foldP, PV.lt, PV.lt.ltL, endP, expoAll, expoG, expo, expo.expoL, frIds, frIds.frIdsL, nodupN, kill, cls, clsFuel, resO, RV.get, loadP, evC_p, evC_s, endS, endT, rowsOf, callP, thinL, unfr, unfr.unfrL, PV.noMem, PV.noMem.noMemL, optI, mapO, norm, trimT, trimB, forget, hasN, blksLt, List.set, softChk, softGo, softRd, effTg, rdP, S7, R7, hk, hk', eL, eg, eg', tRow, ↓g1, ↓g2, h1, h2, h3, h4, h5, h6, h9]
  exact absurd ⟨⟨h1, h2⟩, ⟨h3, h4⟩, ⟨h5, h6⟩⟩ hg
set_option maxHeartbeats 4000000 in
set_option maxRecDepth 100000 in
theorem ord7 (l : List Tm) (k : Nat) (t : Tm) (hl : l.length ≤ 2000) (hf : l[k]? = some t) (hg : goodT t) :
    (0 < k → tmT t < preT l k → ∃ s', evCode (evC Dg) 3000 c7b0 (S7 l k) = some (.ret s') ∧ R7 1 s') ∧
    (0 < k → ¬ tmT t < preT l k → ∃ s', evCode (evC Dg) 3000 c7b0 (S7 l k) = some (.normal s') ∧ norm [0, 3] 0 s' = S7 l (k + 1)) ∧
    (¬ 0 < k → ∃ s', evCode (evC Dg) 3000 c7b0 (S7 l k) = some (.normal s') ∧ norm [0, 3] 0 s' = S7 l (k + 1)) := by
  have hk : k < l.length := (List.getElem?_eq_some_iff.1 hf).1
  have hk' : (k : Int) < l.length := by omega
  have eL := tRows_len l
  have eg := tRows_get hf
  have eg' := tRows_getE hf
  have g1 := tmh1 t
  have g2 := tmh2 t
  have h9 := f9
  obtain ⟨⟨h1, h2⟩, ⟨h3, h4⟩, ⟨h5, h6⟩⟩ := hg
  have w1 := wrap_i64 ((k : Int) + 1) (by omega) (by omega)
  have q1 := f22 t
  simp only [tRow] at q1
  refine ⟨fun h0 h => ?_, fun h0 h => ?_, fun h0 => ?_⟩
  · obtain ⟨p, p1, p2⟩ := preT_get h0 (by omega : k ≤ l.length)
    rw [p2] at h
    have w2 := wrap_i64 ((k : Int) - 1) (by omega) (by omega)
    have e1 := tRows_get p1
    have e2 := tRows_getE p1
    have q2 := f22 p
    have g3 := tmh1 p
    have g4 := tmh2 p
    simp only [tRow] at q2
    have t1 : ((k : Int) - 1).toNat = k - 1 := by omega
    have t2 : 0 ≤ (k : Int) - 1 := by omega
    have t3 : (k : Int) - 1 < l.length := by omega
    have t4 : (0 : Int) < k := by omega
    have t5 : k - 1 < l.length := by omega
    have t6 : 1 ≤ k := h0
    have t7 : (1 : Int) ≤ k := by omega
    unfold c7b0
    simp [evCode, evOps, evOne, evOp, evPur, evEff, evPur.chunks, fillP, AOp.isEff, AO.ev, putP, PV.cells, PV.leaf, getB, getM, mapE, iterE, keyC, mapRows, mfind, eq1, eqL, scal, binP, unP, minP, maxP, foldP, PV.lt, PV.lt.ltL, endP, expoAll, expoG, expo, expo.expoL, frIds, frIds.frIdsL, nodupN, kill, cls, clsFuel, resO, RV.get, loadP, evC_p, evC_s, endS, endT, rowsOf, callP, thinL, unfr, unfr.unfrL, PV.noMem, PV.noMem.noMemL, optI, mapO, norm, trimT, trimB, forget, hasN, blksLt, List.set, softChk, softGo, softRd, effTg, rdP, S7, R7, hk, hk', eL, eg, eg', tRow, ↓g1, ↓g2, ↓g3, ↓g4, h1, h2, h3, h4, h5, h6, h9, w1, w2, e1, e2, ↓q1, ↓q2, t1, t2, t3, t4, t5, t6, t7, h, h0]
  · obtain ⟨p, p1, p2⟩ := preT_get h0 (by omega : k ≤ l.length)
    rw [p2] at h
    have w2 := wrap_i64 ((k : Int) - 1) (by omega) (by omega)
    have e1 := tRows_get p1
    have e2 := tRows_getE p1
    have q2 := f22 p
    have g3 := tmh1 p
    have g4 := tmh2 p
    simp only [tRow] at q2
    have t1 : ((k : Int) - 1).toNat = k - 1 := by omega
    have t2 : 0 ≤ (k : Int) - 1 := by omega
    have t3 : (k : Int) - 1 < l.length := by omega
    have t4 : (0 : Int) < k := by omega
    have t5 : k - 1 < l.length := by omega
    have t6 : 1 ≤ k := h0
    have t7 : (1 : Int) ≤ k := by omega
    unfold c7b0
    simp [evCode, evOps, evOne, evOp, evPur, evEff, evPur.chunks, fillP, AOp.isEff, AO.ev, putP, PV.cells, PV.leaf, getB, getM, mapE, iterE, keyC, mapRows, mfind, eq1, eqL, scal, binP, unP, minP, maxP, foldP, PV.lt, PV.lt.ltL, endP, expoAll, expoG, expo, expo.expoL, frIds, frIds.frIdsL, nodupN, kill, cls, clsFuel, resO, RV.get, loadP, evC_p, evC_s, endS, endT, rowsOf, callP, thinL, unfr, unfr.unfrL, PV.noMem, PV.noMem.noMemL, optI, mapO, norm, trimT, trimB, forget, hasN, blksLt, List.set, softChk, softGo, softRd, effTg, rdP, S7, R7, hk, hk', eL, eg, eg', tRow, ↓g1, ↓g2, ↓g3, ↓g4, h1, h2, h3, h4, h5, h6, h9, w1, w2, e1, e2, ↓q1, ↓q2, t1, t2, t3, t4, t5, t6, t7, h, h0]
  · obtain rfl : k = 0 := by omega
    have w0 := wrap_i64 1 (by omega) (by omega)
    unfold c7b0
    simp [evCode, evOps, evOne, evOp, evPur, evEff, evPur.chunks, fillP, AOp.isEff, AO.ev, putP, PV.cells, PV.leaf, getB, getM, mapE, iterE, keyC, mapRows, mfind, eq1, eqL, scal, binP, unP, minP, maxP, foldP, PV.lt, PV.lt.ltL, endP, expoAll, expoG, expo, expo.expoL, frIds, frIds.frIdsL, nodupN, kill, cls, clsFuel, resO, RV.get, loadP, evC_p, evC_s, endS, endT, rowsOf, callP, thinL, unfr, unfr.unfrL, PV.noMem, PV.noMem.noMemL, optI, mapO, norm, trimT, trimB, forget, hasN, blksLt, List.set, softChk, softGo, softRd, effTg, rdP, w0, S7, R7, hk, hk', eL, eg, eg', tRow, ↓g1, ↓g2, h1, h2, h3, h4, h5, h6, h9, w1, ↓q1]

theorem tmT_ok (t : Tm) : okT (tmT t) = true := by
  unfold okT tmT
  simp only [decide_eq_true_eq]
  split <;> split <;> omega
theorem mono_le {l : List Tm} (h : ∀ (i : Nat) (t : Tm), l[i]? = some t → 0 < i → ¬ tmT t < preT l i) {j : Nat} {s : Tm} (hs : l[j]? = some s) : ∀ (d : Nat) (t : Tm), l[j + d]? = some t → tmT s ≤ tmT t
  | 0, t, ht => by
    rw [Nat.add_zero, hs] at ht
    cases ht
    exact Int.le_refl _
  | d + 1, t, ht => by
    have hlt := (List.getElem?_eq_some_iff.1 ht).1
    obtain ⟨p, p1, p2⟩ := preT_get (l := l) (k := j + (d + 1)) (by omega) (by omega)
    have ih := mono_le h hs d p (by rw [← p1]; congr 1)
    have := h _ t ht (by omega)
    rw [p2] at this
    omega
/-- every flow is good, and they end in order -/
theorem flows_ok (l : List Tm) (hg : ∀ (i : Nat) (t : Tm), l[i]? = some t → goodT t) (hm : ∀ (i : Nat) (t : Tm), l[i]? = some t → 0 < i → ¬ tmT t < preT l i) : ∀ k, k ≤ l.length →
    (∀ f ∈ flows l k, good f = true ∧ ¬ f.s > f.r ∧ ∃ j t, j < k ∧ l[j]? = some t ∧ f.r = tmT t) ∧ (flows l k).Pairwise (fun a b => a.r ≤ b.r)
  | 0, _ => by simp [flows]
  | k + 1, hk => by
    obtain ⟨h1, h2⟩ := flows_ok l hg hm k (by omega)
    obtain ⟨t, ht⟩ : ∃ t, l[k]? = some t := ⟨l[k], List.getElem?_eq_getElem (by omega)⟩
    have h1' : ∀ f ∈ flows l k, good f = true ∧ ¬ f.s > f.r ∧ ∃ j t, j < k + 1 ∧ l[j]? = some t ∧ f.r = tmT t := fun f hf => by
      obtain ⟨a, b, j, t, c, d, e⟩ := h1 f hf
      exact ⟨a, b, j, t, by omega, d, e⟩
    simp only [flows, ht]
    split
    · cases hs : lastT l k t.n with
      | none => simp only [List.append_nil]; exact ⟨h1', h2⟩
      | some s =>
        unfold lastT at hs
        cases hi : lastI l k t.n with
        | none => rw [hi] at hs; simp at hs
        | some i =>
          rw [hi] at hs
          simp only [Option.bind_some] at hs
          have hik := (lastI_lt l t.n k i hi).1
          have hle : tmT s ≤ tmT t := mono_le hm hs (k - i) t (by rw [show i + (k - i) = k by omega]; exact ht)
          obtain ⟨⟨a1, a2⟩, ⟨a3, a4⟩, ⟨a5, a6⟩⟩ := hg k t ht
          obtain ⟨⟨b1, b2⟩, ⟨b3, b4⟩, _⟩ := hg i s hs
          have hn : ∀ n : Int, ¬ n < 0 → ¬ 1000000000000000 < n → okN n = true := fun n x y => by unfold okN; simp only [decide_eq_true_eq]; omega
          have hgood : good (mkF s t) = true := by
            rw [good_parts]
            simp only [mkF, okI, Bool.and_eq_true]
            exact ⟨hn _ a5 a6, ⟨hn _ b1 b2, hn _ b3 b4⟩, ⟨hn _ a1 a2, hn _ a3 a4⟩, tmT_ok s, tmT_ok t⟩
          refine ⟨fun f hf => ?_, ?_⟩
          · rcases List.mem_append.1 hf with hf | hf
            · exact h1' f hf
            · simp at hf
              subst hf
              exact ⟨hgood, by simp [mkF]; omega, k, t, by omega, ht, rfl⟩
          · rw [List.pairwise_append]
            refine ⟨h2, by simp, fun a ha b hb => ?_⟩
            simp at hb
            subst hb
            obtain ⟨_, _, j, t', c, d, e⟩ := h1 a ha
            rw [e]
            exact mono_le hm d (k - j) t (by rw [show j + (k - j) = k by omega]; exact ht)
    · simp only [List.append_nil]; exact ⟨h1', h2⟩
theorem firstF_ok {F : List Fl} (h1 : ∀ f ∈ F, good f = true ∧ ¬ f.s > f.r) (h2 : F.Pairwise (fun a b => a.r ≤ b.r)) : firstF (errF F) F 0 = 0 := by
  rw [firstF_zero]
  intro i f hf
  rw [Nat.zero_add]
  obtain ⟨a, b⟩ := h1 f (List.mem_of_getElem? hf)
  unfold errF
  rw [if_pos a, if_neg b]
  have hlt := (List.getElem?_eq_some_iff.1 hf).1
  rw [if_neg]
  rintro ⟨h0, hp⟩
  obtain ⟨p, p1, p2⟩ := pre_get (l := F) (k := i) h0 (by omega)
  rw [p2] at hp
  have := List.pairwise_iff_getElem.1 h2 (i - 1) i (by omega) hlt (by omega)
  rw [(List.getElem?_eq_some_iff.1 hf).2, (List.getElem?_eq_some_iff.1 p1).2] at this
  omega

set_option maxRecDepth 100000 in
theorem f7 (l : List Tm) : evE Dg 7 [.sl false 10 (tRows l)] = some (.bool true) := by
  refine evE_intro 3000 D7 rfl ?_
  unfold c7
  have eL := tRows_len l
  have h9 := f9
  by_cases hl : 300 < l.length
  · have hl' : (300 : Int) < l.length := by omega
    simp [evCode, evOps, evOne, evOp, evPur, evEff, evPur.chunks, fillP, AOp.isEff, AO.ev, putP, PV.cells, PV.leaf, getB, getM, mapE, iterE, keyC, mapRows, mfind, eq1, eqL, scal, binP, unP, minP, maxP, foldP, PV.lt, PV.lt.ltL, endP, expoAll, expoG, expo, expo.expoL, frIds, frIds.frIdsL, nodupN, kill, cls, clsFuel, resO, RV.get, loadP, evC_p, evC_s, endS, endT, rowsOf, callP, thinL, unfr, unfr.unfrL, PV.noMem, PV.noMem.noMemL, optI, mapO, norm, trimT, trimB, forget, hasN, blksLt, List.set, softChk, softGo, softRd, effTg, rdP, eL, hl, hl', h9]
  · have hl' : ¬ (300 : Int) < l.length := by omega
    simp [evCode, evOps, evOne, evOp, evPur, evEff, evPur.chunks, fillP, AOp.isEff, AO.ev, putP, PV.cells, PV.leaf, getB, getM, mapE, iterE, keyC, mapRows, mfind, eq1, eqL, scal, binP, unP, minP, maxP, foldP, PV.lt, PV.lt.ltL, endP, expoAll, expoG, expo, expo.expoL, frIds, frIds.frIdsL, nodupN, kill, cls, clsFuel, resO, RV.get, loadP, evC_p, evC_s, endS, endT, rowsOf, callP, thinL, unfr, unfr.unfrL, PV.noMem, PV.noMem.noMemL, optI, mapO, norm, trimT, trimB, forget, hasN, blksLt, List.set, softChk, softGo, softRd, effTg, rdP, eL, hl, hl', h9]
    generalize hE : evLoop (evCode (evC Dg) 3000 c7b0) [0, 3] 0 3000 _ = E
    have H := loop_first (body := evCode (evC Dg) 3000 c7b0) (keep := [0, 3]) (n0 := 0) (fuel := 3000) l (S7 l) (accF l) R7 ?_ ?_ ?_ (by omega) _ E hE (by simp [evCode, evOps, evOne, evOp, evPur, evEff, evPur.chunks, fillP, AOp.isEff, AO.ev, putP, PV.cells, PV.leaf, getB, getM, mapE, iterE, keyC, mapRows, mfind, eq1, eqL, scal, binP, unP, minP, maxP, foldP, PV.lt, PV.lt.ltL, endP, expoAll, expoG, expo, expo.expoL, frIds, frIds.frIdsL, nodupN, kill, cls, clsFuel, resO, RV.get, loadP, evC_p, evC_s, endS, endT, rowsOf, callP, thinL, unfr, unfr.unfrL, PV.noMem, PV.noMem.noMemL, optI, mapO, norm, trimT, trimB, forget, hasN, blksLt, List.set, softChk, softGo, softRd, effTg, rdP, S7])
    · rcases H with ⟨h0, rfl⟩ | ⟨h0, s, rfl, hR⟩
      · rw [firstF_zero] at h0
        have hg : ∀ (i : Nat) (t : Tm), l[i]? = some t → goodT t := fun i t ht => by
          have := h0 i t ht
          rw [Nat.zero_add] at this
          rcases accF_cases l i t with h | h | h
          · exact h.2.1
          · omega
          · exact h.2.1
        have hm : ∀ (i : Nat) (t : Tm), l[i]? = some t → 0 < i → ¬ tmT t < preT l i := fun i t ht h => by
          have := h0 i t ht
          rw [Nat.zero_add] at this
          rcases accF_cases l i t with h2 | h2 | h2
          · exact h2.2.2 h
          · omega
          · omega
        obtain ⟨k1, k2⟩ := flows_ok l hg hm l.length (Nat.le_refl _)
        have h11 := f11 false l (by omega)
        have hfl := flows_len l l.length
        have h16 := f16 false (flows l l.length) (by omega)
        rw [firstF_ok (fun f hf => ⟨(k1 f hf).1, (k1 f hf).2.1⟩) k2] at h16
        generalize flows l l.length = F at *
        unfold c7b0 c7r0
        simp [evCode, evOps, evOne, evOp, evPur, evEff, evPur.chunks, fillP, AOp.isEff, AO.ev, putP, PV.cells, PV.leaf, getB, getM, mapE, iterE, keyC, mapRows, mfind, eq1, eqL, scal, binP, unP, minP, maxP, foldP, PV.lt, PV.lt.ltL, endP, expoAll, expoG, expo, expo.expoL, frIds, frIds.frIdsL, nodupN, kill, cls, clsFuel, resO, RV.get, loadP, evC_p, evC_s, endS, endT, rowsOf, callP, thinL, unfr, unfr.unfrL, PV.noMem, PV.noMem.noMemL, optI, mapO, norm, trimT, trimB, forget, hasN, blksLt, List.set, softChk, softGo, softRd, effTg, rdP, S7, eL, h9, h11, h16]
      · obtain ⟨sl, bl⟩ := s
        have hR' : sl[2]?.getD PV.top = .bool true := by rw [← List.getD_eq_getElem?_getD]; exact hR
        simp [evCode, evOps, evOne, evOp, evPur, evEff, evPur.chunks, fillP, AOp.isEff, AO.ev, putP, PV.cells, PV.leaf, getB, getM, mapE, iterE, keyC, mapRows, mfind, eq1, eqL, scal, binP, unP, minP, maxP, foldP, PV.lt, PV.lt.ltL, endP, expoAll, expoG, expo, expo.expoL, frIds, frIds.frIdsL, nodupN, kill, cls, clsFuel, resO, RV.get, loadP, evC_p, evC_s, endS, endT, rowsOf, callP, thinL, unfr, unfr.unfrL, PV.noMem, PV.noMem.noMemL, optI, mapO, norm, trimT, trimB, forget, hasN, blksLt, List.set, softChk, softGo, softRd, effTg, rdP, hR']
    · intro k t hf hk h0
      rcases accF_cases l k t with ⟨_, h1, h2⟩ | ⟨h, _⟩ | ⟨h, _⟩
      · obtain ⟨o1, o2, o3⟩ := ord7 l k t (by omega) hf h1
        by_cases hk0 : 0 < k
        · exact o2 hk0 (h2 hk0)
        · exact o3 hk0
      · omega
      · omega
    · intro k t hf hk h0
      rcases accF_cases l k t with ⟨h, _⟩ | ⟨h, h1⟩ | ⟨h, h1, h2, h3⟩
      · omega
      · rw [h]; exact bad7 l k t (by omega) hf h1
      · rw [h]; exact (ord7 l k t (by omega) hf h1).1 h2 h3
    · intro s
      unfold c7b0
      simp [evCode, evOps, evOne, evOp, evPur, evEff, evPur.chunks, fillP, AOp.isEff, AO.ev, putP, PV.cells, PV.leaf, getB, getM, mapE, iterE, keyC, mapRows, mfind, eq1, eqL, scal, binP, unP, minP, maxP, foldP, PV.lt, PV.lt.ltL, endP, expoAll, expoG, expo, expo.expoL, frIds, frIds.frIdsL, nodupN, kill, cls, clsFuel, resO, RV.get, loadP, evC_p, evC_s, endS, endT, rowsOf, callP, thinL, unfr, unfr.unfrL, PV.noMem, PV.noMem.noMemL, optI, mapO, norm, trimT, trimB, forget, hasN, blksLt, List.set, softChk, softGo, softRd, effTg, rdP, S7, eL]
theorem law7 (ps : List PV) (h : ArgL Try.prog 12 [22] ps) : evE Dg 7 ps = some (.bool true) := by
  obtain ⟨p, rfl, h1⟩ := argL1 h
  obtain ⟨l, rfl⟩ := in_timed h1
  exact f7 l
end Go.Proofs.Ytlnaibkpmklkiaa
