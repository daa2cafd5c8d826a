/- Check of both. -/
import Derived.Test.YtlnaibkpmklkiaaFlA
namespace Go.Proofs.Ytlnaibkpmklkiaa
open Go Go.RowKit
set_option linter.unusedVariables false
set_option linter.unusedSimpArgs false

def good (f : Fl) : Bool := okN f.i && okI f.a f.b && okI f.c f.d && okT f.s && okT f.r
def pre (l : List Fl) (k : Nat) : Int := ((l[k - 1]?).map Fl.r).getD 0
def errF (l : List Fl) (k : Nat) (f : Fl) : Int := if good f = true then (if f.s > f.r then 11 else if 0 < k ∧ f.r < pre l k then 11 else 0) else 2

def S16 (ex : Bool) (l : List Fl) (k : Nat) : St := ⟨[.sl ex 7 (fRows l), .top, .top, .top, .top, .sl ex 7 (fRows l), .int .i64 l.length, .int .i64 k] ++ List.replicate 53 .top, []⟩
theorem pre_get {l : List Fl} {k : Nat} (h0 : 0 < k) (hk : k ≤ l.length) : ∃ p, l[k - 1]? = some p ∧ pre l k = p.r := by
  have h : l[k - 1]? = some l[k - 1] := List.getElem?_eq_getElem (by omega)
  exact ⟨_, h, by simp [pre, h]⟩
theorem good_parts {f : Fl} : good f = true ↔ okN f.i = true ∧ okI f.a f.b = true ∧ okI f.c f.d = true ∧ okT f.s = true ∧ okT f.r = true := by
  simp [good, and_assoc]

def R16 (z : Int) (s : St) : Prop := s.sl.getD 2 .top = .int .i64 z
set_option maxRecDepth 100000 in
theorem bad16 (ex : Bool) (l : List Fl) (k : Nat) (f : Fl) (hl : l.length ≤ 2000) (hf : l[k]? = some f) (hg : ¬ good f = true) : ∃ s', evCode (evC Dg) 3000 c16b0 (S16 ex l k) = some (.ret s') ∧ R16 2 s' := by
  have hk : k < l.length := (List.getElem?_eq_some_iff.1 hf).1
  have hk' : (k : Int) < l.length := by omega
  have eL := fRows_len l
  have eg := fRows_get hf
  have eg' := fRows_getE hf
  have c1 := f29 f.i
  have c2 := f30 f.a f.b
  have c3 := f30 f.c f.d
  have c4 := f31 f.s
  have c5 := f31 f.r
  simp only [good] at hg
  generalize okN f.i = g1 at *
  generalize okI f.a f.b = g2 at *
  generalize okI f.c f.d = g3 at *
  generalize okT f.s = g4 at *
  generalize okT f.r = g5 at *
  unfold c16b0
  cases g1
  · simp [evCode, evOps, evOne, evOp, evPur, evEff, evPur.chunks, fillP, AOp.isEff, AO.ev, putP, PV.cells, PV.leaf, getB, getM, mapE, iterE, keyC, mapRows, mfind, eq1, eqL, scal, binP, unP, minP, maxP, foldP, PV.lt, PV.lt.ltL, endP, expoAll, expoG, expo, expo.expoL, frIds, frIds.frIdsL, nodupN, kill, cls, clsFuel, resO, RV.get, loadP, evC_p, evC_s, endS, endT, rowsOf, callP, thinL, unfr, unfr.unfrL, PV.noMem, PV.noMem.noMemL, optI, mapO, norm, trimT, trimB, forget, hasN, blksLt, List.set, softChk, softGo, softRd, effTg, rdP, S16, R16, hk, hk', eL, eg, eg', fRow, c1]
  cases g2
  · simp [evCode, evOps, evOne, evOp, evPur, evEff, evPur.chunks, fillP, AOp.isEff, AO.ev, putP, PV.cells, PV.leaf, getB, getM, mapE, iterE, keyC, mapRows, mfind, eq1, eqL, scal, binP, unP, minP, maxP, foldP, PV.lt, PV.lt.ltL, endP, expoAll, expoG, expo, expo.expoL, frIds, frIds.frIdsL, nodupN, kill, cls, clsFuel, resO, RV.get, loadP, evC_p, evC_s, endS, endT, rowsOf, callP, thinL, unfr, unfr.unfrL, PV.noMem, PV.noMem.noMemL, optI, mapO, norm, trimT, trimB, forget, hasN, blksLt, List.set, softChk, softGo, softRd, effTg, rdP, S16, R16, hk, hk', eL, eg, eg', fRow, c1, c2]
  cases g3
  · simp [evCode, evOps, evOne, evOp, evPur, evEff, evPur.chunks, fillP, AOp.isEff, AO.ev, putP, PV.cells, PV.leaf, getB, getM, mapE, iterE, keyC, mapRows, mfind, eq1, eqL, scal, binP, unP, minP, maxP, foldP, PV.lt, PV.lt.ltL, endP, expoAll, expoG, expo, expo.expoL, frIds, frIds.frIdsL, nodupN, kill, cls, clsFuel, resO, RV.get, loadP, evC_p, evC_s, endS, endT, rowsOf, callP, thinL, unfr, unfr.unfrL, PV.noMem, PV.noMem.noMemL, optI, mapO, norm, trimT, trimB, forget, hasN, blksLt, List.set, softChk, softGo, softRd, effTg, rdP, S16, R16, hk, hk', eL, eg, eg', fRow, c1, c2, c3]
  cases g4
  · simp [evCode, evOps, evOne, evOp, evPur, evEff, evPur.chunks, fillP, AOp.isEff, AO.ev, putP, PV.cells, PV.leaf, getB, getM, mapE, iterE, keyC, mapRows, mfind, eq1, eqL, scal, binP, unP, minP, maxP, foldP, PV.lt, PV.lt.ltL, endP, expoAll, expoG, expo, expo.expoL, frIds, frIds.frIdsL, nodupN, kill, cls, clsFuel, resO, RV.get, loadP, evC_p, evC_s, endS, endT, rowsOf, callP, thinL, unfr, unfr.unfrL, PV.noMem, PV.noMem.noMemL, optI, mapO, norm, trimT, trimB, forget, hasN, blksLt, List.set, softChk, softGo, softRd, effTg, rdP, S16, R16, hk, hk', eL, eg, eg', fRow, c1, c2, c3, c4]
  cases g5
  · simp [evCode, evOps, evOne, evOp, evPur, evEff, evPur.chunks, fillP, AOp.isEff, AO.ev, putP, PV.cells, PV.leaf, getB, getM, mapE, iterE, keyC, mapRows, mfind, eq1, eqL, scal, binP, unP, minP, maxP, foldP, PV.lt, PV.lt.ltL, endP, expoAll, expoG, expo, expo.expoL, frIds, frIds.frIdsL, nodupN, kill, cls, clsFuel, resO, RV.get, loadP, evC_p, evC_s, endS, endT, rowsOf, callP, thinL, unfr, unfr.unfrL, PV.noMem, PV.noMem.noMemL, optI, mapO, norm, trimT, trimB, forget, hasN, blksLt, List.set, softChk, softGo, softRd, effTg, rdP, S16, R16, hk, hk', eL, eg, eg', fRow, c1, c2, c3, c4, c5]
  · simp at hg
set_option maxRecDepth 100000 in
theorem ord16 (ex : Bool) (l : List Fl) (k : Nat) (f : Fl) (hl : l.length ≤ 2000) (hf : l[k]? = some f) (hg : good f = true) :
    (f.s > f.r → ∃ s', evCode (evC Dg) 3000 c16b0 (S16 ex l k) = some (.ret s') ∧ R16 11 s') ∧
    (¬ f.s > f.r → 0 < k → f.r < pre l k → ∃ s', evCode (evC Dg) 3000 c16b0 (S16 ex l k) = some (.ret s') ∧ R16 11 s') ∧
    (¬ f.s > f.r → 0 < k → ¬ f.r < pre l k → ∃ s', evCode (evC Dg) 3000 c16b0 (S16 ex l k) = some (.normal s') ∧ norm [0, 5, 6, 7] 0 s' = S16 ex l (k + 1)) ∧
    (¬ f.s > f.r → ¬ 0 < k → ∃ s', evCode (evC Dg) 3000 c16b0 (S16 ex l k) = some (.normal s') ∧ norm [0, 5, 6, 7] 0 s' = S16 ex l (k + 1)) := by
  have hk : k < l.length := (List.getElem?_eq_some_iff.1 hf).1
  have hk' : (k : Int) < l.length := by omega
  have eL := fRows_len l
  have eg := fRows_get hf
  have eg' := fRows_getE hf
  obtain ⟨g1, g2, g3, g4, g5⟩ := good_parts.1 hg
  have c1 := f29 f.i
  have c2 := f30 f.a f.b
  have c3 := f30 f.c f.d
  have c4 := f31 f.s
  have c5 := f31 f.r
  rw [g1] at c1
  rw [g2] at c2
  rw [g3] at c3
  rw [g4] at c4
  rw [g5] at c5
  have w1 := wrap_i64 ((k : Int) + 1) (by omega) (by omega)
  unfold c16b0
  refine ⟨fun h => ?_, fun h h0 h2 => ?_, fun h h0 h2 => ?_, fun h h0 => ?_⟩
  · have h' : f.r < f.s := h
    simp [evCode, evOps, evOne, evOp, evPur, evEff, evPur.chunks, fillP, AOp.isEff, AO.ev, putP, PV.cells, PV.leaf, getB, getM, mapE, iterE, keyC, mapRows, mfind, eq1, eqL, scal, binP, unP, minP, maxP, foldP, PV.lt, PV.lt.ltL, endP, expoAll, expoG, expo, expo.expoL, frIds, frIds.frIdsL, nodupN, kill, cls, clsFuel, resO, RV.get, loadP, evC_p, evC_s, endS, endT, rowsOf, callP, thinL, unfr, unfr.unfrL, PV.noMem, PV.noMem.noMemL, optI, mapO, norm, trimT, trimB, forget, hasN, blksLt, List.set, softChk, softGo, softRd, effTg, rdP, S16, R16, hk, hk', eL, eg, eg', fRow, c1, c2, c3, c4, c5, h', w1]
  · obtain ⟨p, p1, p2⟩ := pre_get h0 (by omega : k ≤ l.length)
    rw [p2] at h2
    have h' : ¬ f.r < f.s := h
    have w2 := wrap_i64 ((k : Int) - 1) (by omega) (by omega)
    have e1 := fRows_get p1
    have e2 := fRows_getE p1
    have t1 : ((k : Int) - 1).toNat = k - 1 := by omega
    have t2 : 0 ≤ (k : Int) - 1 := by omega
    have t3 : (k : Int) - 1 < l.length := by omega
    have t4 : (0 : Int) < k := by omega
    have t5 : k - 1 < l.length := by omega
    have t6 : 1 ≤ k := h0
    have t7 : (1 : Int) ≤ k := by omega
    simp [evCode, evOps, evOne, evOp, evPur, evEff, evPur.chunks, fillP, AOp.isEff, AO.ev, putP, PV.cells, PV.leaf, getB, getM, mapE, iterE, keyC, mapRows, mfind, eq1, eqL, scal, binP, unP, minP, maxP, foldP, PV.lt, PV.lt.ltL, endP, expoAll, expoG, expo, expo.expoL, frIds, frIds.frIdsL, nodupN, kill, cls, clsFuel, resO, RV.get, loadP, evC_p, evC_s, endS, endT, rowsOf, callP, thinL, unfr, unfr.unfrL, PV.noMem, PV.noMem.noMemL, optI, mapO, norm, trimT, trimB, forget, hasN, blksLt, List.set, softChk, softGo, softRd, effTg, rdP, S16, R16, hk, hk', eL, eg, eg', fRow, c1, c2, c3, c4, c5, h', w1, w2, e1, e2, t1, t2, t3, t4, t5, t6, t7, h2, h0]
  · obtain ⟨p, p1, p2⟩ := pre_get h0 (by omega : k ≤ l.length)
    rw [p2] at h2
    have h' : ¬ f.r < f.s := h
    have w2 := wrap_i64 ((k : Int) - 1) (by omega) (by omega)
    have e1 := fRows_get p1
    have e2 := fRows_getE p1
    have t1 : ((k : Int) - 1).toNat = k - 1 := by omega
    have t2 : 0 ≤ (k : Int) - 1 := by omega
    have t3 : (k : Int) - 1 < l.length := by omega
    have t4 : (0 : Int) < k := by omega
    have t5 : k - 1 < l.length := by omega
    have t6 : 1 ≤ k := h0
    have t7 : (1 : Int) ≤ k := by omega
    simp [evCode, evOps, evOne, evOp, evPur, evEff, evPur.chunks, fillP, AOp.isEff, AO.ev, putP, PV.cells, PV.leaf, getB, getM, mapE, iterE, keyC, mapRows, mfind, eq1, eqL, scal, binP, unP, minP, maxP, foldP, PV.lt, PV.lt.ltL, endP, expoAll, expoG, expo, expo.expoL, frIds, frIds.frIdsL, nodupN, kill, cls, clsFuel, resO, RV.get, loadP, evC_p, evC_s, endS, endT, rowsOf, callP, thinL, unfr, unfr.unfrL, PV.noMem, PV.noMem.noMemL, optI, mapO, norm, trimT, trimB, forget, hasN, blksLt, List.set, softChk, softGo, softRd, effTg, rdP, S16, R16, hk, hk', eL, eg, eg', fRow, c1, c2, c3, c4, c5, h', w1, w2, e1, e2, t1, t2, t3, t4, t5, t6, t7, h2, h0]
  · have h' : ¬ f.r < f.s := h
    have t4 : ¬ (0 : Int) < k := by omega
    obtain rfl : k = 0 := by omega
    have w0 := wrap_i64 1 (by omega) (by omega)
    simp [evCode, evOps, evOne, evOp, evPur, evEff, evPur.chunks, fillP, AOp.isEff, AO.ev, putP, PV.cells, PV.leaf, getB, getM, mapE, iterE, keyC, mapRows, mfind, eq1, eqL, scal, binP, unP, minP, maxP, foldP, PV.lt, PV.lt.ltL, endP, expoAll, expoG, expo, expo.expoL, frIds, frIds.frIdsL, nodupN, kill, cls, clsFuel, resO, RV.get, loadP, evC_p, evC_s, endS, endT, rowsOf, callP, thinL, unfr, unfr.unfrL, PV.noMem, PV.noMem.noMemL, optI, mapO, norm, trimT, trimB, forget, hasN, blksLt, List.set, softChk, softGo, softRd, effTg, rdP, w0, S16, R16, hk, hk', eL, eg, eg', fRow, c1, c2, c3, c4, c5, h', w1, t4]
theorem errF_cases (l : List Fl) (k : Nat) (f : Fl) : (errF l k f = 0 ∧ good f = true ∧ ¬ f.s > f.r ∧ (0 < k → ¬ f.r < pre l k)) ∨ (errF l k f = 2 ∧ ¬ good f = true) ∨ (errF l k f = 11 ∧ good f = true ∧ (f.s > f.r ∨ (¬ f.s > f.r ∧ 0 < k ∧ f.r < pre l k))) := by
  unfold errF
  by_cases h1 : good f = true
  · by_cases h2 : f.s > f.r
    · exact .inr (.inr ⟨by rw [if_pos h1, if_pos h2], h1, .inl h2⟩)
    · by_cases h3 : 0 < k ∧ f.r < pre l k
      · exact .inr (.inr ⟨by rw [if_pos h1, if_neg h2, if_pos h3], h1, .inr ⟨h2, h3.1, h3.2⟩⟩)
      · exact .inl ⟨by rw [if_pos h1, if_neg h2, if_neg h3], h1, h2, fun a b => h3 ⟨a, b⟩⟩
  · exact .inr (.inl ⟨by rw [if_neg h1], h1⟩)
set_option maxRecDepth 100000 in
theorem f16 (ex : Bool) (l : List Fl) (hl : l.length ≤ 2000) : evE Dg 16 [.sl ex 7 (fRows l)] = some (.int .i64 (firstF (errF l) l 0)) := by
  refine evE_intro 3000 D16 rfl ?_
  unfold c16
  have eL := fRows_len l
  simp [evCode, evOps, evOne, evOp, evPur, evEff, evPur.chunks, fillP, AOp.isEff, AO.ev, putP, PV.cells, PV.leaf, getB, getM, mapE, iterE, keyC, mapRows, mfind, eq1, eqL, scal, binP, unP, minP, maxP, foldP, PV.lt, PV.lt.ltL, endP, expoAll, expoG, expo, expo.expoL, frIds, frIds.frIdsL, nodupN, kill, cls, clsFuel, resO, RV.get, loadP, evC_p, evC_s, endS, endT, rowsOf, callP, thinL, unfr, unfr.unfrL, PV.noMem, PV.noMem.noMemL, optI, mapO, norm, trimT, trimB, forget, hasN, blksLt, List.set, softChk, softGo, softRd, effTg, rdP, eL]
  generalize hE : evLoop (evCode (evC Dg) 3000 c16b0) [0, 5, 6, 7] 0 3000 _ = E
  have H := loop_first (body := evCode (evC Dg) 3000 c16b0) (keep := [0, 5, 6, 7]) (n0 := 0) (fuel := 3000) l (S16 ex l) (errF l) R16 ?_ ?_ ?_ (by omega) _ E hE (by simp [evCode, evOps, evOne, evOp, evPur, evEff, evPur.chunks, fillP, AOp.isEff, AO.ev, putP, PV.cells, PV.leaf, getB, getM, mapE, iterE, keyC, mapRows, mfind, eq1, eqL, scal, binP, unP, minP, maxP, foldP, PV.lt, PV.lt.ltL, endP, expoAll, expoG, expo, expo.expoL, frIds, frIds.frIdsL, nodupN, kill, cls, clsFuel, resO, RV.get, loadP, evC_p, evC_s, endS, endT, rowsOf, callP, thinL, unfr, unfr.unfrL, PV.noMem, PV.noMem.noMemL, optI, mapO, norm, trimT, trimB, forget, hasN, blksLt, List.set, softChk, softGo, softRd, effTg, rdP, S16])
  · rcases H with ⟨h0, rfl⟩ | ⟨h0, s, rfl, hR⟩
    · rw [h0]
      unfold c16b0
      simp [evCode, evOps, evOne, evOp, evPur, evEff, evPur.chunks, fillP, AOp.isEff, AO.ev, putP, PV.cells, PV.leaf, getB, getM, mapE, iterE, keyC, mapRows, mfind, eq1, eqL, scal, binP, unP, minP, maxP, foldP, PV.lt, PV.lt.ltL, endP, expoAll, expoG, expo, expo.expoL, frIds, frIds.frIdsL, nodupN, kill, cls, clsFuel, resO, RV.get, loadP, evC_p, evC_s, endS, endT, rowsOf, callP, thinL, unfr, unfr.unfrL, PV.noMem, PV.noMem.noMemL, optI, mapO, norm, trimT, trimB, forget, hasN, blksLt, List.set, softChk, softGo, softRd, effTg, rdP, S16, eL]
    · generalize firstF (errF l) l 0 = z at *
      obtain ⟨sl, bl⟩ := s
      have hR' : sl[2]?.getD PV.top = .int .i64 z := by rw [← List.getD_eq_getElem?_getD]; exact hR
      simp [evCode, evOps, evOne, evOp, evPur, evEff, evPur.chunks, fillP, AOp.isEff, AO.ev, putP, PV.cells, PV.leaf, getB, getM, mapE, iterE, keyC, mapRows, mfind, eq1, eqL, scal, binP, unP, minP, maxP, foldP, PV.lt, PV.lt.ltL, endP, expoAll, expoG, expo, expo.expoL, frIds, frIds.frIdsL, nodupN, kill, cls, clsFuel, resO, RV.get, loadP, evC_p, evC_s, endS, endT, rowsOf, callP, thinL, unfr, unfr.unfrL, PV.noMem, PV.noMem.noMemL, optI, mapO, norm, trimT, trimB, forget, hasN, blksLt, List.set, softChk, softGo, softRd, effTg, rdP, hR']
  · intro k f hf hk h0
    obtain ⟨o1, o2, o3, o4⟩ := ord16 ex l k f hl hf (by rcases errF_cases l k f with h | h | h <;> first | exact h.2.1 | omega)
    rcases errF_cases l k f with ⟨_, h1, h2, h3⟩ | ⟨h, _⟩ | ⟨h, _⟩
    · by_cases hk0 : 0 < k
      · exact o3 h2 hk0 (h3 hk0)
      · exact o4 h2 hk0
    · omega
    · omega
  · intro k f hf hk h0
    rcases errF_cases l k f with ⟨h, _⟩ | ⟨h, h1⟩ | ⟨h, h1, h2⟩
    · omega
    · rw [h]; exact bad16 ex l k f hl hf h1
    · obtain ⟨o1, o2, o3, o4⟩ := ord16 ex l k f hl hf h1
      rw [h]
      rcases h2 with h2 | ⟨h2, h3, h4⟩
      · exact o1 h2
      · exact o2 h2 h3 h4
  · intro s
    unfold c16b0
    simp [evCode, evOps, evOne, evOp, evPur, evEff, evPur.chunks, fillP, AOp.isEff, AO.ev, putP, PV.cells, PV.leaf, getB, getM, mapE, iterE, keyC, mapRows, mfind, eq1, eqL, scal, binP, unP, minP, maxP, foldP, PV.lt, PV.lt.ltL, endP, expoAll, expoG, expo, expo.expoL, frIds, frIds.frIdsL, nodupN, kill, cls, clsFuel, resO, RV.get, loadP, evC_p, evC_s, endS, endT, rowsOf, callP, thinL, unfr, unfr.unfrL, PV.noMem, PV.noMem.noMemL, optI, mapO, norm, trimT, trimB, forget, hasN, blksLt, List.set, softChk, softGo, softRd, effTg, rdP, S16, eL]
end Go.Proofs.Ytlnaibkpmklkiaa
