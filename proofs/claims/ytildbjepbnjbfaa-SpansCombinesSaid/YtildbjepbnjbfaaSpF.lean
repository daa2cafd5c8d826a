/- spans: Length, Covers, few; Concat and Union. -/
import Derived.Test.YtildbjepbnjbfaaSpE
namespace Go.Proofs.Ytildbjepbnjbfaa
open Go Go.RowKit
set_option linter.unusedVariables false
set_option linter.unusedSimpArgs false
set_option maxHeartbeats 8000000

theorem f9 (x y : Bool) (a b : List Sp) : evE Dg 9 [eS x a, eS y b] = some (.bool (decide (a.length ≤ 25 ∧ b.length ≤ 25))) := by
  have e1 := spRows_len a
  have e2 := spRows_len b
  refine evE_intro 3 D9 rfl ?_
  unfold c9
  by_cases h1 : (a.length : Int) ≤ 25
  · have h1' : a.length ≤ 25 := by omega
    by_cases h2 : (b.length : Int) ≤ 25
    · have h2' : b.length ≤ 25 := by omega
      simp [evCode, evOps, evOne, evOp, evPur, evEff, evPur.chunks, fillP, AOp.isEff, AO.ev, putP, PV.cells, PV.leaf, getB, getM, mapE, keyC, mapRows, mfind, eq1, eqL, scal, binP, unP, minP, maxP, foldP, PV.lt, PV.lt.ltL, endP, expoAll, expo, expo.expoL, frIds, frIds.frIdsL, nodupN, kill, cls, clsFuel, resO, RV.get, loadP, evC_p, evC_s, endS, endT, rowsOf, callP, thinL, unfr, unfr.unfrL, PV.noMem, PV.noMem.noMemL, optI, mapO, norm, trimT, trimB, forget, hasN, blksLt, List.set, eS, e1, e2, h1, h2, h1', h2']
    · have h2' : ¬ b.length ≤ 25 := by omega
      simp [evCode, evOps, evOne, evOp, evPur, evEff, evPur.chunks, fillP, AOp.isEff, AO.ev, putP, PV.cells, PV.leaf, getB, getM, mapE, keyC, mapRows, mfind, eq1, eqL, scal, binP, unP, minP, maxP, foldP, PV.lt, PV.lt.ltL, endP, expoAll, expo, expo.expoL, frIds, frIds.frIdsL, nodupN, kill, cls, clsFuel, resO, RV.get, loadP, evC_p, evC_s, endS, endT, rowsOf, callP, thinL, unfr, unfr.unfrL, PV.noMem, PV.noMem.noMemL, optI, mapO, norm, trimT, trimB, forget, hasN, blksLt, List.set, eS, e1, e2, h1, h2, h1', h2']
  · have h1' : ¬ a.length ≤ 25 := by omega
    simp [evCode, evOps, evOne, evOp, evPur, evEff, evPur.chunks, fillP, AOp.isEff, AO.ev, putP, PV.cells, PV.leaf, getB, getM, mapE, keyC, mapRows, mfind, eq1, eqL, scal, binP, unP, minP, maxP, foldP, PV.lt, PV.lt.ltL, endP, expoAll, expo, expo.expoL, frIds, frIds.frIdsL, nodupN, kill, cls, clsFuel, resO, RV.get, loadP, evC_p, evC_s, endS, endT, rowsOf, callP, thinL, unfr, unfr.unfrL, PV.noMem, PV.noMem.noMemL, optI, mapO, norm, trimT, trimB, forget, hasN, blksLt, List.set, eS, e1, e2, h1, h1']
theorem f9n (x : Bool) (a : List Sp) : evE Dg 9 [eS x a, .nilS] = some (.bool (decide (a.length ≤ 25))) := by
  have e1 := spRows_len a
  refine evE_intro 3 D9 rfl ?_
  unfold c9
  by_cases h1 : (a.length : Int) ≤ 25
  · have h1' : a.length ≤ 25 := by omega
    simp [evCode, evOps, evOne, evOp, evPur, evEff, evPur.chunks, fillP, AOp.isEff, AO.ev, putP, PV.cells, PV.leaf, getB, getM, mapE, keyC, mapRows, mfind, eq1, eqL, scal, binP, unP, minP, maxP, foldP, PV.lt, PV.lt.ltL, endP, expoAll, expo, expo.expoL, frIds, frIds.frIdsL, nodupN, kill, cls, clsFuel, resO, RV.get, loadP, evC_p, evC_s, endS, endT, rowsOf, callP, thinL, unfr, unfr.unfrL, PV.noMem, PV.noMem.noMemL, optI, mapO, norm, trimT, trimB, forget, hasN, blksLt, List.set, eS, e1, h1, h1']
  · have h1' : ¬ a.length ≤ 25 := by omega
    simp [evCode, evOps, evOne, evOp, evPur, evEff, evPur.chunks, fillP, AOp.isEff, AO.ev, putP, PV.cells, PV.leaf, getB, getM, mapE, keyC, mapRows, mfind, eq1, eqL, scal, binP, unP, minP, maxP, foldP, PV.lt, PV.lt.ltL, endP, expoAll, expo, expo.expoL, frIds, frIds.frIdsL, nodupN, kill, cls, clsFuel, resO, RV.get, loadP, evC_p, evC_s, endS, endT, rowsOf, callP, thinL, unfr, unfr.unfrL, PV.noMem, PV.noMem.noMemL, optI, mapO, norm, trimT, trimB, forget, hasN, blksLt, List.set, eS, e1, h1, h1']

def S18 (l : List Sp) (k : Nat) (n : Int) : St := ⟨[.top, .top, .top, .int .i64 n, .top, .top, .top, eS false l, .int .i64 l.length, .int .i64 k] ++ List.replicate 12 .top, []⟩
def addL (n : Int) (s : Sp) : Int := n + (s.2 - s.1)
theorem addL_fold : ∀ (l : List Sp) (n : Int), l.foldl addL n = n + lenF l
  | [], n => by simp [lenF]
  | s :: l, n => by
    rw [List.foldl_cons, addL_fold l]
    simp only [addL, lenF]
    omega
set_option maxRecDepth 100000 in
theorem f18 (x : Bool) (l : List Sp) (hl : l.length ≤ 1000) : evE Dg 18 [eS x l] = some (.int .i64 (lenF (norF l))) := by
  have fl := f14 x l hl
  have ll := norF_len l
  have hN := (norF_spec l).1.1
  generalize norF l = L at *
  have e1 := spRows_len L
  have H1 := loop_foldE (body := evCode (evC Dg) (L.length + 1) c18b0) (keep := [3, 7, 8, 9]) (n0 := 0) (fuel := L.length + 1) L (S18 L) addL (fun k n => 0 ≤ n ∧ n ≤ k * 1000000000000)
    (by
      rintro k a n ha hk ⟨h1, h2⟩
      have hk' : (k : Int) < L.length := by omega
      have w1 := wrap_i64 ((k : Int) + 1) (by omega) (by omega)
      have r1 := spRows_get ha
      have g1 := spRows_got ha
      have hv := hN a (List.mem_of_getElem? ha)
      unfold vl MT at hv
      have w2 := wrap_i64 (a.2 - a.1) (by omega) (by omega)
      have w3 := wrap_i64 (n + (a.2 - a.1)) (by omega) (by omega)
      refine ⟨⟨by unfold addL; omega, by unfold addL; omega⟩, ?_⟩
      unfold c18b0
      simp [evCode, evOps, evOne, evOp, evPur, evEff, evPur.chunks, fillP, AOp.isEff, AO.ev, putP, PV.cells, PV.leaf, getB, getM, mapE, keyC, mapRows, mfind, eq1, eqL, scal, binP, unP, minP, maxP, foldP, PV.lt, PV.lt.ltL, endP, expoAll, expo, expo.expoL, frIds, frIds.frIdsL, nodupN, kill, cls, clsFuel, resO, RV.get, loadP, evC_p, evC_s, endS, endT, rowsOf, callP, thinL, unfr, unfr.unfrL, PV.noMem, PV.noMem.noMemL, optI, mapO, norm, trimT, trimB, forget, hasN, blksLt, List.set, S18, eS, e1, r1, g1, hk, hk', w1, w2, w3, addL])
    (by
      intro n hn s
      unfold c18b0
      simp [evCode, evOps, evOne, evOp, evPur, evEff, evPur.chunks, fillP, AOp.isEff, AO.ev, putP, PV.cells, PV.leaf, getB, getM, mapE, keyC, mapRows, mfind, eq1, eqL, scal, binP, unP, minP, maxP, foldP, PV.lt, PV.lt.ltL, endP, expoAll, expo, expo.expoL, frIds, frIds.frIdsL, nodupN, kill, cls, clsFuel, resO, RV.get, loadP, evC_p, evC_s, endS, endT, rowsOf, callP, thinL, unfr, unfr.unfrL, PV.noMem, PV.noMem.noMemL, optI, mapO, norm, trimT, trimB, forget, hasN, blksLt, List.set, S18, eS, e1])
    (by omega) 0 (by simp)
  simp only [eS] at fl
  refine evE_intro (L.length + 1) D18 rfl ?_
  unfold c18
  simp [evCode, evOps, evOne, evOp, evPur, evEff, evPur.chunks, fillP, AOp.isEff, AO.ev, putP, PV.cells, PV.leaf, getB, getM, mapE, keyC, mapRows, mfind, eq1, eqL, scal, binP, unP, minP, maxP, foldP, PV.lt, PV.lt.ltL, endP, expoAll, expo, expo.expoL, frIds, frIds.frIdsL, nodupN, kill, cls, clsFuel, resO, RV.get, loadP, evC_p, evC_s, endS, endT, rowsOf, callP, thinL, unfr, unfr.unfrL, PV.noMem, PV.noMem.noMemL, optI, mapO, norm, trimT, trimB, forget, hasN, blksLt, List.set, eS, fl, e1]
  generalize hE : evLoop _ _ _ _ _ = E
  obtain ⟨E1, _⟩ := H1 _ _ hE (by simp [evCode, evOps, evOne, evOp, evPur, evEff, evPur.chunks, fillP, AOp.isEff, AO.ev, putP, PV.cells, PV.leaf, getB, getM, mapE, keyC, mapRows, mfind, eq1, eqL, scal, binP, unP, minP, maxP, foldP, PV.lt, PV.lt.ltL, endP, expoAll, expo, expo.expoL, frIds, frIds.frIdsL, nodupN, kill, cls, clsFuel, resO, RV.get, loadP, evC_p, evC_s, endS, endT, rowsOf, callP, thinL, unfr, unfr.unfrL, PV.noMem, PV.noMem.noMemL, optI, mapO, norm, trimT, trimB, forget, hasN, blksLt, List.set, S18, eS])
  rw [addL_fold, Int.zero_add] at E1
  rw [E1]
  unfold c18b0
  simp [evCode, evOps, evOne, evOp, evPur, evEff, evPur.chunks, fillP, AOp.isEff, AO.ev, putP, PV.cells, PV.leaf, getB, getM, mapE, keyC, mapRows, mfind, eq1, eqL, scal, binP, unP, minP, maxP, foldP, PV.lt, PV.lt.ltL, endP, expoAll, expo, expo.expoL, frIds, frIds.frIdsL, nodupN, kill, cls, clsFuel, resO, RV.get, loadP, evC_p, evC_s, endS, endT, rowsOf, callP, thinL, unfr, unfr.unfrL, PV.noMem, PV.noMem.noMemL, optI, mapO, norm, trimT, trimB, forget, hasN, blksLt, List.set, S18, eS, e1]

theorem spRows_lt (l : List Sp) : ∀ r, r ∈ spRows l → PV.lt.ltL 0 r = true := by
  intro r hr
  simp only [spRows, List.mem_map] at hr
  obtain ⟨z, _, rfl⟩ := hr
  rfl
theorem spRows_lt' (l : List Sp) : (∀ r, r ∈ spRows l → PV.lt.ltL 0 r = true) ↔ True := iff_true_intro (spRows_lt l)
def covS (t : Int) (s : Sp) : Bool := !(decide (vl s) && decide (s.1 ≤ t) && decide (t < s.2))
theorem covS_all {t : Int} {l : List Sp} : l.all (covS t) = true ↔ ¬ setOf t l := by
  unfold setOf covS
  simp only [List.all_eq_true, Bool.not_eq_true', Bool.and_eq_false_imp, decide_eq_true_eq, decide_eq_false_iff_not, Bool.and_eq_true]
  constructor
  · rintro h ⟨s, hs, h1, h2, h3⟩
    exact h s hs ⟨h1, h2⟩ h3
  · rintro h s hs ⟨h1, h2⟩ h3
    exact h ⟨s, hs, h1, h2, h3⟩
noncomputable instance (t : Int) (l : List Sp) : Decidable (setOf t l) := Classical.propDecidable _
def S26 (x : Bool) (l : List Sp) (t : Int) (k : Nat) : St := ⟨[.top, .int .i64 t, .top, .top, .top, .top, .top, eS x l, .int .i64 l.length, .int .i64 k] ++ List.replicate 18 .top, []⟩
set_option maxRecDepth 100000 in
theorem f26 (x : Bool) (l : List Sp) (t : Int) (hl : l.length ≤ 100000) : evE Dg 26 [eS x l, .int .i64 t] = some (.bool (decide (setOf t l))) := by
  have e1 := spRows_len l
  have H := loop_all (body := evCode (evC Dg) (l.length + 1) c26b0) (keep := [1, 7, 8, 9]) (n0 := 0) (fuel := l.length + 1) l (S26 x l t) (covS t) (fun s => s.sl[4]?.getD .top = .bool true)
    (by
      intro k a ha hk hq
      have hk' : (k : Int) < l.length := by omega
      have w1 := wrap_i64 ((k : Int) + 1) (by omega) (by omega)
      have r1 := spRows_get ha
      have g1 := spRows_got ha
      have h11 := f11 a
      unfold covS at hq
      unfold c26b0
      by_cases c1 : vl a
      · by_cases c2 : a.1 ≤ t
        · have c3 : ¬ t < a.2 := by simpa [c1, c2] using hq
          simp [evCode, evOps, evOne, evOp, evPur, evEff, evPur.chunks, fillP, AOp.isEff, AO.ev, putP, PV.cells, PV.leaf, getB, getM, mapE, keyC, mapRows, mfind, eq1, eqL, scal, binP, unP, minP, maxP, foldP, PV.lt, PV.lt.ltL, endP, expoAll, expo, expo.expoL, frIds, frIds.frIdsL, nodupN, kill, cls, clsFuel, resO, RV.get, loadP, evC_p, evC_s, endS, endT, rowsOf, callP, thinL, unfr, unfr.unfrL, PV.noMem, PV.noMem.noMemL, optI, mapO, norm, trimT, trimB, forget, hasN, blksLt, List.set, S26, eS, e1, r1, g1, hk, hk', w1, h11, c1, c2, c3]
        · simp [evCode, evOps, evOne, evOp, evPur, evEff, evPur.chunks, fillP, AOp.isEff, AO.ev, putP, PV.cells, PV.leaf, getB, getM, mapE, keyC, mapRows, mfind, eq1, eqL, scal, binP, unP, minP, maxP, foldP, PV.lt, PV.lt.ltL, endP, expoAll, expo, expo.expoL, frIds, frIds.frIdsL, nodupN, kill, cls, clsFuel, resO, RV.get, loadP, evC_p, evC_s, endS, endT, rowsOf, callP, thinL, unfr, unfr.unfrL, PV.noMem, PV.noMem.noMemL, optI, mapO, norm, trimT, trimB, forget, hasN, blksLt, List.set, S26, eS, e1, r1, g1, hk, hk', w1, h11, c1, c2]
      · simp [evCode, evOps, evOne, evOp, evPur, evEff, evPur.chunks, fillP, AOp.isEff, AO.ev, putP, PV.cells, PV.leaf, getB, getM, mapE, keyC, mapRows, mfind, eq1, eqL, scal, binP, unP, minP, maxP, foldP, PV.lt, PV.lt.ltL, endP, expoAll, expo, expo.expoL, frIds, frIds.frIdsL, nodupN, kill, cls, clsFuel, resO, RV.get, loadP, evC_p, evC_s, endS, endT, rowsOf, callP, thinL, unfr, unfr.unfrL, PV.noMem, PV.noMem.noMemL, optI, mapO, norm, trimT, trimB, forget, hasN, blksLt, List.set, S26, eS, e1, r1, g1, hk, hk', w1, h11, c1])
    (by
      intro k a ha hk hq
      have hk' : (k : Int) < l.length := by omega
      have r1 := spRows_get ha
      have g1 := spRows_got ha
      have h11 := f11 a
      unfold covS at hq
      simp only [Bool.not_eq_false', Bool.and_eq_true, decide_eq_true_eq] at hq
      obtain ⟨⟨c1, c2⟩, c3⟩ := hq
      unfold c26b0
      simp [evCode, evOps, evOne, evOp, evPur, evEff, evPur.chunks, fillP, AOp.isEff, AO.ev, putP, PV.cells, PV.leaf, getB, getM, mapE, keyC, mapRows, mfind, eq1, eqL, scal, binP, unP, minP, maxP, foldP, PV.lt, PV.lt.ltL, endP, expoAll, expo, expo.expoL, frIds, frIds.frIdsL, nodupN, kill, cls, clsFuel, resO, RV.get, loadP, evC_p, evC_s, endS, endT, rowsOf, callP, thinL, unfr, unfr.unfrL, PV.noMem, PV.noMem.noMemL, optI, mapO, norm, trimT, trimB, forget, hasN, blksLt, List.set, S26, eS, e1, r1, g1, hk, hk', h11, c1, c2, c3])
    (by
      intro s
      unfold c26b0
      simp [evCode, evOps, evOne, evOp, evPur, evEff, evPur.chunks, fillP, AOp.isEff, AO.ev, putP, PV.cells, PV.leaf, getB, getM, mapE, keyC, mapRows, mfind, eq1, eqL, scal, binP, unP, minP, maxP, foldP, PV.lt, PV.lt.ltL, endP, expoAll, expo, expo.expoL, frIds, frIds.frIdsL, nodupN, kill, cls, clsFuel, resO, RV.get, loadP, evC_p, evC_s, endS, endT, rowsOf, callP, thinL, unfr, unfr.unfrL, PV.noMem, PV.noMem.noMemL, optI, mapO, norm, trimT, trimB, forget, hasN, blksLt, List.set, S26, eS, e1])
    (by omega)
  refine evE_intro (l.length + 1) D26 rfl ?_
  unfold c26
  simp [evCode, evOps, evOne, evOp, evPur, evEff, evPur.chunks, fillP, AOp.isEff, AO.ev, putP, PV.cells, PV.leaf, getB, getM, mapE, keyC, mapRows, mfind, eq1, eqL, scal, binP, unP, minP, maxP, foldP, PV.lt, PV.lt.ltL, endP, expoAll, expo, expo.expoL, frIds, frIds.frIdsL, nodupN, kill, cls, clsFuel, resO, RV.get, loadP, evC_p, evC_s, endS, endT, rowsOf, callP, thinL, unfr, unfr.unfrL, PV.noMem, PV.noMem.noMemL, optI, mapO, norm, trimT, trimB, forget, hasN, blksLt, List.set, eS, e1]
  generalize hE : evLoop _ _ _ _ _ = E
  rcases H _ _ hE (by simp [evCode, evOps, evOne, evOp, evPur, evEff, evPur.chunks, fillP, AOp.isEff, AO.ev, putP, PV.cells, PV.leaf, getB, getM, mapE, keyC, mapRows, mfind, eq1, eqL, scal, binP, unP, minP, maxP, foldP, PV.lt, PV.lt.ltL, endP, expoAll, expo, expo.expoL, frIds, frIds.frIdsL, nodupN, kill, cls, clsFuel, resO, RV.get, loadP, evC_p, evC_s, endS, endT, rowsOf, callP, thinL, unfr, unfr.unfrL, PV.noMem, PV.noMem.noMemL, optI, mapO, norm, trimT, trimB, forget, hasN, blksLt, List.set, S26, eS]) with ⟨q1, q2⟩ | ⟨q1, s, q2, q3⟩
  · have hn := covS_all.1 q1
    rw [q2]
    unfold c26b0
    simp [evCode, evOps, evOne, evOp, evPur, evEff, evPur.chunks, fillP, AOp.isEff, AO.ev, putP, PV.cells, PV.leaf, getB, getM, mapE, keyC, mapRows, mfind, eq1, eqL, scal, binP, unP, minP, maxP, foldP, PV.lt, PV.lt.ltL, endP, expoAll, expo, expo.expoL, frIds, frIds.frIdsL, nodupN, kill, cls, clsFuel, resO, RV.get, loadP, evC_p, evC_s, endS, endT, rowsOf, callP, thinL, unfr, unfr.unfrL, PV.noMem, PV.noMem.noMemL, optI, mapO, norm, trimT, trimB, forget, hasN, blksLt, List.set, S26, eS, e1, hn]
  · have hn : setOf t l := Classical.byContradiction fun h => by rw [covS_all.2 h] at q1; cases q1
    rw [q2]
    simp [evCode, evOps, evOne, evOp, evPur, evEff, evPur.chunks, fillP, AOp.isEff, AO.ev, putP, PV.cells, PV.leaf, getB, getM, mapE, keyC, mapRows, mfind, eq1, eqL, scal, binP, unP, minP, maxP, foldP, PV.lt, PV.lt.ltL, endP, expoAll, expo, expo.expoL, frIds, frIds.frIdsL, nodupN, kill, cls, clsFuel, resO, RV.get, loadP, evC_p, evC_s, endS, endT, rowsOf, callP, thinL, unfr, unfr.unfrL, PV.noMem, PV.noMem.noMemL, optI, mapO, norm, trimT, trimB, forget, hasN, blksLt, List.set, q3, hn]
def S27 (x : Bool) (l : List Sp) (t : Int) (k : Nat) : St := ⟨[eS x l, .int .i64 t, .top, .top, .top, .int .i64 k] ++ List.replicate 29 .top, []⟩
set_option maxRecDepth 100000 in
theorem f27 (x : Bool) (l : List Sp) (t : Int) (hl : l.length ≤ 100000) : evE Dg 27 [eS x l, .int .i64 t] = some (.bool (decide (setOf t l))) := by
  have e1 := spRows_len l
  have H := loop_all (body := evCode (evC Dg) (l.length + 1) c27b0) (keep := [0, 1, 5]) (n0 := 0) (fuel := l.length + 1) l (S27 x l t) (covS t) (fun s => s.sl[4]?.getD .top = .bool true)
    (by
      intro k a ha hk hq
      have hk' : (k : Int) < l.length := by omega
      have w1 := wrap_i64 ((k : Int) + 1) (by omega) (by omega)
      have r1 := spRows_get ha
      have g1 := spRows_got ha
      have h12 := f12 a
      unfold covS at hq
      unfold c27b0
      by_cases c1 : vl a
      · by_cases c2 : a.1 ≤ t
        · have c3 : ¬ t < a.2 := by simpa [c1, c2] using hq
          simp [evCode, evOps, evOne, evOp, evPur, evEff, evPur.chunks, fillP, AOp.isEff, AO.ev, putP, PV.cells, PV.leaf, getB, getM, mapE, keyC, mapRows, mfind, eq1, eqL, scal, binP, unP, minP, maxP, foldP, PV.lt, PV.lt.ltL, endP, expoAll, expo, expo.expoL, frIds, frIds.frIdsL, nodupN, kill, cls, clsFuel, resO, RV.get, loadP, evC_p, evC_s, endS, endT, rowsOf, callP, thinL, unfr, unfr.unfrL, PV.noMem, PV.noMem.noMemL, optI, mapO, norm, trimT, trimB, forget, hasN, blksLt, List.set, S27, eS, e1, r1, g1, hk, hk', w1, h12, c1, c2, c3]
        · simp [evCode, evOps, evOne, evOp, evPur, evEff, evPur.chunks, fillP, AOp.isEff, AO.ev, putP, PV.cells, PV.leaf, getB, getM, mapE, keyC, mapRows, mfind, eq1, eqL, scal, binP, unP, minP, maxP, foldP, PV.lt, PV.lt.ltL, endP, expoAll, expo, expo.expoL, frIds, frIds.frIdsL, nodupN, kill, cls, clsFuel, resO, RV.get, loadP, evC_p, evC_s, endS, endT, rowsOf, callP, thinL, unfr, unfr.unfrL, PV.noMem, PV.noMem.noMemL, optI, mapO, norm, trimT, trimB, forget, hasN, blksLt, List.set, S27, eS, e1, r1, g1, hk, hk', w1, h12, c1, c2]
      · simp [evCode, evOps, evOne, evOp, evPur, evEff, evPur.chunks, fillP, AOp.isEff, AO.ev, putP, PV.cells, PV.leaf, getB, getM, mapE, keyC, mapRows, mfind, eq1, eqL, scal, binP, unP, minP, maxP, foldP, PV.lt, PV.lt.ltL, endP, expoAll, expo, expo.expoL, frIds, frIds.frIdsL, nodupN, kill, cls, clsFuel, resO, RV.get, loadP, evC_p, evC_s, endS, endT, rowsOf, callP, thinL, unfr, unfr.unfrL, PV.noMem, PV.noMem.noMemL, optI, mapO, norm, trimT, trimB, forget, hasN, blksLt, List.set, S27, eS, e1, r1, g1, hk, hk', w1, h12, c1])
    (by
      intro k a ha hk hq
      have hk' : (k : Int) < l.length := by omega
      have r1 := spRows_get ha
      have g1 := spRows_got ha
      have h12 := f12 a
      unfold covS at hq
      simp only [Bool.not_eq_false', Bool.and_eq_true, decide_eq_true_eq] at hq
      obtain ⟨⟨c1, c2⟩, c3⟩ := hq
      unfold c27b0
      simp [evCode, evOps, evOne, evOp, evPur, evEff, evPur.chunks, fillP, AOp.isEff, AO.ev, putP, PV.cells, PV.leaf, getB, getM, mapE, keyC, mapRows, mfind, eq1, eqL, scal, binP, unP, minP, maxP, foldP, PV.lt, PV.lt.ltL, endP, expoAll, expo, expo.expoL, frIds, frIds.frIdsL, nodupN, kill, cls, clsFuel, resO, RV.get, loadP, evC_p, evC_s, endS, endT, rowsOf, callP, thinL, unfr, unfr.unfrL, PV.noMem, PV.noMem.noMemL, optI, mapO, norm, trimT, trimB, forget, hasN, blksLt, List.set, S27, eS, e1, r1, g1, hk, hk', h12, c1, c2, c3])
    (by
      intro s
      unfold c27b0
      simp [evCode, evOps, evOne, evOp, evPur, evEff, evPur.chunks, fillP, AOp.isEff, AO.ev, putP, PV.cells, PV.leaf, getB, getM, mapE, keyC, mapRows, mfind, eq1, eqL, scal, binP, unP, minP, maxP, foldP, PV.lt, PV.lt.ltL, endP, expoAll, expo, expo.expoL, frIds, frIds.frIdsL, nodupN, kill, cls, clsFuel, resO, RV.get, loadP, evC_p, evC_s, endS, endT, rowsOf, callP, thinL, unfr, unfr.unfrL, PV.noMem, PV.noMem.noMemL, optI, mapO, norm, trimT, trimB, forget, hasN, blksLt, List.set, S27, eS, e1])
    (by omega)
  refine evE_intro (l.length + 1) D27 rfl ?_
  unfold c27
  simp [evCode, evOps, evOne, evOp, evPur, evEff, evPur.chunks, fillP, AOp.isEff, AO.ev, putP, PV.cells, PV.leaf, getB, getM, mapE, keyC, mapRows, mfind, eq1, eqL, scal, binP, unP, minP, maxP, foldP, PV.lt, PV.lt.ltL, endP, expoAll, expo, expo.expoL, frIds, frIds.frIdsL, nodupN, kill, cls, clsFuel, resO, RV.get, loadP, evC_p, evC_s, endS, endT, rowsOf, callP, thinL, unfr, unfr.unfrL, PV.noMem, PV.noMem.noMemL, optI, mapO, norm, trimT, trimB, forget, hasN, blksLt, List.set, eS, e1]
  generalize hE : evLoop _ _ _ _ _ = E
  rcases H _ _ hE (by simp [evCode, evOps, evOne, evOp, evPur, evEff, evPur.chunks, fillP, AOp.isEff, AO.ev, putP, PV.cells, PV.leaf, getB, getM, mapE, keyC, mapRows, mfind, eq1, eqL, scal, binP, unP, minP, maxP, foldP, PV.lt, PV.lt.ltL, endP, expoAll, expo, expo.expoL, frIds, frIds.frIdsL, nodupN, kill, cls, clsFuel, resO, RV.get, loadP, evC_p, evC_s, endS, endT, rowsOf, callP, thinL, unfr, unfr.unfrL, PV.noMem, PV.noMem.noMemL, optI, mapO, norm, trimT, trimB, forget, hasN, blksLt, List.set, S27, eS]) with ⟨q1, q2⟩ | ⟨q1, s, q2, q3⟩
  · have hn := covS_all.1 q1
    rw [q2]
    unfold c27b0
    simp [evCode, evOps, evOne, evOp, evPur, evEff, evPur.chunks, fillP, AOp.isEff, AO.ev, putP, PV.cells, PV.leaf, getB, getM, mapE, keyC, mapRows, mfind, eq1, eqL, scal, binP, unP, minP, maxP, foldP, PV.lt, PV.lt.ltL, endP, expoAll, expo, expo.expoL, frIds, frIds.frIdsL, nodupN, kill, cls, clsFuel, resO, RV.get, loadP, evC_p, evC_s, endS, endT, rowsOf, callP, thinL, unfr, unfr.unfrL, PV.noMem, PV.noMem.noMemL, optI, mapO, norm, trimT, trimB, forget, hasN, blksLt, List.set, S27, eS, e1, hn]
  · have hn : setOf t l := Classical.byContradiction fun h => by rw [covS_all.2 h] at q1; cases q1
    rw [q2]
    simp [evCode, evOps, evOne, evOp, evPur, evEff, evPur.chunks, fillP, AOp.isEff, AO.ev, putP, PV.cells, PV.leaf, getB, getM, mapE, keyC, mapRows, mfind, eq1, eqL, scal, binP, unP, minP, maxP, foldP, PV.lt, PV.lt.ltL, endP, expoAll, expo, expo.expoL, frIds, frIds.frIdsL, nodupN, kill, cls, clsFuel, resO, RV.get, loadP, evC_p, evC_s, endS, endT, rowsOf, callP, thinL, unfr, unfr.unfrL, PV.noMem, PV.noMem.noMemL, optI, mapO, norm, trimT, trimB, forget, hasN, blksLt, List.set, q3, hn]
theorem f27_nil (t : Int) : evE Dg 27 [.nilS, .int .i64 t] = some (.bool false) := by
  refine evE_intro 3 D27 rfl ?_
  unfold c27 c27b0
  simp [evCode, evOps, evOne, evOp, evPur, evEff, evPur.chunks, fillP, AOp.isEff, AO.ev, putP, PV.cells, PV.leaf, getB, getM, mapE, keyC, mapRows, mfind, eq1, eqL, scal, binP, unP, minP, maxP, foldP, PV.lt, PV.lt.ltL, endP, expoAll, expo, expo.expoL, frIds, frIds.frIdsL, nodupN, kill, cls, clsFuel, resO, RV.get, loadP, evC_p, evC_s, endS, endT, rowsOf, callP, thinL, unfr, unfr.unfrL, PV.noMem, PV.noMem.noMemL, optI, mapO, norm, trimT, trimB, forget, hasN, blksLt, List.set, evLoop]

/-- Grow of nil: no rows, memory of its own -/
theorem f39 (n : Nat) (h' : 0 < n) (hn : n ≤ 1000000) : evE Dg 39 [.nilS, .int .i64 n] = some (.fr 2 []) := by
  have w0 : IntKind.i64.wrap 0 = 0 := rfl
  have w1' : IntKind.i64.wrap (n : Int) = n := wrap_i64 _ (by omega) (by omega)
  have hneg : ¬ ((n : Int) < 0) := by omega
  refine evE_intro 3 D39 rfl ?_
  unfold c39
  have h : (0 : Int) < n := by omega
  have m1 : (n : Int) ≤ 140737488355328 := by omega
  have m2 : (n : Int) * 16 ≤ 140737488355328 := by omega
  have h'' : ¬ n = 0 := by omega
  have h3 : ¬ 0 = n := by omega
  simp [evCode, evOps, evOne, evOp, evPur, evEff, evPur.chunks, fillP, AOp.isEff, AO.ev, putP, PV.cells, PV.leaf, getB, getM, mapE, keyC, mapRows, mfind, eq1, eqL, scal, binP, unP, minP, maxP, foldP, PV.lt, PV.lt.ltL, endP, expoAll, expo, expo.expoL, frIds, frIds.frIdsL, nodupN, kill, cls, clsFuel, resO, RV.get, loadP, evC_p, evC_s, endS, endT, rowsOf, callP, thinL, unfr, unfr.unfrL, PV.noMem, PV.noMem.noMemL, optI, mapO, norm, trimT, trimB, forget, hasN, blksLt, List.set, w0, w1', hneg, h, m1, m2, h', h'', h3]
theorem f39z : evE Dg 39 [.nilS, .int .i64 0] = some .nilS := evE_of (n := 3) (by kernel_rfl)

set_option maxRecDepth 100000 in
theorem f32 (x y : Bool) (a b : List Sp) (ha : a.length ≤ 10000) (hb : b.length ≤ 10000) : evE Dg 32 [.sl true 1 [[eS x a], [eS y b]]] = some (.fr 2 (spRows (a ++ b))) := by
  have e1 := spRows_len a
  have e2 := spRows_len b
  have w1 : IntKind.i64.wrap (a.length : Int) = a.length := wrap_i64 _ (by omega) (by omega)
  have w2 : IntKind.i64.wrap ((a.length : Int) + b.length) = (a.length : Int) + b.length := wrap_i64 _ (by omega) (by omega)
  have n1 : ¬ ((a.length : Int) < 0) := by omega
  have n2 : ¬ ((a.length : Int) + b.length < 0) := by omega
  have i1 : IntKind.i64.wrap 1 = 1 := rfl
  have i2 : IntKind.i64.wrap 2 = 2 := rfl
  have e3 := spRows_app a b
  have m1 : a.length * 16 ≤ 140737488355328 := by omega
  have m2 : a.length ≤ 140737488355328 := by omega
  have m3 : (a.length + b.length) * 16 ≤ 140737488355328 := by omega
  have m4 : a.length + b.length ≤ 140737488355328 := by omega
  by_cases h0 : 0 < a.length + b.length
  · have hg := f39 (a.length + b.length) h0 (by omega)
    rw [Int.natCast_add] at hg
    refine evE_intro 10 D32 rfl ?_
    unfold c32 c32b1 c32r0 c32b0
    simp [evCode, evOps, evOne, evOp, evPur, evEff, evPur.chunks, fillP, AOp.isEff, AO.ev, putP, PV.cells, PV.leaf, getB, getM, mapE, keyC, mapRows, mfind, eq1, eqL, scal, binP, unP, minP, maxP, foldP, PV.lt, PV.lt.ltL, endP, expoAll, expo, expo.expoL, frIds, frIds.frIdsL, nodupN, kill, cls, clsFuel, resO, RV.get, loadP, evC_p, evC_s, endS, endT, rowsOf, callP, thinL, unfr, unfr.unfrL, PV.noMem, PV.noMem.noMemL, optI, mapO, norm, trimT, trimB, forget, hasN, blksLt, List.set, evLoop, eS, e1, e2, w1, w2, n1, n2, i1, i2, hg, e3, m1, m2, m3, m4, impB, impV, spRows_lt']
  · obtain rfl : a = [] := List.length_eq_zero_iff.1 (by omega)
    obtain rfl : b = [] := List.length_eq_zero_iff.1 (by omega)
    have i0 : IntKind.i64.wrap 0 = 0 := rfl
    have hg := f39z
    refine evE_intro 10 D32 rfl ?_
    unfold c32 c32b1 c32r0 c32b0
    simp [evCode, evOps, evOne, evOp, evPur, evEff, evPur.chunks, fillP, AOp.isEff, AO.ev, putP, PV.cells, PV.leaf, getB, getM, mapE, keyC, mapRows, mfind, eq1, eqL, scal, binP, unP, minP, maxP, foldP, PV.lt, PV.lt.ltL, endP, expoAll, expo, expo.expoL, frIds, frIds.frIdsL, nodupN, kill, cls, clsFuel, resO, RV.get, loadP, evC_p, evC_s, endS, endT, rowsOf, callP, thinL, unfr, unfr.unfrL, PV.noMem, PV.noMem.noMemL, optI, mapO, norm, trimT, trimB, forget, hasN, blksLt, List.set, evLoop, eS, spRows_nil, i0, i1, i2, hg, impB, impV]
theorem f20 (x y : Bool) (a b : List Sp) (ha : a.length ≤ 400) (hb : b.length ≤ 400) : evE Dg 20 [eS x a, eS y b] = some (eS false (norF (a ++ b))) := by
  have fc := f32 x y a b (by omega) (by omega)
  have fn := f14 false (a ++ b) (by simp; omega)
  generalize norF (a ++ b) = N at *
  generalize a ++ b = C at *
  simp only [eS] at fc fn
  refine evE_intro 5 D20 rfl ?_
  unfold c20
  simp [evCode, evOps, evOne, evOp, evPur, evEff, evPur.chunks, fillP, AOp.isEff, AO.ev, putP, PV.cells, PV.leaf, getB, getM, mapE, keyC, mapRows, mfind, eq1, eqL, scal, binP, unP, minP, maxP, foldP, PV.lt, PV.lt.ltL, endP, expoAll, expo, expo.expoL, frIds, frIds.frIdsL, nodupN, kill, cls, clsFuel, resO, RV.get, loadP, evC_p, evC_s, endS, endT, rowsOf, callP, thinL, unfr, unfr.unfrL, PV.noMem, PV.noMem.noMemL, optI, mapO, norm, trimT, trimB, forget, hasN, blksLt, List.set, eS, fc, fn]
theorem uni_spec (a b : List Sp) : Nrm (norF (a ++ b)) ∧ ∀ t, inS t (norF (a ++ b)) ↔ setOf t a ∨ setOf t b := by
  obtain ⟨h1, h2⟩ := norF_spec (a ++ b)
  exact ⟨h1, fun t => by rw [h2, setOf_app]⟩
end Go.Proofs.Ytildbjepbnjbfaa
