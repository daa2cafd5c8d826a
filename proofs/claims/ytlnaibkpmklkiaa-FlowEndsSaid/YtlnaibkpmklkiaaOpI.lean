/- FlowEnds. -/
import Derived.Test.YtlnaibkpmklkiaaOpH
namespace Go.Proofs.Ytlnaibkpmklkiaa
open Go Go.RowKit
set_option maxHeartbeats 4000000
set_option linter.unusedVariables false
set_option linter.unusedSimpArgs false

def zhas (n : Int) (l : List Int) : Bool := decide (n ∈ l)
def S20 (l : List Int) (n : Int) (k : Nat) : St := ⟨[.sl false 1 (zRows l), .int .i64 n, .top, .top, .top, .int .i64 k] ++ List.replicate 12 .top, []⟩
theorem f20 (l : List Int) (n : Int) (hl : l.length ≤ 2000) : evE Dg 20 [.sl false 1 (zRows l), .int .i64 n] = some (.bool (zhas n l)) := by
  refine evE_intro 3000 D20 rfl ?_
  have eL := zRows_len l
  unfold c20
  simp [evCode, evOps, evOne, evOp, evPur, evEff, evPur.chunks, fillP, AOp.isEff, AO.ev, putP, PV.cells, PV.leaf, getB, getM, mapE, iterE, keyC, mapRows, mfind, eq1, eqL, scal, binP, unP, minP, maxP, foldP, PV.lt, PV.lt.ltL, endP, expoAll, expoG, expo, expo.expoL, frIds, frIds.frIdsL, nodupN, kill, cls, clsFuel, resO, RV.get, loadP, evC_p, evC_s, endS, endT, rowsOf, callP, thinL, unfr, unfr.unfrL, PV.noMem, PV.noMem.noMemL, optI, mapO, norm, trimT, trimB, forget, hasN, blksLt, List.set, softChk, softGo, softRd, effTg, rdP, eL]
  generalize hE : evLoop (evCode (evC Dg) 3000 c20b0) [0, 1, 5] 0 3000 _ = E
  have H := loop_find (body := evCode (evC Dg) 3000 c20b0) (keep := [0, 1, 5]) (n0 := 0) (fuel := 3000) l (S20 l n) (fun u => u == n) (fun _ s => s.sl.getD 4 .top = .bool true) ?_ ?_ ?_ (by omega) _ E hE (by simp [evCode, evOps, evOne, evOp, evPur, evEff, evPur.chunks, fillP, AOp.isEff, AO.ev, putP, PV.cells, PV.leaf, getB, getM, mapE, iterE, keyC, mapRows, mfind, eq1, eqL, scal, binP, unP, minP, maxP, foldP, PV.lt, PV.lt.ltL, endP, expoAll, expoG, expo, expo.expoL, frIds, frIds.frIdsL, nodupN, kill, cls, clsFuel, resO, RV.get, loadP, evC_p, evC_s, endS, endT, rowsOf, callP, thinL, unfr, unfr.unfrL, PV.noMem, PV.noMem.noMemL, optI, mapO, norm, trimT, trimB, forget, hasN, blksLt, List.set, softChk, softGo, softRd, effTg, rdP, S20])
  · rcases H with ⟨h0, rfl⟩ | ⟨k, h0, s, rfl, hR⟩
    · have hr : zhas n l = false := by
        unfold zhas
        simp only [decide_eq_false_iff_not]
        intro hm
        have := List.findIdx?_eq_none_iff.1 h0 n hm
        simp at this
      rw [hr]
      unfold c20b0
      simp [evCode, evOps, evOne, evOp, evPur, evEff, evPur.chunks, fillP, AOp.isEff, AO.ev, putP, PV.cells, PV.leaf, getB, getM, mapE, iterE, keyC, mapRows, mfind, eq1, eqL, scal, binP, unP, minP, maxP, foldP, PV.lt, PV.lt.ltL, endP, expoAll, expoG, expo, expo.expoL, frIds, frIds.frIdsL, nodupN, kill, cls, clsFuel, resO, RV.get, loadP, evC_p, evC_s, endS, endT, rowsOf, callP, thinL, unfr, unfr.unfrL, PV.noMem, PV.noMem.noMemL, optI, mapO, norm, trimT, trimB, forget, hasN, blksLt, List.set, softChk, softGo, softRd, effTg, rdP, S20, eL]
    · obtain ⟨sl, bl⟩ := s
      have hR' : sl[4]?.getD PV.top = .bool true := by rw [← List.getD_eq_getElem?_getD]; exact hR
      have hr : zhas n l = true := by
        unfold zhas
        simp only [decide_eq_true_eq]
        obtain ⟨h1, h2, _⟩ := List.findIdx?_eq_some_iff_getElem.1 h0
        have h3 := List.getElem_mem h1
        simp only [beq_iff_eq] at h2
        rwa [h2] at h3
      rw [hr]
      simp [evCode, evOps, evOne, evOp, evPur, evEff, evPur.chunks, fillP, AOp.isEff, AO.ev, putP, PV.cells, PV.leaf, getB, getM, mapE, iterE, keyC, mapRows, mfind, eq1, eqL, scal, binP, unP, minP, maxP, foldP, PV.lt, PV.lt.ltL, endP, expoAll, expoG, expo, expo.expoL, frIds, frIds.frIdsL, nodupN, kill, cls, clsFuel, resO, RV.get, loadP, evC_p, evC_s, endS, endT, rowsOf, callP, thinL, unfr, unfr.unfrL, PV.noMem, PV.noMem.noMemL, optI, mapO, norm, trimT, trimB, forget, hasN, blksLt, List.set, softChk, softGo, softRd, effTg, rdP, hR']
  · intro k u hu hk hq
    have hk' : (k : Int) < l.length := by omega
    have w1 := wrap_i64 ((k : Int) + 1) (by omega) (by omega)
    have eg := zRows_get hu
    have eg' : (zRows l)[k]'(by rw [eL]; exact hk) = [PV.int .i64 u] := (List.getElem?_eq_some_iff.1 eg).2
    have hne : ¬ u = n := by simpa using hq
    unfold c20b0
    simp [evCode, evOps, evOne, evOp, evPur, evEff, evPur.chunks, fillP, AOp.isEff, AO.ev, putP, PV.cells, PV.leaf, getB, getM, mapE, iterE, keyC, mapRows, mfind, eq1, eqL, scal, binP, unP, minP, maxP, foldP, PV.lt, PV.lt.ltL, endP, expoAll, expoG, expo, expo.expoL, frIds, frIds.frIdsL, nodupN, kill, cls, clsFuel, resO, RV.get, loadP, evC_p, evC_s, endS, endT, rowsOf, callP, thinL, unfr, unfr.unfrL, PV.noMem, PV.noMem.noMemL, optI, mapO, norm, trimT, trimB, forget, hasN, blksLt, List.set, softChk, softGo, softRd, effTg, rdP, S20, eL, eg, eg', hk, hk', w1, hne]
  · intro k u hu hk hq
    have hk' : (k : Int) < l.length := by omega
    have eg := zRows_get hu
    have eg' : (zRows l)[k]'(by rw [eL]; exact hk) = [PV.int .i64 u] := (List.getElem?_eq_some_iff.1 eg).2
    have hne : u = n := by simpa using hq
    unfold c20b0
    simp [evCode, evOps, evOne, evOp, evPur, evEff, evPur.chunks, fillP, AOp.isEff, AO.ev, putP, PV.cells, PV.leaf, getB, getM, mapE, iterE, keyC, mapRows, mfind, eq1, eqL, scal, binP, unP, minP, maxP, foldP, PV.lt, PV.lt.ltL, endP, expoAll, expoG, expo, expo.expoL, frIds, frIds.frIdsL, nodupN, kill, cls, clsFuel, resO, RV.get, loadP, evC_p, evC_s, endS, endT, rowsOf, callP, thinL, unfr, unfr.unfrL, PV.noMem, PV.noMem.noMemL, optI, mapO, norm, trimT, trimB, forget, hasN, blksLt, List.set, softChk, softGo, softRd, effTg, rdP, S20, eL, eg, eg', hk, hk', hne]
  · intro s
    unfold c20b0
    simp [evCode, evOps, evOne, evOp, evPur, evEff, evPur.chunks, fillP, AOp.isEff, AO.ev, putP, PV.cells, PV.leaf, getB, getM, mapE, iterE, keyC, mapRows, mfind, eq1, eqL, scal, binP, unP, minP, maxP, foldP, PV.lt, PV.lt.ltL, endP, expoAll, expoG, expo, expo.expoL, frIds, frIds.frIdsL, nodupN, kill, cls, clsFuel, resO, RV.get, loadP, evC_p, evC_s, endS, endT, rowsOf, callP, thinL, unfr, unfr.unfrL, PV.noMem, PV.noMem.noMemL, optI, mapO, norm, trimT, trimB, forget, hasN, blksLt, List.set, softChk, softGo, softRd, effTg, rdP, S20, eL]

def wStep (x : Int) (b : Bool) (t : Tm) : Bool := if t.n = x ∧ t.kd = 6 then true else if t.n = x ∧ t.kd = 7 then false else b
def waitsB (l : List Tm) (x : Int) : Bool := l.foldl (wStep x) false
theorem waitsB_iff (l : List Tm) (x : Int) : waitsB l x = true ↔ ∃ i, Last l x i := by
  refine snoc_ind (P := fun l => waitsB l x = true ↔ ∃ i, Last l x i) (by simp [waitsB, Last]) (fun l t ih => ?_) l
  have : waitsB (l ++ [t]) x = wStep x (waitsB l x) t := by simp [waitsB]
  rw [this, Last_snoc, ← ih]
  unfold wStep
  by_cases h6 : t.n = x ∧ t.kd = 6
  · simp [h6]
  · by_cases h7 : t.n = x ∧ t.kd = 7
    · simp [h6, h7]
    · simp [h6, h7]
def S21 (l : List Tm) (x : Int) (k : Nat) (b : Bool) : St := ⟨[.sl false 10 (tRows l), .int .i64 x, .top, .top, .top, .bool b, .int .i64 k] ++ List.replicate 41 .top, []⟩
set_option maxRecDepth 100000 in
theorem f21 (l : List Tm) (x : Int) (hl : l.length ≤ 2000) : evE Dg 21 [.sl false 10 (tRows l), .int .i64 x] = some (.bool (waitsB l x)) := by
  refine evE_intro 3000 D21 rfl ?_
  have eL := tRows_len l
  unfold c21
  simp [evCode, evOps, evOne, evOp, evPur, evEff, evPur.chunks, fillP, AOp.isEff, AO.ev, putP, PV.cells, PV.leaf, getB, getM, mapE, iterE, keyC, mapRows, mfind, eq1, eqL, scal, binP, unP, minP, maxP, foldP, PV.lt, PV.lt.ltL, endP, expoAll, expoG, expo, expo.expoL, frIds, frIds.frIdsL, nodupN, kill, cls, clsFuel, resO, RV.get, loadP, evC_p, evC_s, endS, endT, rowsOf, callP, thinL, unfr, unfr.unfrL, PV.noMem, PV.noMem.noMemL, optI, mapO, norm, trimT, trimB, forget, hasN, blksLt, List.set, softChk, softGo, softRd, effTg, rdP, eL]
  generalize hE : evLoop (evCode (evC Dg) 3000 c21b0) [0, 1, 5, 6] 0 3000 _ = E
  have H := loop_foldE (body := evCode (evC Dg) 3000 c21b0) (keep := [0, 1, 5, 6]) (n0 := 0) (fuel := 3000) l (S21 l x) (wStep x) (fun _ _ => True) ?_ ?_ (by omega) false trivial _ E hE (by simp [evCode, evOps, evOne, evOp, evPur, evEff, evPur.chunks, fillP, AOp.isEff, AO.ev, putP, PV.cells, PV.leaf, getB, getM, mapE, iterE, keyC, mapRows, mfind, eq1, eqL, scal, binP, unP, minP, maxP, foldP, PV.lt, PV.lt.ltL, endP, expoAll, expoG, expo, expo.expoL, frIds, frIds.frIdsL, nodupN, kill, cls, clsFuel, resO, RV.get, loadP, evC_p, evC_s, endS, endT, rowsOf, callP, thinL, unfr, unfr.unfrL, PV.noMem, PV.noMem.noMemL, optI, mapO, norm, trimT, trimB, forget, hasN, blksLt, List.set, softChk, softGo, softRd, effTg, rdP, S21])
  · rw [H.1]
    unfold waitsB
    generalize l.foldl (wStep x) false = b
    unfold c21b0
    simp [evCode, evOps, evOne, evOp, evPur, evEff, evPur.chunks, fillP, AOp.isEff, AO.ev, putP, PV.cells, PV.leaf, getB, getM, mapE, iterE, keyC, mapRows, mfind, eq1, eqL, scal, binP, unP, minP, maxP, foldP, PV.lt, PV.lt.ltL, endP, expoAll, expoG, expo, expo.expoL, frIds, frIds.frIdsL, nodupN, kill, cls, clsFuel, resO, RV.get, loadP, evC_p, evC_s, endS, endT, rowsOf, callP, thinL, unfr, unfr.unfrL, PV.noMem, PV.noMem.noMemL, optI, mapO, norm, trimT, trimB, forget, hasN, blksLt, List.set, softChk, softGo, softRd, effTg, rdP, S21, eL]
  · intro k t b ht hk _
    refine ⟨trivial, ?_⟩
    have hk' : (k : Int) < l.length := by omega
    have w1 := wrap_i64 ((k : Int) + 1) (by omega) (by omega)
    have eg := tRows_get ht
    have eg' := tRows_getE ht
    unfold wStep
    by_cases hx : t.n = x
    · by_cases h6 : t.kd = 6
      · rw [if_pos ⟨hx, h6⟩]
        unfold c21b0
        simp [evCode, evOps, evOne, evOp, evPur, evEff, evPur.chunks, fillP, AOp.isEff, AO.ev, putP, PV.cells, PV.leaf, getB, getM, mapE, iterE, keyC, mapRows, mfind, eq1, eqL, scal, binP, unP, minP, maxP, foldP, PV.lt, PV.lt.ltL, endP, expoAll, expoG, expo, expo.expoL, frIds, frIds.frIdsL, nodupN, kill, cls, clsFuel, resO, RV.get, loadP, evC_p, evC_s, endS, endT, rowsOf, callP, thinL, unfr, unfr.unfrL, PV.noMem, PV.noMem.noMemL, optI, mapO, norm, trimT, trimB, forget, hasN, blksLt, List.set, softChk, softGo, softRd, effTg, rdP, S21, eL, eg, eg', hk, hk', w1, hx, h6, tRow]
      · rw [if_neg (fun h => h6 h.2)]
        by_cases h7 : t.kd = 7
        · rw [if_pos ⟨hx, h7⟩]
          unfold c21b0
          simp [evCode, evOps, evOne, evOp, evPur, evEff, evPur.chunks, fillP, AOp.isEff, AO.ev, putP, PV.cells, PV.leaf, getB, getM, mapE, iterE, keyC, mapRows, mfind, eq1, eqL, scal, binP, unP, minP, maxP, foldP, PV.lt, PV.lt.ltL, endP, expoAll, expoG, expo, expo.expoL, frIds, frIds.frIdsL, nodupN, kill, cls, clsFuel, resO, RV.get, loadP, evC_p, evC_s, endS, endT, rowsOf, callP, thinL, unfr, unfr.unfrL, PV.noMem, PV.noMem.noMemL, optI, mapO, norm, trimT, trimB, forget, hasN, blksLt, List.set, softChk, softGo, softRd, effTg, rdP, S21, eL, eg, eg', hk, hk', w1, hx, h7, tRow]
        · rw [if_neg (fun h => h7 h.2)]
          unfold c21b0
          simp [evCode, evOps, evOne, evOp, evPur, evEff, evPur.chunks, fillP, AOp.isEff, AO.ev, putP, PV.cells, PV.leaf, getB, getM, mapE, iterE, keyC, mapRows, mfind, eq1, eqL, scal, binP, unP, minP, maxP, foldP, PV.lt, PV.lt.ltL, endP, expoAll, expoG, expo, expo.expoL, frIds, frIds.frIdsL, nodupN, kill, cls, clsFuel, resO, RV.get, loadP, evC_p, evC_s, endS, endT, rowsOf, callP, thinL, unfr, unfr.unfrL, PV.noMem, PV.noMem.noMemL, optI, mapO, norm, trimT, trimB, forget, hasN, blksLt, List.set, softChk, softGo, softRd, effTg, rdP, S21, eL, eg, eg', hk, hk', w1, hx, h6, h7, tRow]
    · rw [if_neg (fun h => hx h.1), if_neg (fun h => hx h.1)]
      unfold c21b0
      simp [evCode, evOps, evOne, evOp, evPur, evEff, evPur.chunks, fillP, AOp.isEff, AO.ev, putP, PV.cells, PV.leaf, getB, getM, mapE, iterE, keyC, mapRows, mfind, eq1, eqL, scal, binP, unP, minP, maxP, foldP, PV.lt, PV.lt.ltL, endP, expoAll, expoG, expo, expo.expoL, frIds, frIds.frIdsL, nodupN, kill, cls, clsFuel, resO, RV.get, loadP, evC_p, evC_s, endS, endT, rowsOf, callP, thinL, unfr, unfr.unfrL, PV.noMem, PV.noMem.noMemL, optI, mapO, norm, trimT, trimB, forget, hasN, blksLt, List.set, softChk, softGo, softRd, effTg, rdP, S21, eL, eg, eg', hk, hk', w1, hx, tRow]
  · intro b _ s
    unfold c21b0
    simp [evCode, evOps, evOne, evOp, evPur, evEff, evPur.chunks, fillP, AOp.isEff, AO.ev, putP, PV.cells, PV.leaf, getB, getM, mapE, iterE, keyC, mapRows, mfind, eq1, eqL, scal, binP, unP, minP, maxP, foldP, PV.lt, PV.lt.ltL, endP, expoAll, expoG, expo, expo.expoL, frIds, frIds.frIdsL, nodupN, kill, cls, clsFuel, resO, RV.get, loadP, evC_p, evC_s, endS, endT, rowsOf, callP, thinL, unfr, unfr.unfrL, PV.noMem, PV.noMem.noMemL, optI, mapO, norm, trimT, trimB, forget, hasN, blksLt, List.set, softChk, softGo, softRd, effTg, rdP, S21, eL]
theorem has_waits (l : List Tm) (x : Int) : zhas x (sortZ (opens l)) = waitsB l x := by
  rw [Bool.eq_iff_iff, waitsB_iff]
  unfold zhas
  simp only [decide_eq_true_eq]
  rw [(sortZ_perm _).mem_iff, opens_mem]

/-- the inner loop: the last sending before -/
def S5b (l : List Tm) (F : List Fl) (Z : List Int) (k i : Nat) (j : Nat) (fr : Int) : St :=
  ⟨[.sl false 10 (tRows l), .top, .top, .sl false 7 (fRows F), .sl false 1 (zRows Z), .int .i64 k, .int .i64 i, .int .i64 fr, .int .i64 j] ++ List.replicate 156 .top, []⟩
theorem lastZ_step {l : List Tm} {j : Nat} {t : Tm} (ht : l[j]? = some t) (n : Int) : lastZ l (j + 1) n = if t.kd = 6 ∧ t.n = n then (j : Int) else lastZ l j n := by
  unfold lastZ
  simp only [lastI, ht]
  by_cases h : t.kd = 6 ∧ t.n = n
  · simp [h]
  · simp [h]
set_option maxRecDepth 100000 in
theorem turn5b (l : List Tm) (F : List Fl) (Z : List Int) (k i : Nat) (t : Tm) (hl : l.length ≤ 300) (hi : l[i]? = some t) (s0 : St) (E : Option Out)
    (hE : evLoop (evCode (evC Dg) 3000 c5b2) [0, 3, 4, 5, 6, 7, 8] 0 3000 s0 = E) (h0 : norm [0, 3, 4, 5, 6, 7, 8] 0 s0 = S5b l F Z k i 0 (-1)) :
    E = evCode (evC Dg) 3000 c5b2 (S5b l F Z k i i (lastZ l i t.n)) := by
  have hil : i < l.length := (List.getElem?_eq_some_iff.1 hi).1
  have hil' : (i : Int) < l.length := by omega
  have hlen : (l.take i).length = i := by rw [List.length_take]; omega
  have eL := tRows_len l
  have gi := tRows_get hi
  have gi' := tRows_getE hi
  have H := loop_inv (body := evCode (evC Dg) 3000 c5b2) (keep := [0, 3, 4, 5, 6, 7, 8]) (n0 := 0) (fuel := 3000) (l.take i) (S5b l F Z k i) (fun j fr => fr = lastZ l j t.n) (fun _ => False) ?_ ?_ (by omega) (-1) rfl s0 E hE h0
  · rcases H with ⟨x, hx, h⟩ | ⟨_, _, h⟩
    · rw [hlen] at hx h
      rw [h, hx]
    · exact h.elim
  · intro j u fr hu hj hfr
    rw [hlen] at hj
    rw [List.getElem?_take_of_lt hj] at hu
    have hj' : (j : Int) < i := by omega
    have hjl : j < l.length := by omega
    have hjl' : (j : Int) < l.length := by omega
    have w1 := wrap_i64 ((j : Int) + 1) (by omega) (by omega)
    have eg := tRows_get hu
    have eg' := tRows_getE hu
    left
    refine ⟨lastZ l (j + 1) t.n, ?_⟩
    rw [lastZ_step hu, ← hfr]
    suffices h : ∃ s', evCode (evC Dg) 3000 c5b2 (S5b l F Z k i j fr) = some (.normal s') ∧ norm [0, 3, 4, 5, 6, 7, 8] 0 s' = S5b l F Z k i (j + 1) (if u.kd = 6 ∧ u.n = t.n then (j : Int) else fr) by
      obtain ⟨s', h1, h2⟩ := h
      exact ⟨s', h1, h2, rfl⟩
    by_cases h6 : u.kd = 6
    · by_cases hn : u.n = t.n
      · rw [if_pos ⟨h6, hn⟩]
        unfold c5b2
        simp [evCode, evOps, evOne, evOp, evPur, evEff, evPur.chunks, fillP, AOp.isEff, AO.ev, putP, PV.cells, PV.leaf, getB, getM, mapE, iterE, keyC, mapRows, mfind, eq1, eqL, scal, binP, unP, minP, maxP, foldP, PV.lt, PV.lt.ltL, endP, expoAll, expoG, expo, expo.expoL, frIds, frIds.frIdsL, nodupN, kill, cls, clsFuel, resO, RV.get, loadP, evC_p, evC_s, endS, endT, rowsOf, callP, thinL, unfr, unfr.unfrL, PV.noMem, PV.noMem.noMemL, optI, mapO, norm, trimT, trimB, forget, hasN, blksLt, List.set, softChk, softGo, softRd, effTg, rdP, S5b, eL, eg, eg', gi, gi', hj', hjl, hjl', hil, hil', w1, h6, hn, tRow]
      · rw [if_neg (fun h => hn h.2)]
        unfold c5b2
        simp [evCode, evOps, evOne, evOp, evPur, evEff, evPur.chunks, fillP, AOp.isEff, AO.ev, putP, PV.cells, PV.leaf, getB, getM, mapE, iterE, keyC, mapRows, mfind, eq1, eqL, scal, binP, unP, minP, maxP, foldP, PV.lt, PV.lt.ltL, endP, expoAll, expoG, expo, expo.expoL, frIds, frIds.frIdsL, nodupN, kill, cls, clsFuel, resO, RV.get, loadP, evC_p, evC_s, endS, endT, rowsOf, callP, thinL, unfr, unfr.unfrL, PV.noMem, PV.noMem.noMemL, optI, mapO, norm, trimT, trimB, forget, hasN, blksLt, List.set, softChk, softGo, softRd, effTg, rdP, S5b, eL, eg, eg', gi, gi', hj', hjl, hjl', hil, hil', w1, h6, hn, tRow]
    · rw [if_neg (fun h => h6 h.1)]
      unfold c5b2
      simp [evCode, evOps, evOne, evOp, evPur, evEff, evPur.chunks, fillP, AOp.isEff, AO.ev, putP, PV.cells, PV.leaf, getB, getM, mapE, iterE, keyC, mapRows, mfind, eq1, eqL, scal, binP, unP, minP, maxP, foldP, PV.lt, PV.lt.ltL, endP, expoAll, expoG, expo, expo.expoL, frIds, frIds.frIdsL, nodupN, kill, cls, clsFuel, resO, RV.get, loadP, evC_p, evC_s, endS, endT, rowsOf, callP, thinL, unfr, unfr.unfrL, PV.noMem, PV.noMem.noMemL, optI, mapO, norm, trimT, trimB, forget, hasN, blksLt, List.set, softChk, softGo, softRd, effTg, rdP, S5b, eL, eg, eg', gi, gi', hj', hjl, hjl', hil, hil', w1, h6, tRow]
  · intro fr _ s
    rw [hlen]
    unfold c5b2
    simp [evCode, evOps, evOne, evOp, evPur, evEff, evPur.chunks, fillP, AOp.isEff, AO.ev, putP, PV.cells, PV.leaf, getB, getM, mapE, iterE, keyC, mapRows, mfind, eq1, eqL, scal, binP, unP, minP, maxP, foldP, PV.lt, PV.lt.ltL, endP, expoAll, expoG, expo, expo.expoL, frIds, frIds.frIdsL, nodupN, kill, cls, clsFuel, resO, RV.get, loadP, evC_p, evC_s, endS, endT, rowsOf, callP, thinL, unfr, unfr.unfrL, PV.noMem, PV.noMem.noMemL, optI, mapO, norm, trimT, trimB, forget, hasN, blksLt, List.set, softChk, softGo, softRd, effTg, rdP, S5b]
end Go.Proofs.Ytlnaibkpmklkiaa
