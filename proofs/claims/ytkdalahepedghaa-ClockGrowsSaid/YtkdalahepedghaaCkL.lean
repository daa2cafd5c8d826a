/- A further snapshot, and the order. -/
import Derived.Test.YtkdalahepedghaaCkK
namespace Go.Proofs.Ytkdalahepedghaa
open Go Go.RowKit
set_option maxHeartbeats 4000000
set_option linter.unusedVariables false
set_option linter.unusedSimpArgs false

theorem first_zero {α : Type} {g : α → Int} (l : List α) : firstF (fun _ s => g s) l 0 = 0 ↔ ∀ s, s ∈ l → g s = 0 := by
  rw [firstF_zero]
  constructor
  · intro h s hs
    obtain ⟨i, hi, rfl⟩ := List.getElem_of_mem hs
    exact h i _ (List.getElem?_eq_getElem hi)
  · intro h i a ha
    exact h a (List.mem_of_getElem? ha)
theorem ck_iff {d : List Dm} {l : List Sn} : ckF d l = 0 ↔ ckF d [] = 0 ∧ l.length ≤ 200 ∧ ∀ s, s ∈ l → sF d s = 0 := by
  cases d with
  | nil => simp [ckF]
  | cons f r =>
    rw [ckF_cons, ckF_cons]
    by_cases g1 : 8 < (f :: r).length
    · rw [if_pos g1, if_pos g1]; simp
    rw [if_neg g1, if_neg g1]
    have g20 : ¬ 200 < ([] : List Sn).length := by simp
    rw [if_neg g20]
    by_cases g2 : 200 < l.length
    · rw [if_pos g2]
      constructor
      · intro h; omega
      · intro h; omega
    rw [if_neg g2]
    by_cases g3 : f.1 ≠ 0
    · rw [if_pos g3, if_pos g3]; simp
    rw [if_neg g3, if_neg g3]
    by_cases g4 : f.2 ≠ 0
    · rw [if_pos g4, if_pos g4]; simp
    rw [if_neg g4, if_neg g4]
    by_cases g5 : firstF (dF (f :: r)) (f :: r) 0 ≠ 0
    · rw [if_pos g5, if_pos g5]
      constructor
      · intro h; exact absurd h g5
      · intro h; exact absurd h.1 g5
    rw [if_neg g5, if_neg g5, first_zero]
    constructor
    · intro h; exact ⟨rfl, by omega, h⟩
    · intro h; exact h.2.2

def nRows (l : List Sn) : List (List PV) := l.map eN
theorem nRows_len (l : List Sn) : (nRows l).length = l.length := by simp [nRows]
theorem nRows_app (l : List Sn) (z : Sn) : nRows l ++ [eN z] = nRows (l ++ [z]) := by simp [nRows]
theorem nRows_get {l : List Sn} {i : Nat} {z : Sn} (h : l[i]? = some z) : (nRows l)[i]? = some (eN z) := by simp [nRows, h]

def S7a (x y : Bool) (d : List Dm) (l : List Sn) (s : Sn) (more : List Sn) (k : Nat) (m : List Sn) : St :=
  ⟨[eDs x d, eNs y l, .top, .top, .top, .top, .top, .own 1 more.length 0 more.length, .own 2 m.length 0 m.length, .int .i64 ((more.length : Int) - 1 - k)] ++ List.replicate 57 .top,
   [some ⟨1, 5, true, [eN s]⟩, some ⟨more.length, 5, true, nRows more⟩, some ⟨m.length, 5, true, nRows m⟩]⟩
set_option maxRecDepth 100000 in
theorem turn7a (x y : Bool) (d : List Dm) (l : List Sn) (s : Sn) (more : List Sn) (hm : more.length ≤ 1000) (s0 : St) (E : Option Out)
    (hE : evLoop (evCode (evC Dg) 1100 c7b1) [0, 1, 7, 8, 9] 3 1100 s0 = E) (h0 : norm [0, 1, 7, 8, 9] 3 s0 = S7a x y d l s more 0 []) :
    E = evCode (evC Dg) 1100 c7b1 (S7a x y d l s more more.length more.reverse) := by
  have H := loop_foldE (body := evCode (evC Dg) 1100 c7b1) (keep := [0, 1, 7, 8, 9]) (n0 := 3) (fuel := 1100) more.reverse (S7a x y d l s more) (fun m a => m ++ [a]) (fun k m => m.length = k) ?_ ?_ (by rw [List.length_reverse]; omega) [] rfl s0 E hE h0
  · have e : ∀ (r m : List Sn), r.foldl (fun m a => m ++ [a]) m = m ++ r := by
      intro r
      induction r with
      | nil => intro m; simp
      | cons a r ih => intro m; rw [List.foldl_cons, ih]; simp
    rw [e, List.nil_append, List.length_reverse] at H
    exact H.1
  · intro k a m ha hk hI
    rw [List.length_reverse] at hk
    refine ⟨by simp [hI], ?_⟩
    have hr : more[more.length - 1 - k]? = some a := by
      rw [List.getElem?_reverse hk] at ha
      exact ha
    have hn := nRows_get hr
    have hlt : more.length - 1 - k < more.length := by omega
    have w1 := wrap_i64 ((more.length : Int) - 1 - (k + 1)) (by omega) (by omega)
    have g0 : (k : Int) ≤ (more.length : Int) - 1 := by omega
    have g1 : (more.length : Int) - 1 - k < more.length := by omega
    have g2 : ((more.length : Int) - 1 - k).toNat = more.length - 1 - k := by omega
    have g3 : (more.length : Int) - 1 - k - 1 = (more.length : Int) - 1 - (k + 1) := by omega
    have eL := nRows_len more
    have eM := nRows_len m
    have hg : (nRows more)[more.length - 1 - k]'(by rw [eL]; exact hlt) = eN a := (List.getElem?_eq_some_iff.1 hn).2
    have h4 : (m.length + 1) * 40 ≤ 140737488355328 := by omega
    have h5 : m.length + 1 ≤ 140737488355328 := by omega
    have ea := nRows_app m a
    simp only [eN] at hn hg ea
    unfold c7b1
    simp [evCode, evOps, evOne, evOp, evPur, evEff, evPur.chunks, fillP, AOp.isEff, AO.ev, putP, PV.cells, PV.leaf, getB, getM, mapE, keyC, mapRows, mfind, eq1, eqL, scal, binP, unP, minP, maxP, foldP, PV.lt, PV.lt.ltL, endP, expoAll, expo, expo.expoL, frIds, frIds.frIdsL, nodupN, kill, cls, clsFuel, resO, RV.get, loadP, evC_p, evC_s, endS, endT, rowsOf, callP, thinL, unfr, unfr.unfrL, PV.noMem, PV.noMem.noMemL, optI, mapO, norm, trimT, trimB, forget, hasN, blksLt, List.set, softChk, softGo, softRd, effTg, rdP, S7a, eNs, g0, g1, g2, hlt, eL, eM, hn, hg, h4, h5, w1, g3, ← ea]
  · intro m _ t
    have g0 : ¬ (more.length : Int) ≤ (more.length : Int) - 1 := by omega
    rw [List.length_reverse]
    unfold c7b1
    simp [evCode, evOps, evOne, evOp, evPur, evEff, evPur.chunks, fillP, AOp.isEff, AO.ev, putP, PV.cells, PV.leaf, getB, getM, mapE, keyC, mapRows, mfind, eq1, eqL, scal, binP, unP, minP, maxP, foldP, PV.lt, PV.lt.ltL, endP, expoAll, expo, expo.expoL, frIds, frIds.frIdsL, nodupN, kill, cls, clsFuel, resO, RV.get, loadP, evC_p, evC_s, endS, endT, rowsOf, callP, thinL, unfr, unfr.unfrL, PV.noMem, PV.noMem.noMemL, optI, mapO, norm, trimT, trimB, forget, hasN, blksLt, List.set, softChk, softGo, softRd, effTg, rdP, S7a, eNs, g0]

def S7b (x y : Bool) (d : List Dm) (l : List Sn) (s : Sn) (more : List Sn) (k : Nat) : St :=
  ⟨[eDs x d, eNs y l, .top, .top, .top, .top, .top, .own 1 more.length 0 more.length, .own 2 more.length 0 more.length, .top, .int .i64 k] ++ List.replicate 56 .top,
   [some ⟨1, 5, true, [eN s]⟩, some ⟨more.length, 5, true, nRows more⟩, some ⟨more.length, 5, true, nRows more.reverse⟩]⟩
theorem f16r (x : Bool) (d : List Dm) (l : List Sn) (z : Int) (hd : d.length ≤ 1000) (hl : l.length ≤ 1000) : ∃ b, evE Dg 16 [eDs x d, .sl false 5 (nRows l), .int .i64 z] = some (.bool b) ∧ (b = true ↔ Lk d l z) := f16 x false d l z hd hl
theorem f13r (x : Bool) (d : List Dm) (l : List Sn) (hd : d.length ≤ 1000) (hl : l.length ≤ 1000) : evE Dg 13 [eDs x d, .sl false 5 (nRows l)] = some (.int .i64 (ckF d l)) := f13 x false d l hd hl
set_option maxRecDepth 100000 in
theorem turn7b (x y : Bool) (d : List Dm) (l : List Sn) (s : Sn) (more : List Sn) (hd : d.length ≤ 1000) (hm : more.length ≤ 1000) (hl : l.length ≤ 1000) (hsub : ∀ t, t ∈ l → t ∈ more) (hc : ckF d more = 0) (s0 : St) (E : Option Out)
    (hE : evLoop (evCode (evC Dg) 1100 c7b0) [0, 1, 7, 8, 10] 3 1100 s0 = E) (h0 : norm [0, 1, 7, 8, 10] 3 s0 = S7b x y d l s more 0) :
    E = evCode (evC Dg) 1100 c7b0 (S7b x y d l s more 8) := by
  have H := loop_all (body := evCode (evC Dg) 1100 c7b0) (keep := [0, 1, 7, 8, 10]) (n0 := 3) (fuel := 1100) (List.range 8) (S7b x y d l s more) (fun _ => true) (fun _ => True) ?_ (by intro k a ha hk hq; cases hq) ?_ (by decide) s0 E hE h0
  · rcases H with ⟨_, h⟩ | ⟨h, _⟩
    · exact h
    · simp at h
  · intro k a ha hk hq
    have hk8 : k < 8 := by simpa using hk
    have hk' : (k : Int) < 8 := by omega
    have w1 := wrap_i64 ((k : Int) + 1) (by omega) (by omega)
    have hcb : ckF d more.reverse = 0 := by
      rw [ck_iff] at hc ⊢
      exact ⟨hc.1, by rw [List.length_reverse]; exact hc.2.1, fun t ht => hc.2.2 t (List.mem_reverse.1 ht)⟩
    obtain ⟨b1, h1, q1⟩ := f16r x d more k hd hm
    obtain ⟨b2, h2, q2⟩ := f16 x y d l k hd hl
    obtain ⟨b3, h3, q3⟩ := f16r x d more.reverse k hd (by rw [List.length_reverse]; exact hm)
    have i1 : b2 = true → b1 = true := fun h => by
      have := q2.1 h
      exact q1.2 ⟨hc, this.2.1, this.2.2.mono hsub⟩
    have i2 : b3 = b1 := by
      have : Lk d more.reverse k ↔ Lk d more k := ⟨fun h => ⟨hc, h.2.1, h.2.2.mono fun t ht => List.mem_reverse.1 ht⟩, fun h => ⟨hcb, h.2.1, h.2.2.mono fun t ht => List.mem_reverse.2 ht⟩⟩
      have := (q3.trans this).trans q1.symm
      cases b1 <;> cases b3 <;> simp at this <;> rfl
    subst i2
    have eL := nRows_len more
    have eR := nRows_len more.reverse
    rw [List.length_reverse] at eR
    have tk : List.take more.length (nRows more) = nRows more := by
      have := List.take_length (l := nRows more); rw [eL] at this; exact this
    have tr : List.take more.length (nRows more.reverse) = nRows more.reverse := by
      have := List.take_length (l := nRows more.reverse); rw [eR] at this; exact this
    simp only [eDs, eNs] at h1 h2 h3
    generalize hR : nRows more.reverse = R at *
    unfold c7b0
    cases b2
    · cases b3 <;> simp [evCode, evOps, evOne, evOp, evPur, evEff, evPur.chunks, fillP, AOp.isEff, AO.ev, putP, PV.cells, PV.leaf, getB, getM, mapE, keyC, mapRows, mfind, eq1, eqL, scal, binP, unP, minP, maxP, foldP, PV.lt, PV.lt.ltL, endP, expoAll, expo, expo.expoL, frIds, frIds.frIdsL, nodupN, kill, cls, clsFuel, resO, RV.get, loadP, evC_p, evC_s, endS, endT, rowsOf, callP, thinL, unfr, unfr.unfrL, PV.noMem, PV.noMem.noMemL, optI, mapO, norm, trimT, trimB, forget, hasN, blksLt, List.set, softChk, softGo, softRd, effTg, rdP, S7b, eDs, eNs, hk', w1, hR, eL, eR, tk, tr, h1, h2, h3]
    · have := i1 rfl
      subst this
      simp [evCode, evOps, evOne, evOp, evPur, evEff, evPur.chunks, fillP, AOp.isEff, AO.ev, putP, PV.cells, PV.leaf, getB, getM, mapE, keyC, mapRows, mfind, eq1, eqL, scal, binP, unP, minP, maxP, foldP, PV.lt, PV.lt.ltL, endP, expoAll, expo, expo.expoL, frIds, frIds.frIdsL, nodupN, kill, cls, clsFuel, resO, RV.get, loadP, evC_p, evC_s, endS, endT, rowsOf, callP, thinL, unfr, unfr.unfrL, PV.noMem, PV.noMem.noMemL, optI, mapO, norm, trimT, trimB, forget, hasN, blksLt, List.set, softChk, softGo, softRd, effTg, rdP, S7b, eDs, eNs, hk', w1, hR, eL, eR, tk, tr, h1, h2, h3]
  · intro t
    unfold c7b0
    simp [evCode, evOps, evOne, evOp, evPur, evEff, evPur.chunks, fillP, AOp.isEff, AO.ev, putP, PV.cells, PV.leaf, getB, getM, mapE, keyC, mapRows, mfind, eq1, eqL, scal, binP, unP, minP, maxP, foldP, PV.lt, PV.lt.ltL, endP, expoAll, expo, expo.expoL, frIds, frIds.frIdsL, nodupN, kill, cls, clsFuel, resO, RV.get, loadP, evC_p, evC_s, endS, endT, rowsOf, callP, thinL, unfr, unfr.unfrL, PV.noMem, PV.noMem.noMemL, optI, mapO, norm, trimT, trimB, forget, hasN, blksLt, List.set, softChk, softGo, softRd, effTg, rdP, S7b, eDs, eNs]
set_option maxRecDepth 100000 in
theorem f7 (x y : Bool) (d : List Dm) (l : List Sn) (s : Sn) : evE Dg 7 [eDs x d, eNs y l, .agg (eN s)] = some (.bool true) := by
  have hw := f10 x y d l
  refine evE_intro 1100 D7 rfl ?_
  cases hf : fewF d l with
  | false =>
    rw [hf] at hw
    simp only [eDs, eNs] at hw
    unfold c7
    simp [evCode, evOps, evOne, evOp, evPur, evEff, evPur.chunks, fillP, AOp.isEff, AO.ev, putP, PV.cells, PV.leaf, getB, getM, mapE, keyC, mapRows, mfind, eq1, eqL, scal, binP, unP, minP, maxP, foldP, PV.lt, PV.lt.ltL, endP, expoAll, expo, expo.expoL, frIds, frIds.frIdsL, nodupN, kill, cls, clsFuel, resO, RV.get, loadP, evC_p, evC_s, endS, endT, rowsOf, callP, thinL, unfr, unfr.unfrL, PV.noMem, PV.noMem.noMemL, optI, mapO, norm, trimT, trimB, forget, hasN, blksLt, List.set, softChk, softGo, softRd, effTg, rdP, eDs, eNs, eN, hw, f11]
  | true =>
    rw [hf] at hw
    simp [fewF] at hf
    have hk := f13r x d (l ++ [s]) (by omega) (by simp; omega)
    have HA := turn7a x y d l s (l ++ [s]) (by simp; omega)
    have eL := nRows_len (l ++ [s])
    have ea := nRows_app l s
    have en : List.map eN l = nRows l := rfl
    have el := nRows_len l
    have h4 : l.length * 40 ≤ 140737488355328 := by omega
    have h5 : l.length ≤ 140737488355328 := by omega
    have h6 : (l.length + 1) * 40 ≤ 140737488355328 := by omega
    have h7 : l.length + 1 ≤ 140737488355328 := by omega
    have lm : (l ++ [s]).length = l.length + 1 := by simp
    have w0 := wrap_i64 (l.length : Int) (by omega) (by omega)
    have g1 : (l.length : Int) + 1 - 1 = l.length := by omega
    have n0 : nRows [] = [] := rfl
    have nb : Nat.beq 0 1 = false := rfl
    have hall : (nRows l).all (PV.lt.ltL 0) = true := by
      rw [List.all_eq_true]
      intro r hr
      obtain ⟨a, _, rfl⟩ := List.mem_map.1 hr
      rfl
    have tk : List.take (l.length + 1) (nRows (l ++ [s])) = nRows (l ++ [s]) := by
      have := List.take_length (l := nRows (l ++ [s])); rw [eL, lm] at this; exact this
    rw [lm] at eL
    simp only [eN] at ea
    simp only [eDs, eNs, en] at hw
    unfold c7
    simp [evCode, evOps, evOne, evOp, evPur, evEff, evPur.chunks, fillP, AOp.isEff, AO.ev, putP, PV.cells, PV.leaf, getB, getM, mapE, keyC, mapRows, mfind, eq1, eqL, scal, binP, unP, minP, maxP, foldP, PV.lt, PV.lt.ltL, endP, expoAll, expo, expo.expoL, frIds, frIds.frIdsL, nodupN, kill, cls, clsFuel, resO, RV.get, loadP, evC_p, evC_s, endS, endT, rowsOf, callP, thinL, unfr, unfr.unfrL, PV.noMem, PV.noMem.noMemL, optI, mapO, norm, trimT, trimB, forget, hasN, blksLt, List.set, softChk, softGo, softRd, effTg, rdP, eDs, eNs, eN, hw, en, el, h4, h5, h6, h7, w0, g1, nb, hall]
    rw [ea]
    generalize hE : evLoop _ _ _ _ _ = E
    have e1 := HA _ _ hE (by simp [evCode, evOps, evOne, evOp, evPur, evEff, evPur.chunks, fillP, AOp.isEff, AO.ev, putP, PV.cells, PV.leaf, getB, getM, mapE, keyC, mapRows, mfind, eq1, eqL, scal, binP, unP, minP, maxP, foldP, PV.lt, PV.lt.ltL, endP, expoAll, expo, expo.expoL, frIds, frIds.frIdsL, nodupN, kill, cls, clsFuel, resO, RV.get, loadP, evC_p, evC_s, endS, endT, rowsOf, callP, thinL, unfr, unfr.unfrL, PV.noMem, PV.noMem.noMemL, optI, mapO, norm, trimT, trimB, forget, hasN, blksLt, List.set, softChk, softGo, softRd, effTg, rdP, S7a, eDs, eNs, eN, en, lm, g1, n0])
    rw [e1, lm]
    clear hE e1 HA
    have g0 : ¬ (l.length : Int) + 1 ≤ (l.length : Int) := by omega
    unfold c7b1 c7r1
    by_cases hc : ckF d (l ++ [s]) = 0
    · have HB := turn7b x y d l s (l ++ [s]) (by omega) (by simp; omega) (by omega) (fun t ht => by simp [ht]) hc
      rw [hc] at hk
      simp only [eDs] at hk
      simp [evCode, evOps, evOne, evOp, evPur, evEff, evPur.chunks, fillP, AOp.isEff, AO.ev, putP, PV.cells, PV.leaf, getB, getM, mapE, keyC, mapRows, mfind, eq1, eqL, scal, binP, unP, minP, maxP, foldP, PV.lt, PV.lt.ltL, endP, expoAll, expo, expo.expoL, frIds, frIds.frIdsL, nodupN, kill, cls, clsFuel, resO, RV.get, loadP, evC_p, evC_s, endS, endT, rowsOf, callP, thinL, unfr, unfr.unfrL, PV.noMem, PV.noMem.noMemL, optI, mapO, norm, trimT, trimB, forget, hasN, blksLt, List.set, softChk, softGo, softRd, effTg, rdP, S7a, eDs, eNs, eN, en, lm, g1, g0, eL, tk, hk]
      generalize hE : evLoop _ _ _ _ _ = E
      have e1 := HB _ _ hE (by simp [evCode, evOps, evOne, evOp, evPur, evEff, evPur.chunks, fillP, AOp.isEff, AO.ev, putP, PV.cells, PV.leaf, getB, getM, mapE, keyC, mapRows, mfind, eq1, eqL, scal, binP, unP, minP, maxP, foldP, PV.lt, PV.lt.ltL, endP, expoAll, expo, expo.expoL, frIds, frIds.frIdsL, nodupN, kill, cls, clsFuel, resO, RV.get, loadP, evC_p, evC_s, endS, endT, rowsOf, callP, thinL, unfr, unfr.unfrL, PV.noMem, PV.noMem.noMemL, optI, mapO, norm, trimT, trimB, forget, hasN, blksLt, List.set, softChk, softGo, softRd, effTg, rdP, S7b, eDs, eNs, eN, en, lm])
      rw [e1]
      unfold c7b0 c7r0
      simp [evCode, evOps, evOne, evOp, evPur, evEff, evPur.chunks, fillP, AOp.isEff, AO.ev, putP, PV.cells, PV.leaf, getB, getM, mapE, keyC, mapRows, mfind, eq1, eqL, scal, binP, unP, minP, maxP, foldP, PV.lt, PV.lt.ltL, endP, expoAll, expo, expo.expoL, frIds, frIds.frIdsL, nodupN, kill, cls, clsFuel, resO, RV.get, loadP, evC_p, evC_s, endS, endT, rowsOf, callP, thinL, unfr, unfr.unfrL, PV.noMem, PV.noMem.noMemL, optI, mapO, norm, trimT, trimB, forget, hasN, blksLt, List.set, softChk, softGo, softRd, effTg, rdP, S7b, eDs, eNs, eN, en, f11]
    · generalize ckF d (l ++ [s]) = C at *
      simp only [eDs] at hk
      simp [evCode, evOps, evOne, evOp, evPur, evEff, evPur.chunks, fillP, AOp.isEff, AO.ev, putP, PV.cells, PV.leaf, getB, getM, mapE, keyC, mapRows, mfind, eq1, eqL, scal, binP, unP, minP, maxP, foldP, PV.lt, PV.lt.ltL, endP, expoAll, expo, expo.expoL, frIds, frIds.frIdsL, nodupN, kill, cls, clsFuel, resO, RV.get, loadP, evC_p, evC_s, endS, endT, rowsOf, callP, thinL, unfr, unfr.unfrL, PV.noMem, PV.noMem.noMemL, optI, mapO, norm, trimT, trimB, forget, hasN, blksLt, List.set, softChk, softGo, softRd, effTg, rdP, S7a, eDs, eNs, eN, en, lm, g1, g0, eL, tk, hk, hc, f11]
theorem law7 (ps : List PV) (h : ArgL Try.prog 12 [22, 23, 37] ps) : evE Dg 7 ps = some (.bool true) := by
  obtain ⟨p, q, r, rfl, h1, h2, h3⟩ := argL3 h
  obtain ⟨d, rfl⟩ := in_doms h1
  obtain ⟨l, rfl⟩ := in_snaps h2
  obtain ⟨qs, rfl, h4⟩ := argT_struct Try.underlying37 h3
  obtain ⟨s, rfl⟩ := ht_snap h4
  exact f7 false false d l s
end Go.Proofs.Ytkdalahepedghaa
