/- heapdump: Check. -/
import Derived.Test.YtdbfbaiopmpklaaDoorHdC
namespace Go.Proofs.YtdbfbaiopmpklaaDoor
open Go Go.RowKit
set_option linter.unusedVariables false
set_option linter.unusedSimpArgs false
set_option maxHeartbeats 4000000

def totR (l : List Ob) : Nat := (l.map fun o => o.2.2.2.length).sum
def badO (o : Ob) : Bool := decide (o.1 < 0) || decide (1000000000000000 < o.1) || decide (o.2.1 < 0) || decide (1000000000000 < o.2.1)
def objF (l : List Ob) (k : Nat) (o : Ob) : Int := if badO o = true then 2 else if nameOk o.2.2.1 = false then 3 else if prevLe (idsO l) k o.1 = true then 11 else 0
def objE (l : List Ob) : Int := firstF (objF l) l 0
def rfsE (l : List Ob) : Int := firstF (fun _ o => refE (idsO l) o.2.2.2) l 0
def chkE (l : List Ob) (r : List Int) : Int := if objE l ≠ 0 then objE l else if rfsE l ≠ 0 then rfsE l else refE (idsO l) r
theorem idsO_get {l : List Ob} {k : Nat} {o : Ob} (h : l[k]? = some o) : (idsO l)[k]? = some o.1 := by simp [idsO, h]
theorem idsO_take (l : List Ob) (k : Nat) {o : Ob} (h : l[k]? = some o) : (idsO l).take (k + 1) = (idsO l).take k ++ [o.1] := by
  rw [List.take_add_one, idsO_get h]; rfl
/-- the numbers of references, added up as they are -/
def sumOk : List Ob → Int → Bool
  | [], _ => true
  | o :: l, n => decide (IntKind.i64.wrap (n + (o.2.2.2.length : Int)) ≤ 20000) && sumOk l (IntKind.i64.wrap (n + (o.2.2.2.length : Int)))
theorem drop_sum {l : List Ob} {k : Nat} {o : Ob} (n : Int) (h : l[k]? = some o) : sumOk (l.drop k) n = (decide (IntKind.i64.wrap (n + (o.2.2.2.length : Int)) ≤ 20000) && sumOk (l.drop (k + 1)) (IntKind.i64.wrap (n + (o.2.2.2.length : Int)))) := by
  obtain ⟨hi, e⟩ := List.getElem?_eq_some_iff.1 h
  rw [List.drop_eq_getElem_cons hi, e]
  rfl
theorem drop_tot {l : List Ob} {k : Nat} {o : Ob} (h : l[k]? = some o) : totR (l.drop k) = o.2.2.2.length + totR (l.drop (k + 1)) := by
  obtain ⟨hi, e⟩ := List.getElem?_eq_some_iff.1 h
  rw [List.drop_eq_getElem_cons hi, e]
  simp [totR]
theorem tot_mem {l : List Ob} {o : Ob} (h : o ∈ l) : o.2.2.2.length ≤ totR l := by
  induction l with
  | nil => simp at h
  | cons a l ih =>
    have e : totR (a :: l) = a.2.2.2.length + totR l := by simp [totR]
    rcases List.mem_cons.1 h with rfl | h
    · omega
    · have := ih h; omega
def bx (l : List Ob) (r : List Int) : Option Blk := some ⟨1, 2, true, [[.sl false 4 (oR l), .sl false 1 (iR r)]]⟩
def mpB (ids : List Int) : Option Blk := some ⟨0, 1000000000, true, mR ids⟩
def S12a (l : List Ob) (r : List Int) (k : Nat) (n : Int) : St := ⟨[.top, .ptr 0 1 0 0, .top, .int .i64 n] ++ List.replicate 20 .top ++ [.sl false 4 (oR l), .int .i64 l.length, .int .i64 k] ++ List.replicate 84 .top, [bx l r]⟩
def S12b (l : List Ob) (r : List Int) (k : Nat) : St := ⟨[.top, .ptr 0 1 0 0, .top, .top, .top, .top, .mp 1 0] ++ List.replicate 36 .top ++ [.sl false 4 (oR l), .int .i64 l.length, .int .i64 k] ++ List.replicate 65 .top, [bx l r, mpB ((idsO l).take k)]⟩
def S12c (l : List Ob) (r : List Int) (k : Nat) : St := ⟨[.top, .ptr 0 1 0 0, .top, .top, .top, .top, .mp 1 0] ++ List.replicate 86 .top ++ [.sl false 4 (oR l), .int .i64 l.length, .int .i64 k] ++ List.replicate 15 .top, [bx l r, mpB (idsO l)]⟩
def I12 (l : List Ob) (k : Nat) : Prop := ∀ z ∈ (idsO l).take k, ∀ p, 0 < k → (idsO l)[k - 1]? = some p → z ≤ p
theorem I12_next {l : List Ob} {k : Nat} {o : Ob} (ho : l[k]? = some o) (hI : I12 l k) (hp : prevLe (idsO l) k o.1 = false) : (¬ o.1 ∈ (idsO l).take k) ∧ I12 l (k + 1) := by
  have key : ∀ z ∈ (idsO l).take k, z < o.1 := by
    intro z hz
    cases k with
    | zero => simp at hz
    | succ j =>
      have hj : j < l.length := by have := (List.getElem?_eq_some_iff.1 ho).1; omega
      have hg : (idsO l)[j]? = some ((l[j]).1) := idsO_get (List.getElem?_eq_getElem hj)
      have := hI z hz _ (by omega) (by simpa using hg)
      simp only [prevLe, hg, decide_eq_false_iff_not] at hp
      omega
  refine ⟨fun h => by have := key _ h; omega, ?_⟩
  intro z hz p _ hp2
  rw [Nat.add_sub_cancel, idsO_get ho] at hp2
  cases hp2
  rw [idsO_take l k ho] at hz
  rcases List.mem_append.1 hz with hz | hz
  · have := key z hz; omega
  · simp at hz; omega
theorem l12a (l : List Ob) (r : List Int) (F : Nat) (hF : l.length < F) (ht : sumOk l 0 = true) (hl : l.length ≤ 5000) (s0 : St) (E : Option Out) (hE : evLoop (evCode (evC Dg) F c12b2) [1, 3, 24, 25, 26] 1 F s0 = E) (h0 : norm [1, 3, 24, 25, 26] 1 s0 = S12a l r 0 0) :
    ∃ n, E = (evCode (evC Dg) F c12b2) (S12a l r l.length n) := by
  have e1 := oR_len l
  have H := loop_inv (body := evCode (evC Dg) F c12b2) (keep := [1, 3, 24, 25, 26]) (n0 := 1) (fuel := F) l (S12a l r) (fun k n => sumOk (l.drop k) n = true) (fun _ => False)
    (by
      rintro k o n ho hk hI
      left
      rw [drop_sum n ho, Bool.and_eq_true, decide_eq_true_eq] at hI
      obtain ⟨hI1, hI2⟩ := hI
      have r1 := oR_get ho
      have g1 := oR_got ho
      have e2 := iR_len o.2.2.2
      have hk' : (k : Int) < l.length := by omega
      have w1 := wrap_i64 ((k : Int) + 1) (by omega) (by omega)
      generalize hw2 : IntKind.i64.wrap (n + (o.2.2.2.length : Int)) = m at *
      have w4 : ¬ (20000 < m) := by omega
      refine ⟨m, ?_⟩
      refine (fun ⟨s', q1, q2⟩ => ⟨s', q1, q2, hI2⟩ : (∃ s', _ ∧ _) → _) ?_
      unfold c12b2
      simp [evCode, evOps, evOne, evOp, evPur, evEff, evPur.chunks, fillP, AOp.isEff, AO.ev, putP, PV.cells, PV.leaf, getB, getM, mapE, iterE, keyC, mapRows, mfind, eq1, eqL, scal, binP, unP, minP, maxP, foldP, PV.lt, PV.lt.ltL, endP, expoAll, expoG, expo, expo.expoL, frIds, frIds.frIdsL, nodupN, kill, cls, clsFuel, resO, RV.get, loadP, evC_p, evC_s, endS, endT, rowsOf, callP, thinL, unfr, unfr.unfrL, PV.noMem, PV.noMem.noMemL, optI, mapO, norm, trimT, trimB, forget, hasN, blksLt, List.set, softChk, softGo, softRd, effTg, tgOf, chgN, sameB, PV.same, PV.same.sameL, PV.same.sameLL, rdP, S12a, bx, oR1, eI, e1, e2, r1, g1, hk', hk, w1, hw2, w4])
    (by
      rintro n _ s
      unfold c12b2
      simp [evCode, evOps, evOne, evOp, evPur, evEff, evPur.chunks, fillP, AOp.isEff, AO.ev, putP, PV.cells, PV.leaf, getB, getM, mapE, iterE, keyC, mapRows, mfind, eq1, eqL, scal, binP, unP, minP, maxP, foldP, PV.lt, PV.lt.ltL, endP, expoAll, expoG, expo, expo.expoL, frIds, frIds.frIdsL, nodupN, kill, cls, clsFuel, resO, RV.get, loadP, evC_p, evC_s, endS, endT, rowsOf, callP, thinL, unfr, unfr.unfrL, PV.noMem, PV.noMem.noMemL, optI, mapO, norm, trimT, trimB, forget, hasN, blksLt, List.set, softChk, softGo, softRd, effTg, tgOf, chgN, sameB, PV.same, PV.same.sameL, PV.same.sameLL, rdP, S12a, bx, e1])
    (by omega) 0 (by rw [List.drop_zero]; exact ht) s0 E hE h0
  rcases H with ⟨n, _, q⟩ | ⟨s, _, q⟩
  · exact ⟨n, q⟩
  · exact absurd q (fun h => h)
theorem l12b (l : List Ob) (r : List Int) (F : Nat) (hF : l.length < F) (hl : l.length ≤ 5000) (s0 : St) (E : Option Out) (hE : evLoop (evCode (evC Dg) F c12b1) [1, 6, 43, 44, 45] 2 F s0 = E) (h0 : norm [1, 6, 43, 44, 45] 2 s0 = S12b l r 0) :
    (objE l = 0 ∧ E = (evCode (evC Dg) F c12b1) (S12b l r l.length)) ∨ (objE l ≠ 0 ∧ ∃ s, E = some (.ret s) ∧ s.sl[2]?.getD .top = .int .i64 (objE l)) := by
  have e1 := oR_len l
  have H := loop_firstI (body := evCode (evC Dg) F c12b1) (keep := [1, 6, 43, 44, 45]) (n0 := 2) (fuel := F) l (S12b l r) (objF l) (I12 l) (fun e t => t.sl[2]?.getD .top = .int .i64 e)
    (by
      rintro k o ho hk hI hq
      have hb : badO o = false := by
        cases hb : badO o with
        | false => rfl
        | true => simp [objF, hb] at hq
      have hn : nameOk o.2.2.1 = true := by
        cases hn : nameOk o.2.2.1 with
        | true => rfl
        | false => simp [objF, hb, hn] at hq
      have hp : prevLe (idsO l) k o.1 = false := by
        cases hp : prevLe (idsO l) k o.1 with
        | false => rfl
        | true => simp [objF, hb, hn, hp] at hq
      obtain ⟨hni, hI'⟩ := I12_next ho hI hp
      refine ⟨hI', ?_⟩
      simp only [badO, Bool.or_eq_false_iff, decide_eq_false_iff_not] at hb
      obtain ⟨⟨⟨b1, b2⟩, b3⟩, b4⟩ := hb
      have h21 := f21 o.2.2.1
      rw [nameE, hn, if_pos rfl] at h21
      have hmo := mR_out 0 hni
      have hap := mR_app ((idsO l).take k) o.1
      rw [← idsO_take l k ho] at hap
      have r1 := oR_get ho
      have g1 := oR_got ho
      have hk' : (k : Int) < l.length := by omega
      have w1 := wrap_i64 ((k : Int) + 1) (by omega) (by omega)
      cases k with
      | zero =>
        have w3 : IntKind.i64.wrap 1 = 1 := rfl
        simp only [List.take_zero] at hmo hap
        unfold c12b1
        simp [evCode, evOps, evOne, evOp, evPur, evEff, evPur.chunks, fillP, AOp.isEff, AO.ev, putP, PV.cells, PV.leaf, getB, getM, mapE, iterE, keyC, mapRows, mfind, eq1, eqL, scal, binP, unP, minP, maxP, foldP, PV.lt, PV.lt.ltL, endP, expoAll, expoG, expo, expo.expoL, frIds, frIds.frIdsL, nodupN, kill, cls, clsFuel, resO, RV.get, loadP, evC_p, evC_s, endS, endT, rowsOf, callP, thinL, unfr, unfr.unfrL, PV.noMem, PV.noMem.noMemL, optI, mapO, norm, trimT, trimB, forget, hasN, blksLt, List.set, softChk, softGo, softRd, effTg, tgOf, chgN, sameB, PV.same, PV.same.sameL, PV.same.sameLL, rdP, S12b, bx, mpB, oR1, eI, e1, r1, g1, hk', hk, w1, w3, b1, b2, b3, b4, h21, hmo, hap]
      | succ n =>
        have hn1 : n < l.length := by omega
        have hpp := List.getElem?_eq_getElem hn1
        generalize hpq : l[n] = p at hpp
        have r2 := oR_get hpp
        have g2 := oR_got hpp
        have k0 : (0 : Int) < ((n + 1 : Nat) : Int) := by omega
        have w2 : IntKind.i64.wrap (((n + 1 : Nat) : Int) - 1) = (n : Int) := by rw [wrap_i64 _ (by omega) (by omega)]; omega
        have hle : ¬ o.1 ≤ p.1 := by
          simp only [prevLe, idsO_get hpp, decide_eq_false_iff_not] at hp
          exact hp
        generalize hK : ((n + 1 : Nat) : Int) = K at *
        have hKN : K.toNat = n + 1 := by omega
        have K0 : (0 : Int) ≤ K := by omega
        unfold c12b1
        simp [evCode, evOps, evOne, evOp, evPur, evEff, evPur.chunks, fillP, AOp.isEff, AO.ev, putP, PV.cells, PV.leaf, getB, getM, mapE, iterE, keyC, mapRows, mfind, eq1, eqL, scal, binP, unP, minP, maxP, foldP, PV.lt, PV.lt.ltL, endP, expoAll, expoG, expo, expo.expoL, frIds, frIds.frIdsL, nodupN, kill, cls, clsFuel, resO, RV.get, loadP, evC_p, evC_s, endS, endT, rowsOf, callP, thinL, unfr, unfr.unfrL, PV.noMem, PV.noMem.noMemL, optI, mapO, norm, trimT, trimB, forget, hasN, blksLt, List.set, softChk, softGo, softRd, effTg, tgOf, chgN, sameB, PV.same, PV.same.sameL, PV.same.sameLL, rdP, S12b, bx, mpB, oR1, eI, e1, r1, g1, r2, g2, hk', hk, w1, w2, k0, K0, hKN, hle, hn1, hK, b1, b2, b3, b4, h21, hmo, hap])
    (by
      rintro k o ho hk hI hq
      have h21 := f21 o.2.2.1
      have r1 := oR_get ho
      have g1 := oR_got ho
      have hk' : (k : Int) < l.length := by omega
      cases hb : badO o with
      | true =>
        have hx : objF l k o = 2 := by simp [objF, hb]
        rw [hx]
        simp only [badO, Bool.or_eq_true, decide_eq_true_eq] at hb
        by_cases b1 : o.1 < 0
        · unfold c12b1
          simp [evCode, evOps, evOne, evOp, evPur, evEff, evPur.chunks, fillP, AOp.isEff, AO.ev, putP, PV.cells, PV.leaf, getB, getM, mapE, iterE, keyC, mapRows, mfind, eq1, eqL, scal, binP, unP, minP, maxP, foldP, PV.lt, PV.lt.ltL, endP, expoAll, expoG, expo, expo.expoL, frIds, frIds.frIdsL, nodupN, kill, cls, clsFuel, resO, RV.get, loadP, evC_p, evC_s, endS, endT, rowsOf, callP, thinL, unfr, unfr.unfrL, PV.noMem, PV.noMem.noMemL, optI, mapO, norm, trimT, trimB, forget, hasN, blksLt, List.set, softChk, softGo, softRd, effTg, tgOf, chgN, sameB, PV.same, PV.same.sameL, PV.same.sameLL, rdP, S12b, bx, mpB, oR1, eI, e1, r1, g1, hk', hk, b1]
        · by_cases b2 : 1000000000000000 < o.1
          · unfold c12b1
            simp [evCode, evOps, evOne, evOp, evPur, evEff, evPur.chunks, fillP, AOp.isEff, AO.ev, putP, PV.cells, PV.leaf, getB, getM, mapE, iterE, keyC, mapRows, mfind, eq1, eqL, scal, binP, unP, minP, maxP, foldP, PV.lt, PV.lt.ltL, endP, expoAll, expoG, expo, expo.expoL, frIds, frIds.frIdsL, nodupN, kill, cls, clsFuel, resO, RV.get, loadP, evC_p, evC_s, endS, endT, rowsOf, callP, thinL, unfr, unfr.unfrL, PV.noMem, PV.noMem.noMemL, optI, mapO, norm, trimT, trimB, forget, hasN, blksLt, List.set, softChk, softGo, softRd, effTg, tgOf, chgN, sameB, PV.same, PV.same.sameL, PV.same.sameLL, rdP, S12b, bx, mpB, oR1, eI, e1, r1, g1, hk', hk, b1, b2]
          · by_cases b3 : o.2.1 < 0
            · unfold c12b1
              simp [evCode, evOps, evOne, evOp, evPur, evEff, evPur.chunks, fillP, AOp.isEff, AO.ev, putP, PV.cells, PV.leaf, getB, getM, mapE, iterE, keyC, mapRows, mfind, eq1, eqL, scal, binP, unP, minP, maxP, foldP, PV.lt, PV.lt.ltL, endP, expoAll, expoG, expo, expo.expoL, frIds, frIds.frIdsL, nodupN, kill, cls, clsFuel, resO, RV.get, loadP, evC_p, evC_s, endS, endT, rowsOf, callP, thinL, unfr, unfr.unfrL, PV.noMem, PV.noMem.noMemL, optI, mapO, norm, trimT, trimB, forget, hasN, blksLt, List.set, softChk, softGo, softRd, effTg, tgOf, chgN, sameB, PV.same, PV.same.sameL, PV.same.sameLL, rdP, S12b, bx, mpB, oR1, eI, e1, r1, g1, hk', hk, b1, b2, b3]
            · have b4 : 1000000000000 < o.2.1 := by omega
              unfold c12b1
              simp [evCode, evOps, evOne, evOp, evPur, evEff, evPur.chunks, fillP, AOp.isEff, AO.ev, putP, PV.cells, PV.leaf, getB, getM, mapE, iterE, keyC, mapRows, mfind, eq1, eqL, scal, binP, unP, minP, maxP, foldP, PV.lt, PV.lt.ltL, endP, expoAll, expoG, expo, expo.expoL, frIds, frIds.frIdsL, nodupN, kill, cls, clsFuel, resO, RV.get, loadP, evC_p, evC_s, endS, endT, rowsOf, callP, thinL, unfr, unfr.unfrL, PV.noMem, PV.noMem.noMemL, optI, mapO, norm, trimT, trimB, forget, hasN, blksLt, List.set, softChk, softGo, softRd, effTg, tgOf, chgN, sameB, PV.same, PV.same.sameL, PV.same.sameLL, rdP, S12b, bx, mpB, oR1, eI, e1, r1, g1, hk', hk, b1, b2, b3, b4]
      | false =>
        have hb' := hb
        simp only [badO, Bool.or_eq_false_iff, decide_eq_false_iff_not] at hb
        obtain ⟨⟨⟨b1, b2⟩, b3⟩, b4⟩ := hb
        cases hn : nameOk o.2.2.1 with
        | false =>
          have hx : objF l k o = 3 := by simp [objF, hb', hn]
          rw [hx]
          have h21' : evE Dg 21 [.str o.2.2.1] = some (.int .i64 3) := by rw [h21, nameE, hn]; rfl
          unfold c12b1
          simp [evCode, evOps, evOne, evOp, evPur, evEff, evPur.chunks, fillP, AOp.isEff, AO.ev, putP, PV.cells, PV.leaf, getB, getM, mapE, iterE, keyC, mapRows, mfind, eq1, eqL, scal, binP, unP, minP, maxP, foldP, PV.lt, PV.lt.ltL, endP, expoAll, expoG, expo, expo.expoL, frIds, frIds.frIdsL, nodupN, kill, cls, clsFuel, resO, RV.get, loadP, evC_p, evC_s, endS, endT, rowsOf, callP, thinL, unfr, unfr.unfrL, PV.noMem, PV.noMem.noMemL, optI, mapO, norm, trimT, trimB, forget, hasN, blksLt, List.set, softChk, softGo, softRd, effTg, tgOf, chgN, sameB, PV.same, PV.same.sameL, PV.same.sameLL, rdP, S12b, bx, mpB, oR1, eI, e1, r1, g1, hk', hk, b1, b2, b3, b4, h21']
        | true =>
          have h21' : evE Dg 21 [.str o.2.2.1] = some (.int .i64 0) := by rw [h21, nameE, hn]; rfl
          have hp : prevLe (idsO l) k o.1 = true := by
            cases hp : prevLe (idsO l) k o.1 with
            | true => rfl
            | false => simp [objF, hb', hn, hp] at hq
          have hx : objF l k o = 11 := by simp [objF, hb', hn, hp]
          rw [hx]
          cases k with
          | zero => simp [prevLe] at hp
          | succ n =>
            have hn1 : n < l.length := by omega
            have hpp := List.getElem?_eq_getElem hn1
            generalize hpq : l[n] = p at hpp
            have r2 := oR_get hpp
            have g2 := oR_got hpp
            have k0 : (0 : Int) < ((n + 1 : Nat) : Int) := by omega
            have w2 : IntKind.i64.wrap (((n + 1 : Nat) : Int) - 1) = (n : Int) := by rw [wrap_i64 _ (by omega) (by omega)]; omega
            have hle : o.1 ≤ p.1 := by
              simp only [prevLe, idsO_get hpp, decide_eq_true_eq] at hp
              exact hp
            generalize hK : ((n + 1 : Nat) : Int) = K at *
            have hKN : K.toNat = n + 1 := by omega
            have K0 : (0 : Int) ≤ K := by omega
            unfold c12b1
            simp [evCode, evOps, evOne, evOp, evPur, evEff, evPur.chunks, fillP, AOp.isEff, AO.ev, putP, PV.cells, PV.leaf, getB, getM, mapE, iterE, keyC, mapRows, mfind, eq1, eqL, scal, binP, unP, minP, maxP, foldP, PV.lt, PV.lt.ltL, endP, expoAll, expoG, expo, expo.expoL, frIds, frIds.frIdsL, nodupN, kill, cls, clsFuel, resO, RV.get, loadP, evC_p, evC_s, endS, endT, rowsOf, callP, thinL, unfr, unfr.unfrL, PV.noMem, PV.noMem.noMemL, optI, mapO, norm, trimT, trimB, forget, hasN, blksLt, List.set, softChk, softGo, softRd, effTg, tgOf, chgN, sameB, PV.same, PV.same.sameL, PV.same.sameLL, rdP, S12b, bx, mpB, oR1, eI, e1, r1, g1, r2, g2, hk', hk, w2, k0, K0, hKN, hle, hn1, hK, b1, b2, b3, b4, h21'])
    (by
      intro s
      unfold c12b1
      simp [evCode, evOps, evOne, evOp, evPur, evEff, evPur.chunks, fillP, AOp.isEff, AO.ev, putP, PV.cells, PV.leaf, getB, getM, mapE, iterE, keyC, mapRows, mfind, eq1, eqL, scal, binP, unP, minP, maxP, foldP, PV.lt, PV.lt.ltL, endP, expoAll, expoG, expo, expo.expoL, frIds, frIds.frIdsL, nodupN, kill, cls, clsFuel, resO, RV.get, loadP, evC_p, evC_s, endS, endT, rowsOf, callP, thinL, unfr, unfr.unfrL, PV.noMem, PV.noMem.noMemL, optI, mapO, norm, trimT, trimB, forget, hasN, blksLt, List.set, softChk, softGo, softRd, effTg, tgOf, chgN, sameB, PV.same, PV.same.sameL, PV.same.sameLL, rdP, S12b, bx, mpB, e1])
    (by rintro z hz; simp at hz)
    (by omega) s0 E hE h0
  rcases H with ⟨q1, _, q2⟩ | ⟨q1, s, q2, q3⟩
  · exact .inl ⟨q1, q2⟩
  · exact .inr ⟨q1, s, q2, q3⟩
theorem l12c (l : List Ob) (r : List Int) (F : Nat) (hF : l.length < F) (hl : l.length ≤ 5000) (hm : ∀ o ∈ l, o.2.2.2.length ≤ 9223372036854775807) (s0 : St) (E : Option Out) (hE : evLoop (evCode (evC Dg) F c12b0) [1, 6, 93, 94, 95] 2 F s0 = E) (h0 : norm [1, 6, 93, 94, 95] 2 s0 = S12c l r 0) :
    (rfsE l = 0 ∧ E = (evCode (evC Dg) F c12b0) (S12c l r l.length)) ∨ (rfsE l ≠ 0 ∧ ∃ s, E = some (.ret s) ∧ s.sl[2]?.getD .top = .int .i64 (rfsE l)) := by
  have e1 := oR_len l
  refine loop_first (body := evCode (evC Dg) F c12b0) (keep := [1, 6, 93, 94, 95]) (n0 := 2) (fuel := F) l (S12c l r) (fun _ o => refE (idsO l) o.2.2.2) (fun e t => t.sl[2]?.getD .top = .int .i64 e)
    (by
      rintro k o ho hk hq
      have h22 := f22 1 [bx l r, mpB (idsO l), some ⟨1, 4, true, [oR1 o]⟩] (idsO l) o.2.2.2 rfl (hm o (List.mem_of_getElem? ho))
      have hq' : refE (idsO l) o.2.2.2 = 0 := hq
      rw [hq'] at h22
      simp only [bx, mpB, oR1, eI] at h22
      have r1 := oR_get ho
      have g1 := oR_got ho
      have hk' : (k : Int) < l.length := by omega
      have w1 := wrap_i64 ((k : Int) + 1) (by omega) (by omega)
      unfold c12b0
      simp [evCode, evOps, evOne, evOp, evPur, evEff, evPur.chunks, fillP, AOp.isEff, AO.ev, putP, PV.cells, PV.leaf, getB, getM, mapE, iterE, keyC, mapRows, mfind, eq1, eqL, scal, binP, unP, minP, maxP, foldP, PV.lt, PV.lt.ltL, endP, expoAll, expoG, expo, expo.expoL, frIds, frIds.frIdsL, nodupN, kill, cls, clsFuel, resO, RV.get, loadP, evC_p, evC_s, endS, endT, rowsOf, callP, thinL, unfr, unfr.unfrL, PV.noMem, PV.noMem.noMemL, optI, mapO, norm, trimT, trimB, forget, hasN, blksLt, List.set, softChk, softGo, softRd, effTg, tgOf, chgN, sameB, PV.same, PV.same.sameL, PV.same.sameLL, rdP, S12c, bx, mpB, oR1, eI, e1, r1, g1, hk', hk, w1, h22])
    (by
      rintro k o ho hk hq
      have h22 := f22 1 [bx l r, mpB (idsO l), some ⟨1, 4, true, [oR1 o]⟩] (idsO l) o.2.2.2 rfl (hm o (List.mem_of_getElem? ho))
      have hq' : ¬ refE (idsO l) o.2.2.2 = 0 := hq
      clear hq
      generalize refE (idsO l) o.2.2.2 = e at *
      simp only [bx, mpB, oR1, eI] at h22
      have r1 := oR_get ho
      have g1 := oR_got ho
      have hk' : (k : Int) < l.length := by omega
      unfold c12b0
      simp [evCode, evOps, evOne, evOp, evPur, evEff, evPur.chunks, fillP, AOp.isEff, AO.ev, putP, PV.cells, PV.leaf, getB, getM, mapE, iterE, keyC, mapRows, mfind, eq1, eqL, scal, binP, unP, minP, maxP, foldP, PV.lt, PV.lt.ltL, endP, expoAll, expoG, expo, expo.expoL, frIds, frIds.frIdsL, nodupN, kill, cls, clsFuel, resO, RV.get, loadP, evC_p, evC_s, endS, endT, rowsOf, callP, thinL, unfr, unfr.unfrL, PV.noMem, PV.noMem.noMemL, optI, mapO, norm, trimT, trimB, forget, hasN, blksLt, List.set, softChk, softGo, softRd, effTg, tgOf, chgN, sameB, PV.same, PV.same.sameL, PV.same.sameLL, rdP, S12c, bx, mpB, oR1, eI, e1, r1, g1, hk', hk, h22, hq'])
    (by
      intro s
      unfold c12b0
      simp [evCode, evOps, evOne, evOp, evPur, evEff, evPur.chunks, fillP, AOp.isEff, AO.ev, putP, PV.cells, PV.leaf, getB, getM, mapE, iterE, keyC, mapRows, mfind, eq1, eqL, scal, binP, unP, minP, maxP, foldP, PV.lt, PV.lt.ltL, endP, expoAll, expoG, expo, expo.expoL, frIds, frIds.frIdsL, nodupN, kill, cls, clsFuel, resO, RV.get, loadP, evC_p, evC_s, endS, endT, rowsOf, callP, thinL, unfr, unfr.unfrL, PV.noMem, PV.noMem.noMemL, optI, mapO, norm, trimT, trimB, forget, hasN, blksLt, List.set, softChk, softGo, softRd, effTg, tgOf, chgN, sameB, PV.same, PV.same.sameL, PV.same.sameLL, rdP, S12c, bx, mpB, e1])
    (by omega) s0 E hE h0
set_option maxRecDepth 100000 in
theorem f12 (l : List Ob) (r : List Int) (hl : l.length ≤ 5000) (hr : r.length ≤ 5000) (ht : sumOk l 0 = true) (hm : ∀ o ∈ l, o.2.2.2.length ≤ 9223372036854775807) : evE Dg 12 [eH l r] = some (.int .i64 (chkE l r)) := by
  have e1 := oR_len l
  have e2 := iR_len r
  have hl' : ¬ (5000 < (l.length : Int)) := by omega
  have hr' : ¬ (5000 < (r.length : Int)) := by omega
  have m0 : mR [] = [] := rfl
  have t0 : (idsO l).take l.length = idsO l := List.take_of_length_le (by simp [idsO])
  refine evE_intro (l.length + 1) D12 rfl ?_
  unfold c12
  simp [evCode, evOps, evOne, evOp, evPur, evEff, evPur.chunks, fillP, AOp.isEff, AO.ev, putP, PV.cells, PV.leaf, getB, getM, mapE, iterE, keyC, mapRows, mfind, eq1, eqL, scal, binP, unP, minP, maxP, foldP, PV.lt, PV.lt.ltL, endP, expoAll, expoG, expo, expo.expoL, frIds, frIds.frIdsL, nodupN, kill, cls, clsFuel, resO, RV.get, loadP, evC_p, evC_s, endS, endT, rowsOf, callP, thinL, unfr, unfr.unfrL, PV.noMem, PV.noMem.noMemL, optI, mapO, norm, trimT, trimB, forget, hasN, blksLt, List.set, softChk, softGo, softRd, effTg, tgOf, chgN, sameB, PV.same, PV.same.sameL, PV.same.sameLL, rdP, eH, eI, e1, e2, hl', hr']
  generalize hE : evLoop _ _ _ _ _ = E
  obtain ⟨n, q⟩ := l12a l r _ (by omega) ht hl _ E hE (by simp [evCode, evOps, evOne, evOp, evPur, evEff, evPur.chunks, fillP, AOp.isEff, AO.ev, putP, PV.cells, PV.leaf, getB, getM, mapE, iterE, keyC, mapRows, mfind, eq1, eqL, scal, binP, unP, minP, maxP, foldP, PV.lt, PV.lt.ltL, endP, expoAll, expoG, expo, expo.expoL, frIds, frIds.frIdsL, nodupN, kill, cls, clsFuel, resO, RV.get, loadP, evC_p, evC_s, endS, endT, rowsOf, callP, thinL, unfr, unfr.unfrL, PV.noMem, PV.noMem.noMemL, optI, mapO, norm, trimT, trimB, forget, hasN, blksLt, List.set, softChk, softGo, softRd, effTg, tgOf, chgN, sameB, PV.same, PV.same.sameL, PV.same.sameLL, rdP, S12a, bx, e1])
  rw [q]
  clear hE q
  unfold c12b2 c12r2
  simp [evCode, evOps, evOne, evOp, evPur, evEff, evPur.chunks, fillP, AOp.isEff, AO.ev, putP, PV.cells, PV.leaf, getB, getM, mapE, iterE, keyC, mapRows, mfind, eq1, eqL, scal, binP, unP, minP, maxP, foldP, PV.lt, PV.lt.ltL, endP, expoAll, expoG, expo, expo.expoL, frIds, frIds.frIdsL, nodupN, kill, cls, clsFuel, resO, RV.get, loadP, evC_p, evC_s, endS, endT, rowsOf, callP, thinL, unfr, unfr.unfrL, PV.noMem, PV.noMem.noMemL, optI, mapO, norm, trimT, trimB, forget, hasN, blksLt, List.set, softChk, softGo, softRd, effTg, tgOf, chgN, sameB, PV.same, PV.same.sameL, PV.same.sameLL, rdP, S12a, bx, e1, e2]
  generalize hE : evLoop _ _ _ _ _ = E2
  rcases l12b l r _ (by omega) hl _ E2 hE (by simp [evCode, evOps, evOne, evOp, evPur, evEff, evPur.chunks, fillP, AOp.isEff, AO.ev, putP, PV.cells, PV.leaf, getB, getM, mapE, iterE, keyC, mapRows, mfind, eq1, eqL, scal, binP, unP, minP, maxP, foldP, PV.lt, PV.lt.ltL, endP, expoAll, expoG, expo, expo.expoL, frIds, frIds.frIdsL, nodupN, kill, cls, clsFuel, resO, RV.get, loadP, evC_p, evC_s, endS, endT, rowsOf, callP, thinL, unfr, unfr.unfrL, PV.noMem, PV.noMem.noMemL, optI, mapO, norm, trimT, trimB, forget, hasN, blksLt, List.set, softChk, softGo, softRd, effTg, tgOf, chgN, sameB, PV.same, PV.same.sameL, PV.same.sameLL, rdP, S12b, bx, mpB, e1, m0]) with ⟨q1, q2⟩ | ⟨q1, s, q2, q3⟩
  · rw [q2]
    clear hE
    unfold c12b1 c12r1
    simp [evCode, evOps, evOne, evOp, evPur, evEff, evPur.chunks, fillP, AOp.isEff, AO.ev, putP, PV.cells, PV.leaf, getB, getM, mapE, iterE, keyC, mapRows, mfind, eq1, eqL, scal, binP, unP, minP, maxP, foldP, PV.lt, PV.lt.ltL, endP, expoAll, expoG, expo, expo.expoL, frIds, frIds.frIdsL, nodupN, kill, cls, clsFuel, resO, RV.get, loadP, evC_p, evC_s, endS, endT, rowsOf, callP, thinL, unfr, unfr.unfrL, PV.noMem, PV.noMem.noMemL, optI, mapO, norm, trimT, trimB, forget, hasN, blksLt, List.set, softChk, softGo, softRd, effTg, tgOf, chgN, sameB, PV.same, PV.same.sameL, PV.same.sameLL, rdP, S12b, bx, mpB, e1, e2, t0]
    generalize hE : evLoop _ _ _ _ _ = E3
    rcases l12c l r _ (by omega) hl hm _ E3 hE (by simp [evCode, evOps, evOne, evOp, evPur, evEff, evPur.chunks, fillP, AOp.isEff, AO.ev, putP, PV.cells, PV.leaf, getB, getM, mapE, iterE, keyC, mapRows, mfind, eq1, eqL, scal, binP, unP, minP, maxP, foldP, PV.lt, PV.lt.ltL, endP, expoAll, expoG, expo, expo.expoL, frIds, frIds.frIdsL, nodupN, kill, cls, clsFuel, resO, RV.get, loadP, evC_p, evC_s, endS, endT, rowsOf, callP, thinL, unfr, unfr.unfrL, PV.noMem, PV.noMem.noMemL, optI, mapO, norm, trimT, trimB, forget, hasN, blksLt, List.set, softChk, softGo, softRd, effTg, tgOf, chgN, sameB, PV.same, PV.same.sameL, PV.same.sameLL, rdP, S12c, bx, mpB, e1]) with ⟨p1, p2⟩ | ⟨p1, s, p2, p3⟩
    · rw [p2, show chkE l r = refE (idsO l) r by unfold chkE; rw [if_neg (by simp [q1]), if_neg (by simp [p1])]]
      have h22 := f22 1 [bx l r, mpB (idsO l)] (idsO l) r rfl (by omega)
      simp only [bx, mpB, eI] at h22
      unfold c12b0 c12r0
      simp [evCode, evOps, evOne, evOp, evPur, evEff, evPur.chunks, fillP, AOp.isEff, AO.ev, putP, PV.cells, PV.leaf, getB, getM, mapE, iterE, keyC, mapRows, mfind, eq1, eqL, scal, binP, unP, minP, maxP, foldP, PV.lt, PV.lt.ltL, endP, expoAll, expoG, expo, expo.expoL, frIds, frIds.frIdsL, nodupN, kill, cls, clsFuel, resO, RV.get, loadP, evC_p, evC_s, endS, endT, rowsOf, callP, thinL, unfr, unfr.unfrL, PV.noMem, PV.noMem.noMemL, optI, mapO, norm, trimT, trimB, forget, hasN, blksLt, List.set, softChk, softGo, softRd, effTg, tgOf, chgN, sameB, PV.same, PV.same.sameL, PV.same.sameLL, rdP, S12c, bx, mpB, e1, e2, h22]
    · rw [p2, show chkE l r = rfsE l by unfold chkE; rw [if_neg (by simp [q1]), if_pos p1]]
      simp [evCode, evOps, evOne, evOp, evPur, evEff, evPur.chunks, fillP, AOp.isEff, AO.ev, putP, PV.cells, PV.leaf, getB, getM, mapE, iterE, keyC, mapRows, mfind, eq1, eqL, scal, binP, unP, minP, maxP, foldP, PV.lt, PV.lt.ltL, endP, expoAll, expoG, expo, expo.expoL, frIds, frIds.frIdsL, nodupN, kill, cls, clsFuel, resO, RV.get, loadP, evC_p, evC_s, endS, endT, rowsOf, callP, thinL, unfr, unfr.unfrL, PV.noMem, PV.noMem.noMemL, optI, mapO, norm, trimT, trimB, forget, hasN, blksLt, List.set, softChk, softGo, softRd, effTg, tgOf, chgN, sameB, PV.same, PV.same.sameL, PV.same.sameLL, rdP, p3]
  · rw [q2, show chkE l r = objE l by unfold chkE; rw [if_pos q1]]
    simp [evCode, evOps, evOne, evOp, evPur, evEff, evPur.chunks, fillP, AOp.isEff, AO.ev, putP, PV.cells, PV.leaf, getB, getM, mapE, iterE, keyC, mapRows, mfind, eq1, eqL, scal, binP, unP, minP, maxP, foldP, PV.lt, PV.lt.ltL, endP, expoAll, expoG, expo, expo.expoL, frIds, frIds.frIdsL, nodupN, kill, cls, clsFuel, resO, RV.get, loadP, evC_p, evC_s, endS, endT, rowsOf, callP, thinL, unfr, unfr.unfrL, PV.noMem, PV.noMem.noMemL, optI, mapO, norm, trimT, trimB, forget, hasN, blksLt, List.set, softChk, softGo, softRd, effTg, tgOf, chgN, sameB, PV.same, PV.same.sameL, PV.same.sameLL, rdP, q3]
end Go.Proofs.YtdbfbaiopmpklaaDoor
