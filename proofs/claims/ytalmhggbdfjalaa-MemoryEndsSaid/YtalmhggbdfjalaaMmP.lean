/- MemoryEnds, whole. -/
-- BIG
import Derived.Test.YtalmhggbdfjalaaMmP1
import Derived.Test.YtalmhggbdfjalaaMmP2
import Derived.Test.YtalmhggbdfjalaaMmP3
import Derived.Test.YtalmhggbdfjalaaMmP4
import Derived.Test.YtalmhggbdfjalaaMmO
namespace Go.Proofs.Ytalmhggbdfjalaa
open Go Go.RowKit
set_option linter.unusedVariables false
set_option linter.unusedSectionVars false
set_option linter.unusedSimpArgs false
set_option maxHeartbeats 4000000

def fl (b : Bk) (x : Bool × Bool) (t : Td) : Bool × Bool := if t.n = b.i ∧ (t.kd = 11 ∨ t.kd = 12) then (x.1 || decide (isBg b t), x.2 || decide (isEn b t)) else x
section
variable (l : List Td) (hl : l.length ≤ 1000) (a : Int) (A : List Bk) (i k : Nat) (t : Td) (ht : l[k]? = some t) (b : Bk) (hb : A[i]? = some b) (x y : Bool) (f : Nat)
include hl ht hb
theorem e6_step (hfe : b.f < b.e) : ∃ s, evCode (evC Dg) f c6b0 (S6i l a A i k (x, y)) = some (.normal s) ∧ norm [0, 1, 5, 6, 7, 8, 9] 0 s = S6i l a A i (k + 1) (fl b (x, y) t) := by
  by_cases h1 : t.n = b.i
  · by_cases h2 : t.kd = 11
    · cases x with
      | true =>
        cases y with
        | true =>
          have e := e6_b1ae1 l hl a A i k t ht b hb f h1 h2
          rw [show fl b (true, true) t = (true, true) from by simp [fl, isBg, isEn, h1, h2]]
          exact e
        | false =>
          cases g1 : b.lv with
          | true =>
            rw [show fl b (true, false) t = (true, false) from by simp [fl, isBg, isEn, h1, h2, g1]]
            exact e6_b1ae2 l hl a A i k t ht b hb f h1 h2 g1
          | false =>
            by_cases g2 : tm t = b.e
            · skip
              rw [show fl b (true, false) t = (true, true) from by simp [fl, isBg, isEn, h1, h2, g1, g2]]
              exact e6_b1ae4 l hl a A i k t ht b hb f h1 h2 g1 g2
            · rw [show fl b (true, false) t = (true, false) from by simp [fl, isBg, isEn, h1, h2, g1, g2]]
              exact e6_b1ae3 l hl a A i k t ht b hb f h1 h2 g1 g2
      | false =>
        by_cases h3 : tm t = b.f
        · by_cases h4 : t.m = b.s
          · by_cases h5 : t.th = b.t
            · skip
              cases y with
              | true =>
                have e := e6_b6e1 l hl a A i k t ht b hb f h1 h2 h3 h4 h5
                rw [show fl b (false, true) t = (true, true) from by simp [fl, isBg, isEn, h1, h2, h3, h4, h5]]
                exact e
              | false =>
                cases g1 : b.lv with
                | true =>
                  rw [show fl b (false, false) t = (true, false) from by simp [fl, isBg, isEn, h1, h2, h3, h4, h5, g1]]
                  exact e6_b6e2 l hl a A i k t ht b hb f h1 h2 h3 h4 h5 g1
                | false =>
                  have g2 : ¬ b.f = b.e := by omega
                  rw [show fl b (false, false) t = (true, false) from by simp [fl, isBg, isEn, h1, h2, h3, h4, h5, g1, g2]]
                  exact e6_b6e3 l hl a A i k t ht b hb f h1 h2 h3 h4 h5 g1 g2
            · skip
              cases y with
              | true =>
                have e := e6_b5e1 l hl a A i k t ht b hb f h1 h2 h3 h4 h5
                rw [show fl b (false, true) t = (false, true) from by simp [fl, isBg, isEn, h1, h2, h3, h4, h5]]
                exact e
              | false =>
                cases g1 : b.lv with
                | true =>
                  rw [show fl b (false, false) t = (false, false) from by simp [fl, isBg, isEn, h1, h2, h3, h4, h5, g1]]
                  exact e6_b5e2 l hl a A i k t ht b hb f h1 h2 h3 h4 h5 g1
                | false =>
                  have g2 : ¬ b.f = b.e := by omega
                  rw [show fl b (false, false) t = (false, false) from by simp [fl, isBg, isEn, h1, h2, h3, h4, h5, g1, g2]]
                  exact e6_b5e3 l hl a A i k t ht b hb f h1 h2 h3 h4 h5 g1 g2
          · skip
            cases y with
            | true =>
              have e := e6_b4e1 l hl a A i k t ht b hb f h1 h2 h3 h4
              rw [show fl b (false, true) t = (false, true) from by simp [fl, isBg, isEn, h1, h2, h3, h4]]
              exact e
            | false =>
              cases g1 : b.lv with
              | true =>
                rw [show fl b (false, false) t = (false, false) from by simp [fl, isBg, isEn, h1, h2, h3, h4, g1]]
                exact e6_b4e2 l hl a A i k t ht b hb f h1 h2 h3 h4 g1
              | false =>
                have g2 : ¬ b.f = b.e := by omega
                rw [show fl b (false, false) t = (false, false) from by simp [fl, isBg, isEn, h1, h2, h3, h4, g1, g2]]
                exact e6_b4e3 l hl a A i k t ht b hb f h1 h2 h3 h4 g1 g2
        · skip
          cases y with
          | true =>
            have e := e6_b3e1 l hl a A i k t ht b hb f h1 h2 h3
            rw [show fl b (false, true) t = (false, true) from by simp [fl, isBg, isEn, h1, h2, h3]]
            exact e
          | false =>
            cases g1 : b.lv with
            | true =>
              rw [show fl b (false, false) t = (false, false) from by simp [fl, isBg, isEn, h1, h2, h3, g1]]
              exact e6_b3e2 l hl a A i k t ht b hb f h1 h2 h3 g1
            | false =>
              by_cases g2 : tm t = b.e
              · have g3 : ¬ b.e = b.f := fun h => h3 (g2.trans h)
                rw [show fl b (false, false) t = (false, true) from by simp [fl, isBg, isEn, h1, h2, h3, g1, g2, g3]]
                exact e6_b3e4 l hl a A i k t ht b hb f h1 h2 h3 g1 g2 g3
              · rw [show fl b (false, false) t = (false, false) from by simp [fl, isBg, isEn, h1, h2, h3, g1, g2]]
                exact e6_b3e3 l hl a A i k t ht b hb f h1 h2 h3 g1 g2
    · by_cases h3 : t.kd = 12
      · cases x with
        | true =>
          cases y with
          | true =>
            have e := e6_b1be1 l hl a A i k t ht b hb f h1 h3
            rw [show fl b (true, true) t = (true, true) from by simp [fl, isBg, isEn, h1, h3]]
            exact e
          | false =>
            cases g1 : b.lv with
            | true =>
              rw [show fl b (true, false) t = (true, false) from by simp [fl, isBg, isEn, h1, h3, g1]]
              exact e6_b1be2 l hl a A i k t ht b hb f h1 h3 g1
            | false =>
              by_cases g2 : tm t = b.e
              · skip
                rw [show fl b (true, false) t = (true, true) from by simp [fl, isBg, isEn, h1, h3, g1, g2]]
                exact e6_b1be4 l hl a A i k t ht b hb f h1 h3 g1 g2
              · rw [show fl b (true, false) t = (true, false) from by simp [fl, isBg, isEn, h1, h3, g1, g2]]
                exact e6_b1be3 l hl a A i k t ht b hb f h1 h3 g1 g2
        | false =>
          cases y with
          | true =>
            have e := e6_b2e1 l hl a A i k t ht b hb f h1 h3
            rw [show fl b (false, true) t = (false, true) from by simp [fl, isBg, isEn, h1, h3]]
            exact e
          | false =>
            cases g1 : b.lv with
            | true =>
              rw [show fl b (false, false) t = (false, false) from by simp [fl, isBg, isEn, h1, h3, g1]]
              exact e6_b2e2 l hl a A i k t ht b hb f h1 h3 g1
            | false =>
              by_cases g2 : tm t = b.e
              · skip
                rw [show fl b (false, false) t = (false, true) from by simp [fl, isBg, isEn, h1, h3, g1, g2]]
                exact e6_b2e4 l hl a A i k t ht b hb f h1 h3 g1 g2
              · rw [show fl b (false, false) t = (false, false) from by simp [fl, isBg, isEn, h1, h3, g1, g2]]
                exact e6_b2e3 l hl a A i k t ht b hb f h1 h3 g1 g2
      · rw [show fl b (x, y) t = (x, y) from by simp [fl, h2, h3]]
        exact e6_s2 l hl a A i k t ht b hb x y f h1 h2 h3
  · rw [show fl b (x, y) t = (x, y) from by simp [fl, h1]]
    exact e6_s1 l hl a A i k t ht b hb x y f h1
end
theorem fl_fold (b : Bk) : ∀ (l : List Td) (x y : Bool), l.foldl (fl b) (x, y) = (x || l.any (fun t => decide (t.n = b.i ∧ (t.kd = 11 ∨ t.kd = 12)) && decide (isBg b t)), y || l.any (fun t => decide (t.n = b.i ∧ (t.kd = 11 ∨ t.kd = 12)) && decide (isEn b t)))
  | [], x, y => by simp
  | t :: l, x, y => by
    rw [List.foldl_cons]
    by_cases h : t.n = b.i ∧ (t.kd = 11 ∨ t.kd = 12)
    · have e : fl b (x, y) t = (x || decide (isBg b t), y || decide (isEn b t)) := by unfold fl; rw [if_pos h]
      rw [e, fl_fold b l, List.any_cons, List.any_cons]
      simp only [h, and_self, decide_true, Bool.true_and, Bool.or_assoc]
    · have e : fl b (x, y) t = (x, y) := by unfold fl; rw [if_neg h]
      rw [e, fl_fold b l, List.any_cons, List.any_cons]
      simp [h]
/-- a block of Of has its beginning and its end -/
theorem fl_true {l : List Td} {e : Int} {b : Bk} (h : Org l e b) : l.foldl (fl b) (false, b.lv) = (true, true) := by
  rw [fl_fold]
  obtain ⟨⟨i, t, ht, hk, h1, h2, h3, h4, _⟩, hf⟩ := h
  congr 1
  · rw [Bool.false_or, List.any_eq_true]
    refine ⟨t, List.mem_of_getElem? ht, ?_⟩
    have : isBg b t := ⟨hk, h4.symm, h3.symm, h2.symm⟩
    simp [this, h1, hk]
  · rcases hf with ⟨h5, _⟩ | ⟨h5, j, x, hx, hn, hxk, he⟩
    · rw [h5, Bool.true_or]
    · rw [h5, Bool.false_or, List.any_eq_true]
      refine ⟨x, List.mem_of_getElem? hx, ?_⟩
      have : isEn b x := ⟨h5, he.symm⟩
      rcases hxk with e1 | e1 <;> simp [this, hn, e1]
def S6 (l : List Td) (a : Int) (A : List Bk) (i : Nat) : St := ⟨[.sl false 10 (tRows l), .int .i64 a, .top, .top, .top, .sl false 7 (bRows A), .int .i64 i] ++ List.replicate 152 .top, []⟩
def X6i (l : List Td) (a : Int) (A : List Bk) (i : Nat) (x : Bool × Bool) : St := ⟨[.sl false 10 (tRows l), .int .i64 a, .top, .top, .top, .sl false 7 (bRows A), .int .i64 i, .bool x.1, .bool x.2, .int .i64 l.length] ++ List.replicate 46 .top ++ [.int .i64 l.length, .sl false 10 (tRows l), .int .i64 l.length, .bool false] ++ List.replicate 99 .top, []⟩
set_option maxRecDepth 100000 in
theorem exit6i (l : List Td) (a : Int) (A : List Bk) (i : Nat) (x : Bool × Bool) (f : Nat) : evCode (evC Dg) f c6b0 (S6i l a A i l.length x) = some (.exit 2 (X6i l a A i x)) := by
  have eL := tRows_len l
  unfold c6b0 X6i
  simp (maxSteps := 100000000) [evCode, evOps, evOne, evOp, evPur, evEff, evPur.chunks, fillP, AOp.isEff, AO.ev, putP, PV.cells, PV.leaf, getB, getM, mapE, iterE, keyC, mapRows, mfind, eq1, eqL, scal, binP, unP, minP, maxP, foldP, PV.lt, PV.lt.ltL, endP, expoAll, expoG, expo, expo.expoL, frIds, frIds.frIdsL, nodupN, kill, cls, clsFuel, resO, RV.get, loadP, evC_p, evC_s, endS, endT, rowsOf, callP, thinL, unfr, unfr.unfrL, PV.noMem, PV.noMem.noMemL, optI, mapO, norm, trimT, trimB, forget, hasN, blksLt, List.set, softChk, softGo, softRd, effTg, rdP, S6i, eL]
set_option maxRecDepth 100000 in
theorem step6 (l : List Td) (hl : l.length ≤ 1000) (a : Int) (A : List Bk) (hA : A.length ≤ 1000) (i : Nat) (b : Bk) (hb : A[i]? = some b) (hfe : b.f < b.e) (ho : Org l (endM l a) b) :
    ∃ s, evCode (evC Dg) 3000 c6b1 (S6 l a A i) = some (.normal s) ∧ norm [0, 1, 5, 6] 0 s = S6 l a A (i + 1) := by
  have H := fun (x : Bool × Bool) (s0 : St) (E : Option Out) => loop_foldE (body := evCode (evC Dg) 3000 c6b0) (keep := [0, 1, 5, 6, 7, 8, 9]) (n0 := 0) (fuel := 3000) l (fun k x => S6i l a A i k x) (fl b) (fun _ _ => True) (by
    rintro k t ⟨x, y⟩ ht hk _
    exact ⟨trivial, e6_step l hl a A i k t ht b hb x y 3000 hfe⟩) (by
    intro x _ s
    rw [exit6i]
    intro h; cases h) (by omega) x trivial s0 E
  have hft := fl_true ho
  have hi : i < A.length := (List.getElem?_eq_some_iff.1 hb).1
  have hi' : (i : Int) < A.length := by omega
  have w1 := wrap_i64 ((i : Int) + 1) (by omega) (by omega)
  have eA := bRows_len A
  have gb := bRows_get hb
  have gb' := bRows_getE hb
  have h24 := f24 l (by omega) a
  have hlv : b.lv = true → b.e = endM l a := by
    intro h
    rcases ho.fin with ⟨_, h2⟩ | ⟨h2, _⟩
    · exact h2
    · rw [h] at h2; cases h2
  generalize endM l a = en at *
  cases hv : b.lv with
  | true =>
    have he := hlv hv
    rw [hv] at hft
    unfold c6b1
    simp (maxSteps := 100000000) [evCode, evOps, evOne, evOp, evPur, evEff, evPur.chunks, fillP, AOp.isEff, AO.ev, putP, PV.cells, PV.leaf, getB, getM, mapE, iterE, keyC, mapRows, mfind, eq1, eqL, scal, binP, unP, minP, maxP, foldP, PV.lt, PV.lt.ltL, endP, expoAll, expoG, expo, expo.expoL, frIds, frIds.frIdsL, nodupN, kill, cls, clsFuel, resO, RV.get, loadP, evC_p, evC_s, endS, endT, rowsOf, callP, thinL, unfr, unfr.unfrL, PV.noMem, PV.noMem.noMemL, optI, mapO, norm, trimT, trimB, forget, hasN, blksLt, List.set, softChk, softGo, softRd, effTg, rdP, S6, hi, hi', eA, gb, gb', bRow, eTx, hv, h24, he]
    generalize hE : evLoop (evCode (evC Dg) 3000 c6b0) [0, 1, 5, 6, 7, 8, 9] 0 3000 _ = E
    obtain ⟨h, -⟩ := H (false, true) _ E hE (by simp [evCode, evOps, evOne, evOp, evPur, evEff, evPur.chunks, fillP, AOp.isEff, AO.ev, putP, PV.cells, PV.leaf, getB, getM, mapE, iterE, keyC, mapRows, mfind, eq1, eqL, scal, binP, unP, minP, maxP, foldP, PV.lt, PV.lt.ltL, endP, expoAll, expoG, expo, expo.expoL, frIds, frIds.frIdsL, nodupN, kill, cls, clsFuel, resO, RV.get, loadP, evC_p, evC_s, endS, endT, rowsOf, callP, thinL, unfr, unfr.unfrL, PV.noMem, PV.noMem.noMemL, optI, mapO, norm, trimT, trimB, forget, hasN, blksLt, List.set, softChk, softGo, softRd, effTg, rdP, S6i])
    rw [exit6i, hft] at h
    subst h
    clear hE H
    unfold X6i
    simp (maxSteps := 100000000) [evCode, evOps, evOne, evOp, evPur, evEff, evPur.chunks, fillP, AOp.isEff, AO.ev, putP, PV.cells, PV.leaf, getB, getM, mapE, iterE, keyC, mapRows, mfind, eq1, eqL, scal, binP, unP, minP, maxP, foldP, PV.lt, PV.lt.ltL, endP, expoAll, expoG, expo, expo.expoL, frIds, frIds.frIdsL, nodupN, kill, cls, clsFuel, resO, RV.get, loadP, evC_p, evC_s, endS, endT, rowsOf, callP, thinL, unfr, unfr.unfrL, PV.noMem, PV.noMem.noMemL, optI, mapO, norm, trimT, trimB, forget, hasN, blksLt, List.set, softChk, softGo, softRd, effTg, rdP, w1]
  | false =>
    rw [hv] at hft
    unfold c6b1
    simp (maxSteps := 100000000) [evCode, evOps, evOne, evOp, evPur, evEff, evPur.chunks, fillP, AOp.isEff, AO.ev, putP, PV.cells, PV.leaf, getB, getM, mapE, iterE, keyC, mapRows, mfind, eq1, eqL, scal, binP, unP, minP, maxP, foldP, PV.lt, PV.lt.ltL, endP, expoAll, expoG, expo, expo.expoL, frIds, frIds.frIdsL, nodupN, kill, cls, clsFuel, resO, RV.get, loadP, evC_p, evC_s, endS, endT, rowsOf, callP, thinL, unfr, unfr.unfrL, PV.noMem, PV.noMem.noMemL, optI, mapO, norm, trimT, trimB, forget, hasN, blksLt, List.set, softChk, softGo, softRd, effTg, rdP, S6, hi, hi', eA, gb, gb', bRow, eTx, hv]
    generalize hE : evLoop (evCode (evC Dg) 3000 c6b0) [0, 1, 5, 6, 7, 8, 9] 0 3000 _ = E
    obtain ⟨h, -⟩ := H (false, false) _ E hE (by simp [evCode, evOps, evOne, evOp, evPur, evEff, evPur.chunks, fillP, AOp.isEff, AO.ev, putP, PV.cells, PV.leaf, getB, getM, mapE, iterE, keyC, mapRows, mfind, eq1, eqL, scal, binP, unP, minP, maxP, foldP, PV.lt, PV.lt.ltL, endP, expoAll, expoG, expo, expo.expoL, frIds, frIds.frIdsL, nodupN, kill, cls, clsFuel, resO, RV.get, loadP, evC_p, evC_s, endS, endT, rowsOf, callP, thinL, unfr, unfr.unfrL, PV.noMem, PV.noMem.noMemL, optI, mapO, norm, trimT, trimB, forget, hasN, blksLt, List.set, softChk, softGo, softRd, effTg, rdP, S6i])
    rw [exit6i, hft] at h
    subst h
    clear hE H
    unfold X6i
    simp (maxSteps := 100000000) [evCode, evOps, evOne, evOp, evPur, evEff, evPur.chunks, fillP, AOp.isEff, AO.ev, putP, PV.cells, PV.leaf, getB, getM, mapE, iterE, keyC, mapRows, mfind, eq1, eqL, scal, binP, unP, minP, maxP, foldP, PV.lt, PV.lt.ltL, endP, expoAll, expoG, expo, expo.expoL, frIds, frIds.frIdsL, nodupN, kill, cls, clsFuel, resO, RV.get, loadP, evC_p, evC_s, endS, endT, rowsOf, callP, thinL, unfr, unfr.unfrL, PV.noMem, PV.noMem.noMemL, optI, mapO, norm, trimT, trimB, forget, hasN, blksLt, List.set, softChk, softGo, softRd, effTg, rdP, w1]
set_option maxRecDepth 100000 in
theorem f6 (l : List Td) (a : Int) : evE Dg 6 [.sl false 10 (tRows l), .int .i64 a] = some (.bool true) := by
  have h8 := f8 l
  have h9 := f9
  cases hs : smallT l with
  | false =>
    rw [hs] at h8
    refine evE_intro 1 D6 rfl ?_
    unfold c6
    simp (maxSteps := 100000000) [evCode, evOps, evOne, evOp, evPur, evEff, evPur.chunks, fillP, AOp.isEff, AO.ev, putP, PV.cells, PV.leaf, getB, getM, mapE, iterE, keyC, mapRows, mfind, eq1, eqL, scal, binP, unP, minP, maxP, foldP, PV.lt, PV.lt.ltL, endP, expoAll, expoG, expo, expo.expoL, frIds, frIds.frIdsL, nodupN, kill, cls, clsFuel, resO, RV.get, loadP, evC_p, evC_s, endS, endT, rowsOf, callP, thinL, unfr, unfr.unfrL, PV.noMem, PV.noMem.noMemL, optI, mapO, norm, trimT, trimB, forget, hasN, blksLt, List.set, softChk, softGo, softRd, effTg, rdP, h8, h9]
  | true =>
    rw [hs] at h8
    obtain ⟨hl, hst⟩ := small_st hs
    rcases f22 l (by omega) with ⟨h22, hok⟩ | ⟨h22, _⟩
    · have h11 := f11 l (by omega) a
      have lA := ofB_len l a
      have h14 := f14 (ofB l a) (by omega)
      rw [chk_of hok a] at h14
      have h23 := f23 l 11 (by omega)
      have hcnt := ofB_cnt l a
      have hmem := fun b hb => @ofB_mem l a b hb
      have horg := allB_org l (endM l a)
      generalize ofB l a = A at *
      have H := fun (s0 : St) (E : Option Out) => loop_inv (body := evCode (evC Dg) 3000 c6b1) (keep := [0, 1, 5, 6]) (n0 := 0) (fuel := 3000) A (fun i (_ : Unit) => S6 l a A i) (fun _ _ => True) (fun _ => False) (by
        intro i b x hb hi _
        left
        obtain ⟨m1, m2⟩ := hmem b (List.mem_of_getElem? hb)
        obtain ⟨s, e1, e2⟩ := step6 l (by omega) a A (by omega) i b hb m2 (horg b m1)
        exact ⟨(), s, e1, e2, trivial⟩) (by
        intro x _ s
        have eA := bRows_len A
        unfold c6b1
        simp (maxSteps := 100000000) [evCode, evOps, evOne, evOp, evPur, evEff, evPur.chunks, fillP, AOp.isEff, AO.ev, putP, PV.cells, PV.leaf, getB, getM, mapE, iterE, keyC, mapRows, mfind, eq1, eqL, scal, binP, unP, minP, maxP, foldP, PV.lt, PV.lt.ltL, endP, expoAll, expoG, expo, expo.expoL, frIds, frIds.frIdsL, nodupN, kill, cls, clsFuel, resO, RV.get, loadP, evC_p, evC_s, endS, endT, rowsOf, callP, thinL, unfr, unfr.unfrL, PV.noMem, PV.noMem.noMemL, optI, mapO, norm, trimT, trimB, forget, hasN, blksLt, List.set, softChk, softGo, softRd, effTg, rdP, S6, eA]) (by omega) () trivial s0 E
      have eA := bRows_len A
      have c1 : ¬ (cntT l 11 : Int) < A.length := by omega
      have c2 : ¬ cntT l 11 < A.length := by omega
      refine evE_intro 3000 D6 rfl ?_
      unfold c6
      simp (maxSteps := 100000000) [evCode, evOps, evOne, evOp, evPur, evEff, evPur.chunks, fillP, AOp.isEff, AO.ev, putP, PV.cells, PV.leaf, getB, getM, mapE, iterE, keyC, mapRows, mfind, eq1, eqL, scal, binP, unP, minP, maxP, foldP, PV.lt, PV.lt.ltL, endP, expoAll, expoG, expo, expo.expoL, frIds, frIds.frIdsL, nodupN, kill, cls, clsFuel, resO, RV.get, loadP, evC_p, evC_s, endS, endT, rowsOf, callP, thinL, unfr, unfr.unfrL, PV.noMem, PV.noMem.noMemL, optI, mapO, norm, trimT, trimB, forget, hasN, blksLt, List.set, softChk, softGo, softRd, effTg, rdP, h8, h9, h22, h11, h14, h23, eA, c1, c2]
      generalize hE : evLoop (evCode (evC Dg) 3000 c6b1) [0, 1, 5, 6] 0 3000 _ = E
      rcases H _ E hE (by simp [evCode, evOps, evOne, evOp, evPur, evEff, evPur.chunks, fillP, AOp.isEff, AO.ev, putP, PV.cells, PV.leaf, getB, getM, mapE, iterE, keyC, mapRows, mfind, eq1, eqL, scal, binP, unP, minP, maxP, foldP, PV.lt, PV.lt.ltL, endP, expoAll, expoG, expo, expo.expoL, frIds, frIds.frIdsL, nodupN, kill, cls, clsFuel, resO, RV.get, loadP, evC_p, evC_s, endS, endT, rowsOf, callP, thinL, unfr, unfr.unfrL, PV.noMem, PV.noMem.noMemL, optI, mapO, norm, trimT, trimB, forget, hasN, blksLt, List.set, softChk, softGo, softRd, effTg, rdP, S6]) with ⟨x, _, rfl⟩ | ⟨s, _, h⟩
      · unfold c6b1 c6r0
        simp (maxSteps := 100000000) [evCode, evOps, evOne, evOp, evPur, evEff, evPur.chunks, fillP, AOp.isEff, AO.ev, putP, PV.cells, PV.leaf, getB, getM, mapE, iterE, keyC, mapRows, mfind, eq1, eqL, scal, binP, unP, minP, maxP, foldP, PV.lt, PV.lt.ltL, endP, expoAll, expoG, expo, expo.expoL, frIds, frIds.frIdsL, nodupN, kill, cls, clsFuel, resO, RV.get, loadP, evC_p, evC_s, endS, endT, rowsOf, callP, thinL, unfr, unfr.unfrL, PV.noMem, PV.noMem.noMemL, optI, mapO, norm, trimT, trimB, forget, hasN, blksLt, List.set, softChk, softGo, softRd, effTg, rdP, S6, eA, h9]
      · exact h.elim
    · refine evE_intro 1 D6 rfl ?_
      unfold c6
      simp (maxSteps := 100000000) [evCode, evOps, evOne, evOp, evPur, evEff, evPur.chunks, fillP, AOp.isEff, AO.ev, putP, PV.cells, PV.leaf, getB, getM, mapE, iterE, keyC, mapRows, mfind, eq1, eqL, scal, binP, unP, minP, maxP, foldP, PV.lt, PV.lt.ltL, endP, expoAll, expoG, expo, expo.expoL, frIds, frIds.frIdsL, nodupN, kill, cls, clsFuel, resO, RV.get, loadP, evC_p, evC_s, endS, endT, rowsOf, callP, thinL, unfr, unfr.unfrL, PV.noMem, PV.noMem.noMemL, optI, mapO, norm, trimT, trimB, forget, hasN, blksLt, List.set, softChk, softGo, softRd, effTg, rdP, h8, h9, h22]
theorem law6 (ps : List PV) (h : ArgL Try.prog 12 [22, 3] ps) : evE Dg 6 ps = some (.bool true) := by
  obtain ⟨p, q, rfl, h1, h2⟩ := argL2 h
  obtain ⟨l, rfl⟩ := in_timed h1
  obtain ⟨i, rfl, hw⟩ := argT_int Try.underlying3 h2
  exact f6 l i
end Go.Proofs.Ytalmhggbdfjalaa
