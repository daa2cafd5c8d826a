/- heapdump: in a valid heap everything is found. -/
import Derived.Test.YtdbfbaiopmpklaaDoorHdF
namespace Go.Proofs.YtdbfbaiopmpklaaDoor
open Go Go.RowKit
set_option linter.unusedVariables false
set_option linter.unusedSimpArgs false
set_option maxHeartbeats 4000000

theorem iR_lt (l : List Int) : (∀ x, x ∈ iR l → PV.lt.ltL 0 x = true) ↔ True := iff_true_intro (by
  intro x hx
  simp only [iR, List.mem_map] at hx
  obtain ⟨z, _, rfl⟩ := hx
  rfl)
theorem iR_app (a b : List Int) : iR a ++ iR b = iR (a ++ b) := by simp [iR]
def L6 (l : List Ob) (r : List Int) (k : Nat) : List Int := r ++ (l.take k).flatMap (·.2.2.2)
theorem L6_next {l : List Ob} {r : List Int} {k : Nat} {o : Ob} (h : l[k]? = some o) : L6 l r (k + 1) = L6 l r k ++ o.2.2.2 := by
  unfold L6
  rw [List.take_add_one, h]
  simp
theorem L6_len {l : List Ob} {r : List Int} (hr : ∀ o ∈ l, o.2.2.2.length ≤ 60) (h1 : r.length ≤ 60) : ∀ k, (L6 l r k).length ≤ 60 + 60 * k
  | 0 => by simpa [L6] using h1
  | k + 1 => by
    have ih := L6_len hr h1 k
    cases ho : l[k]? with
    | none =>
      have e : L6 l r (k + 1) = L6 l r k := by unfold L6; rw [List.take_add_one, ho]; simp
      rw [e]; omega
    | some o =>
      rw [L6_next ho, List.length_append]
      have := hr o (List.mem_of_getElem? ho)
      omega
def idB (A : List Int) : Option Blk := some ⟨A.length, 1, true, iR A⟩
def S6a (l : List Ob) (r : List Int) (k : Nat) (A : List Int) : St := ⟨[.top, .ptr 0 1 0 0, .top, .own 1 A.length 0 A.length, .int .i64 k] ++ List.replicate 96 .top, [bx l r, idB A]⟩
def S6b (l : List Ob) (r : List Int) (A : List Int) (k : Nat) : St := ⟨[.top, .ptr 0 1 0 0, .top, .own 1 A.length 0 A.length, .top, .top, .top, .int .i64 k] ++ List.replicate 93 .top, [bx l r, idB A]⟩
theorem l6a (l : List Ob) (r : List Int) (F : Nat) (hF : l.length < F) (hl : l.length ≤ 60) (ho : objE l = 0) (hr : ∀ o ∈ l, o.2.2.2.length ≤ 60) (h1 : r.length ≤ 60) (s0 : St) (E : Option Out) (hE : evLoop (evCode (evC Dg) F c6b1) [1, 3, 4] 2 F s0 = E) (h0 : norm [1, 3, 4] 2 s0 = S6a l r 0 r) :
    E = (evCode (evC Dg) F c6b1) (S6a l r l.length (L6 l r l.length)) := by
  have e1 := oR_len l
  have H := loop_inv (body := evCode (evC Dg) F c6b1) (keep := [1, 3, 4]) (n0 := 2) (fuel := F) l (S6a l r) (fun k A => A = L6 l r k) (fun _ => False)
    (by
      rintro k o A hok hk rfl
      left
      have hlen := L6_len hr h1 k
      have hnx := L6_next (r := r) hok
      generalize L6 l r k = A at *
      have h10 := f10 l r o.1 (by omega)
      rw [fres, idx_self ho hok] at h10
      simp only [eH, eI] at h10
      have r1 := oR_get hok
      have g1 := oR_got hok
      have hlo := hr o (List.mem_of_getElem? hok)
      have e2 := iR_len o.2.2.2
      have e3 := iR_len A
      have a1 := iR_lt o.2.2.2
      have hk' : (k : Int) < l.length := by omega
      have w1 := wrap_i64 ((k : Int) + 1) (by omega) (by omega)
      have b1 : (A.length + o.2.2.2.length) * 8 ≤ 140737488355328 := by omega
      have b2 : A.length + o.2.2.2.length ≤ 140737488355328 := by omega
      have ap := iR_app A o.2.2.2
      refine ⟨A ++ o.2.2.2, ?_⟩
      refine (fun ⟨s', q1, q2⟩ => ⟨s', q1, q2, hnx.symm⟩ : (∃ s', _ ∧ _) → _) ?_
      unfold c6b1
      simp [evCode, evOps, evOne, evOp, evPur, evEff, evPur.chunks, fillP, AOp.isEff, AO.ev, putP, PV.cells, PV.leaf, getB, getM, mapE, iterE, keyC, mapRows, mfind, eq1, eqL, scal, binP, unP, minP, maxP, foldP, PV.lt, PV.lt.ltL, endP, expoAll, expoG, expo, expo.expoL, frIds, frIds.frIdsL, nodupN, kill, cls, clsFuel, resO, RV.get, loadP, evC_p, evC_s, endS, endT, rowsOf, callP, thinL, unfr, unfr.unfrL, PV.noMem, PV.noMem.noMemL, optI, mapO, norm, trimT, trimB, forget, hasN, blksLt, List.set, softChk, softGo, softRd, effTg, tgOf, chgN, sameB, PV.same, PV.same.sameL, PV.same.sameLL, rdP, S6a, bx, idB, oR1, eI, e1, e2, e3, r1, g1, hk', hk, w1, h10, a1, b1, b2, ap])
    (by
      rintro A _ s
      unfold c6b1
      simp [evCode, evOps, evOne, evOp, evPur, evEff, evPur.chunks, fillP, AOp.isEff, AO.ev, putP, PV.cells, PV.leaf, getB, getM, mapE, iterE, keyC, mapRows, mfind, eq1, eqL, scal, binP, unP, minP, maxP, foldP, PV.lt, PV.lt.ltL, endP, expoAll, expoG, expo, expo.expoL, frIds, frIds.frIdsL, nodupN, kill, cls, clsFuel, resO, RV.get, loadP, evC_p, evC_s, endS, endT, rowsOf, callP, thinL, unfr, unfr.unfrL, PV.noMem, PV.noMem.noMemL, optI, mapO, norm, trimT, trimB, forget, hasN, blksLt, List.set, softChk, softGo, softRd, effTg, tgOf, chgN, sameB, PV.same, PV.same.sameL, PV.same.sameLL, rdP, S6a, bx, idB, e1])
    (by omega) r (by simp [L6]) s0 E hE h0
  rcases H with ⟨A, rfl, q⟩ | ⟨s, _, q⟩
  · exact q
  · exact absurd q (fun h => h)
theorem l6b (l : List Ob) (r A : List Int) (F : Nat) (hF : A.length < F) (hl : l.length ≤ 60) (hA : ∀ z ∈ A, z ∈ idsO l) (hn : A.length ≤ 10000) (s0 : St) (E : Option Out) (hE : evLoop (evCode (evC Dg) F c6b0) [1, 3, 7] 2 F s0 = E) (h0 : norm [1, 3, 7] 2 s0 = S6b l r A 0) :
    E = (evCode (evC Dg) F c6b0) (S6b l r A A.length) := by
  have e1 := oR_len l
  have e3 := iR_len A
  have H := loop_inv (body := evCode (evC Dg) F c6b0) (keep := [1, 3, 7]) (n0 := 2) (fuel := F) A (fun k (_ : Unit) => S6b l r A k) (fun _ _ => True) (fun _ => False)
    (by
      rintro k z _ hz hk _
      left
      obtain ⟨j, hj⟩ := idx_mem (hA z (List.mem_of_getElem? hz))
      obtain ⟨o, ho, rfl⟩ := idx_some hj
      have h10 := f10 l r o.1 (by omega)
      rw [fres, hj] at h10
      simp only [eH, eI] at h10
      have r1 := oR_get ho
      have g1 := oR_got ho
      have r2 := iR_get hz
      have g2 := iR_got hz
      have hjl : j < l.length := (List.getElem?_eq_some_iff.1 ho).1
      have hj1 : ¬ ((j : Int) < 0) := by omega
      have hj2 : (j : Int) < l.length := by omega
      have hj3 : ¬ ((l.length : Int) ≤ j) := by omega
      have hj4 : ¬ (l.length ≤ j) := by omega
      have hk' : (k : Int) < A.length := by omega
      have w1 := wrap_i64 ((k : Int) + 1) (by omega) (by omega)
      refine ⟨(), ?_⟩
      refine (fun ⟨s', q1, q2⟩ => ⟨s', q1, q2, trivial⟩ : (∃ s', _ ∧ _) → _) ?_
      unfold c6b0
      simp [evCode, evOps, evOne, evOp, evPur, evEff, evPur.chunks, fillP, AOp.isEff, AO.ev, putP, PV.cells, PV.leaf, getB, getM, mapE, iterE, keyC, mapRows, mfind, eq1, eqL, scal, binP, unP, minP, maxP, foldP, PV.lt, PV.lt.ltL, endP, expoAll, expoG, expo, expo.expoL, frIds, frIds.frIdsL, nodupN, kill, cls, clsFuel, resO, RV.get, loadP, evC_p, evC_s, endS, endT, rowsOf, callP, thinL, unfr, unfr.unfrL, PV.noMem, PV.noMem.noMemL, optI, mapO, norm, trimT, trimB, forget, hasN, blksLt, List.set, softChk, softGo, softRd, effTg, tgOf, chgN, sameB, PV.same, PV.same.sameL, PV.same.sameLL, rdP, S6b, bx, idB, oR1, eI, e1, e3, r1, g1, r2, g2, hk', hk, w1, h10, hjl, hj1, hj2, hj3, hj4])
    (by
      rintro _ _ s
      unfold c6b0
      simp [evCode, evOps, evOne, evOp, evPur, evEff, evPur.chunks, fillP, AOp.isEff, AO.ev, putP, PV.cells, PV.leaf, getB, getM, mapE, iterE, keyC, mapRows, mfind, eq1, eqL, scal, binP, unP, minP, maxP, foldP, PV.lt, PV.lt.ltL, endP, expoAll, expoG, expo, expo.expoL, frIds, frIds.frIdsL, nodupN, kill, cls, clsFuel, resO, RV.get, loadP, evC_p, evC_s, endS, endT, rowsOf, callP, thinL, unfr, unfr.unfrL, PV.noMem, PV.noMem.noMemL, optI, mapO, norm, trimT, trimB, forget, hasN, blksLt, List.set, softChk, softGo, softRd, effTg, tgOf, chgN, sameB, PV.same, PV.same.sameL, PV.same.sameLL, rdP, S6b, bx, idB, e3])
    (by omega) () trivial s0 E hE h0
  rcases H with ⟨_, _, q⟩ | ⟨s, _, q⟩
  · exact q
  · exact absurd q (fun h => h)
set_option maxRecDepth 100000 in
theorem f6 (l : List Ob) (r : List Int) (hm : Okm l) : evE Dg 6 [eH l r] = some (.bool true) := by
  have h8 := f8
  have h9 := f9 l r
  cases hf : fewB l r with
  | false =>
    rw [hf] at h9
    simp only [eH, eI] at h9
    refine evE_intro 1 D6 rfl ?_
    unfold c6
    simp [evCode, evOps, evOne, evOp, evPur, evEff, evPur.chunks, fillP, AOp.isEff, AO.ev, putP, PV.cells, PV.leaf, getB, getM, mapE, iterE, keyC, mapRows, mfind, eq1, eqL, scal, binP, unP, minP, maxP, foldP, PV.lt, PV.lt.ltL, endP, expoAll, expoG, expo, expo.expoL, frIds, frIds.frIdsL, nodupN, kill, cls, clsFuel, resO, RV.get, loadP, evC_p, evC_s, endS, endT, rowsOf, callP, thinL, unfr, unfr.unfrL, PV.noMem, PV.noMem.noMemL, optI, mapO, norm, trimT, trimB, forget, hasN, blksLt, List.set, softChk, softGo, softRd, effTg, tgOf, chgN, sameB, PV.same, PV.same.sameL, PV.same.sameLL, rdP, eH, eI, h8, h9]
  | true =>
    rw [hf] at h9
    obtain ⟨b1, b2, b3⟩ := few_of hf
    have h12 := f12 l r (by omega) (by omega) b3 hm
    by_cases hc : chkE l r = 0
    · obtain ⟨z1, z2, z3⟩ := chk_zero hc
      rw [hc] at h12
      simp only [eH, eI] at h9 h12
      have hr : ∀ o ∈ l, o.2.2.2.length ≤ 60 := fun o ho => by
        have := refs_len (rfs_mem z2 ho)
        rw [idsO_len] at this
        omega
      have a1 := iR_lt r
      have e2 := iR_len r
      have c1 : r.length * 8 ≤ 140737488355328 := by omega
      have c2 : r.length ≤ 140737488355328 := by omega
      have hlen := L6_len hr b2 l.length
      have hA : ∀ z ∈ L6 l r l.length, z ∈ idsO l := by
        intro z hz
        unfold L6 at hz
        rcases List.mem_append.1 hz with hz | hz
        · obtain ⟨k, hk⟩ := List.getElem?_of_mem hz
          exact (refE_zero z3 k z hk).1
        · obtain ⟨o, ho, hz⟩ := List.mem_flatMap.1 hz
          obtain ⟨k, hk⟩ := List.getElem?_of_mem hz
          exact (refE_zero (rfs_mem z2 (List.mem_of_mem_take ho)) k z hk).1
      refine evE_intro (l.length + (L6 l r l.length).length + 1) D6 rfl ?_
      unfold c6
      simp [evCode, evOps, evOne, evOp, evPur, evEff, evPur.chunks, fillP, AOp.isEff, AO.ev, putP, PV.cells, PV.leaf, getB, getM, mapE, iterE, keyC, mapRows, mfind, eq1, eqL, scal, binP, unP, minP, maxP, foldP, PV.lt, PV.lt.ltL, endP, expoAll, expoG, expo, expo.expoL, frIds, frIds.frIdsL, nodupN, kill, cls, clsFuel, resO, RV.get, loadP, evC_p, evC_s, endS, endT, rowsOf, callP, thinL, unfr, unfr.unfrL, PV.noMem, PV.noMem.noMemL, optI, mapO, norm, trimT, trimB, forget, hasN, blksLt, List.set, softChk, softGo, softRd, effTg, tgOf, chgN, sameB, PV.same, PV.same.sameL, PV.same.sameLL, rdP, eH, eI, h8, h9, h12, a1, e2, c1, c2]
      generalize hE : evLoop _ _ _ _ _ = E
      have q := l6a l r _ (by omega) b1 z1 hr b2 _ E hE (by simp [evCode, evOps, evOne, evOp, evPur, evEff, evPur.chunks, fillP, AOp.isEff, AO.ev, putP, PV.cells, PV.leaf, getB, getM, mapE, iterE, keyC, mapRows, mfind, eq1, eqL, scal, binP, unP, minP, maxP, foldP, PV.lt, PV.lt.ltL, endP, expoAll, expoG, expo, expo.expoL, frIds, frIds.frIdsL, nodupN, kill, cls, clsFuel, resO, RV.get, loadP, evC_p, evC_s, endS, endT, rowsOf, callP, thinL, unfr, unfr.unfrL, PV.noMem, PV.noMem.noMemL, optI, mapO, norm, trimT, trimB, forget, hasN, blksLt, List.set, softChk, softGo, softRd, effTg, tgOf, chgN, sameB, PV.same, PV.same.sameL, PV.same.sameLL, rdP, S6a, bx, idB, e2, a1])
      rw [q]
      clear hE q
      have e1 := oR_len l
      generalize L6 l r l.length = A at *
      unfold c6b1 c6r0
      simp [evCode, evOps, evOne, evOp, evPur, evEff, evPur.chunks, fillP, AOp.isEff, AO.ev, putP, PV.cells, PV.leaf, getB, getM, mapE, iterE, keyC, mapRows, mfind, eq1, eqL, scal, binP, unP, minP, maxP, foldP, PV.lt, PV.lt.ltL, endP, expoAll, expoG, expo, expo.expoL, frIds, frIds.frIdsL, nodupN, kill, cls, clsFuel, resO, RV.get, loadP, evC_p, evC_s, endS, endT, rowsOf, callP, thinL, unfr, unfr.unfrL, PV.noMem, PV.noMem.noMemL, optI, mapO, norm, trimT, trimB, forget, hasN, blksLt, List.set, softChk, softGo, softRd, effTg, tgOf, chgN, sameB, PV.same, PV.same.sameL, PV.same.sameLL, rdP, S6a, bx, idB, e1]
      generalize hE : evLoop _ _ _ _ _ = E2
      have q := l6b l r A _ (by omega) b1 hA (by omega) _ E2 hE (by simp [evCode, evOps, evOne, evOp, evPur, evEff, evPur.chunks, fillP, AOp.isEff, AO.ev, putP, PV.cells, PV.leaf, getB, getM, mapE, iterE, keyC, mapRows, mfind, eq1, eqL, scal, binP, unP, minP, maxP, foldP, PV.lt, PV.lt.ltL, endP, expoAll, expoG, expo, expo.expoL, frIds, frIds.frIdsL, nodupN, kill, cls, clsFuel, resO, RV.get, loadP, evC_p, evC_s, endS, endT, rowsOf, callP, thinL, unfr, unfr.unfrL, PV.noMem, PV.noMem.noMemL, optI, mapO, norm, trimT, trimB, forget, hasN, blksLt, List.set, softChk, softGo, softRd, effTg, tgOf, chgN, sameB, PV.same, PV.same.sameL, PV.same.sameLL, rdP, S6b, bx, idB, e1])
      rw [q]
      have e3 := iR_len A
      unfold c6b0
      simp [evCode, evOps, evOne, evOp, evPur, evEff, evPur.chunks, fillP, AOp.isEff, AO.ev, putP, PV.cells, PV.leaf, getB, getM, mapE, iterE, keyC, mapRows, mfind, eq1, eqL, scal, binP, unP, minP, maxP, foldP, PV.lt, PV.lt.ltL, endP, expoAll, expoG, expo, expo.expoL, frIds, frIds.frIdsL, nodupN, kill, cls, clsFuel, resO, RV.get, loadP, evC_p, evC_s, endS, endT, rowsOf, callP, thinL, unfr, unfr.unfrL, PV.noMem, PV.noMem.noMemL, optI, mapO, norm, trimT, trimB, forget, hasN, blksLt, List.set, softChk, softGo, softRd, effTg, tgOf, chgN, sameB, PV.same, PV.same.sameL, PV.same.sameLL, rdP, S6b, bx, idB, e1, e3]
    · simp only [eH, eI] at h9 h12
      generalize chkE l r = e at *
      refine evE_intro 1 D6 rfl ?_
      unfold c6
      simp [evCode, evOps, evOne, evOp, evPur, evEff, evPur.chunks, fillP, AOp.isEff, AO.ev, putP, PV.cells, PV.leaf, getB, getM, mapE, iterE, keyC, mapRows, mfind, eq1, eqL, scal, binP, unP, minP, maxP, foldP, PV.lt, PV.lt.ltL, endP, expoAll, expoG, expo, expo.expoL, frIds, frIds.frIdsL, nodupN, kill, cls, clsFuel, resO, RV.get, loadP, evC_p, evC_s, endS, endT, rowsOf, callP, thinL, unfr, unfr.unfrL, PV.noMem, PV.noMem.noMemL, optI, mapO, norm, trimT, trimB, forget, hasN, blksLt, List.set, softChk, softGo, softRd, effTg, tgOf, chgN, sameB, PV.same, PV.same.sameL, PV.same.sameLL, rdP, eH, eI, h8, h9, h12, hc]
set_option maxRecDepth 100000 in
theorem law6 (ps : List PV) (h : ArgL Tryd.prog 12 [25] ps) : evE Dg 6 ps = some (.bool true) := by
  obtain ⟨p, rfl, h1⟩ := argL1 h
  obtain ⟨l, r, rfl, hm⟩ := in_heap h1
  exact f6 l r hm
end Go.Proofs.YtdbfbaiopmpklaaDoor
