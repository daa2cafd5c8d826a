/- The snapshots without repetition; whether a list has a number. -/
import Derived.Test.YtkdalahepedghaaCkF
namespace Go.Proofs.Ytkdalahepedghaa
open Go Go.RowKit
set_option maxHeartbeats 4000000
set_option linter.unusedVariables false
set_option linter.unusedSimpArgs false

theorem evE_introX {D : Nat → Option AFn} {f : Nat} {fc : AFn} {args : List PV} {Q : PV → Prop} (k : Nat) (hD : D f = some fc) (hl : args.length = fc.np)
    (h : ∃ r, endP fc.res (evCode (evC D) k fc.code ⟨args ++ List.replicate (fc.nt - fc.np) .top, []⟩) = some r ∧ Q r) (hx : fc.ext = none := by rfl) : ∃ v, evE D f args = some v ∧ Q v := by
  obtain ⟨r, h1, h2⟩ := h
  exact ⟨r, evE_intro k hD hl h1 hx, h2⟩
def S26 (y : Bool) (l : List Sn) (k : Nat) (m : List Sn) : St := ⟨[eNs y l, .top, .top, .own 1 m.length 0 m.length, .top, .top, eNs y l, .int .i64 l.length, .int .i64 k] ++ List.replicate 21 .top,
  [some ⟨0, 5, true, []⟩, some ⟨m.length, 5, true, m.map eN⟩]⟩
def eqS (a p : Sn) : Bool := a.a == p.a && (a.t == p.t && (a.b == p.b && (a.lo == p.lo && a.hi == p.hi)))
theorem eqS_eq {a p : Sn} (h : eqS a p = true) : a = p := by
  cases a; cases p
  simp [eqS] at h
  simp [h]
theorem f26 (y : Bool) (l : List Sn) (hl : l.length ≤ 1000) : ∃ m : List Sn, evE Dg 26 [eNs y l] = some (.fr 5 (m.map eN)) ∧ m.length ≤ l.length ∧ ∀ s, s ∈ m ↔ s ∈ l := by
  suffices h : ∃ v, evE Dg 26 [eNs y l] = some v ∧ ∃ m : List Sn, v = .fr 5 (m.map eN) ∧ m.length ≤ l.length ∧ ∀ s, s ∈ m ↔ s ∈ l by
    obtain ⟨v, h1, m, rfl, h2⟩ := h
    exact ⟨m, h1, h2⟩
  have H := loop_inv (body := evCode (evC Dg) (l.length + 1) c26b0) (keep := [0, 3, 6, 7, 8]) (n0 := 2) (fuel := l.length + 1) l (S26 y l) (fun k m => m.length ≤ k ∧ ∀ s, s ∈ m ↔ s ∈ l.take k) (fun _ => False)
    (by
      intro k a m ha hk hI
      left
      obtain ⟨i1, i2⟩ := hI
      have h1 := wrap_i64 ((k : Int) + 1) (by omega) (by omega)
      have hk' : (k : Int) < l.length := by omega
      have ht : l.take (k + 1) = l.take k ++ [a] := by rw [List.take_add_one, ha]; rfl
      have h4 : (m.length + 1) * 40 ≤ 140737488355328 := by omega
      have h5 : m.length + 1 ≤ 140737488355328 := by omega
      cases k with
      | zero =>
        have hm0 : m = [] := List.length_eq_zero_iff.1 (by omega)
        subst hm0
        have hl0 : 0 < l.length := by omega
        have hw1 : IntKind.i64.wrap 1 = 1 := by decide
        have ha0 : l[0]'hl0 = a := (List.getElem?_eq_some_iff.1 ha).2
        refine ⟨[] ++ [a], ?_⟩
        have J : ([] ++ [a]).length ≤ 0 + 1 ∧ ∀ s, s ∈ [] ++ [a] ↔ s ∈ l.take (0 + 1) := by
          rw [ht]
          refine ⟨by simp, fun s => ?_⟩
          simp only [List.mem_append, i2]
        refine (fun ⟨s', q1, q2⟩ => ⟨s', q1, q2, J⟩ : (∃ s', _ ∧ _) → _) ?_
        unfold c26b0
        simp [evCode, evOps, evOne, evOp, evPur, evEff, evPur.chunks, fillP, AOp.isEff, AO.ev, putP, PV.cells, PV.leaf, getB, getM, mapE, iterE, keyC, mapRows, mfind, eq1, eqL, scal, binP, unP, minP, maxP, foldP, PV.lt, PV.lt.ltL, endP, expoAll, expoG, expo, expo.expoL, frIds, frIds.frIdsL, nodupN, kill, cls, clsFuel, resO, RV.get, loadP, evC_p, evC_s, endS, endT, rowsOf, callP, thinL, unfr, unfr.unfrL, PV.noMem, PV.noMem.noMemL, optI, mapO, norm, trimT, trimB, forget, hasN, blksLt, List.set, softChk, softGo, softRd, effTg, rdP, S26, eNs, eN, ha, hk', h1, h4, h5, hl0, hw1, ha0]
      | succ j =>
        have hj : l[j]? = some l[j] := List.getElem?_eq_getElem (by omega)
        have w1 : IntKind.i64.wrap (j : Int) = j := wrap_i64 _ (by omega) (by omega)
        have hne : ¬ ((j : Int) + 1 = 0) := by omega
        have hne' : (((j : Int) + 1) == 0) = false := by simp; omega
        generalize hp : l[j] = p at *
        have hjl : (j : Int) < l.length := by omega
        have hj0 : (0 : Int) ≤ (j : Int) + 1 := by omega
        cases he : eqS a p with
        | true =>
          have hap := eqS_eq he
          subst hap
          refine ⟨m, ?_⟩
          have J : m.length ≤ j + 1 + 1 ∧ ∀ s, s ∈ m ↔ s ∈ l.take (j + 1 + 1) := by
            rw [ht]
            refine ⟨by omega, fun s => ?_⟩
            simp only [List.mem_append, i2, List.mem_singleton]
            constructor
            · exact .inl
            · rintro (h | rfl)
              · exact h
              · rw [List.take_add_one, hj]; simp
          refine (fun ⟨s', q1, q2⟩ => ⟨s', q1, q2, J⟩ : (∃ s', _ ∧ _) → _) ?_
          simp only [Int.natCast_add, Int.cast_ofNat_Int] at h1 hk'
          unfold c26b0
          simp [evCode, evOps, evOne, evOp, evPur, evEff, evPur.chunks, fillP, AOp.isEff, AO.ev, putP, PV.cells, PV.leaf, getB, getM, mapE, iterE, keyC, mapRows, mfind, eq1, eqL, scal, binP, unP, minP, maxP, foldP, PV.lt, PV.lt.ltL, endP, expoAll, expoG, expo, expo.expoL, frIds, frIds.frIdsL, nodupN, kill, cls, clsFuel, resO, RV.get, loadP, evC_p, evC_s, endS, endT, rowsOf, callP, thinL, unfr, unfr.unfrL, PV.noMem, PV.noMem.noMemL, optI, mapO, norm, trimT, trimB, forget, hasN, blksLt, List.set, softChk, softGo, softRd, effTg, rdP, S26, eNs, eN, ha, hj, hk', h1, h4, h5, w1, hne, hne', hjl, hj0]
        | false =>
          refine ⟨m ++ [a], ?_⟩
          have J : (m ++ [a]).length ≤ j + 1 + 1 ∧ ∀ s, s ∈ m ++ [a] ↔ s ∈ l.take (j + 1 + 1) := by
            rw [ht]
            refine ⟨by simp; omega, fun s => ?_⟩
            simp only [List.mem_append, i2]
          refine (fun ⟨s', q1, q2⟩ => ⟨s', q1, q2, J⟩ : (∃ s', _ ∧ _) → _) ?_
          simp only [Int.natCast_add, Int.cast_ofNat_Int] at h1 hk'
          have he' : ¬a.a = p.a ∨ ¬a.t = p.t ∨ ¬a.b = p.b ∨ ¬a.lo = p.lo ∨ ¬a.hi = p.hi := by
            apply Decidable.byContradiction
            intro hn
            simp only [not_or, Decidable.not_not] at hn
            simp [eqS, hn] at he
          unfold c26b0
          simp [evCode, evOps, evOne, evOp, evPur, evEff, evPur.chunks, fillP, AOp.isEff, AO.ev, putP, PV.cells, PV.leaf, getB, getM, mapE, iterE, keyC, mapRows, mfind, eq1, eqL, scal, binP, unP, minP, maxP, foldP, PV.lt, PV.lt.ltL, endP, expoAll, expoG, expo, expo.expoL, frIds, frIds.frIdsL, nodupN, kill, cls, clsFuel, resO, RV.get, loadP, evC_p, evC_s, endS, endT, rowsOf, callP, thinL, unfr, unfr.unfrL, PV.noMem, PV.noMem.noMemL, optI, mapO, norm, trimT, trimB, forget, hasN, blksLt, List.set, softChk, softGo, softRd, effTg, rdP, S26, eNs, eN, ha, hj, hk', h1, h4, h5, w1, hne, hne', hjl, hj0, he'])
    (by
      intro m hm s
      unfold c26b0
      simp [evCode, evOps, evOne, evOp, evPur, evEff, evPur.chunks, fillP, AOp.isEff, AO.ev, putP, PV.cells, PV.leaf, getB, getM, mapE, iterE, keyC, mapRows, mfind, eq1, eqL, scal, binP, unP, minP, maxP, foldP, PV.lt, PV.lt.ltL, endP, expoAll, expoG, expo, expo.expoL, frIds, frIds.frIdsL, nodupN, kill, cls, clsFuel, resO, RV.get, loadP, evC_p, evC_s, endS, endT, rowsOf, callP, thinL, unfr, unfr.unfrL, PV.noMem, PV.noMem.noMemL, optI, mapO, norm, trimT, trimB, forget, hasN, blksLt, List.set, softChk, softGo, softRd, effTg, rdP, S26, eNs]) (by omega) [] ⟨by simp, by simp⟩
  refine evE_introX (l.length + 1) D26 rfl ?_
  unfold c26
  simp [evCode, evOps, evOne, evOp, evPur, evEff, evPur.chunks, fillP, AOp.isEff, AO.ev, putP, PV.cells, PV.leaf, getB, getM, mapE, iterE, keyC, mapRows, mfind, eq1, eqL, scal, binP, unP, minP, maxP, foldP, PV.lt, PV.lt.ltL, endP, expoAll, expoG, expo, expo.expoL, frIds, frIds.frIdsL, nodupN, kill, cls, clsFuel, resO, RV.get, loadP, evC_p, evC_s, endS, endT, rowsOf, callP, thinL, unfr, unfr.unfrL, PV.noMem, PV.noMem.noMemL, optI, mapO, norm, trimT, trimB, forget, hasN, blksLt, List.set, softChk, softGo, softRd, effTg, rdP, eNs]
  generalize hE : evLoop _ _ _ _ _ = E
  rcases H _ _ hE (by simp [evCode, evOps, evOne, evOp, evPur, evEff, evPur.chunks, fillP, AOp.isEff, AO.ev, putP, PV.cells, PV.leaf, getB, getM, mapE, iterE, keyC, mapRows, mfind, eq1, eqL, scal, binP, unP, minP, maxP, foldP, PV.lt, PV.lt.ltL, endP, expoAll, expoG, expo, expo.expoL, frIds, frIds.frIdsL, nodupN, kill, cls, clsFuel, resO, RV.get, loadP, evC_p, evC_s, endS, endT, rowsOf, callP, thinL, unfr, unfr.unfrL, PV.noMem, PV.noMem.noMemL, optI, mapO, norm, trimT, trimB, forget, hasN, blksLt, List.set, softChk, softGo, softRd, effTg, rdP, S26, eNs]) with ⟨m, ⟨i1, i2⟩, g2⟩ | ⟨s, g1, g2⟩
  · rw [g2]
    unfold c26b0
    rw [List.take_length] at i2
    simp [evCode, evOps, evOne, evOp, evPur, evEff, evPur.chunks, fillP, AOp.isEff, AO.ev, putP, PV.cells, PV.leaf, getB, getM, mapE, iterE, keyC, mapRows, mfind, eq1, eqL, scal, binP, unP, minP, maxP, foldP, PV.lt, PV.lt.ltL, endP, expoAll, expoG, expo, expo.expoL, frIds, frIds.frIdsL, nodupN, kill, cls, clsFuel, resO, RV.get, loadP, evC_p, evC_s, endS, endT, rowsOf, callP, thinL, unfr, unfr.unfrL, PV.noMem, PV.noMem.noMemL, optI, mapO, norm, trimT, trimB, forget, hasN, blksLt, List.set, softChk, softGo, softRd, effTg, rdP, S26, eNs]
    exact ⟨m, rfl, i1, i2⟩
  · exact g2.elim

def eI (x : Bool) (l : List Int) : PV := .sl x 1 (l.map fun z => [.int .i64 z])
def nhas (z : Int) (l : List Int) : Bool := l.all fun a => !(a == z)
theorem nhas_iff {z : Int} {l : List Int} : nhas z l = false ↔ z ∈ l := by
  induction l with
  | nil => simp [nhas]
  | cons a l ih =>
    have : nhas z (a :: l) = (!(a == z) && nhas z l) := rfl
    rw [this]
    by_cases h : a = z
    · simp [h]
    · have h' : ¬ z = a := fun e => h e.symm
      have : (a == z) = false := by simpa using h
      simp [this, ih, h']
def S21 (x : Bool) (z : Int) (l : List Int) (k : Nat) : St := ⟨[eI x l, .int .i64 z, .top, .top, .top, .int .i64 k] ++ List.replicate 12 .top, []⟩
theorem f21 (x : Bool) (z : Int) (l : List Int) (hl : l.length ≤ 10000) : evE Dg 21 [eI x l, .int .i64 z] = some (.bool (!nhas z l)) := by
  refine evE_intro (l.length + 1) D21 rfl ?_
  have H := loop_all (body := evCode (evC Dg) (l.length + 1) c21b0) (keep := [0, 1, 5]) (n0 := 0) (fuel := l.length + 1) l (S21 x z l) (fun a => !(a == z)) (fun t => t.sl[4]?.getD .top = .bool true)
    (by
      intro k a ha hk hq
      have h1 := wrap_i64 ((k : Int) + 1) (by omega) (by omega)
      have hk' : (k : Int) < l.length := by omega
      have h3 : (a == z) = false := by simpa using hq
      unfold c21b0
      simp [evCode, evOps, evOne, evOp, evPur, evEff, evPur.chunks, fillP, AOp.isEff, AO.ev, putP, PV.cells, PV.leaf, getB, getM, mapE, iterE, keyC, mapRows, mfind, eq1, eqL, scal, binP, unP, minP, maxP, foldP, PV.lt, PV.lt.ltL, endP, expoAll, expoG, expo, expo.expoL, frIds, frIds.frIdsL, nodupN, kill, cls, clsFuel, resO, RV.get, loadP, evC_p, evC_s, endS, endT, rowsOf, callP, thinL, unfr, unfr.unfrL, PV.noMem, PV.noMem.noMemL, optI, mapO, norm, trimT, trimB, forget, hasN, blksLt, List.set, softChk, softGo, softRd, effTg, rdP, S21, eI, ha, hk', h1, h3])
    (by
      intro k a ha hk hq
      have hk' : (k : Int) < l.length := by omega
      have h3 : (a == z) = true := by simpa using hq
      unfold c21b0
      simp [evCode, evOps, evOne, evOp, evPur, evEff, evPur.chunks, fillP, AOp.isEff, AO.ev, putP, PV.cells, PV.leaf, getB, getM, mapE, iterE, keyC, mapRows, mfind, eq1, eqL, scal, binP, unP, minP, maxP, foldP, PV.lt, PV.lt.ltL, endP, expoAll, expoG, expo, expo.expoL, frIds, frIds.frIdsL, nodupN, kill, cls, clsFuel, resO, RV.get, loadP, evC_p, evC_s, endS, endT, rowsOf, callP, thinL, unfr, unfr.unfrL, PV.noMem, PV.noMem.noMemL, optI, mapO, norm, trimT, trimB, forget, hasN, blksLt, List.set, softChk, softGo, softRd, effTg, rdP, S21, eI, ha, hk', h3])
    (by
      intro s
      unfold c21b0
      simp [evCode, evOps, evOne, evOp, evPur, evEff, evPur.chunks, fillP, AOp.isEff, AO.ev, putP, PV.cells, PV.leaf, getB, getM, mapE, iterE, keyC, mapRows, mfind, eq1, eqL, scal, binP, unP, minP, maxP, foldP, PV.lt, PV.lt.ltL, endP, expoAll, expoG, expo, expo.expoL, frIds, frIds.frIdsL, nodupN, kill, cls, clsFuel, resO, RV.get, loadP, evC_p, evC_s, endS, endT, rowsOf, callP, thinL, unfr, unfr.unfrL, PV.noMem, PV.noMem.noMemL, optI, mapO, norm, trimT, trimB, forget, hasN, blksLt, List.set, softChk, softGo, softRd, effTg, rdP, S21, eI]) (by omega)
  unfold c21
  simp [evCode, evOps, evOne, evOp, evPur, evEff, evPur.chunks, fillP, AOp.isEff, AO.ev, putP, PV.cells, PV.leaf, getB, getM, mapE, iterE, keyC, mapRows, mfind, eq1, eqL, scal, binP, unP, minP, maxP, foldP, PV.lt, PV.lt.ltL, endP, expoAll, expoG, expo, expo.expoL, frIds, frIds.frIdsL, nodupN, kill, cls, clsFuel, resO, RV.get, loadP, evC_p, evC_s, endS, endT, rowsOf, callP, thinL, unfr, unfr.unfrL, PV.noMem, PV.noMem.noMemL, optI, mapO, norm, trimT, trimB, forget, hasN, blksLt, List.set, softChk, softGo, softRd, effTg, rdP, eI]
  generalize hE : evLoop _ _ _ _ _ = E
  rcases H _ _ hE (by simp [evCode, evOps, evOne, evOp, evPur, evEff, evPur.chunks, fillP, AOp.isEff, AO.ev, putP, PV.cells, PV.leaf, getB, getM, mapE, iterE, keyC, mapRows, mfind, eq1, eqL, scal, binP, unP, minP, maxP, foldP, PV.lt, PV.lt.ltL, endP, expoAll, expoG, expo, expo.expoL, frIds, frIds.frIdsL, nodupN, kill, cls, clsFuel, resO, RV.get, loadP, evC_p, evC_s, endS, endT, rowsOf, callP, thinL, unfr, unfr.unfrL, PV.noMem, PV.noMem.noMemL, optI, mapO, norm, trimT, trimB, forget, hasN, blksLt, List.set, softChk, softGo, softRd, effTg, rdP, S21, eI]) with ⟨g1, g2⟩ | ⟨g1, t, g2, g3⟩
  · rw [g2]
    have : nhas z l = true := g1
    unfold c21b0
    simp [evCode, evOps, evOne, evOp, evPur, evEff, evPur.chunks, fillP, AOp.isEff, AO.ev, putP, PV.cells, PV.leaf, getB, getM, mapE, iterE, keyC, mapRows, mfind, eq1, eqL, scal, binP, unP, minP, maxP, foldP, PV.lt, PV.lt.ltL, endP, expoAll, expoG, expo, expo.expoL, frIds, frIds.frIdsL, nodupN, kill, cls, clsFuel, resO, RV.get, loadP, evC_p, evC_s, endS, endT, rowsOf, callP, thinL, unfr, unfr.unfrL, PV.noMem, PV.noMem.noMemL, optI, mapO, norm, trimT, trimB, forget, hasN, blksLt, List.set, softChk, softGo, softRd, effTg, rdP, S21, eI, this]
  · rw [g2]
    have : nhas z l = false := g1
    simp [evCode, evOps, evOne, evOp, evPur, evEff, evPur.chunks, fillP, AOp.isEff, AO.ev, putP, PV.cells, PV.leaf, getB, getM, mapE, iterE, keyC, mapRows, mfind, eq1, eqL, scal, binP, unP, minP, maxP, foldP, PV.lt, PV.lt.ltL, endP, expoAll, expoG, expo, expo.expoL, frIds, frIds.frIdsL, nodupN, kill, cls, clsFuel, resO, RV.get, loadP, evC_p, evC_s, endS, endT, rowsOf, callP, thinL, unfr, unfr.unfrL, PV.noMem, PV.noMem.noMemL, optI, mapO, norm, trimT, trimB, forget, hasN, blksLt, List.set, softChk, softGo, softRd, effTg, rdP, g3, this]
end Go.Proofs.Ytkdalahepedghaa
