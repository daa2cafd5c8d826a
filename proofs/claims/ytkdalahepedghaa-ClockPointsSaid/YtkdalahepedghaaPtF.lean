/- Points of the reference; the statement about Points. -/
import Derived.Test.YtkdalahepedghaaPtB2
import Derived.Test.YtkdalahepedghaaPtC
namespace Go.Proofs.Ytkdalahepedghaa
open Go Go.RowKit
set_option maxHeartbeats 4000000
set_option linter.unusedVariables false
set_option linter.unusedSimpArgs false

def slotP : Option (List Int) → PV
  | none => .own 1 0 0 0
  | some l => .sl false 1 (zRows l)
def S20 (y : Bool) (l : List Sn) (z : Int) (k : Nat) (o : Option (List Int)) : St :=
  ⟨[eNs y l, .int .i64 z, .top, .top, .top, slotP o, .int .i64 k] ++ List.replicate 43 .top, [some ⟨0, 1, true, []⟩, some ⟨0, 1, true, []⟩]⟩
def Good20 (z : Int) (l : List Sn) (k : Nat) (r : List Int) : Prop := r.Pairwise (· < ·) ∧ r.length ≤ 3 * k ∧ ∀ x, x ∈ r ↔ Pt z (l.take k) x
theorem pt_next {z : Int} {l : List Sn} {k : Nat} {s : Sn} (ha : l[k]? = some s) (x : Int) : Pt z (l.take (k + 1)) x ↔ Pt z (l.take k) x ∨ ((s.a = z ∧ x = s.t) ∨ (s.b = z ∧ (x = s.lo ∨ x = s.hi))) := by
  have ht : l.take (k + 1) = l.take k ++ [s] := by rw [List.take_add_one, ha]; rfl
  rw [ht]
  unfold Pt
  constructor
  · rintro ⟨t, ht, h⟩
    rcases List.mem_append.1 ht with q | q
    · exact .inl ⟨t, q, h⟩
    · simp at q; subst q; exact .inr h
  · rintro (⟨t, q, h⟩ | h)
    · exact ⟨t, List.mem_append_left _ q, h⟩
    · exact ⟨s, by simp, h⟩
set_option maxRecDepth 100000 in
theorem step20 (y : Bool) (l : List Sn) (z : Int) (hl : l.length ≤ 250) (k : Nat) (s : Sn) (ha : l[k]? = some s) (o : Option (List Int)) (r0 : List Int) (hr : o = none ∧ r0 = [] ∨ o = some r0) (g : Good20 z l k r0) :
    ∃ o' r', (o' = none ∧ r' = [] ∨ o' = some r') ∧ Good20 z l (k + 1) r' ∧ ∃ s', evCode (evC Dg) 1100 c20b0 (S20 y l z k o) = some (.normal s') ∧ norm [0, 1, 5, 6] 2 s' = S20 y l z (k + 1) o' := by
  have hk := (List.getElem?_eq_some_iff.1 ha).1
  have hk' : (k : Int) < l.length := by omega
  have w1 := wrap_i64 ((k : Int) + 1) (by omega) (by omega)
  obtain ⟨g1, g2, g3⟩ := g
  have hn := fun x => @pt_next z l k s ha x
  have z0 : zRows [] = [] := rfl
  by_cases h1 : s.a = z
  · obtain ⟨v1, r1, p1, u1, q1, n1, m1⟩ := f30 r0 s.t (by omega) g1
    by_cases h2 : s.b = z
    · obtain ⟨v2, r2, p2, u2, q2, n2, m2⟩ := f30 r1 s.lo (by omega) q1
      obtain ⟨v3, r3, p3, u3, q3, n3, m3⟩ := f30 r2 s.hi (by omega) q2
      refine ⟨some r3, r3, .inr rfl, ⟨q3, by omega, fun x => by rw [m3, m2, m1, g3, hn]; simp only [h1, h2, true_and, or_assoc]⟩, ?_⟩
      rcases hr with ⟨rfl, rfl⟩ | rfl
      · rw [z0] at p1
        unfold c20b0
        simp [evCode, evOps, evOne, evOp, evPur, evEff, evPur.chunks, fillP, AOp.isEff, AO.ev, putP, PV.cells, PV.leaf, getB, getM, mapE, keyC, mapRows, mfind, eq1, eqL, scal, binP, unP, minP, maxP, foldP, PV.lt, PV.lt.ltL, endP, expoAll, expo, expo.expoL, frIds, frIds.frIdsL, nodupN, kill, cls, clsFuel, resO, RV.get, loadP, evC_p, evC_s, endS, endT, rowsOf, callP, thinL, unfr, unfr.unfrL, PV.noMem, PV.noMem.noMemL, optI, mapO, norm, trimT, trimB, forget, hasN, blksLt, List.set, softChk, softGo, softRd, effTg, rdP, S20, slotP, eNs, eN, ha, hk', w1, h1, h2, p1, u1, p2, u2, p3, u3]
      · unfold c20b0
        simp [evCode, evOps, evOne, evOp, evPur, evEff, evPur.chunks, fillP, AOp.isEff, AO.ev, putP, PV.cells, PV.leaf, getB, getM, mapE, keyC, mapRows, mfind, eq1, eqL, scal, binP, unP, minP, maxP, foldP, PV.lt, PV.lt.ltL, endP, expoAll, expo, expo.expoL, frIds, frIds.frIdsL, nodupN, kill, cls, clsFuel, resO, RV.get, loadP, evC_p, evC_s, endS, endT, rowsOf, callP, thinL, unfr, unfr.unfrL, PV.noMem, PV.noMem.noMemL, optI, mapO, norm, trimT, trimB, forget, hasN, blksLt, List.set, softChk, softGo, softRd, effTg, rdP, S20, slotP, eNs, eN, ha, hk', w1, h1, h2, p1, u1, p2, u2, p3, u3]
    · refine ⟨some r1, r1, .inr rfl, ⟨q1, by omega, fun x => by rw [m1, g3, hn]; simp only [h1, h2, true_and, false_and, or_false]⟩, ?_⟩
      rcases hr with ⟨rfl, rfl⟩ | rfl
      · rw [z0] at p1
        unfold c20b0
        simp [evCode, evOps, evOne, evOp, evPur, evEff, evPur.chunks, fillP, AOp.isEff, AO.ev, putP, PV.cells, PV.leaf, getB, getM, mapE, keyC, mapRows, mfind, eq1, eqL, scal, binP, unP, minP, maxP, foldP, PV.lt, PV.lt.ltL, endP, expoAll, expo, expo.expoL, frIds, frIds.frIdsL, nodupN, kill, cls, clsFuel, resO, RV.get, loadP, evC_p, evC_s, endS, endT, rowsOf, callP, thinL, unfr, unfr.unfrL, PV.noMem, PV.noMem.noMemL, optI, mapO, norm, trimT, trimB, forget, hasN, blksLt, List.set, softChk, softGo, softRd, effTg, rdP, S20, slotP, eNs, eN, ha, hk', w1, h1, h2, p1, u1]
      · unfold c20b0
        simp [evCode, evOps, evOne, evOp, evPur, evEff, evPur.chunks, fillP, AOp.isEff, AO.ev, putP, PV.cells, PV.leaf, getB, getM, mapE, keyC, mapRows, mfind, eq1, eqL, scal, binP, unP, minP, maxP, foldP, PV.lt, PV.lt.ltL, endP, expoAll, expo, expo.expoL, frIds, frIds.frIdsL, nodupN, kill, cls, clsFuel, resO, RV.get, loadP, evC_p, evC_s, endS, endT, rowsOf, callP, thinL, unfr, unfr.unfrL, PV.noMem, PV.noMem.noMemL, optI, mapO, norm, trimT, trimB, forget, hasN, blksLt, List.set, softChk, softGo, softRd, effTg, rdP, S20, slotP, eNs, eN, ha, hk', w1, h1, h2, p1, u1]
  · by_cases h2 : s.b = z
    · obtain ⟨v2, r2, p2, u2, q2, n2, m2⟩ := f30 r0 s.lo (by omega) g1
      obtain ⟨v3, r3, p3, u3, q3, n3, m3⟩ := f30 r2 s.hi (by omega) q2
      refine ⟨some r3, r3, .inr rfl, ⟨q3, by omega, fun x => by rw [m3, m2, g3, hn]; simp only [h1, h2, true_and, false_and, false_or, or_assoc]⟩, ?_⟩
      rcases hr with ⟨rfl, rfl⟩ | rfl
      · rw [z0] at p2
        unfold c20b0
        simp [evCode, evOps, evOne, evOp, evPur, evEff, evPur.chunks, fillP, AOp.isEff, AO.ev, putP, PV.cells, PV.leaf, getB, getM, mapE, keyC, mapRows, mfind, eq1, eqL, scal, binP, unP, minP, maxP, foldP, PV.lt, PV.lt.ltL, endP, expoAll, expo, expo.expoL, frIds, frIds.frIdsL, nodupN, kill, cls, clsFuel, resO, RV.get, loadP, evC_p, evC_s, endS, endT, rowsOf, callP, thinL, unfr, unfr.unfrL, PV.noMem, PV.noMem.noMemL, optI, mapO, norm, trimT, trimB, forget, hasN, blksLt, List.set, softChk, softGo, softRd, effTg, rdP, S20, slotP, eNs, eN, ha, hk', w1, h1, h2, p2, u2, p3, u3]
      · unfold c20b0
        simp [evCode, evOps, evOne, evOp, evPur, evEff, evPur.chunks, fillP, AOp.isEff, AO.ev, putP, PV.cells, PV.leaf, getB, getM, mapE, keyC, mapRows, mfind, eq1, eqL, scal, binP, unP, minP, maxP, foldP, PV.lt, PV.lt.ltL, endP, expoAll, expo, expo.expoL, frIds, frIds.frIdsL, nodupN, kill, cls, clsFuel, resO, RV.get, loadP, evC_p, evC_s, endS, endT, rowsOf, callP, thinL, unfr, unfr.unfrL, PV.noMem, PV.noMem.noMemL, optI, mapO, norm, trimT, trimB, forget, hasN, blksLt, List.set, softChk, softGo, softRd, effTg, rdP, S20, slotP, eNs, eN, ha, hk', w1, h1, h2, p2, u2, p3, u3]
    · refine ⟨o, r0, hr, ⟨g1, by omega, fun x => by rw [g3, hn]; simp only [h1, h2, false_and, or_false]⟩, ?_⟩
      rcases hr with ⟨rfl, rfl⟩ | rfl
      · unfold c20b0
        simp [evCode, evOps, evOne, evOp, evPur, evEff, evPur.chunks, fillP, AOp.isEff, AO.ev, putP, PV.cells, PV.leaf, getB, getM, mapE, keyC, mapRows, mfind, eq1, eqL, scal, binP, unP, minP, maxP, foldP, PV.lt, PV.lt.ltL, endP, expoAll, expo, expo.expoL, frIds, frIds.frIdsL, nodupN, kill, cls, clsFuel, resO, RV.get, loadP, evC_p, evC_s, endS, endT, rowsOf, callP, thinL, unfr, unfr.unfrL, PV.noMem, PV.noMem.noMemL, optI, mapO, norm, trimT, trimB, forget, hasN, blksLt, List.set, softChk, softGo, softRd, effTg, rdP, S20, slotP, eNs, eN, ha, hk', w1, h1, h2]
      · unfold c20b0
        simp [evCode, evOps, evOne, evOp, evPur, evEff, evPur.chunks, fillP, AOp.isEff, AO.ev, putP, PV.cells, PV.leaf, getB, getM, mapE, keyC, mapRows, mfind, eq1, eqL, scal, binP, unP, minP, maxP, foldP, PV.lt, PV.lt.ltL, endP, expoAll, expo, expo.expoL, frIds, frIds.frIdsL, nodupN, kill, cls, clsFuel, resO, RV.get, loadP, evC_p, evC_s, endS, endT, rowsOf, callP, thinL, unfr, unfr.unfrL, PV.noMem, PV.noMem.noMemL, optI, mapO, norm, trimT, trimB, forget, hasN, blksLt, List.set, softChk, softGo, softRd, effTg, rdP, S20, slotP, eNs, eN, ha, hk', w1, h1, h2]
set_option maxRecDepth 100000 in
theorem f20 (y : Bool) (l : List Sn) (z : Int) (hl : l.length ≤ 250) :
    ∃ v out, evE Dg 20 [eNs y l, .int .i64 z] = some v ∧ unfr v = .sl false 1 (zRows out) ∧ out.Pairwise (· < ·) ∧ out.length ≤ 2000 ∧ ∀ x, x ∈ out ↔ Pt z l x := by
  suffices h : ∃ v, evE Dg 20 [eNs y l, .int .i64 z] = some v ∧ ∃ out, unfr v = .sl false 1 (zRows out) ∧ out.Pairwise (· < ·) ∧ out.length ≤ 2000 ∧ ∀ x, x ∈ out ↔ Pt z l x by
    obtain ⟨v, h1, r, h2⟩ := h
    exact ⟨v, r, h1, h2⟩
  have H : ∀ (s0 : St) (E : Option Out), evLoop (evCode (evC Dg) 1100 c20b0) [0, 1, 5, 6] 2 1100 s0 = E → norm [0, 1, 5, 6] 2 s0 = S20 y l z 0 none →
      (∃ o, (∃ r, (o = none ∧ r = [] ∨ o = some r) ∧ Good20 z l l.length r) ∧ E = evCode (evC Dg) 1100 c20b0 (S20 y l z l.length o)) ∨ (∃ s, E = some (.ret s) ∧ False) := by
    intro s0 E hE h0
    refine loop_inv (body := evCode (evC Dg) 1100 c20b0) (keep := [0, 1, 5, 6]) (n0 := 2) (fuel := 1100) l (S20 y l z) (fun k o => ∃ r, (o = none ∧ r = [] ∨ o = some r) ∧ Good20 z l k r) (fun _ => False) ?_ ?_ (by omega) none ⟨[], .inl ⟨rfl, rfl⟩, by simp, by simp, by intro x; simp [Pt]⟩ s0 E hE h0
    · rintro k s o ha hk ⟨r, hr, g⟩
      left
      obtain ⟨o', r', a1, a2, s', a3, a4⟩ := step20 y l z hl k s ha o r hr g
      exact ⟨o', s', a3, a4, r', a1, a2⟩
    · intro o _ s
      unfold c20b0
      simp [evCode, evOps, evOne, evOp, evPur, evEff, evPur.chunks, fillP, AOp.isEff, AO.ev, putP, PV.cells, PV.leaf, getB, getM, mapE, keyC, mapRows, mfind, eq1, eqL, scal, binP, unP, minP, maxP, foldP, PV.lt, PV.lt.ltL, endP, expoAll, expo, expo.expoL, frIds, frIds.frIdsL, nodupN, kill, cls, clsFuel, resO, RV.get, loadP, evC_p, evC_s, endS, endT, rowsOf, callP, thinL, unfr, unfr.unfrL, PV.noMem, PV.noMem.noMemL, optI, mapO, norm, trimT, trimB, forget, hasN, blksLt, List.set, softChk, softGo, softRd, effTg, rdP, S20, eNs]
  refine evE_introX 1100 D20 rfl ?_
  unfold c20
  simp [evCode, evOps, evOne, evOp, evPur, evEff, evPur.chunks, fillP, AOp.isEff, AO.ev, putP, PV.cells, PV.leaf, getB, getM, mapE, keyC, mapRows, mfind, eq1, eqL, scal, binP, unP, minP, maxP, foldP, PV.lt, PV.lt.ltL, endP, expoAll, expo, expo.expoL, frIds, frIds.frIdsL, nodupN, kill, cls, clsFuel, resO, RV.get, loadP, evC_p, evC_s, endS, endT, rowsOf, callP, thinL, unfr, unfr.unfrL, PV.noMem, PV.noMem.noMemL, optI, mapO, norm, trimT, trimB, forget, hasN, blksLt, List.set, softChk, softGo, softRd, effTg, rdP, eNs]
  generalize hE : evLoop _ _ _ _ _ = E
  rcases H _ _ hE (by simp [evCode, evOps, evOne, evOp, evPur, evEff, evPur.chunks, fillP, AOp.isEff, AO.ev, putP, PV.cells, PV.leaf, getB, getM, mapE, keyC, mapRows, mfind, eq1, eqL, scal, binP, unP, minP, maxP, foldP, PV.lt, PV.lt.ltL, endP, expoAll, expo, expo.expoL, frIds, frIds.frIdsL, nodupN, kill, cls, clsFuel, resO, RV.get, loadP, evC_p, evC_s, endS, endT, rowsOf, callP, thinL, unfr, unfr.unfrL, PV.noMem, PV.noMem.noMemL, optI, mapO, norm, trimT, trimB, forget, hasN, blksLt, List.set, softChk, softGo, softRd, effTg, rdP, S20, slotP, eNs]) with ⟨o, ⟨r, hr, g1, g2, g3⟩, hx⟩ | ⟨_, _, h⟩
  · rw [List.take_length] at g3
    rw [hx]
    rcases hr with ⟨rfl, rfl⟩ | rfl
    · unfold c20b0
      simp [evCode, evOps, evOne, evOp, evPur, evEff, evPur.chunks, fillP, AOp.isEff, AO.ev, putP, PV.cells, PV.leaf, getB, getM, mapE, keyC, mapRows, mfind, eq1, eqL, scal, binP, unP, minP, maxP, foldP, PV.lt, PV.lt.ltL, endP, expoAll, expo, expo.expoL, frIds, frIds.frIdsL, nodupN, kill, cls, clsFuel, resO, RV.get, loadP, evC_p, evC_s, endS, endT, rowsOf, callP, thinL, unfr, unfr.unfrL, PV.noMem, PV.noMem.noMemL, optI, mapO, norm, trimT, trimB, forget, hasN, blksLt, List.set, softChk, softGo, softRd, effTg, rdP, S20, slotP, eNs]
      exact ⟨[], rfl, g1, by simp, g3⟩
    · unfold c20b0
      simp [evCode, evOps, evOne, evOp, evPur, evEff, evPur.chunks, fillP, AOp.isEff, AO.ev, putP, PV.cells, PV.leaf, getB, getM, mapE, keyC, mapRows, mfind, eq1, eqL, scal, binP, unP, minP, maxP, foldP, PV.lt, PV.lt.ltL, endP, expoAll, expo, expo.expoL, frIds, frIds.frIdsL, nodupN, kill, cls, clsFuel, resO, RV.get, loadP, evC_p, evC_s, endS, endT, rowsOf, callP, thinL, unfr, unfr.unfrL, PV.noMem, PV.noMem.noMemL, optI, mapO, norm, trimT, trimB, forget, hasN, blksLt, List.set, softChk, softGo, softRd, effTg, rdP, S20, slotP, eNs]
      exact ⟨r, rfl, g1, by omega, g3⟩
  · exact h.elim
end Go.Proofs.Ytkdalahepedghaa
