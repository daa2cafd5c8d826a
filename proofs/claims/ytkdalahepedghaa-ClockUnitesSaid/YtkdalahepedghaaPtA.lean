/- Points of the program. -/
import Derived.Test.YtkdalahepedghaaCkG
import Derived.Test.YtkdalahepedghaaCpB
namespace Go.Proofs.Ytkdalahepedghaa
open Go Go.RowKit
set_option maxHeartbeats 4000000
set_option linter.unusedVariables false
set_option linter.unusedSimpArgs false

theorem nodup_len' : ∀ {A V : List Int}, A.Nodup → (∀ z, z ∈ A → z ∈ V) → A.length ≤ V.length
  | [], V, _, _ => by simp
  | a :: A, V, h, hs => by
    have h1 := List.nodup_cons.1 h
    have ha := hs a (by simp)
    have := nodup_len' (V := V.erase a) h1.2 (fun z hz => (List.mem_erase_of_ne (fun e => h1.1 (by rw [← e]; exact hz))).2 (hs z (by simp [hz])))
    rw [List.length_erase_of_mem ha] at this
    have := List.length_pos_of_mem ha
    simp only [List.length_cons]
    omega
/-- the readings of a domain that snapshots mention -/
def Pt (z : Int) (l : List Sn) (x : Int) : Prop := ∃ s, s ∈ l ∧ ((s.a = z ∧ x = s.t) ∨ (s.b = z ∧ (x = s.lo ∨ x = s.hi)))
def pts (z : Int) (out : List Int) (s : Sn) : List Int := if s.b = z then (if s.a = z then out ++ [s.t] else out) ++ [s.lo, s.hi] else (if s.a = z then out ++ [s.t] else out)
theorem pts_mem {z : Int} {out : List Int} {s : Sn} {x : Int} : x ∈ pts z out s ↔ x ∈ out ∨ ((s.a = z ∧ x = s.t) ∨ (s.b = z ∧ (x = s.lo ∨ x = s.hi))) := by
  unfold pts
  by_cases h1 : s.a = z <;> by_cases h2 : s.b = z <;> simp [h1, h2, or_assoc]
theorem fold_pts {z : Int} {x : Int} : ∀ (l : List Sn) (out : List Int), x ∈ l.foldl (pts z) out ↔ x ∈ out ∨ Pt z l x
  | [], out => by simp [Pt]
  | s :: l, out => by
    rw [List.foldl_cons, fold_pts l, pts_mem]
    unfold Pt
    constructor
    · rintro ((h | h) | ⟨t, ht, h⟩)
      · exact .inl h
      · exact .inr ⟨s, by simp, h⟩
      · exact .inr ⟨t, by simp [ht], h⟩
    · rintro (h | ⟨t, ht, h⟩)
      · exact .inl (.inl h)
      · rcases List.mem_cons.1 ht with rfl | ht
        · exact .inl (.inr h)
        · exact .inr ⟨t, ht, h⟩
theorem zRows_app1 (l : List Int) (z : Int) : zRows l ++ [[.int .i64 z]] = zRows (l ++ [z]) := by simp [zRows]
theorem zRows_app2 (l : List Int) (y z : Int) : zRows l ++ [[.int .i64 y], [.int .i64 z]] = zRows (l ++ [y, z]) := by simp [zRows]
def S18 (z : Int) (m : List Sn) (k : Nat) (out : List Int) : St :=
  ⟨[.top, .int .i64 z, .top, .top, .top, .own 1 out.length 0 out.length, .top, .top, .top, eNs false m, .int .i64 m.length, .int .i64 k] ++ List.replicate 30 .top, [some ⟨0, 1, true, []⟩, some ⟨out.length, 1, true, zRows out⟩]⟩
set_option maxRecDepth 100000 in
theorem turn18 (z : Int) (m : List Sn) (hm : m.length ≤ 600) (s0 : St) (E : Option Out)
    (hE : evLoop (evCode (evC Dg) 1100 c18b0) [1, 5, 9, 10, 11] 2 1100 s0 = E) (h0 : norm [1, 5, 9, 10, 11] 2 s0 = S18 z m 0 []) :
    (m.foldl (pts z) []).length ≤ 3 * m.length ∧ E = evCode (evC Dg) 1100 c18b0 (S18 z m m.length (m.foldl (pts z) [])) := by
  have H := loop_foldE (body := evCode (evC Dg) 1100 c18b0) (keep := [1, 5, 9, 10, 11]) (n0 := 2) (fuel := 1100) m (S18 z m) (pts z) (fun k o => o.length ≤ 3 * k) ?_ ?_ (by omega) [] (by simp) s0 E hE h0
  · exact ⟨H.2, H.1⟩
  · intro k s o ha hk hI
    have w1 := wrap_i64 ((k : Int) + 1) (by omega) (by omega)
    have hk' : (k : Int) < m.length := by omega
    have eL := zRows_len o
    have a1 : (o.length + 1) * 8 ≤ 140737488355328 := by omega
    have a2 : o.length + 1 ≤ 140737488355328 := by omega
    have a3 : (o.length + 2) * 8 ≤ 140737488355328 := by omega
    have a4 : o.length + 2 ≤ 140737488355328 := by omega
    have a5 : (o.length + 1 + 2) * 8 ≤ 140737488355328 := by omega
    have a6 : o.length + 1 + 2 ≤ 140737488355328 := by omega
    have a7 : (o.length + 3) * 8 ≤ 140737488355328 := by omega
    have a8 : o.length + 3 ≤ 140737488355328 := by omega
    unfold pts
    by_cases h1 : s.a = z
    · by_cases h2 : s.b = z
      · have ee : (if s.b = z then (if s.a = z then o ++ [s.t] else o) ++ [s.lo, s.hi] else (if s.a = z then o ++ [s.t] else o)) = o ++ [s.t, s.lo, s.hi] := by rw [if_pos h1, if_pos h2]; simp
        rw [ee]
        refine ⟨by simp; omega, ?_⟩
        have er : zRows (o ++ [s.t, s.lo, s.hi]) = zRows o ++ [[.int .i64 s.t], [.int .i64 s.lo], [.int .i64 s.hi]] := by simp [zRows]
        unfold c18b0
        simp [evCode, evOps, evOne, evOp, evPur, evEff, evPur.chunks, fillP, AOp.isEff, AO.ev, putP, PV.cells, PV.leaf, getB, getM, mapE, iterE, keyC, mapRows, mfind, eq1, eqL, scal, binP, unP, minP, maxP, foldP, PV.lt, PV.lt.ltL, endP, expoAll, expoG, expo, expo.expoL, frIds, frIds.frIdsL, nodupN, kill, cls, clsFuel, resO, RV.get, loadP, evC_p, evC_s, endS, endT, rowsOf, callP, thinL, unfr, unfr.unfrL, PV.noMem, PV.noMem.noMemL, optI, mapO, norm, trimT, trimB, forget, hasN, blksLt, List.set, softChk, softGo, softRd, effTg, rdP, S18, eNs, eN, ha, hk', w1, eL, a1, a2, a3, a4, a5, a6, a7, a8, h1, h2, er]
      · have ee : (if s.b = z then (if s.a = z then o ++ [s.t] else o) ++ [s.lo, s.hi] else (if s.a = z then o ++ [s.t] else o)) = o ++ [s.t] := by rw [if_pos h1, if_neg h2]
        rw [ee]
        refine ⟨by simp; omega, ?_⟩
        have er := (zRows_app1 o s.t).symm
        unfold c18b0
        simp [evCode, evOps, evOne, evOp, evPur, evEff, evPur.chunks, fillP, AOp.isEff, AO.ev, putP, PV.cells, PV.leaf, getB, getM, mapE, iterE, keyC, mapRows, mfind, eq1, eqL, scal, binP, unP, minP, maxP, foldP, PV.lt, PV.lt.ltL, endP, expoAll, expoG, expo, expo.expoL, frIds, frIds.frIdsL, nodupN, kill, cls, clsFuel, resO, RV.get, loadP, evC_p, evC_s, endS, endT, rowsOf, callP, thinL, unfr, unfr.unfrL, PV.noMem, PV.noMem.noMemL, optI, mapO, norm, trimT, trimB, forget, hasN, blksLt, List.set, softChk, softGo, softRd, effTg, rdP, S18, eNs, eN, ha, hk', w1, eL, a1, a2, h1, h2, er]
    · by_cases h2 : s.b = z
      · have ee : (if s.b = z then (if s.a = z then o ++ [s.t] else o) ++ [s.lo, s.hi] else (if s.a = z then o ++ [s.t] else o)) = o ++ [s.lo, s.hi] := by rw [if_neg h1, if_pos h2]
        rw [ee]
        refine ⟨by simp; omega, ?_⟩
        have er := (zRows_app2 o s.lo s.hi).symm
        unfold c18b0
        simp [evCode, evOps, evOne, evOp, evPur, evEff, evPur.chunks, fillP, AOp.isEff, AO.ev, putP, PV.cells, PV.leaf, getB, getM, mapE, iterE, keyC, mapRows, mfind, eq1, eqL, scal, binP, unP, minP, maxP, foldP, PV.lt, PV.lt.ltL, endP, expoAll, expoG, expo, expo.expoL, frIds, frIds.frIdsL, nodupN, kill, cls, clsFuel, resO, RV.get, loadP, evC_p, evC_s, endS, endT, rowsOf, callP, thinL, unfr, unfr.unfrL, PV.noMem, PV.noMem.noMemL, optI, mapO, norm, trimT, trimB, forget, hasN, blksLt, List.set, softChk, softGo, softRd, effTg, rdP, S18, eNs, eN, ha, hk', w1, eL, a3, a4, h1, h2, er]
      · have ee : (if s.b = z then (if s.a = z then o ++ [s.t] else o) ++ [s.lo, s.hi] else (if s.a = z then o ++ [s.t] else o)) = o := by rw [if_neg h1, if_neg h2]
        rw [ee]
        refine ⟨by omega, ?_⟩
        unfold c18b0
        simp [evCode, evOps, evOne, evOp, evPur, evEff, evPur.chunks, fillP, AOp.isEff, AO.ev, putP, PV.cells, PV.leaf, getB, getM, mapE, iterE, keyC, mapRows, mfind, eq1, eqL, scal, binP, unP, minP, maxP, foldP, PV.lt, PV.lt.ltL, endP, expoAll, expoG, expo, expo.expoL, frIds, frIds.frIdsL, nodupN, kill, cls, clsFuel, resO, RV.get, loadP, evC_p, evC_s, endS, endT, rowsOf, callP, thinL, unfr, unfr.unfrL, PV.noMem, PV.noMem.noMemL, optI, mapO, norm, trimT, trimB, forget, hasN, blksLt, List.set, softChk, softGo, softRd, effTg, rdP, S18, eNs, eN, ha, hk', w1, eL, h1, h2]
  · intro o _ s
    unfold c18b0
    simp [evCode, evOps, evOne, evOp, evPur, evEff, evPur.chunks, fillP, AOp.isEff, AO.ev, putP, PV.cells, PV.leaf, getB, getM, mapE, iterE, keyC, mapRows, mfind, eq1, eqL, scal, binP, unP, minP, maxP, foldP, PV.lt, PV.lt.ltL, endP, expoAll, expoG, expo, expo.expoL, frIds, frIds.frIdsL, nodupN, kill, cls, clsFuel, resO, RV.get, loadP, evC_p, evC_s, endS, endT, rowsOf, callP, thinL, unfr, unfr.unfrL, PV.noMem, PV.noMem.noMemL, optI, mapO, norm, trimT, trimB, forget, hasN, blksLt, List.set, softChk, softGo, softRd, effTg, rdP, S18, eNs]
theorem s28 (zs : List Int) (v : Nat) (h1 : zs.length < 1000000) : evS Dg 28 [.own 1 v 0 zs.length] [some ⟨0, 1, true, []⟩, some ⟨v, 1, true, zRows zs⟩] = some (.tup [], [some ⟨0, 1, true, []⟩, some ⟨v, 1, true, zRows (sortZ zs)⟩]) := by
  refine evS_ext D28 rfl ?_
  simp only [xSort, getB, List.getElem?_cons_zero, List.getElem?_cons_succ]
  rw [if_pos (by simp [mapE])]
  simp only
  by_cases h0 : zs.length = 0
  · rw [if_pos ⟨h0, trivial⟩]
    have : zs = [] := List.length_eq_zero_iff.1 h0
    subst this
    rfl
  · rw [if_neg (fun h => h0 h.1), if_pos (by simp [zRows, h1]; omega)]
    have : intsOf (zRows zs) = some zs := intsOf_rows zs
    rw [this]
    rfl
end Go.Proofs.Ytkdalahepedghaa
