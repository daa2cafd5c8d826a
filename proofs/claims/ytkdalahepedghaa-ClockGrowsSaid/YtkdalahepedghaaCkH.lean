/- The reference's search. -/
import Derived.Test.YtkdalahepedghaaCkI
namespace Go.Proofs.Ytkdalahepedghaa
open Go Go.RowKit
set_option maxHeartbeats 4000000
set_option linter.unusedVariables false
set_option linter.unusedSimpArgs false

def iRows (l : List Int) : List (List PV) := l.map fun z => [.int .i64 z]
theorem iRows_len (l : List Int) : (iRows l).length = l.length := by simp [iRows]
theorem iRows_app (l : List Int) (z : Int) : iRows l ++ [[.int .i64 z]] = iRows (l ++ [z]) := by simp [iRows]
theorem iRows_get {l : List Int} {i : Nat} {z : Int} (h : l[i]? = some z) : (iRows l)[i]? = some [.int .i64 z] := by simp [iRows, h]
def rst (c : Int) (out : List Int) (s : Sn) : List Int := if s.b = c then addK (if s.a = c then addK out s.b else out) s.a else (if s.a = c then addK out s.b else out)
theorem addK_pre {out : List Int} {z : Int} : ∃ t, addK out z = out ++ t := by
  unfold addK
  split
  · exact ⟨[], by simp⟩
  · exact ⟨[z], rfl⟩
theorem addK_len {out : List Int} {z : Int} : (addK out z).length ≤ out.length + 1 := by
  unfold addK
  split <;> simp
theorem rst_pre {c : Int} {out : List Int} {s : Sn} : ∃ t, rst c out s = out ++ t := by
  unfold rst
  by_cases h1 : s.a = c
  · rw [if_pos h1]
    obtain ⟨t, ht⟩ := @addK_pre out s.b
    split
    · obtain ⟨u, hu⟩ := @addK_pre (addK out s.b) s.a
      exact ⟨t ++ u, by rw [hu, ht, List.append_assoc]⟩
    · exact ⟨t, ht⟩
  · rw [if_neg h1]
    split
    · exact addK_pre
    · exact ⟨[], by simp⟩
theorem rst_len {c : Int} {out : List Int} {s : Sn} : (rst c out s).length ≤ out.length + 2 := by
  unfold rst
  have h1 := @addK_len out s.b
  by_cases h : s.a = c
  · rw [if_pos h]
    have h2 := @addK_len (addK out s.b) s.a
    split <;> omega
  · rw [if_neg h]
    have h2 := @addK_len out s.a
    split <;> omega

def S27i (y : Bool) (l : List Sn) (i k : Nat) (out : List Int) : St :=
  ⟨[eNs y l, .top, .top, .own 1 out.length 0 out.length, .int .i64 i, .int .i64 k] ++ List.replicate 70 .top, [some ⟨0, 1, true, []⟩, some ⟨out.length, 1, true, iRows out⟩]⟩
theorem f21r (z : Int) (l : List Int) (hl : l.length ≤ 10000) : evE Dg 21 [.sl false 1 (iRows l), .int .i64 z] = some (.bool (!nhas z l)) := f21 false z l hl
theorem has_of {z : Int} {l : List Int} (h : z ∈ l) : (!nhas z l) = true := by rw [nhas_iff.2 h]; rfl
theorem nhas_of {z : Int} {l : List Int} (h : ¬ z ∈ l) : (!nhas z l) = false := by
  cases e : nhas z l
  · exact absurd (nhas_iff.1 e) h
  · rfl
set_option maxRecDepth 100000 in
theorem turn27i (y : Bool) (l : List Sn) (hl : l.length ≤ 1000) (i : Nat) (c : Int) (out : List Int) (hc : out[i]? = some c) (ho : out.length ≤ 2000) (s0 : St) (E : Option Out)
    (hE : evLoop (evCode (evC Dg) 1100 c27b0) [0, 3, 4, 5] 2 1100 s0 = E) (h0 : norm [0, 3, 4, 5] 2 s0 = S27i y l i 0 out) :
    E = evCode (evC Dg) 1100 c27b0 (S27i y l i l.length (l.foldl (rst c) out)) := by
  refine (loop_foldE (body := evCode (evC Dg) 1100 c27b0) (keep := [0, 3, 4, 5]) (n0 := 2) (fuel := 1100) l (S27i y l i) (rst c) (fun k o => (∃ t, o = out ++ t) ∧ o.length ≤ out.length + 2 * k) ?_ ?_ (by omega) out ⟨⟨[], by simp⟩, by omega⟩ s0 E hE h0).1
  · intro k s o ha hk hI
    obtain ⟨⟨t, ht⟩, hlen⟩ := hI
    have hic : o[i]? = some c := by
      rw [ht, List.getElem?_append_left (List.getElem?_eq_some_iff.1 hc).1]
      exact hc
    have hir := iRows_get hic
    have hi1 : i < o.length := (List.getElem?_eq_some_iff.1 hic).1
    have hi2 : (i : Int) < o.length := by omega
    have hi3 : (i : Int) < (o.length : Int) + 1 := by omega
    refine ⟨⟨?_, ?_⟩, ?_⟩
    · obtain ⟨u, hu⟩ := @rst_pre c o s
      exact ⟨t ++ u, by rw [hu, ht, List.append_assoc]⟩
    · have := @rst_len c o s
      omega
    have h1 := wrap_i64 ((k : Int) + 1) (by omega) (by omega)
    have hk' : (k : Int) < l.length := by omega
    have h4 : (o.length + 1) * 8 ≤ 140737488355328 := by omega
    have h5 : o.length + 1 ≤ 140737488355328 := by omega
    have h6 : (o.length + 1 + 1) * 8 ≤ 140737488355328 := by omega
    have h7 : o.length + 1 + 1 ≤ 140737488355328 := by omega
    have h6' : (o.length + 2) * 8 ≤ 140737488355328 := by omega
    have h7' : o.length + 2 ≤ 140737488355328 := by omega
    have eL := iRows_len o
    have fb := f21r s.b o (by omega)
    have fa := f21r s.a o (by omega)
    have fab := f21r s.a (o ++ [s.b]) (by simp; omega)
    rw [← iRows_app] at fab
    have hir2 : (iRows o ++ [[PV.int .i64 s.b]])[i]? = some [.int .i64 c] := by
      rw [List.getElem?_append_left (by rw [eL]; exact hi1)]; exact hir
    have tk : List.take o.length (iRows o) = iRows o := by rw [← eL, List.take_length]
    have tk2 : List.take (o.length + 1) (iRows o ++ [[PV.int .i64 s.b]]) = iRows o ++ [[PV.int .i64 s.b]] := by
      have : o.length + 1 = (iRows o ++ [[PV.int .i64 s.b]]).length := by simp [eL]
      rw [this, List.take_length]
    have hig : (iRows o)[i]'(by rw [eL]; exact hi1) = [PV.int .i64 c] := (List.getElem?_eq_some_iff.1 hir).2
    have hig2 : (iRows o ++ [[PV.int .i64 s.b]])[i]'(by simp [eL]; omega) = [PV.int .i64 c] := (List.getElem?_eq_some_iff.1 hir2).2
    have hi4 : i < o.length + 1 := by omega
    unfold c27b0
    by_cases ca : s.a = c
    · by_cases mb : s.b ∈ o
      · rw [has_of mb] at fb
        have e1 : (if s.a = c then addK o s.b else o) = o := by rw [if_pos ca]; unfold addK; rw [if_pos mb]
        unfold rst
        rw [e1]
        by_cases cb : s.b = c
        · by_cases ma : s.a ∈ o
          · rw [has_of ma] at fa
            have e2 : (if s.b = c then addK o s.a else o) = o := by rw [if_pos cb]; unfold addK; rw [if_pos ma]
            rw [e2]
            rw [ca] at fa
            rw [cb] at fb
            simp [evCode, evOps, evOne, evOp, evPur, evEff, evPur.chunks, fillP, AOp.isEff, AO.ev, putP, PV.cells, PV.leaf, getB, getM, mapE, keyC, mapRows, mfind, eq1, eqL, scal, binP, unP, minP, maxP, foldP, PV.lt, PV.lt.ltL, endP, expoAll, expo, expo.expoL, frIds, frIds.frIdsL, nodupN, kill, cls, clsFuel, resO, RV.get, loadP, evC_p, evC_s, endS, endT, rowsOf, callP, thinL, unfr, unfr.unfrL, PV.noMem, PV.noMem.noMemL, optI, mapO, norm, trimT, trimB, forget, hasN, blksLt, List.set, softChk, softGo, softRd, effTg, rdP, S27i, eNs, eN, ha, hk', h1, hir, hi1, hi2, eL, tk, tk2, hig, hig2, hi4, ca, cb, fa, fb]
          · rw [ca, ← cb] at ma; exact absurd mb ma
        · have e2 : (if s.b = c then addK o s.a else o) = o := if_neg cb
          rw [e2]
          simp [evCode, evOps, evOne, evOp, evPur, evEff, evPur.chunks, fillP, AOp.isEff, AO.ev, putP, PV.cells, PV.leaf, getB, getM, mapE, keyC, mapRows, mfind, eq1, eqL, scal, binP, unP, minP, maxP, foldP, PV.lt, PV.lt.ltL, endP, expoAll, expo, expo.expoL, frIds, frIds.frIdsL, nodupN, kill, cls, clsFuel, resO, RV.get, loadP, evC_p, evC_s, endS, endT, rowsOf, callP, thinL, unfr, unfr.unfrL, PV.noMem, PV.noMem.noMemL, optI, mapO, norm, trimT, trimB, forget, hasN, blksLt, List.set, softChk, softGo, softRd, effTg, rdP, S27i, eNs, eN, ha, hk', h1, hir, hi1, hi2, eL, tk, tk2, hig, hig2, hi4, ca, cb, fa, fb]
      · rw [nhas_of mb] at fb
        have e1 : (if s.a = c then addK o s.b else o) = o ++ [s.b] := by rw [if_pos ca]; unfold addK; rw [if_neg mb]
        unfold rst
        rw [e1]
        by_cases cb : s.b = c
        · exact absurd (by rw [cb]; exact List.mem_of_getElem? hic) mb
        · have e2 : (if s.b = c then addK (o ++ [s.b]) s.a else o ++ [s.b]) = o ++ [s.b] := if_neg cb
          rw [e2]
          have ea := iRows_app o s.b
          simp [evCode, evOps, evOne, evOp, evPur, evEff, evPur.chunks, fillP, AOp.isEff, AO.ev, putP, PV.cells, PV.leaf, getB, getM, mapE, keyC, mapRows, mfind, eq1, eqL, scal, binP, unP, minP, maxP, foldP, PV.lt, PV.lt.ltL, endP, expoAll, expo, expo.expoL, frIds, frIds.frIdsL, nodupN, kill, cls, clsFuel, resO, RV.get, loadP, evC_p, evC_s, endS, endT, rowsOf, callP, thinL, unfr, unfr.unfrL, PV.noMem, PV.noMem.noMemL, optI, mapO, norm, trimT, trimB, forget, hasN, blksLt, List.set, softChk, softGo, softRd, effTg, rdP, S27i, eNs, eN, ha, hk', h1, h4, h5, hir, hir2, hi1, hi2, hi3, eL, tk, tk2, hig, hig2, hi4, ca, cb, fa, fb, fab, ← ea]
    · have e1 : (if s.a = c then addK o s.b else o) = o := if_neg ca
      unfold rst
      rw [e1]
      by_cases cb : s.b = c
      · by_cases ma : s.a ∈ o
        · rw [has_of ma] at fa
          have e2 : (if s.b = c then addK o s.a else o) = o := by rw [if_pos cb]; unfold addK; rw [if_pos ma]
          rw [e2]
          simp [evCode, evOps, evOne, evOp, evPur, evEff, evPur.chunks, fillP, AOp.isEff, AO.ev, putP, PV.cells, PV.leaf, getB, getM, mapE, keyC, mapRows, mfind, eq1, eqL, scal, binP, unP, minP, maxP, foldP, PV.lt, PV.lt.ltL, endP, expoAll, expo, expo.expoL, frIds, frIds.frIdsL, nodupN, kill, cls, clsFuel, resO, RV.get, loadP, evC_p, evC_s, endS, endT, rowsOf, callP, thinL, unfr, unfr.unfrL, PV.noMem, PV.noMem.noMemL, optI, mapO, norm, trimT, trimB, forget, hasN, blksLt, List.set, softChk, softGo, softRd, effTg, rdP, S27i, eNs, eN, ha, hk', h1, hir, hi1, hi2, eL, tk, tk2, hig, hig2, hi4, ca, cb, fa, fb]
        · rw [nhas_of ma] at fa
          have e2 : (if s.b = c then addK o s.a else o) = o ++ [s.a] := by rw [if_pos cb]; unfold addK; rw [if_neg ma]
          rw [e2]
          have ea := iRows_app o s.a
          simp [evCode, evOps, evOne, evOp, evPur, evEff, evPur.chunks, fillP, AOp.isEff, AO.ev, putP, PV.cells, PV.leaf, getB, getM, mapE, keyC, mapRows, mfind, eq1, eqL, scal, binP, unP, minP, maxP, foldP, PV.lt, PV.lt.ltL, endP, expoAll, expo, expo.expoL, frIds, frIds.frIdsL, nodupN, kill, cls, clsFuel, resO, RV.get, loadP, evC_p, evC_s, endS, endT, rowsOf, callP, thinL, unfr, unfr.unfrL, PV.noMem, PV.noMem.noMemL, optI, mapO, norm, trimT, trimB, forget, hasN, blksLt, List.set, softChk, softGo, softRd, effTg, rdP, S27i, eNs, eN, ha, hk', h1, h4, h5, hir, hi1, hi2, eL, tk, tk2, hig, hig2, hi4, ca, cb, fa, fb, fab, ← ea]
      · have e2 : (if s.b = c then addK o s.a else o) = o := if_neg cb
        rw [e2]
        simp [evCode, evOps, evOne, evOp, evPur, evEff, evPur.chunks, fillP, AOp.isEff, AO.ev, putP, PV.cells, PV.leaf, getB, getM, mapE, keyC, mapRows, mfind, eq1, eqL, scal, binP, unP, minP, maxP, foldP, PV.lt, PV.lt.ltL, endP, expoAll, expo, expo.expoL, frIds, frIds.frIdsL, nodupN, kill, cls, clsFuel, resO, RV.get, loadP, evC_p, evC_s, endS, endT, rowsOf, callP, thinL, unfr, unfr.unfrL, PV.noMem, PV.noMem.noMemL, optI, mapO, norm, trimT, trimB, forget, hasN, blksLt, List.set, softChk, softGo, softRd, effTg, rdP, S27i, eNs, eN, ha, hk', h1, hir, hi1, hi2, eL, tk, tk2, hig, hig2, hi4, ca, cb, fa, fb]
  · intro o _ s
    unfold c27b0
    simp [evCode, evOps, evOne, evOp, evPur, evEff, evPur.chunks, fillP, AOp.isEff, AO.ev, putP, PV.cells, PV.leaf, getB, getM, mapE, keyC, mapRows, mfind, eq1, eqL, scal, binP, unP, minP, maxP, foldP, PV.lt, PV.lt.ltL, endP, expoAll, expo, expo.expoL, frIds, frIds.frIdsL, nodupN, kill, cls, clsFuel, resO, RV.get, loadP, evC_p, evC_s, endS, endT, rowsOf, callP, thinL, unfr, unfr.unfrL, PV.noMem, PV.noMem.noMemL, optI, mapO, norm, trimT, trimB, forget, hasN, blksLt, List.set, softChk, softGo, softRd, effTg, rdP, S27i, eNs]
end Go.Proofs.Ytkdalahepedghaa
