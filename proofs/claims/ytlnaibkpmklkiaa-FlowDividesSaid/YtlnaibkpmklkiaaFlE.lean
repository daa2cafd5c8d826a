/- FlowDivides. -/
import Derived.Test.YtlnaibkpmklkiaaFlD
namespace Go.Proofs.Ytlnaibkpmklkiaa
open Go Go.RowKit
set_option linter.unusedVariables false
set_option linter.unusedSimpArgs false

theorem btw_app (x y : Int) : ∀ (l o : List Fl), l.foldl (btw x y) o = o ++ l.foldl (btw x y) []
  | [], o => by simp
  | f :: l, o => by
    simp only [List.foldl_cons]
    rw [btw_app x y l (btw x y o f), btw_app x y l (btw x y [] f)]
    unfold btw
    split <;> simp
theorem btw_at (x y : Int) {l : List Fl} {j : Nat} {f : Fl} (hf : l[j]? = some f) (h : f.a = x ∧ f.c = y) : (l.foldl (btw x y) [])[((l.take j).foldl (btw x y) []).length]? = some f := by
  have hj : j < l.length := (List.getElem?_eq_some_iff.1 hf).1
  have hd : l.drop j = f :: l.drop (j + 1) := by
    rw [List.drop_eq_getElem_cons hj]
    have := (List.getElem?_eq_some_iff.1 hf).2
    rw [this]
  have hl : l.foldl (btw x y) [] = (l.take j).foldl (btw x y) [] ++ (f :: (l.drop (j + 1)).foldl (btw x y) []) := by
    conv => lhs; rw [← List.take_append_drop j l, hd, List.foldl_append, List.foldl_cons, btw_app]
    unfold btw
    rw [if_pos h]
    rw [show (fun (o : List Fl) (f : Fl) => if f.a = x ∧ f.c = y then o ++ [f] else o) = btw x y from rfl]
    simp
  rw [hl, List.getElem?_append_right (Nat.le_refl _)]
  simp

def S8b (l m : List Fl) (i j : Nat) (o : List Fl) : St :=
  ⟨[.sl false 7 (fRows l), .top, .top, .int .i64 i, .sl false 7 (fRows m), .int .i64 o.length, .int .i64 j] ++ List.replicate 80 .top, []⟩
def S8 (l : List Fl) (i : Nat) : St := ⟨[.sl false 7 (fRows l), .top, .top, .int .i64 i] ++ List.replicate 83 .top, []⟩
set_option maxRecDepth 100000 in
theorem turn8 (l : List Fl) (hl : l.length ≤ 100) (i : Nat) (g : Fl) (hg : l[i]? = some g) (s0 : St) (E : Option Out)
    (hE : evLoop (evCode (evC Dg) 3000 c8b0) [0, 3, 4, 5, 6] 0 3000 s0 = E) (h0 : norm [0, 3, 4, 5, 6] 0 s0 = S8b l (l.foldl (btw g.a g.c) []) i 0 []) :
    E = evCode (evC Dg) 3000 c8b0 (S8b l (l.foldl (btw g.a g.c) []) i l.length (l.foldl (btw g.a g.c) [])) := by
  have hM := btw_len g.a g.c l
  have H := loop_foldE (body := evCode (evC Dg) 3000 c8b0) (keep := [0, 3, 4, 5, 6]) (n0 := 0) (fuel := 3000) l (S8b l (l.foldl (btw g.a g.c) []) i) (btw g.a g.c) (fun j o => o = (l.take j).foldl (btw g.a g.c) []) ?_ ?_ (by omega) [] (by simp) s0 E hE h0
  · exact H.1
  · intro j f o hf hk hI
    have hnx : btw g.a g.c o f = (l.take (j + 1)).foldl (btw g.a g.c) [] := by
      rw [List.take_add_one, hf, List.foldl_append, ← hI]; rfl
    refine ⟨hnx, ?_⟩
    have w1 := wrap_i64 ((j : Int) + 1) (by omega) (by omega)
    have hk' : (j : Int) < l.length := by omega
    have hi : i < l.length := (List.getElem?_eq_some_iff.1 hg).1
    have hi' : (i : Int) < l.length := by omega
    have eL := fRows_len l
    have eg := fRows_get hf
    have eg' := fRows_getE hf
    have gg := fRows_get hg
    have gg' := fRows_getE hg
    by_cases h1 : f.a = g.a
    · by_cases h2 : f.c = g.c
      · have hm := btw_at g.a g.c hf ⟨h1, h2⟩
        rw [← hI] at hm
        generalize hm' : l.foldl (btw g.a g.c) [] = m at *
        have hol : o.length < m.length := (List.getElem?_eq_some_iff.1 hm).1
        have e1 := fRows_get hm
        have e2 := fRows_getE hm
        have eM := fRows_len m
        have hol' : (o.length : Int) < m.length := by omega
        have hol2 : ¬ (m.length : Int) ≤ o.length := by omega
        have w2 := wrap_i64 ((o.length : Int) + 1) (by omega) (by omega)
        unfold btw
        rw [if_pos ⟨h1, h2⟩]
        unfold c8b0
        simp [evCode, evOps, evOne, evOp, evPur, evEff, evPur.chunks, fillP, AOp.isEff, AO.ev, putP, PV.cells, PV.leaf, getB, getM, mapE, iterE, keyC, mapRows, mfind, eq1, eqL, scal, binP, unP, minP, maxP, foldP, PV.lt, PV.lt.ltL, endP, expoAll, expoG, expo, expo.expoL, frIds, frIds.frIdsL, nodupN, kill, cls, clsFuel, resO, RV.get, loadP, evC_p, evC_s, endS, endT, rowsOf, callP, thinL, unfr, unfr.unfrL, PV.noMem, PV.noMem.noMemL, optI, mapO, norm, trimT, trimB, forget, hasN, blksLt, List.set, softChk, softGo, softRd, effTg, rdP, S8b, hk, hk', hi, hi', w1, w2, eL, eM, eg, eg', gg, gg', fRow, h1, h2, hol, hol', hol2, e1, e2]
      · unfold btw
        rw [if_neg (fun h => h2 h.2)]
        unfold c8b0
        simp [evCode, evOps, evOne, evOp, evPur, evEff, evPur.chunks, fillP, AOp.isEff, AO.ev, putP, PV.cells, PV.leaf, getB, getM, mapE, iterE, keyC, mapRows, mfind, eq1, eqL, scal, binP, unP, minP, maxP, foldP, PV.lt, PV.lt.ltL, endP, expoAll, expoG, expo, expo.expoL, frIds, frIds.frIdsL, nodupN, kill, cls, clsFuel, resO, RV.get, loadP, evC_p, evC_s, endS, endT, rowsOf, callP, thinL, unfr, unfr.unfrL, PV.noMem, PV.noMem.noMemL, optI, mapO, norm, trimT, trimB, forget, hasN, blksLt, List.set, softChk, softGo, softRd, effTg, rdP, S8b, hk, hk', hi, hi', w1, eL, eg, eg', gg, gg', fRow, h1, h2]
    · unfold btw
      rw [if_neg (fun h => h1 h.1)]
      unfold c8b0
      simp [evCode, evOps, evOne, evOp, evPur, evEff, evPur.chunks, fillP, AOp.isEff, AO.ev, putP, PV.cells, PV.leaf, getB, getM, mapE, iterE, keyC, mapRows, mfind, eq1, eqL, scal, binP, unP, minP, maxP, foldP, PV.lt, PV.lt.ltL, endP, expoAll, expoG, expo, expo.expoL, frIds, frIds.frIdsL, nodupN, kill, cls, clsFuel, resO, RV.get, loadP, evC_p, evC_s, endS, endT, rowsOf, callP, thinL, unfr, unfr.unfrL, PV.noMem, PV.noMem.noMemL, optI, mapO, norm, trimT, trimB, forget, hasN, blksLt, List.set, softChk, softGo, softRd, effTg, rdP, S8b, hk, hk', hi, hi', w1, eL, eg, eg', gg, gg', fRow, h1]
  · intro o _ s
    have eL := fRows_len l
    unfold c8b0
    simp [evCode, evOps, evOne, evOp, evPur, evEff, evPur.chunks, fillP, AOp.isEff, AO.ev, putP, PV.cells, PV.leaf, getB, getM, mapE, iterE, keyC, mapRows, mfind, eq1, eqL, scal, binP, unP, minP, maxP, foldP, PV.lt, PV.lt.ltL, endP, expoAll, expoG, expo, expo.expoL, frIds, frIds.frIdsL, nodupN, kill, cls, clsFuel, resO, RV.get, loadP, evC_p, evC_s, endS, endT, rowsOf, callP, thinL, unfr, unfr.unfrL, PV.noMem, PV.noMem.noMemL, optI, mapO, norm, trimT, trimB, forget, hasN, blksLt, List.set, softChk, softGo, softRd, effTg, rdP, S8b, eL]
set_option maxRecDepth 100000 in
theorem f8 (l : List Fl) : evE Dg 8 [.sl false 7 (fRows l)] = some (.bool true) := by
  refine evE_intro 3000 D8 rfl ?_
  unfold c8
  have eL := fRows_len l
  have h9 := f9
  by_cases hl : 100 < l.length
  · have hl' : (100 : Int) < l.length := by omega
    simp [evCode, evOps, evOne, evOp, evPur, evEff, evPur.chunks, fillP, AOp.isEff, AO.ev, putP, PV.cells, PV.leaf, getB, getM, mapE, iterE, keyC, mapRows, mfind, eq1, eqL, scal, binP, unP, minP, maxP, foldP, PV.lt, PV.lt.ltL, endP, expoAll, expoG, expo, expo.expoL, frIds, frIds.frIdsL, nodupN, kill, cls, clsFuel, resO, RV.get, loadP, evC_p, evC_s, endS, endT, rowsOf, callP, thinL, unfr, unfr.unfrL, PV.noMem, PV.noMem.noMemL, optI, mapO, norm, trimT, trimB, forget, hasN, blksLt, List.set, softChk, softGo, softRd, effTg, rdP, eL, hl, hl', h9]
  · have hl' : ¬ (100 : Int) < l.length := by omega
    simp [evCode, evOps, evOne, evOp, evPur, evEff, evPur.chunks, fillP, AOp.isEff, AO.ev, putP, PV.cells, PV.leaf, getB, getM, mapE, iterE, keyC, mapRows, mfind, eq1, eqL, scal, binP, unP, minP, maxP, foldP, PV.lt, PV.lt.ltL, endP, expoAll, expoG, expo, expo.expoL, frIds, frIds.frIdsL, nodupN, kill, cls, clsFuel, resO, RV.get, loadP, evC_p, evC_s, endS, endT, rowsOf, callP, thinL, unfr, unfr.unfrL, PV.noMem, PV.noMem.noMemL, optI, mapO, norm, trimT, trimB, forget, hasN, blksLt, List.set, softChk, softGo, softRd, effTg, rdP, eL, hl, hl', h9]
    generalize hE : evLoop (evCode (evC Dg) 3000 c8b1) [0, 3] 0 3000 _ = E
    have H := loop_foldE (body := evCode (evC Dg) 3000 c8b1) (keep := [0, 3]) (n0 := 0) (fuel := 3000) l (fun k (_ : Unit) => S8 l k) (fun _ _ => ()) (fun k o => True) ?_ ?_ (by omega) () trivial _ E hE (by simp [evCode, evOps, evOne, evOp, evPur, evEff, evPur.chunks, fillP, AOp.isEff, AO.ev, putP, PV.cells, PV.leaf, getB, getM, mapE, iterE, keyC, mapRows, mfind, eq1, eqL, scal, binP, unP, minP, maxP, foldP, PV.lt, PV.lt.ltL, endP, expoAll, expoG, expo, expo.expoL, frIds, frIds.frIdsL, nodupN, kill, cls, clsFuel, resO, RV.get, loadP, evC_p, evC_s, endS, endT, rowsOf, callP, thinL, unfr, unfr.unfrL, PV.noMem, PV.noMem.noMemL, optI, mapO, norm, trimT, trimB, forget, hasN, blksLt, List.set, softChk, softGo, softRd, effTg, rdP, S8])
    · rw [H.1]
      unfold c8b1 c8r0
      simp [evCode, evOps, evOne, evOp, evPur, evEff, evPur.chunks, fillP, AOp.isEff, AO.ev, putP, PV.cells, PV.leaf, getB, getM, mapE, iterE, keyC, mapRows, mfind, eq1, eqL, scal, binP, unP, minP, maxP, foldP, PV.lt, PV.lt.ltL, endP, expoAll, expoG, expo, expo.expoL, frIds, frIds.frIdsL, nodupN, kill, cls, clsFuel, resO, RV.get, loadP, evC_p, evC_s, endS, endT, rowsOf, callP, thinL, unfr, unfr.unfrL, PV.noMem, PV.noMem.noMemL, optI, mapO, norm, trimT, trimB, forget, hasN, blksLt, List.set, softChk, softGo, softRd, effTg, rdP, S8, eL, h9]
    · intro k f o hf hk _
      refine ⟨trivial, ?_⟩
      have w1 := wrap_i64 ((k : Int) + 1) (by omega) (by omega)
      have hk' : (k : Int) < l.length := by omega
      have eg := fRows_get hf
      have eg' := fRows_getE hf
      have h18 := f18 false l f.a f.c (by omega)
      have T := fun s0 E => turn8 l (by omega) k f hf s0 E
      generalize l.foldl (btw f.a f.c) [] = m at *
      have eM := fRows_len m
      unfold c8b1
      simp [evCode, evOps, evOne, evOp, evPur, evEff, evPur.chunks, fillP, AOp.isEff, AO.ev, putP, PV.cells, PV.leaf, getB, getM, mapE, iterE, keyC, mapRows, mfind, eq1, eqL, scal, binP, unP, minP, maxP, foldP, PV.lt, PV.lt.ltL, endP, expoAll, expoG, expo, expo.expoL, frIds, frIds.frIdsL, nodupN, kill, cls, clsFuel, resO, RV.get, loadP, evC_p, evC_s, endS, endT, rowsOf, callP, thinL, unfr, unfr.unfrL, PV.noMem, PV.noMem.noMemL, optI, mapO, norm, trimT, trimB, forget, hasN, blksLt, List.set, softChk, softGo, softRd, effTg, rdP, S8, hk, hk', w1, eL, eg, eg', fRow, h18]
      generalize hE2 : evLoop (evCode (evC Dg) 3000 c8b0) [0, 3, 4, 5, 6] 0 3000 _ = E2
      have T2 := T _ E2 hE2 (by simp [evCode, evOps, evOne, evOp, evPur, evEff, evPur.chunks, fillP, AOp.isEff, AO.ev, putP, PV.cells, PV.leaf, getB, getM, mapE, iterE, keyC, mapRows, mfind, eq1, eqL, scal, binP, unP, minP, maxP, foldP, PV.lt, PV.lt.ltL, endP, expoAll, expoG, expo, expo.expoL, frIds, frIds.frIdsL, nodupN, kill, cls, clsFuel, resO, RV.get, loadP, evC_p, evC_s, endS, endT, rowsOf, callP, thinL, unfr, unfr.unfrL, PV.noMem, PV.noMem.noMemL, optI, mapO, norm, trimT, trimB, forget, hasN, blksLt, List.set, softChk, softGo, softRd, effTg, rdP, S8b])
      rw [T2]
      unfold c8b0
      simp [evCode, evOps, evOne, evOp, evPur, evEff, evPur.chunks, fillP, AOp.isEff, AO.ev, putP, PV.cells, PV.leaf, getB, getM, mapE, iterE, keyC, mapRows, mfind, eq1, eqL, scal, binP, unP, minP, maxP, foldP, PV.lt, PV.lt.ltL, endP, expoAll, expoG, expo, expo.expoL, frIds, frIds.frIdsL, nodupN, kill, cls, clsFuel, resO, RV.get, loadP, evC_p, evC_s, endS, endT, rowsOf, callP, thinL, unfr, unfr.unfrL, PV.noMem, PV.noMem.noMemL, optI, mapO, norm, trimT, trimB, forget, hasN, blksLt, List.set, softChk, softGo, softRd, effTg, rdP, S8b, eL, eM, w1]
    · intro o _ s
      unfold c8b1
      simp [evCode, evOps, evOne, evOp, evPur, evEff, evPur.chunks, fillP, AOp.isEff, AO.ev, putP, PV.cells, PV.leaf, getB, getM, mapE, iterE, keyC, mapRows, mfind, eq1, eqL, scal, binP, unP, minP, maxP, foldP, PV.lt, PV.lt.ltL, endP, expoAll, expoG, expo, expo.expoL, frIds, frIds.frIdsL, nodupN, kill, cls, clsFuel, resO, RV.get, loadP, evC_p, evC_s, endS, endT, rowsOf, callP, thinL, unfr, unfr.unfrL, PV.noMem, PV.noMem.noMemL, optI, mapO, norm, trimT, trimB, forget, hasN, blksLt, List.set, softChk, softGo, softRd, effTg, rdP, S8, eL]
theorem law8 (ps : List PV) (h : ArgL Try.prog 12 [25] ps) : evE Dg 8 ps = some (.bool true) := by
  obtain ⟨p, rfl, h1⟩ := argL1 h
  obtain ⟨l, rfl⟩ := in_flows h1
  exact f8 l
end Go.Proofs.Ytlnaibkpmklkiaa
