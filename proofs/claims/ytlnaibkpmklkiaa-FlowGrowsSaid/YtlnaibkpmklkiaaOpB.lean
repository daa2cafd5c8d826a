/- flow.Open's first loop: the map that it fills. -/
import Derived.Test.YtlnaibkpmklkiaaOpA
namespace Go.Proofs.Ytlnaibkpmklkiaa
open Go Go.RowKit
set_option linter.unusedVariables false
set_option linter.unusedSimpArgs false
set_option linter.unusedSectionVars false

theorem i64_wrap_nat (n : Nat) (h : n < 9223372036854775807) : IntKind.i64.wrap (n : Int) = n := wrap_i64 _ (by omega) (by omega)
theorem i64_wrap_succ (n : Nat) (h : n < 9223372036854775806) : IntKind.i64.wrap ((n : Int) + 1) = ((n + 1 : Nat) : Int) := by
  rw [wrap_i64 _ (by omega) (by omega)]; omega

def S2 (ex : Bool) (l : List Tm) (k : Nat) (ks : List Int) : St :=
  ⟨[.top, .top, .top, .mp 1 0, .top, .top, .top, .top, .top, .sl ex 10 (tRows l), .int .i64 l.length, .int .i64 k] ++ List.replicate 32 .top, [some ⟨0, 1, true, []⟩, some ⟨0, mapE, true, mRows ks⟩]⟩
theorem tmh1 (t : Tm) : t.fs.leaf = true := t.h1
theorem tmh2 (t : Tm) : t.fs.lt 0 = true := t.h2
set_option maxRecDepth 100000 in
theorem turn2 (C : Cl) (ex : Bool) (l : List Tm) (hl : l.length ≤ 100000) (s0 : St) (E : Option Out) (hE : evLoop (evCode C 200000 a2b) [3, 9, 10, 11] 2 200000 s0 = E) (h0 : norm [3, 9, 10, 11] 2 s0 = S2 ex l 0 []) :
    E = evCode C 200000 a2b (S2 ex l l.length (opens l)) := by
  have H := loop_foldE (body := evCode C 200000 a2b) (keep := [3, 9, 10, 11]) (n0 := 2) (fuel := 200000) l (S2 ex l) opStep (fun k o => True) ?_ ?_ (by omega) [] trivial s0 E hE h0
  · exact H.1
  · intro k t ks ht hk _
    refine ⟨trivial, ?_⟩
    have w1 := wrap_i64 ((k : Int) + 1) (by omega) (by omega)
    have hk' : (k : Int) < l.length := by omega
    have eL := tRows_len l
    have eg := tRows_get ht
    have eg' : ∀ h, (tRows l)[k]'h = tRow t := fun h => by
      have := eg
      rw [List.getElem?_eq_getElem h] at this
      exact Option.some.inj this
    have g1 := tmh1 t
    have g2 := tmh2 t
    unfold opStep
    by_cases h6 : t.kd = 6
    · rw [if_pos h6]
      by_cases hm : t.n ∈ ks
      · rw [if_pos hm]
        have f1 := mfind_in hm
        have f2 := mRows_set hm
        unfold a2b
        simp [evCode, evOps, evOne, evOp, evPur, evEff, evPur.chunks, fillP, AOp.isEff, AO.ev, putP, PV.cells, PV.leaf, getB, getM, mapE, iterE, keyC, mapRows, mfind, eq1, eqL, scal, binP, unP, minP, maxP, foldP, PV.lt, PV.lt.ltL, endP, expoAll, expoG, expo, expo.expoL, frIds, frIds.frIdsL, nodupN, kill, cls, clsFuel, resO, RV.get, loadP, evC_p, evC_s, endS, endT, rowsOf, callP, thinL, unfr, unfr.unfrL, PV.noMem, PV.noMem.noMemL, optI, mapO, norm, trimT, trimB, forget, hasN, blksLt, List.set, softChk, softGo, softRd, effTg, rdP, S2, hk, hk', w1, eL, eg, eg', tRow, ↓g1, ↓g2, h6, f1, f2]
      · rw [if_neg hm]
        have f1 := mfind_out hm
        have f2 := mRows_add t.n ks
        unfold a2b
        simp [evCode, evOps, evOne, evOp, evPur, evEff, evPur.chunks, fillP, AOp.isEff, AO.ev, putP, PV.cells, PV.leaf, getB, getM, mapE, iterE, keyC, mapRows, mfind, eq1, eqL, scal, binP, unP, minP, maxP, foldP, PV.lt, PV.lt.ltL, endP, expoAll, expoG, expo, expo.expoL, frIds, frIds.frIdsL, nodupN, kill, cls, clsFuel, resO, RV.get, loadP, evC_p, evC_s, endS, endT, rowsOf, callP, thinL, unfr, unfr.unfrL, PV.noMem, PV.noMem.noMemL, optI, mapO, norm, trimT, trimB, forget, hasN, blksLt, List.set, softChk, softGo, softRd, effTg, rdP, S2, hk, hk', w1, eL, eg, eg', tRow, ↓g1, ↓g2, h6, f1, f2]
    · rw [if_neg h6]
      by_cases h7 : t.kd = 7
      · rw [if_pos h7]
        by_cases hm : t.n ∈ ks
        · have f1 := mfind_in hm
          have f2 := mRows_del hm
          unfold a2b
          simp [evCode, evOps, evOne, evOp, evPur, evEff, evPur.chunks, fillP, AOp.isEff, AO.ev, putP, PV.cells, PV.leaf, getB, getM, mapE, iterE, keyC, mapRows, mfind, eq1, eqL, scal, binP, unP, minP, maxP, foldP, PV.lt, PV.lt.ltL, endP, expoAll, expoG, expo, expo.expoL, frIds, frIds.frIdsL, nodupN, kill, cls, clsFuel, resO, RV.get, loadP, evC_p, evC_s, endS, endT, rowsOf, callP, thinL, unfr, unfr.unfrL, PV.noMem, PV.noMem.noMemL, optI, mapO, norm, trimT, trimB, forget, hasN, blksLt, List.set, softChk, softGo, softRd, effTg, rdP, S2, hk, hk', w1, eL, eg, eg', tRow, ↓g1, ↓g2, h7, f1, f2]
        · have f1 := mfind_out hm
          have f2 := List.erase_of_not_mem hm
          unfold a2b
          simp [evCode, evOps, evOne, evOp, evPur, evEff, evPur.chunks, fillP, AOp.isEff, AO.ev, putP, PV.cells, PV.leaf, getB, getM, mapE, iterE, keyC, mapRows, mfind, eq1, eqL, scal, binP, unP, minP, maxP, foldP, PV.lt, PV.lt.ltL, endP, expoAll, expoG, expo, expo.expoL, frIds, frIds.frIdsL, nodupN, kill, cls, clsFuel, resO, RV.get, loadP, evC_p, evC_s, endS, endT, rowsOf, callP, thinL, unfr, unfr.unfrL, PV.noMem, PV.noMem.noMemL, optI, mapO, norm, trimT, trimB, forget, hasN, blksLt, List.set, softChk, softGo, softRd, effTg, rdP, S2, hk, hk', w1, eL, eg, eg', tRow, ↓g1, ↓g2, h7, f1, f2]
      · rw [if_neg h7]
        unfold a2b
        simp [evCode, evOps, evOne, evOp, evPur, evEff, evPur.chunks, fillP, AOp.isEff, AO.ev, putP, PV.cells, PV.leaf, getB, getM, mapE, iterE, keyC, mapRows, mfind, eq1, eqL, scal, binP, unP, minP, maxP, foldP, PV.lt, PV.lt.ltL, endP, expoAll, expoG, expo, expo.expoL, frIds, frIds.frIdsL, nodupN, kill, cls, clsFuel, resO, RV.get, loadP, evC_p, evC_s, endS, endT, rowsOf, callP, thinL, unfr, unfr.unfrL, PV.noMem, PV.noMem.noMemL, optI, mapO, norm, trimT, trimB, forget, hasN, blksLt, List.set, softChk, softGo, softRd, effTg, rdP, S2, hk, hk', w1, eL, eg, eg', tRow, ↓g1, ↓g2, h6, h7]
  · intro ks _ s
    unfold a2b
    simp [evCode, evOps, evOne, evOp, evPur, evEff, evPur.chunks, fillP, AOp.isEff, AO.ev, putP, PV.cells, PV.leaf, getB, getM, mapE, iterE, keyC, mapRows, mfind, eq1, eqL, scal, binP, unP, minP, maxP, foldP, PV.lt, PV.lt.ltL, endP, expoAll, expoG, expo, expo.expoL, frIds, frIds.frIdsL, nodupN, kill, cls, clsFuel, resO, RV.get, loadP, evC_p, evC_s, endS, endT, rowsOf, callP, thinL, unfr, unfr.unfrL, PV.noMem, PV.noMem.noMemL, optI, mapO, norm, trimT, trimB, forget, hasN, blksLt, List.set, softChk, softGo, softRd, effTg, rdP, S2]

def V2 (ex : Bool) (l : List Tm) : List PV := [.top, .top, .top, .mp 1 0, .top, .top, .top, .top, .top, .sl ex 10 (tRows l), .int .i64 l.length, .int .i64 l.length, .bool false] ++ List.replicate 31 .top
set_option maxRecDepth 100000 in
theorem ev2 (C : Cl) (ex : Bool) (l : List Tm) (hl : l.length ≤ 100000) : evCode C 200000 a2 ⟨.sl ex 10 (tRows l) :: .top :: .own 0 0 0 0 :: .mp 1 0 :: .top :: .top :: .top :: .top :: .mp 1 0 :: List.replicate 35 .top, [some ⟨0, 1, true, []⟩, some ⟨0, mapE, true, []⟩]⟩ =
    some (.normal ⟨V2 ex l, [some ⟨0, 1, true, []⟩, some ⟨0, mapE, true, mRows (opens l)⟩]⟩) := by
  unfold a2
  simp [evCode, evOps, evOne, evOp, evPur, evEff, evPur.chunks, fillP, AOp.isEff, AO.ev, putP, PV.cells, PV.leaf, getB, getM, mapE, iterE, keyC, mapRows, mfind, eq1, eqL, scal, binP, unP, minP, maxP, foldP, PV.lt, PV.lt.ltL, endP, expoAll, expoG, expo, expo.expoL, frIds, frIds.frIdsL, nodupN, kill, cls, clsFuel, resO, RV.get, loadP, evC_p, evC_s, endS, endT, rowsOf, callP, thinL, unfr, unfr.unfrL, PV.noMem, PV.noMem.noMemL, optI, mapO, norm, trimT, trimB, forget, hasN, blksLt, List.set, softChk, softGo, softRd, effTg, rdP, tRows_len]
  generalize hE : evLoop (evCode C 200000 a2b) [3, 9, 10, 11] 2 200000 _ = E
  have T := turn2 C ex l hl _ E hE (by simp [evCode, evOps, evOne, evOp, evPur, evEff, evPur.chunks, fillP, AOp.isEff, AO.ev, putP, PV.cells, PV.leaf, getB, getM, mapE, iterE, keyC, mapRows, mfind, eq1, eqL, scal, binP, unP, minP, maxP, foldP, PV.lt, PV.lt.ltL, endP, expoAll, expoG, expo, expo.expoL, frIds, frIds.frIdsL, nodupN, kill, cls, clsFuel, resO, RV.get, loadP, evC_p, evC_s, endS, endT, rowsOf, callP, thinL, unfr, unfr.unfrL, PV.noMem, PV.noMem.noMemL, optI, mapO, norm, trimT, trimB, forget, hasN, blksLt, List.set, softChk, softGo, softRd, effTg, rdP, S2, mRows_nil])
  rw [T]
  unfold a2b
  simp [evCode, evOps, evOne, evOp, evPur, evEff, evPur.chunks, fillP, AOp.isEff, AO.ev, putP, PV.cells, PV.leaf, getB, getM, mapE, iterE, keyC, mapRows, mfind, eq1, eqL, scal, binP, unP, minP, maxP, foldP, PV.lt, PV.lt.ltL, endP, expoAll, expoG, expo, expo.expoL, frIds, frIds.frIdsL, nodupN, kill, cls, clsFuel, resO, RV.get, loadP, evC_p, evC_s, endS, endT, rowsOf, callP, thinL, unfr, unfr.unfrL, PV.noMem, PV.noMem.noMemL, optI, mapO, norm, trimT, trimB, forget, hasN, blksLt, List.set, softChk, softGo, softRd, effTg, rdP, S2, V2]
end Go.Proofs.Ytlnaibkpmklkiaa
