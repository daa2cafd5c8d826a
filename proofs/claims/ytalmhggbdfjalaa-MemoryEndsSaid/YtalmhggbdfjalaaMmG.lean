/- The reference's block. -/
import Derived.Test.YtalmhggbdfjalaaMmE
namespace Go.Proofs.Ytalmhggbdfjalaa
open Go Go.RowKit
set_option linter.unusedVariables false
set_option linter.unusedSimpArgs false
set_option maxHeartbeats 4000000

def evRow (t : Td) : List PV := [.int .i64 t.at_, .int .i64 t.kd, .str t.nm, .int .i64 t.n, .int .i64 t.m, eTx t.st]
def B35 (t : Td) (b : Bk) : Blks := [some ⟨1, 7, true, [zRow]⟩, some ⟨1, 6, true, [evRow t]⟩, some ⟨1, 7, true, [bRow b]⟩]
def S35 (l : List Td) (t : Td) (k : Nat) (b : Bk) : St := ⟨[.sl false 10 (tRows l), .top, .top, .top, .top, .top, .ptr 0 1 0 0, .ptr 1 1 0 0, .ptr 2 1 0 0, .int .i64 k] ++ List.replicate 69 .top, B35 t b⟩
def clo' (n : Int) (x : Td) (b : Bk) : Bk := if b.lv = true ∧ isE n x = true then { b with e := tm x, lv := false } else b
set_option maxRecDepth 100000 in
theorem step35 (l : List Td) (t x : Td) (k : Nat) (b : Bk) (hx : l[k]? = some x) (hl : l.length ≤ 1000) (f : Nat) :
    ∃ s, evCode (evC Dg) f c35b0 (S35 l t k b) = some (.normal s) ∧ norm [0, 6, 7, 8, 9] 3 s = S35 l t (k + 1) (clo' t.n x b) := by
  have hk : k < l.length := (List.getElem?_eq_some_iff.1 hx).1
  have hk' : (k : Int) < l.length := by omega
  have w1 := wrap_i64 ((k : Int) + 1) (by omega) (by omega)
  have eL := tRows_len l
  have eg := tRows_get hx
  have eg' := tRows_getE hx
  have q1 := f25 x
  unfold clo' isE
  obtain ⟨bi, bt, bs, bf, be, bst, blv⟩ := b
  cases blv with
  | false =>
    unfold c35b0
    simp [evCode, evOps, evOne, evOp, evPur, evEff, evPur.chunks, fillP, AOp.isEff, AO.ev, putP, PV.cells, PV.leaf, getB, getM, mapE, iterE, keyC, mapRows, mfind, eq1, eqL, scal, binP, unP, minP, maxP, foldP, PV.lt, PV.lt.ltL, endP, expoAll, expoG, expo, expo.expoL, frIds, frIds.frIdsL, nodupN, kill, cls, clsFuel, resO, RV.get, loadP, evC_p, evC_s, endS, endT, rowsOf, callP, thinL, unfr, unfr.unfrL, PV.noMem, PV.noMem.noMemL, optI, mapO, norm, trimT, trimB, forget, hasN, blksLt, List.set, softChk, softGo, softRd, effTg, rdP, S35, B35, zRow, evRow, bRow, eTx, hk, hk', w1, eL, eg, eg', tRow]
  | true =>
    by_cases h1 : x.n = t.n
    · by_cases h2 : x.kd = 12
      · simp only [tRow, h1, h2, eTx] at q1
        unfold c35b0
        simp [evCode, evOps, evOne, evOp, evPur, evEff, evPur.chunks, fillP, AOp.isEff, AO.ev, putP, PV.cells, PV.leaf, getB, getM, mapE, iterE, keyC, mapRows, mfind, eq1, eqL, scal, binP, unP, minP, maxP, foldP, PV.lt, PV.lt.ltL, endP, expoAll, expoG, expo, expo.expoL, frIds, frIds.frIdsL, nodupN, kill, cls, clsFuel, resO, RV.get, loadP, evC_p, evC_s, endS, endT, rowsOf, callP, thinL, unfr, unfr.unfrL, PV.noMem, PV.noMem.noMemL, optI, mapO, norm, trimT, trimB, forget, hasN, blksLt, List.set, softChk, softGo, softRd, effTg, rdP, S35, B35, zRow, evRow, bRow, eTx, hk, hk', w1, eL, eg, eg', tRow, h1, h2, q1]
      · by_cases h3 : x.kd = 11
        · simp only [tRow, h1, h3, eTx] at q1
          unfold c35b0
          simp [evCode, evOps, evOne, evOp, evPur, evEff, evPur.chunks, fillP, AOp.isEff, AO.ev, putP, PV.cells, PV.leaf, getB, getM, mapE, iterE, keyC, mapRows, mfind, eq1, eqL, scal, binP, unP, minP, maxP, foldP, PV.lt, PV.lt.ltL, endP, expoAll, expoG, expo, expo.expoL, frIds, frIds.frIdsL, nodupN, kill, cls, clsFuel, resO, RV.get, loadP, evC_p, evC_s, endS, endT, rowsOf, callP, thinL, unfr, unfr.unfrL, PV.noMem, PV.noMem.noMemL, optI, mapO, norm, trimT, trimB, forget, hasN, blksLt, List.set, softChk, softGo, softRd, effTg, rdP, S35, B35, zRow, evRow, bRow, eTx, hk, hk', w1, eL, eg, eg', tRow, h1, h3, q1]
        · unfold c35b0
          simp [evCode, evOps, evOne, evOp, evPur, evEff, evPur.chunks, fillP, AOp.isEff, AO.ev, putP, PV.cells, PV.leaf, getB, getM, mapE, iterE, keyC, mapRows, mfind, eq1, eqL, scal, binP, unP, minP, maxP, foldP, PV.lt, PV.lt.ltL, endP, expoAll, expoG, expo, expo.expoL, frIds, frIds.frIdsL, nodupN, kill, cls, clsFuel, resO, RV.get, loadP, evC_p, evC_s, endS, endT, rowsOf, callP, thinL, unfr, unfr.unfrL, PV.noMem, PV.noMem.noMemL, optI, mapO, norm, trimT, trimB, forget, hasN, blksLt, List.set, softChk, softGo, softRd, effTg, rdP, S35, B35, zRow, evRow, bRow, eTx, hk, hk', w1, eL, eg, eg', tRow, h1, h2, h3]
    · unfold c35b0
      simp [evCode, evOps, evOne, evOp, evPur, evEff, evPur.chunks, fillP, AOp.isEff, AO.ev, putP, PV.cells, PV.leaf, getB, getM, mapE, iterE, keyC, mapRows, mfind, eq1, eqL, scal, binP, unP, minP, maxP, foldP, PV.lt, PV.lt.ltL, endP, expoAll, expoG, expo, expo.expoL, frIds, frIds.frIdsL, nodupN, kill, cls, clsFuel, resO, RV.get, loadP, evC_p, evC_s, endS, endT, rowsOf, callP, thinL, unfr, unfr.unfrL, PV.noMem, PV.noMem.noMemL, optI, mapO, norm, trimT, trimB, forget, hasN, blksLt, List.set, softChk, softGo, softRd, effTg, rdP, S35, B35, zRow, evRow, bRow, eTx, hk, hk', w1, eL, eg, eg', tRow, h1]
def X35 (l : List Td) (t : Td) (b : Bk) : St := ⟨[.sl false 10 (tRows l), .top, .top, .top, .top, .top, .ptr 0 1 0 0, .ptr 1 1 0 0, .ptr 2 1 0 0, .int .i64 l.length] ++ List.replicate 30 .top ++ [.int .i64 l.length, .sl false 10 (tRows l), .int .i64 l.length, .bool false] ++ List.replicate 35 .top, B35 t b⟩
theorem exit35 (l : List Td) (t : Td) (b : Bk) (f : Nat) : evCode (evC Dg) f c35b0 (S35 l t l.length b) = some (.exit 0 (X35 l t b)) := by
  have eL := tRows_len l
  unfold c35b0 X35
  simp [evCode, evOps, evOne, evOp, evPur, evEff, evPur.chunks, fillP, AOp.isEff, AO.ev, putP, PV.cells, PV.leaf, getB, getM, mapE, iterE, keyC, mapRows, mfind, eq1, eqL, scal, binP, unP, minP, maxP, foldP, PV.lt, PV.lt.ltL, endP, expoAll, expoG, expo, expo.expoL, frIds, frIds.frIdsL, nodupN, kill, cls, clsFuel, resO, RV.get, loadP, evC_p, evC_s, endS, endT, rowsOf, callP, thinL, unfr, unfr.unfrL, PV.noMem, PV.noMem.noMemL, optI, mapO, norm, trimT, trimB, forget, hasN, blksLt, List.set, softChk, softGo, softRd, effTg, rdP, S35, B35, eL]
theorem mkB_i (e : Int) (t : Td) (r : List Td) : (mkB e t r).i = t.n := by unfold mkB; split <;> rfl
set_option maxRecDepth 100000 in
theorem f35 (l : List Td) (t : Td) (i : Nat) (ht : l[i]? = some t) (hl : l.length ≤ 1000) (e : Int) : evE Dg 35 [.sl false 10 (tRows l), .int .i64 i, .int .i64 e] = some (.agg (bRow (mkB (endM l e) t (l.drop (i + 1))))) := by
  have h24 := f24 l (by omega) e
  have hi : i < l.length := (List.getElem?_eq_some_iff.1 ht).1
  generalize endM l e = en at *
  have H := fun (s0 : St) (E : Option Out) => loop_foldE (body := evCode (evC Dg) 3000 c35b0) (keep := [0, 6, 7, 8, 9]) (n0 := 3) (fuel := 3000) (l.drop (i + 1)) (fun j (b : Bk) => S35 l t (i + 1 + j) b) (fun b x => clo' t.n x b) (fun j b => b = mkB en t ((l.drop (i + 1)).take j)) (by
    intro j x b hx hj hI
    subst hI
    have hx2 := hx
    rw [List.getElem?_drop] at hx
    refine ⟨?_, step35 l t x (i + 1 + j) _ hx hl 3000⟩
    rw [List.take_add_one, hx2]
    have := mkB_snoc en t x ((l.drop (i + 1)).take j)
    rw [show Option.toList (some x) = [x] from rfl, this]
    unfold clo' clo
    rw [mkB_i]) (by
    intro b _ s
    rw [List.length_drop, show i + 1 + (l.length - (i + 1)) = l.length by omega, exit35]
    intro h; cases h) (by rw [List.length_drop]; omega) (newB en t) (by simp [mkB]) s0 E
  have eL := tRows_len l
  have eg := tRows_get ht
  have eg' := tRows_getE ht
  have hi' : (i : Int) < l.length := by omega
  have w1 : IntKind.i64.wrap ((i : Int) + 1) = (i : Int) + 1 := wrap_i64 _ (by omega) (by omega)
  have q1 := f25 t
  simp only [tRow, eTx] at q1
  refine evE_intro 3000 D35 rfl ?_
  unfold c35
  simp [evCode, evOps, evOne, evOp, evPur, evEff, evPur.chunks, fillP, AOp.isEff, AO.ev, putP, PV.cells, PV.leaf, getB, getM, mapE, iterE, keyC, mapRows, mfind, eq1, eqL, scal, binP, unP, minP, maxP, foldP, PV.lt, PV.lt.ltL, endP, expoAll, expoG, expo, expo.expoL, frIds, frIds.frIdsL, nodupN, kill, cls, clsFuel, resO, RV.get, loadP, evC_p, evC_s, endS, endT, rowsOf, callP, thinL, unfr, unfr.unfrL, PV.noMem, PV.noMem.noMemL, optI, mapO, norm, trimT, trimB, forget, hasN, blksLt, List.set, softChk, softGo, softRd, effTg, rdP, eL, eg, eg', hi, hi', tRow, eTx, q1, h24, w1]
  generalize hE : evLoop (evCode (evC Dg) 3000 c35b0) [0, 6, 7, 8, 9] 3 3000 _ = E
  obtain ⟨h1, h2⟩ := H _ E hE (by simp [evCode, evOps, evOne, evOp, evPur, evEff, evPur.chunks, fillP, AOp.isEff, AO.ev, putP, PV.cells, PV.leaf, getB, getM, mapE, iterE, keyC, mapRows, mfind, eq1, eqL, scal, binP, unP, minP, maxP, foldP, PV.lt, PV.lt.ltL, endP, expoAll, expoG, expo, expo.expoL, frIds, frIds.frIdsL, nodupN, kill, cls, clsFuel, resO, RV.get, loadP, evC_p, evC_s, endS, endT, rowsOf, callP, thinL, unfr, unfr.unfrL, PV.noMem, PV.noMem.noMemL, optI, mapO, norm, trimT, trimB, forget, hasN, blksLt, List.set, softChk, softGo, softRd, effTg, rdP, S35, B35, zRow, evRow, newB, bRow, eTx])
  rw [List.length_drop, show i + 1 + (l.length - (i + 1)) = l.length by omega, exit35] at h1
  rw [List.take_of_length_le (Nat.le_refl _)] at h2
  rw [h2] at h1
  generalize mkB en t (l.drop (i + 1)) = b at *
  subst h1
  clear hE H h2
  unfold X35
  simp [evCode, evOps, evOne, evOp, evPur, evEff, evPur.chunks, fillP, AOp.isEff, AO.ev, putP, PV.cells, PV.leaf, getB, getM, mapE, iterE, keyC, mapRows, mfind, eq1, eqL, scal, binP, unP, minP, maxP, foldP, PV.lt, PV.lt.ltL, endP, expoAll, expoG, expo, expo.expoL, frIds, frIds.frIdsL, nodupN, kill, cls, clsFuel, resO, RV.get, loadP, evC_p, evC_s, endS, endT, rowsOf, callP, thinL, unfr, unfr.unfrL, PV.noMem, PV.noMem.noMemL, optI, mapO, norm, trimT, trimB, forget, hasN, blksLt, List.set, softChk, softGo, softRd, effTg, rdP, B35, zRow, bRow, eTx]
end Go.Proofs.Ytalmhggbdfjalaa
