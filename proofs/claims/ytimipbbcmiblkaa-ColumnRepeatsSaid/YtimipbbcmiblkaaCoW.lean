/- column: the reader's plain coding, whole; its differences. -/
import Derived.Test.YtimipbbcmiblkaaCoV
namespace Go.Proofs.Ytimipbbcmiblkaa
open Go Go.RowKit
set_option linter.unusedVariables false
set_option linter.unusedSimpArgs false
set_option maxHeartbeats 4000000

theorem blt_no {a b : Nat} (h : b ≤ a) : Nat.blt a b = false := by
  cases hh : Nat.blt a b with
  | false => rfl
  | true => have : a < b := by simpa [Nat.blt_eq] using hh
            omega
set_option maxRecDepth 100000 in
theorem f38 (e N : Nat) (G : List Nat → Bool → Blks) (hG : Rd2 e N G) (n : Nat) (hn : n ≤ 20000) (L : List Nat) (f : Bool) (hl : L.length ≤ 1000000) (ok : okB L) :
    evS Dg 38 [.ptr e 1 0 0, .int .i64 (n : Int)] (G L f) = some (.own (N + 1) (plD n n ([], L, f)).1.length 0 (plD n n ([], L, f)).1.length, G (plD n n ([], L, f)).2.1 (plD n n ([], L, f)).2.2 ++ [nB3, oB (plD n n ([], L, f)).1]) := by
  have hL := loop38 e N G hG n (n + 1) (n + 1) hn (by omega) L f hl ok
  have gl := hG.len
  have gb0 := hG.lt
  have he := hG.he
  have hb0 : ∀ b, Nat.blt b 0 = false := fun b => by cases b <;> rfl
  generalize plD n n ([], L, f) = q at *
  obtain ⟨o, L', f'⟩ := q
  have eo := vRows_len o
  have gb := hG.fl L' f' (N + 2) (by omega)
  have gb' := hG.fl L f (N + 2) (by omega)
  have tk : ∀ L f (y : Blks), y.length = 2 → (G L f ++ y).take (N + 2) = G L f ++ y := fun L f y hy => List.take_of_length_le (by rw [List.length_append, gl, hy]; exact Nat.le_refl _)
  have bt : Nat.blt e (N + 2) = true := blt_of (by omega)
  have bt2 : Nat.blt (N + 1) (N + 2) = true := blt_of (by omega)
  have bf0 : Nat.blt (N + 1) N = false := blt_no (by omega)
  have bf1 : Nat.blt (N + 1) (N + 1) = false := blt_no (by omega)
  refine evS_intro (n + 1) D38 rfl ?_
  unfold c38
  simp [evCode, evOps, evOne, evOp, evPur, evEff, evPur.chunks, fillP, AOp.isEff, AO.ev, putP, PV.cells, PV.leaf, getB, getM, mapE, iterE, keyC, mapRows, mfind, eq1, eqL, scal, binP, unP, minP, maxP, foldP, PV.lt, PV.lt.ltL, endP, expoAll, expoG, expo, expo.expoL, frIds, frIds.frIdsL, nodupN, kill, cls, clsFuel, resO, RV.get, loadP, evC_p, evC_s, endS, endT, rowsOf, callP, thinL, unfr, unfr.unfrL, PV.noMem, PV.noMem.noMemL, optI, mapO, norm, trimT, trimB, forget, hasN, blksLt, List.set, softChk, softGo, softRd, effTg, rdP, gl]
  generalize hE : evLoop _ _ _ _ _ = E
  obtain ⟨out, rfl, z6, z7, z8, z9, z10, z11, z12, z13, z14, z15, z16, rfl⟩ := hL _ E hE (by simp [evCode, evOps, evOne, evOp, evPur, evEff, evPur.chunks, fillP, AOp.isEff, AO.ev, putP, PV.cells, PV.leaf, getB, getM, mapE, iterE, keyC, mapRows, mfind, eq1, eqL, scal, binP, unP, minP, maxP, foldP, PV.lt, PV.lt.ltL, endP, expoAll, expoG, expo, expo.expoL, frIds, frIds.frIdsL, nodupN, kill, cls, clsFuel, resO, RV.get, loadP, evC_p, evC_s, endS, endT, rowsOf, callP, thinL, unfr, unfr.unfrL, PV.noMem, PV.noMem.noMemL, optI, mapO, norm, trimT, trimB, forget, hasN, blksLt, List.set, softChk, softGo, softRd, effTg, rdP, S38, nB3, oB, gl, gb', tk, bt, bt2, vRows])
  simp [evCode, evOps, evOne, evOp, evPur, evEff, evPur.chunks, fillP, AOp.isEff, AO.ev, putP, PV.cells, PV.leaf, getB, getM, mapE, iterE, keyC, mapRows, mfind, eq1, eqL, scal, binP, unP, minP, maxP, foldP, PV.lt, PV.lt.ltL, endP, expoAll, expoG, expo, expo.expoL, frIds, frIds.frIdsL, nodupN, kill, cls, clsFuel, resO, RV.get, loadP, evC_p, evC_s, endS, endT, rowsOf, callP, thinL, unfr, unfr.unfrL, PV.noMem, PV.noMem.noMemL, optI, mapO, norm, trimT, trimB, forget, hasN, blksLt, List.set, softChk, softGo, softRd, effTg, rdP, nB3, oB, gl, gb, gb0, tk, bt2, bf0, bf1, eo, hb0]
end Go.Proofs.Ytimipbbcmiblkaa
