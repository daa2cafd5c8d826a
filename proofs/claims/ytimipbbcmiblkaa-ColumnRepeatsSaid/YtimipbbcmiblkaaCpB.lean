/- column: the reader's dictionary, whole. -/
import Derived.Test.YtimipbbcmiblkaaCpA
namespace Go.Proofs.Ytimipbbcmiblkaa
open Go Go.RowKit
set_option linter.unusedVariables false
set_option linter.unusedSimpArgs false
set_option maxHeartbeats 4000000

def dwD (n : Nat) (L : List Nat) (f : Bool) : Rs := plD (dec L).1.toNat (dec L).1.toNat ([], L.drop (dec L).2.1, if (n : Int) < (dec L).1 then true else (f || decide ((dec L).2.2 ≠ 0)))
def diD (n : Nat) (L : List Nat) (f : Bool) : Rs := dcD n (dwD n L f).1 n ([], (dwD n L f).2.1, (dwD n L f).2.2)
theorem plD_ok (m : Nat) : ∀ (k : Nat) (q : Rs), okB q.2.1 → okB (plD m k q).2.1 ∧ (plD m k q).2.1.length ≤ q.2.1.length
  | 0, q, h => ⟨h, Nat.le_refl _⟩
  | k + 1, q, h => by
    unfold plD
    split
    · obtain ⟨a, b⟩ := valD_ok h
      obtain ⟨c, d⟩ := plD_ok m k (q.1 ++ [(valD q.2.1).1], (valD q.2.1).2.1, (valD q.2.1).2.2) a
      exact ⟨c, Nat.le_trans d b⟩
    · exact ⟨h, Nat.le_refl _⟩
theorem flatN : flatB [nB3, nB3] := fun k => by simp [nB3, blksLt]
set_option maxRecDepth 100000 in
theorem res41 (e N : Nat) (G : List Nat → Bool → Blks) (hG : Rd2 e N G) (n : Nat) (hn : n ≤ 20000) (L : List Nat) (f : Bool) (hl : L.length ≤ 1000000) (ok : okB L) :
    ResR G N (evS Dg 41 [.ptr e 1 0 0, .int .i64 (n : Int)] (G L f)) (diD n L f) := by
  have h50 := f50 e (N + 2) _ (hG.app [nB3, nB3] flatN).toRd L f hl ok
  have ok1 := ok.drop (dec L).2.1
  have l1 : (L.drop (dec L).2.1).length ≤ 1000000 := by simp; omega
  have gl := hG.len
  have gb0 := hG.lt
  have he := hG.he
  have heN : ∀ k, e < N + k := fun k => by omega
  have hb0 : ∀ b, Nat.blt b 0 = false := fun b => by cases b <;> rfl
  have tk : ∀ L f (y : Blks), y.length = 2 → (G L f ++ y).take (N + 2) = G L f ++ y := fun L f y hy => List.take_of_length_le (by rw [List.length_append, gl, hy]; exact Nat.le_refl _)
  have tk3 : ∀ L f (y : Blks), y.length = 3 → (G L f ++ y).take (N + 3) = G L f ++ y := fun L f y hy => List.take_of_length_le (by rw [List.length_append, gl, hy]; exact Nat.le_refl _)
  have tk4 : ∀ L f (y : Blks), y.length = 4 → (G L f ++ y).take (N + 4) = G L f ++ y := fun L f y hy => List.take_of_length_le (by rw [List.length_append, gl, hy]; exact Nat.le_refl _)
  have fl2 := fun L f => hG.fl L f (N + 2) (by omega)
  have fl3 := fun L f => hG.fl L f (N + 3) (by omega)
  have fl4 := fun L f => hG.fl L f (N + 4) (by omega)
  have bt : Nat.blt e (N + 2) = true := blt_of (by omega)
  have bt2 : Nat.blt (N + 1) (N + 2) = true := blt_of (by omega)
  have bu : Nat.blt e (N + 3) = true := blt_of (by omega)
  have bu2 : Nat.blt (N + 1) (N + 3) = true := blt_of (by omega)
  have bu3 : Nat.blt (N + 2) (N + 3) = true := blt_of (by omega)
  have b0 : Nat.blt (N + 2) N = false := blt_no (by omega)
  have b1 : Nat.blt (N + 2) (N + 1) = false := blt_no (by omega)
  have b2 : Nat.blt (N + 2) (N + 2) = false := blt_no (by omega)
  have c0 : Nat.blt (N + 3) N = false := blt_no (by omega)
  have c1 : Nat.blt (N + 3) (N + 1) = false := blt_no (by omega)
  have c2 : Nat.blt (N + 3) (N + 2) = false := blt_no (by omega)
  have c3 : Nat.blt (N + 3) (N + 3) = false := blt_no (by omega)
  have ct : Nat.blt (N + 3) (N + 4) = true := blt_of (by omega)
  unfold diD dwD
  generalize (f || decide ((dec L).2.2 ≠ 0)) = f1 at *
  generalize (dec L).1 = d at *
  generalize L.drop (dec L).2.1 = L1 at *
  have gs := hG.set L1 f1 L1 true
  have g1 : ∀ y : Blks, (G L1 f1 ++ y)[e]? = some (some ⟨1, 2, true, [[.sl false 1 (bR L1), .bool f1]]⟩) := fun y => by
    rw [List.getElem?_append_left (by rw [gl]; exact he)]; exact hG.get L1 f1
  have g2 := fun y => got_of (g1 y)
  have hw := loop41w e N G hG n d (n + 1) (n + 1) (by omega) L1 (if (n : Int) < d then true else f1) (by
    by_cases h : (n : Int) < d
    · left; rw [if_pos h]
    · right; omega) l1 ok1
  obtain ⟨p1, p2⟩ := plD_ok d.toNat d.toNat ([], L1, if (n : Int) < d then true else f1) ok1
  generalize hq : plD d.toNat d.toNat ([], L1, if (n : Int) < d then true else f1) = q at *
  obtain ⟨W, L2, f2⟩ := q
  simp only at p1 p2 ⊢
  have hd := loop41d e N G hG n W (n + 1) (n + 1) hn (by omega) L2 f2 (by omega) p1
  generalize dcD n W n ([], L2, f2) = r at *
  obtain ⟨o, L3, f3⟩ := r
  have eo := vRows_len o
  have eW := vRows_len W
  have hC : ∃ st, evCode (evC Dg) (n + 1) c41.code ⟨[.ptr e 1 0 0, .int .i64 (n : Int)] ++ List.replicate 63 .top, G L f⟩ = some (.ret st) ∧ ((st.sl[4]?.getD .top = .own (N + 2) o.length 0 o.length ∧ st.bl = G L3 f3 ++ [nB3, oB W, oB o]) ∨ (o = [] ∧ st.sl[4]?.getD .top = .own (N + 3) 0 0 0 ∧ ∃ p, st.bl = G L3 f3 ++ [nB3, oB W, oB p, nB3])) := by
    simp only [nB3] at h50
    unfold c41
    by_cases hnd : (n : Int) < d
    · have hw' := hw
      rw [if_pos hnd] at hw'
      simp [evCode, evOps, evOne, evOp, evPur, evEff, evPur.chunks, fillP, AOp.isEff, AO.ev, putP, PV.cells, PV.leaf, getB, getM, mapE, iterE, keyC, mapRows, mfind, eq1, eqL, scal, binP, unP, minP, maxP, foldP, PV.lt, PV.lt.ltL, endP, expoAll, expoG, expo, expo.expoL, frIds, frIds.frIdsL, nodupN, kill, cls, clsFuel, resO, RV.get, loadP, evC_p, evC_s, endS, endT, rowsOf, callP, thinL, unfr, unfr.unfrL, PV.noMem, PV.noMem.noMemL, optI, mapO, norm, trimT, trimB, forget, hasN, blksLt, List.set, softChk, softGo, softRd, effTg, rdP, gl, h50, g1, g2, gs, he, heN, hnd, hb0]
      generalize hE : evLoop _ _ _ _ _ = E
      obtain ⟨out, rfl, z17, z18, z19, z20, z21, z22, z23, z24, z25, z26, z27, rfl⟩ := hw' _ E hE (by simp [evCode, evOps, evOne, evOp, evPur, evEff, evPur.chunks, fillP, AOp.isEff, AO.ev, putP, PV.cells, PV.leaf, getB, getM, mapE, iterE, keyC, mapRows, mfind, eq1, eqL, scal, binP, unP, minP, maxP, foldP, PV.lt, PV.lt.ltL, endP, expoAll, expoG, expo, expo.expoL, frIds, frIds.frIdsL, nodupN, kill, cls, clsFuel, resO, RV.get, loadP, evC_p, evC_s, endS, endT, rowsOf, callP, thinL, unfr, unfr.unfrL, PV.noMem, PV.noMem.noMemL, optI, mapO, norm, trimT, trimB, forget, hasN, blksLt, List.set, softChk, softGo, softRd, effTg, rdP, S41w, nB3, oB, gl, fl2, tk, bt, bt2, vRows])
      unfold c41r0
      simp [evCode, evOps, evOne, evOp, evPur, evEff, evPur.chunks, fillP, AOp.isEff, AO.ev, putP, PV.cells, PV.leaf, getB, getM, mapE, iterE, keyC, mapRows, mfind, eq1, eqL, scal, binP, unP, minP, maxP, foldP, PV.lt, PV.lt.ltL, endP, expoAll, expoG, expo, expo.expoL, frIds, frIds.frIdsL, nodupN, kill, cls, clsFuel, resO, RV.get, loadP, evC_p, evC_s, endS, endT, rowsOf, callP, thinL, unfr, unfr.unfrL, PV.noMem, PV.noMem.noMemL, optI, mapO, norm, trimT, trimB, forget, hasN, blksLt, List.set, softChk, softGo, softRd, effTg, rdP, gl, nB3, oB]
      generalize hE : evLoop _ _ _ _ _ = E
      rcases hd _ E hE (by simp [evCode, evOps, evOne, evOp, evPur, evEff, evPur.chunks, fillP, AOp.isEff, AO.ev, putP, PV.cells, PV.leaf, getB, getM, mapE, iterE, keyC, mapRows, mfind, eq1, eqL, scal, binP, unP, minP, maxP, foldP, PV.lt, PV.lt.ltL, endP, expoAll, expoG, expo, expo.expoL, frIds, frIds.frIdsL, nodupN, kill, cls, clsFuel, resO, RV.get, loadP, evC_p, evC_s, endS, endT, rowsOf, callP, thinL, unfr, unfr.unfrL, PV.noMem, PV.noMem.noMemL, optI, mapO, norm, trimT, trimB, forget, hasN, blksLt, List.set, softChk, softGo, softRd, effTg, rdP, S41d, nB3, oB, gl, fl3, tk3, bu, bu2, bu3, vRows]) with ⟨out, rfl, ⟨z33, z34, z35, z36, z37, z38, z39, z40, z41, z42, z43, rfl⟩ | ⟨s, p, rfl, ho, h4, hbl⟩⟩
      · simp [evCode, evOps, evOne, evOp, evPur, evEff, evPur.chunks, fillP, AOp.isEff, AO.ev, putP, PV.cells, PV.leaf, getB, getM, mapE, iterE, keyC, mapRows, mfind, eq1, eqL, scal, binP, unP, minP, maxP, foldP, PV.lt, PV.lt.ltL, endP, expoAll, expoG, expo, expo.expoL, frIds, frIds.frIdsL, nodupN, kill, cls, clsFuel, resO, RV.get, loadP, evC_p, evC_s, endS, endT, rowsOf, callP, thinL, unfr, unfr.unfrL, PV.noMem, PV.noMem.noMemL, optI, mapO, norm, trimT, trimB, forget, hasN, blksLt, List.set, softChk, softGo, softRd, effTg, rdP, nB3, oB]
      · simp only at ho
        simp [evCode, evOps, evOne, evOp, evPur, evEff, evPur.chunks, fillP, AOp.isEff, AO.ev, putP, PV.cells, PV.leaf, getB, getM, mapE, iterE, keyC, mapRows, mfind, eq1, eqL, scal, binP, unP, minP, maxP, foldP, PV.lt, PV.lt.ltL, endP, expoAll, expoG, expo, expo.expoL, frIds, frIds.frIdsL, nodupN, kill, cls, clsFuel, resO, RV.get, loadP, evC_p, evC_s, endS, endT, rowsOf, callP, thinL, unfr, unfr.unfrL, PV.noMem, PV.noMem.noMemL, optI, mapO, norm, trimT, trimB, forget, hasN, blksLt, List.set, softChk, softGo, softRd, effTg, rdP, h4, hbl, ho]
        exact ⟨rfl, rfl, ⟨p, rfl⟩, rfl⟩
    · have hw' := hw
      rw [if_neg hnd] at hw'
      simp [evCode, evOps, evOne, evOp, evPur, evEff, evPur.chunks, fillP, AOp.isEff, AO.ev, putP, PV.cells, PV.leaf, getB, getM, mapE, iterE, keyC, mapRows, mfind, eq1, eqL, scal, binP, unP, minP, maxP, foldP, PV.lt, PV.lt.ltL, endP, expoAll, expoG, expo, expo.expoL, frIds, frIds.frIdsL, nodupN, kill, cls, clsFuel, resO, RV.get, loadP, evC_p, evC_s, endS, endT, rowsOf, callP, thinL, unfr, unfr.unfrL, PV.noMem, PV.noMem.noMemL, optI, mapO, norm, trimT, trimB, forget, hasN, blksLt, List.set, softChk, softGo, softRd, effTg, rdP, gl, h50, g1, g2, gs, he, heN, hnd, hb0]
      generalize hE : evLoop _ _ _ _ _ = E
      obtain ⟨out, rfl, z17, z18, z19, z20, z21, z22, z23, z24, z25, z26, z27, rfl⟩ := hw' _ E hE (by simp [evCode, evOps, evOne, evOp, evPur, evEff, evPur.chunks, fillP, AOp.isEff, AO.ev, putP, PV.cells, PV.leaf, getB, getM, mapE, iterE, keyC, mapRows, mfind, eq1, eqL, scal, binP, unP, minP, maxP, foldP, PV.lt, PV.lt.ltL, endP, expoAll, expoG, expo, expo.expoL, frIds, frIds.frIdsL, nodupN, kill, cls, clsFuel, resO, RV.get, loadP, evC_p, evC_s, endS, endT, rowsOf, callP, thinL, unfr, unfr.unfrL, PV.noMem, PV.noMem.noMemL, optI, mapO, norm, trimT, trimB, forget, hasN, blksLt, List.set, softChk, softGo, softRd, effTg, rdP, S41w, nB3, oB, gl, fl2, tk, bt, bt2, vRows])
      unfold c41r0
      simp [evCode, evOps, evOne, evOp, evPur, evEff, evPur.chunks, fillP, AOp.isEff, AO.ev, putP, PV.cells, PV.leaf, getB, getM, mapE, iterE, keyC, mapRows, mfind, eq1, eqL, scal, binP, unP, minP, maxP, foldP, PV.lt, PV.lt.ltL, endP, expoAll, expoG, expo, expo.expoL, frIds, frIds.frIdsL, nodupN, kill, cls, clsFuel, resO, RV.get, loadP, evC_p, evC_s, endS, endT, rowsOf, callP, thinL, unfr, unfr.unfrL, PV.noMem, PV.noMem.noMemL, optI, mapO, norm, trimT, trimB, forget, hasN, blksLt, List.set, softChk, softGo, softRd, effTg, rdP, gl, nB3, oB]
      generalize hE : evLoop _ _ _ _ _ = E
      rcases hd _ E hE (by simp [evCode, evOps, evOne, evOp, evPur, evEff, evPur.chunks, fillP, AOp.isEff, AO.ev, putP, PV.cells, PV.leaf, getB, getM, mapE, iterE, keyC, mapRows, mfind, eq1, eqL, scal, binP, unP, minP, maxP, foldP, PV.lt, PV.lt.ltL, endP, expoAll, expoG, expo, expo.expoL, frIds, frIds.frIdsL, nodupN, kill, cls, clsFuel, resO, RV.get, loadP, evC_p, evC_s, endS, endT, rowsOf, callP, thinL, unfr, unfr.unfrL, PV.noMem, PV.noMem.noMemL, optI, mapO, norm, trimT, trimB, forget, hasN, blksLt, List.set, softChk, softGo, softRd, effTg, rdP, S41d, nB3, oB, gl, fl3, tk3, bu, bu2, bu3, vRows]) with ⟨out, rfl, ⟨z33, z34, z35, z36, z37, z38, z39, z40, z41, z42, z43, rfl⟩ | ⟨s, p, rfl, ho, h4, hbl⟩⟩
      · simp [evCode, evOps, evOne, evOp, evPur, evEff, evPur.chunks, fillP, AOp.isEff, AO.ev, putP, PV.cells, PV.leaf, getB, getM, mapE, iterE, keyC, mapRows, mfind, eq1, eqL, scal, binP, unP, minP, maxP, foldP, PV.lt, PV.lt.ltL, endP, expoAll, expoG, expo, expo.expoL, frIds, frIds.frIdsL, nodupN, kill, cls, clsFuel, resO, RV.get, loadP, evC_p, evC_s, endS, endT, rowsOf, callP, thinL, unfr, unfr.unfrL, PV.noMem, PV.noMem.noMemL, optI, mapO, norm, trimT, trimB, forget, hasN, blksLt, List.set, softChk, softGo, softRd, effTg, rdP, nB3, oB]
      · simp only at ho
        simp [evCode, evOps, evOne, evOp, evPur, evEff, evPur.chunks, fillP, AOp.isEff, AO.ev, putP, PV.cells, PV.leaf, getB, getM, mapE, iterE, keyC, mapRows, mfind, eq1, eqL, scal, binP, unP, minP, maxP, foldP, PV.lt, PV.lt.ltL, endP, expoAll, expoG, expo, expo.expoL, frIds, frIds.frIdsL, nodupN, kill, cls, clsFuel, resO, RV.get, loadP, evC_p, evC_s, endS, endT, rowsOf, callP, thinL, unfr, unfr.unfrL, PV.noMem, PV.noMem.noMemL, optI, mapO, norm, trimT, trimB, forget, hasN, blksLt, List.set, softChk, softGo, softRd, effTg, rdP, h4, hbl, ho]
        exact ⟨rfl, rfl, ⟨p, rfl⟩, rfl⟩
  rcases hC with ⟨st, hC, ⟨h4, hbl⟩ | ⟨ho, h4, p, hbl⟩⟩
  · refine ⟨N + 2, [nB3, oB W, oB o], evS_retOf (n + 1) D41 rfl rfl hC h4 ?_, flatW W o, by omega, by simp, by rw [List.getElem?_append_right (by rw [hG.len]; omega), hG.len, Nat.add_sub_cancel_left]; rfl⟩
    rw [hbl, gl]
    unfold endT
    simp [norm, trimT, trimB, forget, hasN, PV.lt, PV.lt.ltL, gl, nB3, oB, b0, b1, b2, bu3, tk3, fl3, Nat.add_sub_cancel_left]
  · subst ho
    refine ⟨N + 3, [nB3, oB W, oB p, nB3], evS_retOf (n + 1) D41 rfl rfl hC h4 ?_, fun k => by simp [nB3, oB, blksLt], by omega, by simp, by rw [List.getElem?_append_right (by rw [hG.len]; omega), hG.len, Nat.add_sub_cancel_left]; rfl⟩
    rw [hbl, gl]
    unfold endT
    simp [norm, trimT, trimB, forget, hasN, PV.lt, PV.lt.ltL, gl, nB3, oB, c0, c1, c2, c3, ct, tk4, fl4, Nat.add_sub_cancel_left]
end Go.Proofs.Ytimipbbcmiblkaa
