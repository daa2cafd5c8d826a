/- column: decode. -/
import Derived.Test.YtimipbbcmiblkaaCpB
namespace Go.Proofs.Ytimipbbcmiblkaa
open Go Go.RowKit
set_option linter.unusedVariables false
set_option linter.unusedSimpArgs false
set_option maxHeartbeats 4000000

def pP (ty n : Int) (B : List Nat) : PV := .agg [.int .i64 ty, .int .i64 n, .sl false 1 (bR B)]
def G28 (ty n : Int) (B : List Nat) (L : List Nat) (f : Bool) : Blks := [some ⟨1, 3, true, [[.int .i64 ty, .int .i64 n, .sl false 1 (bR B)]]⟩, nB3, some ⟨1, 2, true, [[.sl false 1 (bR L), .bool f]]⟩, nB3]
theorem rd28 (ty n : Int) (B : List Nat) : Rd2 2 4 (G28 ty n B) where
  len L f := rfl
  get L f := rfl
  set L f L' f' := rfl
  lt L f := by simp [G28, nB3, blksLt]
  he := by omega
  fl L f k hk := by simp [G28, nB3, blksLt]
def decS (ty : Int) (n : Nat) (B : List Nat) : List Val × Bool := match B with
  | [] => ([], false)
  | z :: r => if z = 0 then ((plD n n ([], r, false)).1, !(plD n n ([], r, false)).2.2)
    else if z = 1 then ((rnD n n ([], r, false)).1, !(rnD n n ([], r, false)).2.2)
    else if z = 2 then ((dfD ty n n ([], r, false) 0).1, !(dfD ty n n ([], r, false) 0).2.2)
    else if z = 3 then ((diD n r false).1, !(diD n r false).2.2)
    else ([], false)
def trO (q : List Val × Bool) : PV := .tup [.fr 3 (vRows q.1), .bool q.2]
theorem f28_nil (ty n : Int) : evE Dg 28 [pP ty n []] = some (trO ([], false)) := by
  have hn : bR [] = [] := rfl
  refine evE_intro 1 D28 rfl ?_
  unfold c28
  simp [evCode, evOps, evOne, evOp, evPur, evEff, evPur.chunks, fillP, AOp.isEff, AO.ev, putP, PV.cells, PV.leaf, getB, getM, mapE, iterE, keyC, mapRows, mfind, eq1, eqL, scal, binP, unP, minP, maxP, foldP, PV.lt, PV.lt.ltL, endP, expoAll, expoG, expo, expo.expoL, frIds, frIds.frIdsL, nodupN, kill, cls, clsFuel, resO, RV.get, loadP, evC_p, evC_s, endS, endT, rowsOf, callP, thinL, unfr, unfr.unfrL, PV.noMem, PV.noMem.noMemL, optI, mapO, norm, trimT, trimB, forget, hasN, blksLt, List.set, softChk, softGo, softRd, effTg, rdP, pP, hn, trO, vRows]
theorem f28_neg (ty n : Int) (z : Nat) (r : List Nat) (h : n < 0) : evE Dg 28 [pP ty n (z :: r)] = some (trO ([], false)) := by
  have hc : bR (z :: r) = [PV.int .u8 (z : Int)] :: bR r := rfl
  have er := bR_len r
  have nz : ¬ ((r.length : Int) + 1 = 0) := by omega
  refine evE_intro 1 D28 rfl ?_
  unfold c28
  simp [evCode, evOps, evOne, evOp, evPur, evEff, evPur.chunks, fillP, AOp.isEff, AO.ev, putP, PV.cells, PV.leaf, getB, getM, mapE, iterE, keyC, mapRows, mfind, eq1, eqL, scal, binP, unP, minP, maxP, foldP, PV.lt, PV.lt.ltL, endP, expoAll, expoG, expo, expo.expoL, frIds, frIds.frIdsL, nodupN, kill, cls, clsFuel, resO, RV.get, loadP, evC_p, evC_s, endS, endT, rowsOf, callP, thinL, unfr, unfr.unfrL, PV.noMem, PV.noMem.noMemL, optI, mapO, norm, trimT, trimB, forget, hasN, blksLt, List.set, softChk, softGo, softRd, effTg, rdP, pP, hc, er, nz, h, trO, vRows]
set_option maxRecDepth 100000 in
theorem f28 (ty : Int) (n : Nat) (B : List Nat) (hn : n ≤ 20000) (hl : B.length ≤ 1000000) (ok : okB B) : evE Dg 28 [pP ty n B] = some (trO (decS ty n B)) := by
  cases B with
  | nil => exact f28_nil ty n
  | cons z r =>
    have okr : okB r := fun y hy => ok y (by simp [hy])
    have hlr : r.length ≤ 1000000 := by simp at hl; omega
    have hz := ok z (by simp)
    have hG := rd28 ty n (z :: r)
    have hc : bR (z :: r) = [PV.int .u8 (z : Int)] :: bR r := rfl
    have er := bR_len r
    have nz : ¬ ((r.length : Int) + 1 = 0) := by omega
    have ny : (1 : Int) ≤ (r.length : Int) + 1 := by omega
    have n0 : ¬ (n : Int) < 0 := by omega
    have tr : (bR r).take r.length = bR r := List.take_of_length_le (by rw [er]; exact Nat.le_refl _)
    have hb0 : ∀ b, Nat.blt b 0 = false := fun b => by cases b <;> rfl
    simp only [decS]
    by_cases z0 : z = 0
    · subst z0
      rw [if_pos rfl]
      obtain ⟨c, y, h1, h2, h3, h4, h5⟩ := res38 2 4 _ hG n hn r false hlr okr
      generalize plD n n ([], r, false) = q at *
      obtain ⟨o, L', f'⟩ := q
      have eo := vRows_len o
      simp only [G28, nB3, oB, hc, List.cons_append, List.nil_append] at h1 h5
      push_cast at h1 h5
      have h6 := got_of h5
      have h7 := (List.getElem?_eq_some_iff.1 h5).1
      simp only [List.length_cons] at h7
      refine evE_intro 1 D28 rfl ?_
      unfold c28
      simp [evCode, evOps, evOne, evOp, evPur, evEff, evPur.chunks, fillP, AOp.isEff, AO.ev, putP, PV.cells, PV.leaf, getB, getM, mapE, iterE, keyC, mapRows, mfind, eq1, eqL, scal, binP, unP, minP, maxP, foldP, PV.lt, PV.lt.ltL, endP, expoAll, expoG, expo, expo.expoL, frIds, frIds.frIdsL, nodupN, kill, cls, clsFuel, resO, RV.get, loadP, evC_p, evC_s, endS, endT, rowsOf, callP, thinL, unfr, unfr.unfrL, PV.noMem, PV.noMem.noMemL, optI, mapO, norm, trimT, trimB, forget, hasN, blksLt, List.set, softChk, softGo, softRd, effTg, rdP, pP, hc, er, nz, ny, n0, tr, hb0, h1, h5, h6, h7, eo, trO]
    · by_cases z1 : z = 1
      · subst z1
        rw [if_neg (by decide), if_pos rfl]
        obtain ⟨c, y, h1, h2, h3, h4, h5⟩ := res39 2 4 _ hG n hn r false hlr okr
        generalize rnD n n ([], r, false) = q at *
        obtain ⟨o, L', f'⟩ := q
        have eo := vRows_len o
        simp only [G28, nB3, oB, hc, List.cons_append, List.nil_append] at h1 h5
        push_cast at h1 h5
        have h6 := got_of h5
        have h7 := (List.getElem?_eq_some_iff.1 h5).1
        simp only [List.length_cons] at h7
        refine evE_intro 1 D28 rfl ?_
        unfold c28
        simp [evCode, evOps, evOne, evOp, evPur, evEff, evPur.chunks, fillP, AOp.isEff, AO.ev, putP, PV.cells, PV.leaf, getB, getM, mapE, iterE, keyC, mapRows, mfind, eq1, eqL, scal, binP, unP, minP, maxP, foldP, PV.lt, PV.lt.ltL, endP, expoAll, expoG, expo, expo.expoL, frIds, frIds.frIdsL, nodupN, kill, cls, clsFuel, resO, RV.get, loadP, evC_p, evC_s, endS, endT, rowsOf, callP, thinL, unfr, unfr.unfrL, PV.noMem, PV.noMem.noMemL, optI, mapO, norm, trimT, trimB, forget, hasN, blksLt, List.set, softChk, softGo, softRd, effTg, rdP, pP, hc, er, nz, ny, n0, tr, hb0, h1, h5, h6, h7, eo, trO]
      · by_cases z2 : z = 2
        · subst z2
          rw [if_neg (by decide), if_neg (by decide), if_pos rfl]
          obtain ⟨c, y, h1, h2, h3, h4, h5⟩ := res40 2 4 _ hG ty n hn r false hlr okr
          generalize dfD ty n n ([], r, false) 0 = q at *
          obtain ⟨o, L', f'⟩ := q
          have eo := vRows_len o
          simp only [G28, nB3, oB, hc, List.cons_append, List.nil_append] at h1 h5
          push_cast at h1 h5
          have h6 := got_of h5
          have h7 := (List.getElem?_eq_some_iff.1 h5).1
          simp only [List.length_cons] at h7
          refine evE_intro 1 D28 rfl ?_
          unfold c28
          simp [evCode, evOps, evOne, evOp, evPur, evEff, evPur.chunks, fillP, AOp.isEff, AO.ev, putP, PV.cells, PV.leaf, getB, getM, mapE, iterE, keyC, mapRows, mfind, eq1, eqL, scal, binP, unP, minP, maxP, foldP, PV.lt, PV.lt.ltL, endP, expoAll, expoG, expo, expo.expoL, frIds, frIds.frIdsL, nodupN, kill, cls, clsFuel, resO, RV.get, loadP, evC_p, evC_s, endS, endT, rowsOf, callP, thinL, unfr, unfr.unfrL, PV.noMem, PV.noMem.noMemL, optI, mapO, norm, trimT, trimB, forget, hasN, blksLt, List.set, softChk, softGo, softRd, effTg, rdP, pP, hc, er, nz, ny, n0, tr, hb0, h1, h5, h6, h7, eo, trO]
        · by_cases z3 : z = 3
          · subst z3
            rw [if_neg (by decide), if_neg (by decide), if_neg (by decide), if_pos rfl]
            obtain ⟨c, y, h1, h2, h3, h4, h5⟩ := res41 2 4 _ hG n hn r false hlr okr
            generalize diD n r false = q at *
            obtain ⟨o, L', f'⟩ := q
            have eo := vRows_len o
            simp only [G28, nB3, oB, hc, List.cons_append, List.nil_append] at h1 h5
            push_cast at h1 h5
            have h6 := got_of h5
            have h7 := (List.getElem?_eq_some_iff.1 h5).1
            simp only [List.length_cons] at h7
            refine evE_intro 1 D28 rfl ?_
            unfold c28
            simp [evCode, evOps, evOne, evOp, evPur, evEff, evPur.chunks, fillP, AOp.isEff, AO.ev, putP, PV.cells, PV.leaf, getB, getM, mapE, iterE, keyC, mapRows, mfind, eq1, eqL, scal, binP, unP, minP, maxP, foldP, PV.lt, PV.lt.ltL, endP, expoAll, expoG, expo, expo.expoL, frIds, frIds.frIdsL, nodupN, kill, cls, clsFuel, resO, RV.get, loadP, evC_p, evC_s, endS, endT, rowsOf, callP, thinL, unfr, unfr.unfrL, PV.noMem, PV.noMem.noMemL, optI, mapO, norm, trimT, trimB, forget, hasN, blksLt, List.set, softChk, softGo, softRd, effTg, rdP, pP, hc, er, nz, ny, n0, tr, hb0, h1, h5, h6, h7, eo, trO]
          · rw [if_neg z0, if_neg z1, if_neg z2, if_neg z3]
            have k0 : ¬ (z : Int) = 0 := by omega
            have k1 : ¬ (z : Int) = 1 := by omega
            have k2 : ¬ (z : Int) = 2 := by omega
            have k3 : ¬ (z : Int) = 3 := by omega
            refine evE_intro 1 D28 rfl ?_
            unfold c28
            simp [evCode, evOps, evOne, evOp, evPur, evEff, evPur.chunks, fillP, AOp.isEff, AO.ev, putP, PV.cells, PV.leaf, getB, getM, mapE, iterE, keyC, mapRows, mfind, eq1, eqL, scal, binP, unP, minP, maxP, foldP, PV.lt, PV.lt.ltL, endP, expoAll, expoG, expo, expo.expoL, frIds, frIds.frIdsL, nodupN, kill, cls, clsFuel, resO, RV.get, loadP, evC_p, evC_s, endS, endT, rowsOf, callP, thinL, unfr, unfr.unfrL, PV.noMem, PV.noMem.noMemL, optI, mapO, norm, trimT, trimB, forget, hasN, blksLt, List.set, softChk, softGo, softRd, effTg, rdP, pP, hc, er, nz, ny, n0, tr, hb0, z0, z1, z2, z3, k0, k1, k2, k3, trO, vRows]
end Go.Proofs.Ytimipbbcmiblkaa
