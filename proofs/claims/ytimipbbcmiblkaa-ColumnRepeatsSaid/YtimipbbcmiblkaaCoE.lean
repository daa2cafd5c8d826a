/- column: a value's bytes, appended to the caller's own. -/
import Derived.Test.YtimipbbcmiblkaaCoD
namespace Go.Proofs.Ytimipbbcmiblkaa
open Go Go.RowKit
set_option linter.unusedVariables false
set_option linter.unusedSimpArgs false
set_option maxHeartbeats 4000000

/-- the caller's blocks, one of them bytes that grow -/
structure Gb (c N : Nat) (G : List Nat → Blks) : Prop where
  len : ∀ A, (G A).length = N
  get : ∀ A, (G A)[c]? = some (some ⟨A.length, 1, true, bR A⟩)
  set : ∀ A A', (G A).set c (some ⟨A'.length, 1, true, bR A'⟩) = G A'
  lt : ∀ A, blksLt N (G A) = true
  hc : c < N
theorem Gb.get' {c N : Nat} {G : List Nat → Blks} (h : Gb c N G) (A : List Nat) (y : Blks) : (G A ++ y)[c]? = some (some ⟨A.length, 1, true, bR A⟩) := by
  rw [List.getElem?_append_left (by rw [h.len]; exact h.hc)]
  exact h.get A
theorem got_of {bl : Blks} {i : Nat} {y : Option Blk} (h : bl[i]? = some y) : ∀ q, bl[i]'q = y := fun q => by
  rw [List.getElem?_eq_getElem q] at h
  exact Option.some.inj h
theorem Gb.set' {c N : Nat} {G : List Nat → Blks} (h : Gb c N G) (A A' : List Nat) (y : Blks) : (G A ++ y).set c (some ⟨A'.length, 1, true, bR A'⟩) = G A' ++ y := by
  rw [List.set_append_left _ _ (by rw [h.len]; exact h.hc), h.set]
theorem Gb.take' {c N : Nat} {G : List Nat → Blks} (h : Gb c N G) (A : List Nat) (y : Blks) : (G A ++ y).take N = G A := by
  rw [List.take_append_of_le_length (by rw [h.len]; exact Nat.le_refl _), List.take_of_length_le (by rw [h.len]; exact Nat.le_refl _)]
theorem blt_of {a b : Nat} (h : a < b) : Nat.blt a b = true := by simpa [Nat.blt_eq] using h
/-- a value -/
abbrev Val := Int × Int × List UInt8
def vP (v : Val) : PV := .agg [.int .i64 v.1, .int .i64 v.2.1, .str v.2.2]
def tlB (v : Val) : List Nat := if v.1 = 1 ∨ v.1 = 2 then putI v.2.1 else if v.1 = 3 then putT v.2.2 else []
def vB (v : Val) : List Nat := v.1.toNat :: tlB v
def okV (v : Val) : Prop := (0 ≤ v.1 ∧ v.1 ≤ 3) ∧ (-9223372036854775808 ≤ v.2.1 ∧ v.2.1 ≤ 9223372036854775807) ∧ v.2.2.length ≤ 100000
theorem tlB_len {v : Val} (h : okV v) : (tlB v).length ≤ 100010 := by
  obtain ⟨_, ⟨h1, h2⟩, h3⟩ := h
  unfold tlB
  split
  · have := putI_len h1 h2; omega
  · split
    · unfold putT
      have := putI_len (n := (v.2.2.length : Int)) (by omega) (by omega)
      rw [List.length_append, sB_len]
      omega
    · simp
set_option maxRecDepth 100000 in
theorem f44 (c N : Nat) (G : List Nat → Blks) (hG : Gb c N G) (A : List Nat) (v : Val) (hv : okV v) (hA : A.length ≤ 10000000) :
    evS Dg 44 [.own c A.length 0 A.length, vP v] (G A) = some (.own c (A ++ vB v).length 0 (A ++ vB v).length, G (A ++ vB v)) := by
  have lt := tlB_len hv
  obtain ⟨d, n, s⟩ := v
  obtain ⟨⟨d0, d1⟩, ⟨n0, n1⟩, hs⟩ := hv
  simp only at d0 d1 n0 n1 hs lt
  have lA := bR_len A
  have gl := hG.len
  have g1 := hG.get'
  have g2 : ∀ (A : List Nat) (y : Blks) q, (G A ++ y)[c]'q = some ⟨A.length, 1, true, bR A⟩ := fun A y => got_of (hG.get' A y)
  have g0 := hG.get A
  have g0' := got_of g0
  have gt := hG.take'
  have gb := hG.lt
  have hb : Nat.blt c N = true := blt_of hG.hc
  have hc := hG.hc
  have hcN : ∀ k, c < N + k := fun k => by omega
  have hb0 : ∀ b, Nat.blt b 0 = false := fun b => by cases b <;> rfl
  have im : ∀ rows, impB (PV.fr 1 rows) = [⟨rows.length, 1, true, rows⟩] := fun _ => rfl
  have iv : ∀ k rows, impV k (PV.fr 1 rows) = .own k rows.length 0 rows.length := fun _ _ => rfl
  have m1 : (A.length + 1) * 1 ≤ 140737488355328 := by omega
  have m2 : A.length + 1 ≤ 140737488355328 := by omega
  have hd : d = 0 ∨ d = 1 ∨ d = 2 ∨ d = 3 := by omega
  have key : ∀ (z : Nat), (G A).set c (some ⟨A.length + 1, 1, true, bR A ++ [[PV.int .u8 (z : Int)]]⟩) = G (A ++ [z]) := fun z => by
    have := hG.set A (A ++ [z])
    rw [bR_app] at this
    simpa [bR] using this
  have key2 : ∀ (z : Nat) (Q : List Nat), (G A).set c (some ⟨A.length + 1 + Q.length, 1, true, bR A ++ [PV.int .u8 (z : Int)] :: bR Q⟩) = G (A ++ z :: Q) := fun z Q => by
    have h1 := hG.set A (A ++ z :: Q)
    rw [bR_app, show (A ++ z :: Q).length = A.length + 1 + Q.length by simp; omega] at h1
    exact h1
  have key3 : ∀ (z : Nat) (Q : List Nat), (G (A ++ [z])).set c (some ⟨A.length + 1 + Q.length, 1, true, bR (A ++ [z]) ++ bR Q⟩) = G (A ++ z :: Q) := fun z Q => by
    have h1 := hG.set (A ++ [z]) (A ++ z :: Q)
    rw [show (A ++ z :: Q).length = A.length + 1 + Q.length by simp; omega, show A ++ z :: Q = A ++ [z] ++ Q by simp, bR_app] at h1
    rw [h1]
    simp
  have u0 : IntKind.u8.wrap 0 = 0 := rfl
  have u1 : IntKind.u8.wrap 1 = 1 := rfl
  have u2 : IntKind.u8.wrap 2 = 2 := rfl
  have u3 : IntKind.u8.wrap 3 = 3 := rfl
  have lz : ∀ z : Nat, (A ++ [z]).length = A.length + 1 := fun z => by simp
  have lbz : ∀ z : Nat, (bR (A ++ [z])).length = A.length + 1 := fun z => by rw [bR_len]; simp
  have lq : ∀ (z : Nat) (Q : List Nat), (A ++ z :: Q).length = A.length + 1 + Q.length := fun z Q => by simp; omega
  rcases hd with rfl | rfl | rfl | rfl
  · have e : vB ((0, n, s) : Val) = [0] := rfl
    have k0 : (G A).set c (some ⟨A.length + 1, 1, true, bR A ++ [[PV.int .u8 0]]⟩) = G (A ++ [0]) := key 0
    rw [e]
    refine evS_intro 3 D44 rfl ?_
    unfold c44
    simp [evCode, evOps, evOne, evOp, evPur, evEff, evPur.chunks, fillP, AOp.isEff, AO.ev, putP, PV.cells, PV.leaf, getB, getM, mapE, iterE, keyC, mapRows, mfind, eq1, eqL, scal, binP, unP, minP, maxP, foldP, PV.lt, PV.lt.ltL, endP, expoAll, expoG, expo, expo.expoL, frIds, frIds.frIdsL, nodupN, kill, cls, clsFuel, resO, RV.get, loadP, evC_p, evC_s, endS, endT, rowsOf, callP, thinL, unfr, unfr.unfrL, PV.noMem, PV.noMem.noMemL, optI, mapO, norm, trimT, trimB, forget, hasN, blksLt, List.set, softChk, softGo, softRd, effTg, rdP, vP, lA, gl, g0, g0', g1, g2, gt, gb, hb, hc, hcN, hb0, m1, m2, u0, u1, u2, u3, k0, lz]
  · have e : vB ((1, n, s) : Val) = 1 :: putI n := rfl
    have lt' : (putI n).length ≤ 100010 := lt
    have h45 := f45 n n0 n1
    have k0 : (G A).set c (some ⟨A.length + 1, 1, true, bR A ++ [[PV.int .u8 1]]⟩) = G (A ++ [1]) := key 1
    rw [e]
    generalize putI n = Q at *
    have k2 := key3 1 Q
    have lQ := bR_len Q
    have aQ := bR_all Q
    have aQ' := bR_lt Q
    have m3 : (A.length + 1 + Q.length) * 1 ≤ 140737488355328 := by omega
    have m4 : A.length + 1 + Q.length ≤ 140737488355328 := by omega
    have tQ : (bR Q).take Q.length = bR Q := List.take_of_length_le (by rw [lQ]; exact Nat.le_refl _)
    refine evS_intro 3 D44 rfl ?_
    unfold c44
    simp [evCode, evOps, evOne, evOp, evPur, evEff, evPur.chunks, fillP, AOp.isEff, AO.ev, putP, PV.cells, PV.leaf, getB, getM, mapE, iterE, keyC, mapRows, mfind, eq1, eqL, scal, binP, unP, minP, maxP, foldP, PV.lt, PV.lt.ltL, endP, expoAll, expoG, expo, expo.expoL, frIds, frIds.frIdsL, nodupN, kill, cls, clsFuel, resO, RV.get, loadP, evC_p, evC_s, endS, endT, rowsOf, callP, thinL, unfr, unfr.unfrL, PV.noMem, PV.noMem.noMemL, optI, mapO, norm, trimT, trimB, forget, hasN, blksLt, List.set, softChk, softGo, softRd, effTg, rdP, vP, lA, gl, g0, g0', g1, g2, gt, gb, hb, hc, hcN, hb0, m1, m2, u0, u1, u2, u3, k0, lz, lbz, lq, h45, im, iv, k2, lQ, aQ, aQ', m3, m4, tQ]
  · have e : vB ((2, n, s) : Val) = 2 :: putI n := rfl
    have lt' : (putI n).length ≤ 100010 := lt
    have h45 := f45 n n0 n1
    have k0 : (G A).set c (some ⟨A.length + 1, 1, true, bR A ++ [[PV.int .u8 2]]⟩) = G (A ++ [2]) := key 2
    rw [e]
    generalize putI n = Q at *
    have k2 := key3 2 Q
    have lQ := bR_len Q
    have aQ := bR_all Q
    have aQ' := bR_lt Q
    have m3 : (A.length + 1 + Q.length) * 1 ≤ 140737488355328 := by omega
    have m4 : A.length + 1 + Q.length ≤ 140737488355328 := by omega
    have tQ : (bR Q).take Q.length = bR Q := List.take_of_length_le (by rw [lQ]; exact Nat.le_refl _)
    refine evS_intro 3 D44 rfl ?_
    unfold c44
    simp [evCode, evOps, evOne, evOp, evPur, evEff, evPur.chunks, fillP, AOp.isEff, AO.ev, putP, PV.cells, PV.leaf, getB, getM, mapE, iterE, keyC, mapRows, mfind, eq1, eqL, scal, binP, unP, minP, maxP, foldP, PV.lt, PV.lt.ltL, endP, expoAll, expoG, expo, expo.expoL, frIds, frIds.frIdsL, nodupN, kill, cls, clsFuel, resO, RV.get, loadP, evC_p, evC_s, endS, endT, rowsOf, callP, thinL, unfr, unfr.unfrL, PV.noMem, PV.noMem.noMemL, optI, mapO, norm, trimT, trimB, forget, hasN, blksLt, List.set, softChk, softGo, softRd, effTg, rdP, vP, lA, gl, g0, g0', g1, g2, gt, gb, hb, hc, hcN, hb0, m1, m2, u0, u1, u2, u3, k0, lz, lbz, lq, h45, im, iv, k2, lQ, aQ, aQ', m3, m4, tQ]
  · have e : vB ((3, n, s) : Val) = 3 :: putT s := rfl
    have lt' : (putT s).length ≤ 100010 := lt
    have h45 := f53 s hs
    have k0 : (G A).set c (some ⟨A.length + 1, 1, true, bR A ++ [[PV.int .u8 3]]⟩) = G (A ++ [3]) := key 3
    rw [e]
    generalize putT s = Q at *
    have k2 := key3 3 Q
    have lQ := bR_len Q
    have aQ := bR_all Q
    have aQ' := bR_lt Q
    have m3 : (A.length + 1 + Q.length) * 1 ≤ 140737488355328 := by omega
    have m4 : A.length + 1 + Q.length ≤ 140737488355328 := by omega
    have tQ : (bR Q).take Q.length = bR Q := List.take_of_length_le (by rw [lQ]; exact Nat.le_refl _)
    refine evS_intro 3 D44 rfl ?_
    unfold c44
    simp [evCode, evOps, evOne, evOp, evPur, evEff, evPur.chunks, fillP, AOp.isEff, AO.ev, putP, PV.cells, PV.leaf, getB, getM, mapE, iterE, keyC, mapRows, mfind, eq1, eqL, scal, binP, unP, minP, maxP, foldP, PV.lt, PV.lt.ltL, endP, expoAll, expoG, expo, expo.expoL, frIds, frIds.frIdsL, nodupN, kill, cls, clsFuel, resO, RV.get, loadP, evC_p, evC_s, endS, endT, rowsOf, callP, thinL, unfr, unfr.unfrL, PV.noMem, PV.noMem.noMemL, optI, mapO, norm, trimT, trimB, forget, hasN, blksLt, List.set, softChk, softGo, softRd, effTg, rdP, vP, lA, gl, g0, g0', g1, g2, gt, gb, hb, hc, hcN, hb0, m1, m2, u0, u1, u2, u3, k0, lz, lbz, lq, h45, im, iv, k2, lQ, aQ, aQ', m3, m4, tQ]
end Go.Proofs.Ytimipbbcmiblkaa
