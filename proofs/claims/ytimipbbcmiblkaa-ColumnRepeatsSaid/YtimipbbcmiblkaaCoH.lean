/- column: slices.Concat of bytes. -/
import Derived.Test.YtimipbbcmiblkaaCoG
namespace Go.Proofs.Ytimipbbcmiblkaa
open Go Go.RowKit
set_option linter.unusedVariables false
set_option linter.unusedSimpArgs false
set_option maxHeartbeats 4000000

theorem f54 (n : Int) (h0 : 0 < n) (h1 : n ≤ 1000000000) : evE Dg 54 [.nilS, .int .i64 n] = some (.fr 1 []) := by
  have w0 : IntKind.i64.wrap 0 = 0 := rfl
  have w1 := wrap_i64 n (by omega) (by omega)
  have c1 : ¬ n < 0 := by omega
  have c2 : n ≤ 140737488355328 := by omega
  have c3 : 0 ≤ max n 0 := by omega
  have c5 : ¬ 0 = n.toNat := by omega
  refine evE_intro 1 D54 rfl ?_
  unfold c54
  simp [evCode, evOps, evOne, evOp, evPur, evEff, evPur.chunks, fillP, AOp.isEff, AO.ev, putP, PV.cells, PV.leaf, getB, getM, mapE, iterE, keyC, mapRows, mfind, eq1, eqL, scal, binP, unP, minP, maxP, foldP, PV.lt, PV.lt.ltL, endP, expoAll, expoG, expo, expo.expoL, frIds, frIds.frIdsL, nodupN, kill, cls, clsFuel, resO, RV.get, loadP, evC_p, evC_s, endS, endT, rowsOf, callP, thinL, unfr, unfr.unfrL, PV.noMem, PV.noMem.noMemL, optI, mapO, norm, trimT, trimB, forget, hasN, blksLt, List.set, softChk, softGo, softRd, effTg, rdP, w0, w1, c1, c2, c3, c5, h0]
def cRows (L : List (Bool × List Nat)) : List (List PV) := L.map fun q => [.sl q.1 1 (bR q.2)]
theorem cRows_len (L : List (Bool × List Nat)) : (cRows L).length = L.length := by simp [cRows]
theorem cRows_get {L : List (Bool × List Nat)} {k : Nat} {q : Bool × List Nat} (h : L[k]? = some q) : (cRows L)[k]? = some [.sl q.1 1 (bR q.2)] := by simp [cRows, h]
theorem cRows_got {L : List (Bool × List Nat)} {k : Nat} {q : Bool × List Nat} (h : L[k]? = some q) : ∀ g, (cRows L)[k]'g = [.sl q.1 1 (bR q.2)] := fun g => by
  have := cRows_get h
  rw [List.getElem?_eq_getElem g] at this
  exact Option.some.inj this
def cat (L : List (Bool × List Nat)) : List Nat := L.flatMap (·.2)
theorem cat_take {L : List (Bool × List Nat)} {k : Nat} {q : Bool × List Nat} (h : L[k]? = some q) : cat (L.take (k + 1)) = cat (L.take k) ++ q.2 := by
  unfold cat
  rw [List.take_add_one, h]
  simp
theorem cat_take_le (L : List (Bool × List Nat)) (k : Nat) : (cat (L.take k)).length ≤ (cat L).length := by
  have : cat L = cat (L.take k) ++ cat (L.drop k) := by unfold cat; rw [← List.flatMap_append, List.take_append_drop]
  rw [this]; simp
def S46a (y : Bool) (L : List (Bool × List Nat)) (k : Nat) (_ : Unit) : St := ⟨[.sl y 1 (cRows L), .top, .top, .int .i64 ((cat (L.take k)).length : Int), .top, .top, .top, .top, .top, .sl y 1 (cRows L), .int .i64 (L.length : Int), .int .i64 (k : Int)] ++ List.replicate 24 .top, [some ⟨0, 1, true, []⟩]⟩
def S46b (y : Bool) (L : List (Bool × List Nat)) (k : Nat) (A : List Nat) : St := ⟨[.top, .top, .top, .top, .top, .top, .own 1 A.length 0 A.length, .top, .top, .top, .top, .top, .top, .top, .top, .top, .top, .top, .top, .top, .top, .top, .top, .top, .top, .sl y 1 (cRows L), .int .i64 (L.length : Int), .int .i64 (k : Int)] ++ List.replicate 8 .top, [some ⟨0, 1, true, []⟩, some ⟨A.length, 1, true, bR A⟩]⟩
set_option maxRecDepth 100000 in
theorem f46 (y : Bool) (L : List (Bool × List Nat)) (hL : L.length ≤ 10) (h0 : 0 < (cat L).length) (h1 : (cat L).length ≤ 100000000) : evE Dg 46 [.sl y 1 (cRows L)] = some (.fr 1 (bR (cat L))) := by
  have e1 := cRows_len L
  have hb0 : ∀ b, Nat.blt b 0 = false := fun b => by cases b <;> rfl
  have H1 := loop_inv (body := evCode (evC Dg) (L.length + 1) c46b1) (keep := [0, 3, 9, 10, 11]) (n0 := 1) (fuel := L.length + 1) L (S46a y L) (fun _ _ => True) (fun _ => False)
    (by
      rintro k q _ hu hk _
      left
      refine ⟨(), ?_⟩
      refine (fun ⟨s', q1, q2⟩ => ⟨s', q1, q2, trivial⟩ : (∃ s', _ ∧ _) → _) ?_
      have r1 := cRows_get hu
      have g1 := cRows_got hu
      have hk' : (k : Int) < L.length := by omega
      have w1 := wrap_i64 ((k : Int) + 1) (by omega) (by omega)
      have hc := cat_take hu
      have hle := cat_take_le L (k + 1)
      rw [hc, List.length_append] at hle
      have w2 := wrap_i64 (((cat (L.take k)).length : Int) + q.2.length) (by omega) (by omega)
      have hcl : (cat (L.take (k + 1))).length = (cat (L.take k)).length + q.2.length := by rw [hc, List.length_append]
      have lq := bR_len q.2
      generalize hA : (cat (L.take k)).length = a at *
      have c1 : ¬ ((a : Int) + q.2.length) < 0 := by omega
      unfold c46b1
      simp [evCode, evOps, evOne, evOp, evPur, evEff, evPur.chunks, fillP, AOp.isEff, AO.ev, putP, PV.cells, PV.leaf, getB, getM, mapE, iterE, keyC, mapRows, mfind, eq1, eqL, scal, binP, unP, minP, maxP, foldP, PV.lt, PV.lt.ltL, endP, expoAll, expoG, expo, expo.expoL, frIds, frIds.frIdsL, nodupN, kill, cls, clsFuel, resO, RV.get, loadP, evC_p, evC_s, endS, endT, rowsOf, callP, thinL, unfr, unfr.unfrL, PV.noMem, PV.noMem.noMemL, optI, mapO, norm, trimT, trimB, forget, hasN, blksLt, List.set, softChk, softGo, softRd, effTg, rdP, S46a, e1, r1, g1, hk', hk, w1, hA, hcl, w2, lq, c1])
    (by
      rintro _ _ s
      unfold c46b1
      simp [evCode, evOps, evOne, evOp, evPur, evEff, evPur.chunks, fillP, AOp.isEff, AO.ev, putP, PV.cells, PV.leaf, getB, getM, mapE, iterE, keyC, mapRows, mfind, eq1, eqL, scal, binP, unP, minP, maxP, foldP, PV.lt, PV.lt.ltL, endP, expoAll, expoG, expo, expo.expoL, frIds, frIds.frIdsL, nodupN, kill, cls, clsFuel, resO, RV.get, loadP, evC_p, evC_s, endS, endT, rowsOf, callP, thinL, unfr, unfr.unfrL, PV.noMem, PV.noMem.noMemL, optI, mapO, norm, trimT, trimB, forget, hasN, blksLt, List.set, softChk, softGo, softRd, effTg, rdP, S46a, e1])
    (by omega) () trivial
  have H2 := loop_inv (body := evCode (evC Dg) (L.length + 1) c46b0) (keep := [6, 25, 26, 27]) (n0 := 2) (fuel := L.length + 1) L (S46b y L) (fun k A => A = cat (L.take k)) (fun _ => False)
    (by
      rintro k q A hu hk hA
      left
      have hc := cat_take hu
      have hle := cat_take_le L (k + 1)
      rw [hc, List.length_append, ← hA] at hle
      refine ⟨A ++ q.2, ?_⟩
      have J : A ++ q.2 = cat (L.take (k + 1)) := by rw [hc, hA]
      refine (fun ⟨s', q1, q2⟩ => ⟨s', q1, q2, J⟩ : (∃ s', _ ∧ _) → _) ?_
      have r1 := cRows_get hu
      have g1 := cRows_got hu
      have hk' : (k : Int) < L.length := by omega
      have w1 := wrap_i64 ((k : Int) + 1) (by omega) (by omega)
      obtain ⟨f, Q⟩ := q
      simp only at hle r1 g1
      have lA := bR_len A
      have lQ := bR_len Q
      have aQ := bR_all Q
      have aQ' := bR_lt Q
      have m1 : (A.length + Q.length) * 1 ≤ 140737488355328 := by omega
      have m2 : A.length + Q.length ≤ 140737488355328 := by omega
      have eA := bR_app A Q
      have n1 : Nat.blt 1 2 = true := rfl
      unfold c46b0
      simp [evCode, evOps, evOne, evOp, evPur, evEff, evPur.chunks, fillP, AOp.isEff, AO.ev, putP, PV.cells, PV.leaf, getB, getM, mapE, iterE, keyC, mapRows, mfind, eq1, eqL, scal, binP, unP, minP, maxP, foldP, PV.lt, PV.lt.ltL, endP, expoAll, expoG, expo, expo.expoL, frIds, frIds.frIdsL, nodupN, kill, cls, clsFuel, resO, RV.get, loadP, evC_p, evC_s, endS, endT, rowsOf, callP, thinL, unfr, unfr.unfrL, PV.noMem, PV.noMem.noMemL, optI, mapO, norm, trimT, trimB, forget, hasN, blksLt, List.set, softChk, softGo, softRd, effTg, rdP, S46b, e1, r1, g1, hk', hk, w1, lA, lQ, aQ, aQ', m1, m2, hb0, eA, n1])
    (by
      rintro A _ s
      unfold c46b0
      simp [evCode, evOps, evOne, evOp, evPur, evEff, evPur.chunks, fillP, AOp.isEff, AO.ev, putP, PV.cells, PV.leaf, getB, getM, mapE, iterE, keyC, mapRows, mfind, eq1, eqL, scal, binP, unP, minP, maxP, foldP, PV.lt, PV.lt.ltL, endP, expoAll, expoG, expo, expo.expoL, frIds, frIds.frIdsL, nodupN, kill, cls, clsFuel, resO, RV.get, loadP, evC_p, evC_s, endS, endT, rowsOf, callP, thinL, unfr, unfr.unfrL, PV.noMem, PV.noMem.noMemL, optI, mapO, norm, trimT, trimB, forget, hasN, blksLt, List.set, softChk, softGo, softRd, effTg, rdP, S46b, e1])
    (by omega) [] (by simp [cat])
  have h54 := f54 ((cat L).length : Int) (by omega) (by omega)
  have im : ∀ rows, impB (PV.fr 1 rows) = [⟨rows.length, 1, true, rows⟩] := fun _ => rfl
  have iv : ∀ k rows, impV k (PV.fr 1 rows) = .own k rows.length 0 rows.length := fun _ _ => rfl
  have tk : L.take L.length = L := List.take_length
  have t0 : (cat []).length = 0 := rfl
  refine evE_intro (L.length + 1) D46 rfl ?_
  unfold c46
  simp [evCode, evOps, evOne, evOp, evPur, evEff, evPur.chunks, fillP, AOp.isEff, AO.ev, putP, PV.cells, PV.leaf, getB, getM, mapE, iterE, keyC, mapRows, mfind, eq1, eqL, scal, binP, unP, minP, maxP, foldP, PV.lt, PV.lt.ltL, endP, expoAll, expoG, expo, expo.expoL, frIds, frIds.frIdsL, nodupN, kill, cls, clsFuel, resO, RV.get, loadP, evC_p, evC_s, endS, endT, rowsOf, callP, thinL, unfr, unfr.unfrL, PV.noMem, PV.noMem.noMemL, optI, mapO, norm, trimT, trimB, forget, hasN, blksLt, List.set, softChk, softGo, softRd, effTg, rdP, e1]
  generalize hE : evLoop _ _ _ _ _ = E
  rcases H1 _ _ hE (by simp [evCode, evOps, evOne, evOp, evPur, evEff, evPur.chunks, fillP, AOp.isEff, AO.ev, putP, PV.cells, PV.leaf, getB, getM, mapE, iterE, keyC, mapRows, mfind, eq1, eqL, scal, binP, unP, minP, maxP, foldP, PV.lt, PV.lt.ltL, endP, expoAll, expoG, expo, expo.expoL, frIds, frIds.frIdsL, nodupN, kill, cls, clsFuel, resO, RV.get, loadP, evC_p, evC_s, endS, endT, rowsOf, callP, thinL, unfr, unfr.unfrL, PV.noMem, PV.noMem.noMemL, optI, mapO, norm, trimT, trimB, forget, hasN, blksLt, List.set, softChk, softGo, softRd, effTg, rdP, S46a, e1, t0]) with ⟨_, _, q2⟩ | ⟨_, _, q3⟩
  · rw [q2]
    unfold c46b1 c46r0
    simp [evCode, evOps, evOne, evOp, evPur, evEff, evPur.chunks, fillP, AOp.isEff, AO.ev, putP, PV.cells, PV.leaf, getB, getM, mapE, iterE, keyC, mapRows, mfind, eq1, eqL, scal, binP, unP, minP, maxP, foldP, PV.lt, PV.lt.ltL, endP, expoAll, expoG, expo, expo.expoL, frIds, frIds.frIdsL, nodupN, kill, cls, clsFuel, resO, RV.get, loadP, evC_p, evC_s, endS, endT, rowsOf, callP, thinL, unfr, unfr.unfrL, PV.noMem, PV.noMem.noMemL, optI, mapO, norm, trimT, trimB, forget, hasN, blksLt, List.set, softChk, softGo, softRd, effTg, rdP, S46a, e1, tk, h54, im, iv]
    generalize hE : evLoop _ _ _ _ _ = E
    rcases H2 _ _ hE (by simp [evCode, evOps, evOne, evOp, evPur, evEff, evPur.chunks, fillP, AOp.isEff, AO.ev, putP, PV.cells, PV.leaf, getB, getM, mapE, iterE, keyC, mapRows, mfind, eq1, eqL, scal, binP, unP, minP, maxP, foldP, PV.lt, PV.lt.ltL, endP, expoAll, expoG, expo, expo.expoL, frIds, frIds.frIdsL, nodupN, kill, cls, clsFuel, resO, RV.get, loadP, evC_p, evC_s, endS, endT, rowsOf, callP, thinL, unfr, unfr.unfrL, PV.noMem, PV.noMem.noMemL, optI, mapO, norm, trimT, trimB, forget, hasN, blksLt, List.set, softChk, softGo, softRd, effTg, rdP, S46b, e1, bR]) with ⟨A, hA, q4⟩ | ⟨_, _, q5⟩
    · rw [q4]
      rw [tk] at hA
      rw [← hA]
      have lA := bR_len A
      unfold c46b0
      simp [evCode, evOps, evOne, evOp, evPur, evEff, evPur.chunks, fillP, AOp.isEff, AO.ev, putP, PV.cells, PV.leaf, getB, getM, mapE, iterE, keyC, mapRows, mfind, eq1, eqL, scal, binP, unP, minP, maxP, foldP, PV.lt, PV.lt.ltL, endP, expoAll, expoG, expo, expo.expoL, frIds, frIds.frIdsL, nodupN, kill, cls, clsFuel, resO, RV.get, loadP, evC_p, evC_s, endS, endT, rowsOf, callP, thinL, unfr, unfr.unfrL, PV.noMem, PV.noMem.noMemL, optI, mapO, norm, trimT, trimB, forget, hasN, blksLt, List.set, softChk, softGo, softRd, effTg, rdP, S46b, e1, lA]
    · exact q5.elim
  · exact q3.elim
end Go.Proofs.Ytimipbbcmiblkaa
