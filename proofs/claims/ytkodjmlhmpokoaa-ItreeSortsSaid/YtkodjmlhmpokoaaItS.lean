/- itree: ItreeSorts. -/
-- BIG
import Derived.Test.YtkodjmlhmpokoaaItM
import Derived.Test.YtkodjmlhmpokoaaItL
namespace Go.Proofs.Ytkodjmlhmpokoaa
open Go Go.RowKit
set_option linter.unusedVariables false
set_option linter.unusedSimpArgs false
set_option maxHeartbeats 8000000

def bR (d : List Bool) : List (List PV) := d.map fun z => [.bool z]
theorem bR_len (d : List Bool) : (bR d).length = d.length := by simp [bR]
theorem bR_get {d : List Bool} {k : Nat} {z : Bool} (h : d[k]? = some z) : (bR d)[k]? = some [.bool z] := by simp [bR, h]
theorem bR_got {d : List Bool} {k : Nat} {z : Bool} (h : d[k]? = some z) : ∀ q, (bR d)[k]'q = [.bool z] := fun q => by
  have := bR_get h
  rw [List.getElem?_eq_getElem q] at this
  exact Option.some.inj this
theorem bR_set (d : List Bool) (k : Nat) (z : Bool) : (bR d).set k [.bool z] = bR (d.set k z) := by simp [bR, List.map_set]
def S5 (x : Bool) (l : List Sp) (p : Nat) : St := ⟨[eS x l, .top, .top, .ptr 0 1 0 0, .own 1 l.length 0 l.length, .int .i64 p] ++ List.replicate 133 .top, [some ⟨1, 2, true, [[.sl false 1 (iR (ordI l)), .sl false 1 (iR (mostP l))]]⟩, some ⟨l.length, 1, true, bR (seenB l p)⟩]⟩
set_option maxRecDepth 100000 in
theorem round5_0 (x : Bool) (l : List Sp) (hl : l.length ≤ 200) (h0 : 0 < l.length) : ∃ s', evCode (evC Dg) (l.length + 1) c5b0 (S5 x l 0) = some (.normal s') ∧ norm [0, 3, 4, 5] 2 s' = S5 x l 1 := by
  obtain ⟨i, s, m, g, h1, h2, h3, h4, h5, h6, h7⟩ := pos_facts l 0 h0
  have hO : (ordI l)[0]? = some (i : Int) := by unfold ordI; rw [List.getElem?_map, h1]; rfl
  have gO := iR_get hO
  have gO' := iR_got hO
  have gM := iR_get h4
  have gM' := iR_got h4
  have gG := iR_get h5
  have gG' := iR_got h5
  have hn := seenB_next l 0 h1 h2
  have gN := bR_get hn
  have gN' := bR_got hn
  have hset := seenB_set l 0 h1
  have gS := bR_set (seenB l 0) i true
  rw [hset] at gS
  have lN := bR_len (seenB l 0)
  rw [seenB_len] at lN
  have lO := iR_len (ordI l)
  have lM := iR_len (mostP l)
  have eO : (ordI l).length = l.length := by unfold ordI; rw [List.length_map, ordP_len]
  rw [eO] at lO
  rw [mostP_len] at lM
  have rS := spRows_get h3
  have rS' := spRows_got h3
  have lS := spRows_len l
  have w2 : IntKind.i64.wrap ((l.length : Int) / 2) = ((l.length / 2 : Nat) : Int) := by rw [wrap_i64 _ (by omega) (by omega)]; omega
  have hr : Int.tdiv (l.length : Int) 2 = ((l.length / 2 : Nat) : Int) := by
    rw [Int.tdiv_eq_ediv_of_nonneg (by omega)]; omega
  have c1 : (0 : Int) < l.length := by omega
  have c2 : ¬ (i : Int) < 0 := by omega
  have c3 : ¬ (l.length : Int) ≤ i := by omega
  have c4 : (i : Int) < l.length := by omega
  have c5 : ¬ m < s.2 := by omega
  have c6 : ¬ g < m := by omega
  have c7 : l.length / 2 < l.length := by omega
  have c8 : ((l.length / 2 : Nat) : Int) < l.length := by omega
  have c9 : (0 : Int) ≤ (l.length : Int) / 2 := by omega
  have c10 : ((l.length : Int) / 2).toNat = l.length / 2 := by omega
  have c11 : (l.length : Int) / 2 < l.length := by omega
  have w1 := wrap_i64 1 (by omega) (by omega)
  have n1 : Nat.blt 1 2 = true := rfl
  have n2 : Nat.blt 0 2 = true := rfl
  unfold c5b0
  simp (maxSteps := 100000000) [evCode, evOps, evOne, evOp, evPur, evEff, evPur.chunks, fillP, AOp.isEff, AO.ev, putP, PV.cells, PV.leaf, getB, getM, mapE, iterE, keyC, mapRows, mfind, eq1, eqL, scal, binP, unP, minP, maxP, foldP, PV.lt, PV.lt.ltL, endP, expoAll, expoG, expo, expo.expoL, frIds, frIds.frIdsL, nodupN, kill, cls, clsFuel, resO, RV.get, loadP, evC_p, evC_s, endS, endT, rowsOf, callP, thinL, unfr, unfr.unfrL, PV.noMem, PV.noMem.noMemL, optI, mapO, norm, trimT, trimB, forget, hasN, blksLt, List.set, softChk, softGo, softRd, effTg, rdP, S5, eS, gO, gO', gM, gM', gG, gG', gN, gN', lN, lO, lM, rS, rS', lS, w2, hr, c1, c2, c3, c4, c5, c6, c7, c8, c9, c10, c11, w1, h0, h2, gS]
set_option maxRecDepth 100000 in
theorem round5 (x : Bool) (l : List Sp) (hl : l.length ≤ 200) (p : Nat) (hp : p + 1 < l.length) : ∃ s', evCode (evC Dg) (l.length + 1) c5b0 (S5 x l (p + 1)) = some (.normal s') ∧ norm [0, 3, 4, 5] 2 s' = S5 x l (p + 1 + 1) := by
  obtain ⟨i, s, m, g, h1, h2, h3, h4, h5, h6, h7⟩ := pos_facts l (p + 1) hp
  obtain ⟨j, t, _, _, j1, j2, j3, _⟩ := pos_facts l p (by omega)
  obtain ⟨k1, k2, k3⟩ := nbr_facts l p hp j1 h1 j3 h3
  have hO : (ordI l)[p + 1]? = some (i : Int) := by unfold ordI; rw [List.getElem?_map, h1]; rfl
  have gO := iR_get hO
  have gO' := iR_got hO
  have hJ : (ordI l)[p]? = some (j : Int) := by unfold ordI; rw [List.getElem?_map, j1]; rfl
  have gJ := iR_get hJ
  have gJ' := iR_got hJ
  have gM := iR_get h4
  have gM' := iR_got h4
  have gG := iR_get h5
  have gG' := iR_got h5
  have hn := seenB_next l (p + 1) h1 h2
  have gN := bR_get hn
  have gN' := bR_got hn
  have hset := seenB_set l (p + 1) h1
  have gS := bR_set (seenB l (p + 1)) i true
  rw [hset] at gS
  have lN := bR_len (seenB l (p + 1))
  rw [seenB_len] at lN
  have lO := iR_len (ordI l)
  have lM := iR_len (mostP l)
  have eO : (ordI l).length = l.length := by unfold ordI; rw [List.length_map, ordP_len]
  rw [eO] at lO
  rw [mostP_len] at lM
  have rS := spRows_get h3
  have rS' := spRows_got h3
  have rT := spRows_get j3
  have rT' := spRows_got j3
  have lS := spRows_len l
  have w2 : IntKind.i64.wrap ((l.length : Int) / 2) = ((l.length / 2 : Nat) : Int) := by rw [wrap_i64 _ (by omega) (by omega)]; omega
  have w3 : IntKind.i64.wrap ((p : Int) + 1 - 1) = p := by rw [wrap_i64 _ (by omega) (by omega)]; omega
  have w4 : IntKind.i64.wrap ((p : Int) + 1 + 1) = (p : Int) + 1 + 1 := wrap_i64 _ (by omega) (by omega)
  have w5 : IntKind.i64.wrap (p : Int) = p := wrap_i64 _ (by omega) (by omega)
  have c1 : (p : Int) + 1 < l.length := by omega
  have c1' : p < l.length := by omega
  have c1'' : (p : Int) < l.length := by omega
  have c2 : ¬ (i : Int) < 0 := by omega
  have c3 : ¬ (l.length : Int) ≤ i := by omega
  have c4 : (i : Int) < l.length := by omega
  have c4' : (j : Int) < l.length := by omega
  have c5 : ¬ m < s.2 := by omega
  have c6 : ¬ g < m := by omega
  have c7 : l.length / 2 < l.length := by omega
  have c8 : ((l.length / 2 : Nat) : Int) < l.length := by omega
  have c9 : (0 : Int) ≤ (l.length : Int) / 2 := by omega
  have c10 : ((l.length : Int) / 2).toNat = l.length / 2 := by omega
  have c11 : (l.length : Int) / 2 < l.length := by omega
  have c12 : ¬ ((p : Int) + 1 = 0) := by omega
  have c13 : (0 : Int) ≤ (p : Int) + 1 := by omega
  have c14 : ((p : Int) + 1).toNat = p + 1 := by omega
  have n1 : Nat.blt 1 2 = true := rfl
  have n2 : Nat.blt 0 2 = true := rfl
  unfold c5b0
  by_cases q1 : t.1 = s.1
  · have k2' := k2 q1
    by_cases q2 : t.2 = s.2
    · have k3' := k3 q1 q2
      rw [q1] at rT rT'
      rw [q2] at rT rT'
      have n3 : ¬ s.1 < s.1 := by omega
      have n4 : ¬ s.2 < s.2 := by omega
      simp (maxSteps := 100000000) [evCode, evOps, evOne, evOp, evPur, evEff, evPur.chunks, fillP, AOp.isEff, AO.ev, putP, PV.cells, PV.leaf, getB, getM, mapE, iterE, keyC, mapRows, mfind, eq1, eqL, scal, binP, unP, minP, maxP, foldP, PV.lt, PV.lt.ltL, endP, expoAll, expoG, expo, expo.expoL, frIds, frIds.frIdsL, nodupN, kill, cls, clsFuel, resO, RV.get, loadP, evC_p, evC_s, endS, endT, rowsOf, callP, thinL, unfr, unfr.unfrL, PV.noMem, PV.noMem.noMemL, optI, mapO, norm, trimT, trimB, forget, hasN, blksLt, List.set, softChk, softGo, softRd, effTg, rdP, S5, eS, gO, gO', gJ, gJ', gM, gM', gG, gG', gN, gN', lN, lO, lM, rS, rS', rT, rT', lS, w2, w3, w4, w5, c1, c1', c1'', c2, c3, c4, c4', c5, c6, c7, c8, c9, c10, c11, c12, c13, c14, hp, h2, j2, gS, n3, n4, k3']
    · rw [q1] at rT rT'
      have n3 : ¬ s.1 < s.1 := by omega
      simp (maxSteps := 100000000) [evCode, evOps, evOne, evOp, evPur, evEff, evPur.chunks, fillP, AOp.isEff, AO.ev, putP, PV.cells, PV.leaf, getB, getM, mapE, iterE, keyC, mapRows, mfind, eq1, eqL, scal, binP, unP, minP, maxP, foldP, PV.lt, PV.lt.ltL, endP, expoAll, expoG, expo, expo.expoL, frIds, frIds.frIdsL, nodupN, kill, cls, clsFuel, resO, RV.get, loadP, evC_p, evC_s, endS, endT, rowsOf, callP, thinL, unfr, unfr.unfrL, PV.noMem, PV.noMem.noMemL, optI, mapO, norm, trimT, trimB, forget, hasN, blksLt, List.set, softChk, softGo, softRd, effTg, rdP, S5, eS, gO, gO', gJ, gJ', gM, gM', gG, gG', gN, gN', lN, lO, lM, rS, rS', rT, rT', lS, w2, w3, w4, w5, c1, c1', c1'', c2, c3, c4, c4', c5, c6, c7, c8, c9, c10, c11, c12, c13, c14, hp, h2, j2, gS, n3, k2', q2]
  · have q1' : ¬ s.1 = t.1 := fun h => q1 h.symm
    generalize s.1 = sa at *
    generalize s.2 = sb at *
    generalize t.1 = ta at *
    generalize t.2 = tb at *
    simp (maxSteps := 100000000) [evCode, evOps, evOne, evOp, evPur, evEff, evPur.chunks, fillP, AOp.isEff, AO.ev, putP, PV.cells, PV.leaf, getB, getM, mapE, iterE, keyC, mapRows, mfind, eq1, eqL, scal, binP, unP, minP, maxP, foldP, PV.lt, PV.lt.ltL, endP, expoAll, expoG, expo, expo.expoL, frIds, frIds.frIdsL, nodupN, kill, cls, clsFuel, resO, RV.get, loadP, evC_p, evC_s, endS, endT, rowsOf, callP, thinL, unfr, unfr.unfrL, PV.noMem, PV.noMem.noMemL, optI, mapO, norm, trimT, trimB, forget, hasN, blksLt, List.set, softChk, softGo, softRd, effTg, rdP, S5, eS, gO, gO', gJ, gJ', gM, gM', gG, gG', gN, gN', lN, lO, lM, rS, rS', rT, rT', lS, w2, w3, w4, w5, c1, c1', c1'', c2, c3, c4, c4', c5, c6, c7, c8, c9, c10, c11, c12, c13, c14, hp, h2, j2, gS, k1, q1, q1']
set_option maxRecDepth 100000 in
theorem f5_few (x : Bool) (l : List Sp) (hl : l.length ≤ 200) : evE Dg 5 [eS x l] = some (.bool true) := by
  have h9 := f9 x l (by omega) (ordP_len l) (ordP_lt l)
  rw [nR_iR] at h9
  change _ = some (PV.agg [.fr 1 (iR (ordI l)), .fr 1 (iR (mostP l))]) at h9
  have h8 := f8
  have e1 := spRows_len l
  have e2 := iR_len
  have eO : (ordI l).length = l.length := by unfold ordI; rw [List.length_map, ordP_len]
  have eM := mostP_len l
  have H := loop_inv (body := evCode (evC Dg) (l.length + 1) c5b0) (keep := [0, 3, 4, 5]) (n0 := 2) (fuel := l.length + 1) l (fun k (_ : Unit) => S5 x l k) (fun _ _ => True) (fun _ => False)
    (by
      rintro k u _ hu hk _
      left
      cases k with
      | zero =>
        obtain ⟨s', q1, q2⟩ := round5_0 x l hl hk
        exact ⟨(), s', q1, q2, trivial⟩
      | succ p =>
        obtain ⟨s', q1, q2⟩ := round5 x l hl p hk
        exact ⟨(), s', q1, q2, trivial⟩)
    (by
      rintro _ _ s
      have lO := iR_len (ordI l)
      rw [eO] at lO
      unfold c5b0
      simp (maxSteps := 100000000) [evCode, evOps, evOne, evOp, evPur, evEff, evPur.chunks, fillP, AOp.isEff, AO.ev, putP, PV.cells, PV.leaf, getB, getM, mapE, iterE, keyC, mapRows, mfind, eq1, eqL, scal, binP, unP, minP, maxP, foldP, PV.lt, PV.lt.ltL, endP, expoAll, expoG, expo, expo.expoL, frIds, frIds.frIdsL, nodupN, kill, cls, clsFuel, resO, RV.get, loadP, evC_p, evC_s, endS, endT, rowsOf, callP, thinL, unfr, unfr.unfrL, PV.noMem, PV.noMem.noMemL, optI, mapO, norm, trimT, trimB, forget, hasN, blksLt, List.set, softChk, softGo, softRd, effTg, rdP, S5, eS, lO])
    (by omega) () trivial
  have hl' : ¬ (200 : Int) < l.length := by omega
  have hz : List.replicate l.length [PV.bool false] = bR (seenB l 0) := by rw [seenB_zero]; simp [bR]
  have b2 : l.length ≤ 140737488355328 := by omega
  have b2' : (l.length : Int) ≤ 140737488355328 := by omega
  have hp : (0 : Int) ≤ (l.length : Int) := by omega
  have hb0 : ∀ b, Nat.blt b 0 = false := fun b => by cases b <;> rfl
  have im : ∀ rows, impB (PV.fr 1 rows) = [⟨rows.length, 1, true, rows⟩] := fun _ => rfl
  have iv : ∀ k rows, impV k (PV.fr 1 rows) = .own k rows.length 0 rows.length := fun _ _ => rfl
  simp only [eS] at h9
  refine evE_intro (l.length + 1) D5 rfl ?_
  unfold c5
  simp (maxSteps := 100000000) [evCode, evOps, evOne, evOp, evPur, evEff, evPur.chunks, fillP, AOp.isEff, AO.ev, putP, PV.cells, PV.leaf, getB, getM, mapE, iterE, keyC, mapRows, mfind, eq1, eqL, scal, binP, unP, minP, maxP, foldP, PV.lt, PV.lt.ltL, endP, expoAll, expoG, expo, expo.expoL, frIds, frIds.frIdsL, nodupN, kill, cls, clsFuel, resO, RV.get, loadP, evC_p, evC_s, endS, endT, rowsOf, callP, thinL, unfr, unfr.unfrL, PV.noMem, PV.noMem.noMemL, optI, mapO, norm, trimT, trimB, forget, hasN, blksLt, List.set, softChk, softGo, softRd, effTg, rdP, eS, e1, e2, eO, eM, h9, hl', hz, b2, b2', hp, hb0, im, iv]
  generalize hE : evLoop _ _ _ _ _ = E
  rcases H _ _ hE (by simp [evCode, evOps, evOne, evOp, evPur, evEff, evPur.chunks, fillP, AOp.isEff, AO.ev, putP, PV.cells, PV.leaf, getB, getM, mapE, iterE, keyC, mapRows, mfind, eq1, eqL, scal, binP, unP, minP, maxP, foldP, PV.lt, PV.lt.ltL, endP, expoAll, expoG, expo, expo.expoL, frIds, frIds.frIdsL, nodupN, kill, cls, clsFuel, resO, RV.get, loadP, evC_p, evC_s, endS, endT, rowsOf, callP, thinL, unfr, unfr.unfrL, PV.noMem, PV.noMem.noMemL, optI, mapO, norm, trimT, trimB, forget, hasN, blksLt, List.set, softChk, softGo, softRd, effTg, rdP, S5, eS]) with ⟨_, _, q2⟩ | ⟨_, _, q3⟩
  · rw [q2]
    have lO := iR_len (ordI l)
    rw [eO] at lO
    unfold c5b0 c5r0
    simp (maxSteps := 100000000) [evCode, evOps, evOne, evOp, evPur, evEff, evPur.chunks, fillP, AOp.isEff, AO.ev, putP, PV.cells, PV.leaf, getB, getM, mapE, iterE, keyC, mapRows, mfind, eq1, eqL, scal, binP, unP, minP, maxP, foldP, PV.lt, PV.lt.ltL, endP, expoAll, expoG, expo, expo.expoL, frIds, frIds.frIdsL, nodupN, kill, cls, clsFuel, resO, RV.get, loadP, evC_p, evC_s, endS, endT, rowsOf, callP, thinL, unfr, unfr.unfrL, PV.noMem, PV.noMem.noMemL, optI, mapO, norm, trimT, trimB, forget, hasN, blksLt, List.set, softChk, softGo, softRd, effTg, rdP, S5, eS, lO, h8]
  · exact q3.elim
theorem f5 (x : Bool) (l : List Sp) : evE Dg 5 [eS x l] = some (.bool true) := by
  by_cases h : l.length ≤ 200
  · exact f5_few x l h
  · have h8 := f8
    have e1 := spRows_len l
    have hl' : (200 : Int) < l.length := by omega
    refine evE_intro 1 D5 rfl ?_
    unfold c5
    simp (maxSteps := 100000000) [evCode, evOps, evOne, evOp, evPur, evEff, evPur.chunks, fillP, AOp.isEff, AO.ev, putP, PV.cells, PV.leaf, getB, getM, mapE, iterE, keyC, mapRows, mfind, eq1, eqL, scal, binP, unP, minP, maxP, foldP, PV.lt, PV.lt.ltL, endP, expoAll, expoG, expo, expo.expoL, frIds, frIds.frIdsL, nodupN, kill, cls, clsFuel, resO, RV.get, loadP, evC_p, evC_s, endS, endT, rowsOf, callP, thinL, unfr, unfr.unfrL, PV.noMem, PV.noMem.noMemL, optI, mapO, norm, trimT, trimB, forget, hasN, blksLt, List.set, softChk, softGo, softRd, effTg, rdP, eS, h8, e1, hl']
theorem law5 (ps : List PV) (h : ArgL Try.prog 12 [22] ps) : evE Dg 5 ps = some (.bool true) := by
  obtain ⟨p, rfl, h1⟩ := argL1 h
  obtain ⟨a, rfl⟩ := in_spans h1
  exact f5 false a
end Go.Proofs.Ytkodjmlhmpokoaa
