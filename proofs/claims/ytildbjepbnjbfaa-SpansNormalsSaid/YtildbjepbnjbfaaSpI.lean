/- spans: the law on members, of pure arguments. -/
import Derived.Test.YtildbjepbnjbfaaSpL
namespace Go.Proofs.Ytildbjepbnjbfaa
open Go Go.RowKit
set_option linter.unusedVariables false
set_option linter.unusedSimpArgs false
set_option maxHeartbeats 8000000

def inR (l : List Int) : List (List PV) := l.map fun z => [.int .i64 z]
theorem inR_len (l : List Int) : (inR l).length = l.length := by simp [inR]
theorem inR_get {l : List Int} {k : Nat} {z : Int} (h : l[k]? = some z) : (inR l)[k]? = some [.int .i64 z] := by simp [inR, h]
theorem inR_got {l : List Int} {k : Nat} {z : Int} (h : l[k]? = some z) : ∀ q, (inR l)[k]'q = [.int .i64 z] := fun q => by
  have := inR_get h
  rw [List.getElem?_eq_getElem q] at this
  exact Option.some.inj this
theorem inR_app (a b : List Int) : inR (a ++ b) = inR a ++ inR b := by simp [inR]

def S5a (x y : Bool) (a b : List Sp) (k : Nat) (T : List Int) : St :=
  ⟨[eS x a, eS y b, .top, .top, .top, .top, .top, .own 0 T.length 0 T.length, .int .i64 k] ++ List.replicate 111 .top, [some ⟨T.length, 1, true, inR T⟩]⟩
def S5b (x y : Bool) (a b U M D : List Sp) (T : List Int) (k : Nat) : St :=
  ⟨[eS x a, eS y b, .top, .top, .top, .top, .top, .own 0 T.length 0 T.length, .top, eS false U, eS false M, eS false D, .int .i64 k] ++ List.replicate 107 .top, [some ⟨T.length, 1, true, inR T⟩]⟩
def addT (T : List Int) (s : Sp) : List Int := T ++ [s.1, s.2]
theorem addT_len : ∀ (l : List Sp) (T : List Int), (l.foldl addT T).length = T.length + 2 * l.length
  | [], T => by simp
  | s :: l, T => by
    rw [List.foldl_cons, addT_len l]
    simp only [addT, List.length_append, List.length_cons, List.length_nil]
    omega
set_option maxRecDepth 100000 in
theorem look5 (x y : Bool) (a b : List Sp) (T : List Int) (hT : T.length ≤ 60) (ha : a.length ≤ 25) (hb : b.length ≤ 25) (E : Option Out) (s0 : St)
    (hE : evLoop (evCode (evC Dg) 70 c5b0) [0, 1, 7, 9, 10, 11, 12] 1 70 s0 = E) (h0 : norm [0, 1, 7, 9, 10, 11, 12] 1 s0 = S5b x y a b (norF (a ++ b)) (meeF a b) (minF a b) T 0) :
    E = evCode (evC Dg) 70 c5b0 (S5b x y a b (norF (a ++ b)) (meeF a b) (minF a b) T T.length) := by
  have hm := meeF_bound ha hb
  have hn := minF_bound ha hb
  have hu := norF_len (a ++ b)
  simp only [List.length_append] at hu
  obtain ⟨m1, m2⟩ := meeF_spec a b
  obtain ⟨n1, n2⟩ := minF_spec a b
  obtain ⟨u1, u2⟩ := uni_spec a b
  generalize norF (a ++ b) = U at *
  generalize meeF a b = M at *
  generalize minF a b = D at *
  have e1 := inR_len T
  have H := loop_all (body := evCode (evC Dg) 70 c5b0) (keep := [0, 1, 7, 9, 10, 11, 12]) (n0 := 1) (fuel := 70) T (S5b x y a b U M D T) (fun _ => true) (fun _ => True)
    (by
      intro k z hz hk _
      have hk' : (k : Int) < T.length := by omega
      have w1 := wrap_i64 ((k : Int) + 1) (by omega) (by omega)
      have r1 := inR_get hz
      have g1 := inR_got hz
      have c1 := f26 x a z (by omega)
      have c2 := f26 y b z (by omega)
      have c3 := f27 x a z (by omega)
      have c4 := f26 false U z (by omega)
      have c5 := f26 false M z (by omega)
      have c6 := f26 false D z (by omega)
      have k4 : setOf z U ↔ setOf z a ∨ setOf z b := by rw [setOf_nrm u1, u2]
      have k5 : setOf z M ↔ setOf z a ∧ setOf z b := by rw [setOf_nrm m1, m2]
      have k6 : setOf z D ↔ setOf z a ∧ ¬ setOf z b := by rw [setOf_nrm n1, n2]
      simp only [eS] at c1 c2 c3 c4 c5 c6
      unfold c5b0
      by_cases h1 : setOf z a
      · by_cases h2 : setOf z b
        · have k4' : setOf z U := k4.2 (.inl h1)
          have k5' : setOf z M := k5.2 ⟨h1, h2⟩
          have k6' : ¬ setOf z D := fun h => (k6.1 h).2 h2
          simp only [h1, h2, k4', k5', k6', decide_true, decide_false] at c1 c2 c3 c4 c5 c6
          simp [evCode, evOps, evOne, evOp, evPur, evEff, evPur.chunks, fillP, AOp.isEff, AO.ev, putP, PV.cells, PV.leaf, getB, getM, mapE, keyC, mapRows, mfind, eq1, eqL, scal, binP, unP, minP, maxP, foldP, PV.lt, PV.lt.ltL, endP, expoAll, expo, expo.expoL, frIds, frIds.frIdsL, nodupN, kill, cls, clsFuel, resO, RV.get, loadP, evC_p, evC_s, endS, endT, rowsOf, callP, thinL, unfr, unfr.unfrL, PV.noMem, PV.noMem.noMemL, optI, mapO, norm, trimT, trimB, forget, hasN, blksLt, List.set, S5b, eS, e1, r1, g1, hk, hk', w1, c1, c2, c3, c4, c5, c6]
        · have k4' : setOf z U := k4.2 (.inl h1)
          have k5' : ¬ setOf z M := fun h => h2 (k5.1 h).2
          have k6' : setOf z D := k6.2 ⟨h1, h2⟩
          simp only [h1, h2, k4', k5', k6', decide_true, decide_false] at c1 c2 c3 c4 c5 c6
          simp [evCode, evOps, evOne, evOp, evPur, evEff, evPur.chunks, fillP, AOp.isEff, AO.ev, putP, PV.cells, PV.leaf, getB, getM, mapE, keyC, mapRows, mfind, eq1, eqL, scal, binP, unP, minP, maxP, foldP, PV.lt, PV.lt.ltL, endP, expoAll, expo, expo.expoL, frIds, frIds.frIdsL, nodupN, kill, cls, clsFuel, resO, RV.get, loadP, evC_p, evC_s, endS, endT, rowsOf, callP, thinL, unfr, unfr.unfrL, PV.noMem, PV.noMem.noMemL, optI, mapO, norm, trimT, trimB, forget, hasN, blksLt, List.set, S5b, eS, e1, r1, g1, hk, hk', w1, c1, c2, c3, c4, c5, c6]
      · have k5' : ¬ setOf z M := fun h => h1 (k5.1 h).1
        have k6' : ¬ setOf z D := fun h => h1 (k6.1 h).1
        by_cases h2 : setOf z b
        · have k4' : setOf z U := k4.2 (.inr h2)
          simp only [h1, h2, k4', k5', k6', decide_true, decide_false] at c1 c2 c3 c4 c5 c6
          simp [evCode, evOps, evOne, evOp, evPur, evEff, evPur.chunks, fillP, AOp.isEff, AO.ev, putP, PV.cells, PV.leaf, getB, getM, mapE, keyC, mapRows, mfind, eq1, eqL, scal, binP, unP, minP, maxP, foldP, PV.lt, PV.lt.ltL, endP, expoAll, expo, expo.expoL, frIds, frIds.frIdsL, nodupN, kill, cls, clsFuel, resO, RV.get, loadP, evC_p, evC_s, endS, endT, rowsOf, callP, thinL, unfr, unfr.unfrL, PV.noMem, PV.noMem.noMemL, optI, mapO, norm, trimT, trimB, forget, hasN, blksLt, List.set, S5b, eS, e1, r1, g1, hk, hk', w1, c1, c2, c3, c4, c5, c6]
        · have k4' : ¬ setOf z U := fun h => (k4.1 h).elim h1 h2
          simp only [h1, h2, k4', k5', k6', decide_true, decide_false] at c1 c2 c3 c4 c5 c6
          simp [evCode, evOps, evOne, evOp, evPur, evEff, evPur.chunks, fillP, AOp.isEff, AO.ev, putP, PV.cells, PV.leaf, getB, getM, mapE, keyC, mapRows, mfind, eq1, eqL, scal, binP, unP, minP, maxP, foldP, PV.lt, PV.lt.ltL, endP, expoAll, expo, expo.expoL, frIds, frIds.frIdsL, nodupN, kill, cls, clsFuel, resO, RV.get, loadP, evC_p, evC_s, endS, endT, rowsOf, callP, thinL, unfr, unfr.unfrL, PV.noMem, PV.noMem.noMemL, optI, mapO, norm, trimT, trimB, forget, hasN, blksLt, List.set, S5b, eS, e1, r1, g1, hk, hk', w1, c1, c2, c3, c4, c5, c6])
    (by intro k z _ _ h; cases h)
    (by
      intro s
      unfold c5b0
      simp [evCode, evOps, evOne, evOp, evPur, evEff, evPur.chunks, fillP, AOp.isEff, AO.ev, putP, PV.cells, PV.leaf, getB, getM, mapE, keyC, mapRows, mfind, eq1, eqL, scal, binP, unP, minP, maxP, foldP, PV.lt, PV.lt.ltL, endP, expoAll, expo, expo.expoL, frIds, frIds.frIdsL, nodupN, kill, cls, clsFuel, resO, RV.get, loadP, evC_p, evC_s, endS, endT, rowsOf, callP, thinL, unfr, unfr.unfrL, PV.noMem, PV.noMem.noMemL, optI, mapO, norm, trimT, trimB, forget, hasN, blksLt, List.set, S5b, eS, e1])
    (by omega) s0 E hE h0
  rcases H with ⟨_, q⟩ | ⟨q, _⟩
  · exact q
  · rw [List.all_eq_false] at q
    obtain ⟨_, _, q⟩ := q
    exact absurd rfl q
set_option maxRecDepth 100000 in
/-- SpansMembers -/
theorem f5 (x y : Bool) (a b : List Sp) (t : Int) : evE Dg 5 [eS x a, eS y b, .int .i64 t] = some (.bool true) := by
  have aw := f10
  have fw := f9 x y a b
  by_cases h : a.length ≤ 25 ∧ b.length ≤ 25
  · obtain ⟨ha, hb⟩ := h
    have e1 := spRows_len a
    have H1 := loop_foldE (body := evCode (evC Dg) 70 c5b1) (keep := [0, 1, 7, 8]) (n0 := 1) (fuel := 70) a (S5a x y a b) addT (fun k T => T.length = 1 + 2 * k)
      (by
        intro k s T hs hk hT
        have hk' : (k : Int) < a.length := by omega
        have w1 := wrap_i64 ((k : Int) + 1) (by omega) (by omega)
        have r1 := spRows_get hs
        have g1 := spRows_got hs
        have e2 := inR_len T
        have e3 := inR_app T [s.1, s.2]
        have e4 : inR [s.1, s.2] = [[.int .i64 s.1], [.int .i64 s.2]] := rfl
        have m1 : (T.length + 2) * 8 ≤ 140737488355328 := by omega
        have m2 : T.length + 2 ≤ 140737488355328 := by omega
        refine ⟨by simp only [addT, List.length_append, List.length_cons, List.length_nil]; omega, ?_⟩
        unfold c5b1
        simp [evCode, evOps, evOne, evOp, evPur, evEff, evPur.chunks, fillP, AOp.isEff, AO.ev, putP, PV.cells, PV.leaf, getB, getM, mapE, keyC, mapRows, mfind, eq1, eqL, scal, binP, unP, minP, maxP, foldP, PV.lt, PV.lt.ltL, endP, expoAll, expo, expo.expoL, frIds, frIds.frIdsL, nodupN, kill, cls, clsFuel, resO, RV.get, loadP, evC_p, evC_s, endS, endT, rowsOf, callP, thinL, unfr, unfr.unfrL, PV.noMem, PV.noMem.noMemL, optI, mapO, norm, trimT, trimB, forget, hasN, blksLt, List.set, S5a, eS, e1, e2, e3, e4, r1, g1, hk, hk', w1, addT, m1, m2])
      (by
        intro T _ s
        unfold c5b1
        simp [evCode, evOps, evOne, evOp, evPur, evEff, evPur.chunks, fillP, AOp.isEff, AO.ev, putP, PV.cells, PV.leaf, getB, getM, mapE, keyC, mapRows, mfind, eq1, eqL, scal, binP, unP, minP, maxP, foldP, PV.lt, PV.lt.ltL, endP, expoAll, expo, expo.expoL, frIds, frIds.frIdsL, nodupN, kill, cls, clsFuel, resO, RV.get, loadP, evC_p, evC_s, endS, endT, rowsOf, callP, thinL, unfr, unfr.unfrL, PV.noMem, PV.noMem.noMemL, optI, mapO, norm, trimT, trimB, forget, hasN, blksLt, List.set, S5a, eS, e1])
      (by omega) [t] (by simp)
    have hTl := addT_len a [t]
    have T2 := fun T hT => look5 x y a b T hT ha hb
    have b0 := f20 x y a b (by omega) (by omega)
    have b1 := f22 x y a b (by omega) (by omega)
    have b2 := f24 x y a b (by omega) (by omega)
    have hi0 : inR [t] = [[.int .i64 t]] := rfl
    generalize norF (a ++ b) = U at *
    generalize meeF a b = M at *
    generalize minF a b = D at *
    simp only [eS, ha, hb, and_self, decide_true] at fw b0 b1 b2
    refine evE_intro 70 D5 rfl ?_
    unfold c5
    simp [evCode, evOps, evOne, evOp, evPur, evEff, evPur.chunks, fillP, AOp.isEff, AO.ev, putP, PV.cells, PV.leaf, getB, getM, mapE, keyC, mapRows, mfind, eq1, eqL, scal, binP, unP, minP, maxP, foldP, PV.lt, PV.lt.ltL, endP, expoAll, expo, expo.expoL, frIds, frIds.frIdsL, nodupN, kill, cls, clsFuel, resO, RV.get, loadP, evC_p, evC_s, endS, endT, rowsOf, callP, thinL, unfr, unfr.unfrL, PV.noMem, PV.noMem.noMemL, optI, mapO, norm, trimT, trimB, forget, hasN, blksLt, List.set, eS, aw, fw]
    generalize hE : evLoop _ _ _ _ _ = E
    obtain ⟨g1, _⟩ := H1 _ _ hE (by simp [evCode, evOps, evOne, evOp, evPur, evEff, evPur.chunks, fillP, AOp.isEff, AO.ev, putP, PV.cells, PV.leaf, getB, getM, mapE, keyC, mapRows, mfind, eq1, eqL, scal, binP, unP, minP, maxP, foldP, PV.lt, PV.lt.ltL, endP, expoAll, expo, expo.expoL, frIds, frIds.frIdsL, nodupN, kill, cls, clsFuel, resO, RV.get, loadP, evC_p, evC_s, endS, endT, rowsOf, callP, thinL, unfr, unfr.unfrL, PV.noMem, PV.noMem.noMemL, optI, mapO, norm, trimT, trimB, forget, hasN, blksLt, List.set, S5a, eS, hi0])
    rw [g1]
    clear hE g1 H1
    generalize List.foldl addT [t] a = T at *
    simp only [List.length_cons, List.length_nil] at hTl
    have e5 := inR_len T
    unfold c5b1 c5r0
    simp [evCode, evOps, evOne, evOp, evPur, evEff, evPur.chunks, fillP, AOp.isEff, AO.ev, putP, PV.cells, PV.leaf, getB, getM, mapE, keyC, mapRows, mfind, eq1, eqL, scal, binP, unP, minP, maxP, foldP, PV.lt, PV.lt.ltL, endP, expoAll, expo, expo.expoL, frIds, frIds.frIdsL, nodupN, kill, cls, clsFuel, resO, RV.get, loadP, evC_p, evC_s, endS, endT, rowsOf, callP, thinL, unfr, unfr.unfrL, PV.noMem, PV.noMem.noMemL, optI, mapO, norm, trimT, trimB, forget, hasN, blksLt, List.set, S5a, eS, e1, e5, b0, b1, b2]
    generalize hE : evLoop _ _ _ _ _ = E
    have g2 := T2 T (by omega) _ _ hE (by simp [evCode, evOps, evOne, evOp, evPur, evEff, evPur.chunks, fillP, AOp.isEff, AO.ev, putP, PV.cells, PV.leaf, getB, getM, mapE, keyC, mapRows, mfind, eq1, eqL, scal, binP, unP, minP, maxP, foldP, PV.lt, PV.lt.ltL, endP, expoAll, expo, expo.expoL, frIds, frIds.frIdsL, nodupN, kill, cls, clsFuel, resO, RV.get, loadP, evC_p, evC_s, endS, endT, rowsOf, callP, thinL, unfr, unfr.unfrL, PV.noMem, PV.noMem.noMemL, optI, mapO, norm, trimT, trimB, forget, hasN, blksLt, List.set, S5b, eS])
    rw [g2]
    unfold c5b0
    simp [evCode, evOps, evOne, evOp, evPur, evEff, evPur.chunks, fillP, AOp.isEff, AO.ev, putP, PV.cells, PV.leaf, getB, getM, mapE, keyC, mapRows, mfind, eq1, eqL, scal, binP, unP, minP, maxP, foldP, PV.lt, PV.lt.ltL, endP, expoAll, expo, expo.expoL, frIds, frIds.frIdsL, nodupN, kill, cls, clsFuel, resO, RV.get, loadP, evC_p, evC_s, endS, endT, rowsOf, callP, thinL, unfr, unfr.unfrL, PV.noMem, PV.noMem.noMemL, optI, mapO, norm, trimT, trimB, forget, hasN, blksLt, List.set, S5b, eS, e5]
  · simp only [h, decide_false, eS] at fw
    refine evE_intro 70 D5 rfl ?_
    unfold c5
    simp [evCode, evOps, evOne, evOp, evPur, evEff, evPur.chunks, fillP, AOp.isEff, AO.ev, putP, PV.cells, PV.leaf, getB, getM, mapE, keyC, mapRows, mfind, eq1, eqL, scal, binP, unP, minP, maxP, foldP, PV.lt, PV.lt.ltL, endP, expoAll, expo, expo.expoL, frIds, frIds.frIdsL, nodupN, kill, cls, clsFuel, resO, RV.get, loadP, evC_p, evC_s, endS, endT, rowsOf, callP, thinL, unfr, unfr.unfrL, PV.noMem, PV.noMem.noMemL, optI, mapO, norm, trimT, trimB, forget, hasN, blksLt, List.set, eS, aw, fw]
theorem law5 (ps : List PV) (h : ArgL Try.prog 12 [22, 22, 3] ps) : evE Dg 5 ps = some (.bool true) := by
  obtain ⟨p, q, r, rfl, h1, h2, h3⟩ := argL3 h
  obtain ⟨a, rfl⟩ := in_spans h1
  obtain ⟨b, rfl⟩ := in_spans h2
  obtain ⟨t, rfl, _⟩ := argT_int Try.underlying3 h3
  exact f5 false false a b t
end Go.Proofs.Ytildbjepbnjbfaa
