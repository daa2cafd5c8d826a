/- spans: the chapter's examples, and the laws on lengths, parts and orders, of pure arguments. -/
import Derived.Test.YtildbjepbnjbfaaSpF
namespace Go.Proofs.Ytildbjepbnjbfaa
open Go Go.RowKit
set_option linter.unusedVariables false
set_option linter.unusedSimpArgs false
set_option maxHeartbeats 8000000

theorem norF_eq {l m : List Sp} (hm : Nrm m) (h : ∀ t, inS t m ↔ setOf t l) : norF l = m :=
  nrm_unique (norF_spec l).1 hm fun t => by rw [(norF_spec l).2, h]
theorem norF_self {m : List Sp} (hm : Nrm m) : norF m = m := norF_eq hm fun t => (setOf_nrm hm).symm
theorem norF_same {l : List Sp} : norF l = l ↔ Nrm l := ⟨fun h => by rw [← h]; exact (norF_spec l).1, norF_self⟩

theorem ex1 : norF [(5, 9), (1, 3), (3, 5)] = [(1, 9)] := norF_eq (by simp [nrm_cons, nrm_nil, vl, MT]) fun t => by
  simp only [inS_cons, setOf_cons, inS_nil, setOf_nil, or_false, vl, MT]; omega
theorem ex2 : minF [(0, 10)] [(2, 3), (5, 7)] = [(0, 2), (3, 5), (7, 10)] :=
  nrm_unique (minF_spec _ _).1 (by simp [nrm_cons, nrm_nil, vl, MT]) fun t => by
    rw [(minF_spec _ _).2]
    simp only [inS_cons, setOf_cons, inS_nil, setOf_nil, or_false, vl, MT]; omega
theorem ex3 : norF [(0, 2), (3, 5), (7, 10)] = [(0, 2), (3, 5), (7, 10)] := norF_self (by simp [nrm_cons, nrm_nil, vl, MT])
theorem ex4 : setOf 4 [(0, 2), (3, 5), (7, 10)] := ⟨(3, 5), by simp, by simp [vl, MT]⟩
theorem ex5 : ¬ setOf 5 [(0, 2), (3, 5), (7, 10)] := by simp [setOf_cons, setOf_nil]
set_option maxRecDepth 100000 in
theorem f10 : evE Dg 10 [] = some (.bool true) := by
  have a1 := f14 true [(5, 9), (1, 3), (3, 5)] (by simp)
  have a2 := f24 true true [(0, 10)] [(2, 3), (5, 7)] (by simp) (by simp)
  have a3 := f13 false true [(1, 9)] [(1, 9)] (by simp)
  have a4 := f13 false true [(0, 2), (3, 5), (7, 10)] [(0, 2), (3, 5), (7, 10)] (by simp)
  have a5 := f18 false [(0, 2), (3, 5), (7, 10)] (by simp)
  have a6 := f26 false [(0, 2), (3, 5), (7, 10)] 4 (by simp)
  have a7 := f26 false [(0, 2), (3, 5), (7, 10)] 5 (by simp)
  have a8 := f11 (3, 3)
  have a9 := f16_nil
  rw [ex1] at a1
  rw [ex2] at a2
  rw [ex3] at a5
  have hl : lenF [(0, 2), (3, 5), (7, 10)] = 7 := by simp [lenF]
  have hv : decide (vl (3, 3)) = false := by simp [vl]
  rw [hl] at a5
  rw [hv] at a8
  have t4 := ex4
  have t5 := ex5
  simp only [t4, t5, decide_true, decide_false, eS, spRows, List.map_cons, List.map_nil] at a1 a2 a3 a4 a5 a6 a7 a8
  refine evE_intro 3 D10 rfl ?_
  unfold c10
  simp [evCode, evOps, evOne, evOp, evPur, evEff, evPur.chunks, fillP, AOp.isEff, AO.ev, putP, PV.cells, PV.leaf, getB, getM, mapE, keyC, mapRows, mfind, eq1, eqL, scal, binP, unP, minP, maxP, foldP, PV.lt, PV.lt.ltL, endP, expoAll, expo, expo.expoL, frIds, frIds.frIdsL, nodupN, kill, cls, clsFuel, resO, RV.get, loadP, evC_p, evC_s, endS, endT, rowsOf, callP, thinL, unfr, unfr.unfrL, PV.noMem, PV.noMem.noMemL, optI, mapO, norm, trimT, trimB, forget, hasN, blksLt, List.set, a1, a2, a3, a4, a5, a6, a7, a8, a9]

theorem meeF_bound {a b : List Sp} (ha : a.length ≤ 25) (hb : b.length ≤ 25) : (meeF a b).length ≤ 50 := by have := meeF_len a b; omega
theorem minF_bound {a b : List Sp} (ha : a.length ≤ 25) (hb : b.length ≤ 25) : (minF a b).length ≤ 51 := by have := minF_len a b; omega
theorem part1 (a b : List Sp) : meeF (meeF a b) (minF a b) = [] := by
  obtain ⟨m1, m2⟩ := meeF_spec a b
  obtain ⟨n1, n2⟩ := minF_spec a b
  obtain ⟨q1, q2⟩ := meeF_spec (meeF a b) (minF a b)
  refine nrm_unique q1 nrm_nil fun t => ?_
  rw [q2, setOf_nrm m1, setOf_nrm n1, m2, n2]
  constructor
  · rintro ⟨⟨_, h⟩, _, h'⟩; exact absurd h h'
  · exact fun h => absurd h inS_nil
theorem part2 (a b : List Sp) : norF (meeF a b ++ minF a b) = norF a := by
  obtain ⟨m1, m2⟩ := meeF_spec a b
  obtain ⟨n1, n2⟩ := minF_spec a b
  obtain ⟨a1, a2⟩ := norF_spec a
  refine norF_eq a1 fun t => ?_
  rw [a2, setOf_app, setOf_nrm m1, setOf_nrm n1, m2, n2]
  by_cases h : setOf t b <;> simp [h]
theorem part3 (a b : List Sp) : meeF b a = meeF a b := by
  obtain ⟨m1, m2⟩ := meeF_spec a b
  obtain ⟨n1, n2⟩ := meeF_spec b a
  refine nrm_unique n1 m1 fun t => ?_
  rw [m2, n2]
  exact And.comm
set_option maxRecDepth 100000 in
/-- SpansParts -/
theorem f7 (x y : Bool) (a b : List Sp) : evE Dg 7 [eS x a, eS y b] = some (.bool true) := by
  have aw := f10
  have fw := f9 x y a b
  by_cases h : a.length ≤ 25 ∧ b.length ≤ 25
  · obtain ⟨ha, hb⟩ := h
    have hm := meeF_bound ha hb
    have hn := minF_bound ha hb
    have b1 := f22 x y a b (by omega) (by omega)
    have b2 := f24 x y a b (by omega) (by omega)
    have b3 := f22 false false (meeF a b) (minF a b) (by omega) (by omega)
    have b4 := f20 false false (meeF a b) (minF a b) (by omega) (by omega)
    have b5 := f14 x a (by omega)
    have hna := norF_len a
    have b6 := f13 false false (norF a) (norF a) (by omega)
    have b7 := f22 y x b a (by omega) (by omega)
    rw [part1] at b3
    rw [part2] at b4
    rw [part3] at b7
    have b8 := f13 false false (meeF a b) (meeF a b) (by omega)
    generalize meeF a b = M at *
    generalize minF a b = D at *
    generalize norF a = A at *
    simp only [eS, ha, hb, and_self, decide_true, spRows_nil] at fw b1 b2 b3 b4 b5 b6 b7 b8
    refine evE_intro 3 D7 rfl ?_
    unfold c7
    simp [evCode, evOps, evOne, evOp, evPur, evEff, evPur.chunks, fillP, AOp.isEff, AO.ev, putP, PV.cells, PV.leaf, getB, getM, mapE, keyC, mapRows, mfind, eq1, eqL, scal, binP, unP, minP, maxP, foldP, PV.lt, PV.lt.ltL, endP, expoAll, expo, expo.expoL, frIds, frIds.frIdsL, nodupN, kill, cls, clsFuel, resO, RV.get, loadP, evC_p, evC_s, endS, endT, rowsOf, callP, thinL, unfr, unfr.unfrL, PV.noMem, PV.noMem.noMemL, optI, mapO, norm, trimT, trimB, forget, hasN, blksLt, List.set, eS, aw, fw, b1, b2, b3, b4, b5, b6, b7, b8]
  · simp only [h, decide_false, eS] at fw
    refine evE_intro 3 D7 rfl ?_
    unfold c7
    simp [evCode, evOps, evOne, evOp, evPur, evEff, evPur.chunks, fillP, AOp.isEff, AO.ev, putP, PV.cells, PV.leaf, getB, getM, mapE, keyC, mapRows, mfind, eq1, eqL, scal, binP, unP, minP, maxP, foldP, PV.lt, PV.lt.ltL, endP, expoAll, expo, expo.expoL, frIds, frIds.frIdsL, nodupN, kill, cls, clsFuel, resO, RV.get, loadP, evC_p, evC_s, endS, endT, rowsOf, callP, thinL, unfr, unfr.unfrL, PV.noMem, PV.noMem.noMemL, optI, mapO, norm, trimT, trimB, forget, hasN, blksLt, List.set, eS, aw, fw]

set_option maxRecDepth 100000 in
/-- SpansLengths -/
theorem f6 (x y : Bool) (a b : List Sp) : evE Dg 6 [eS x a, eS y b] = some (.bool true) := by
  have aw := f10
  have fw := f9 x y a b
  by_cases h : a.length ≤ 25 ∧ b.length ≤ 25
  · obtain ⟨ha, hb⟩ := h
    have hm := meeF_bound ha hb
    have hn := minF_bound ha hb
    have hna := norF_len a
    have hnb := norF_len b
    have hu := norF_len (a ++ b)
    simp only [List.length_append] at hu
    obtain ⟨m1, m2⟩ := meeF_spec a b
    obtain ⟨n1, n2⟩ := minF_spec a b
    obtain ⟨u1, u2⟩ := uni_spec a b
    obtain ⟨A1, A2⟩ := norF_spec a
    obtain ⟨B1, B2⟩ := norF_spec b
    have b0 := f20 x y a b (by omega) (by omega)
    have b1 := f22 x y a b (by omega) (by omega)
    have b2 := f24 x y a b (by omega) (by omega)
    have b3 := f16 false (norF (a ++ b)) (by omega)
    have b4 := f16 false (meeF a b) (by omega)
    have b5 := f16 false (minF a b) (by omega)
    have c1 := f18 false (norF (a ++ b)) (by omega)
    have c2 := f18 false (meeF a b) (by omega)
    have c3 := f18 false (minF a b) (by omega)
    have c4 := f18 x a (by omega)
    have c5 := f18 y b (by omega)
    rw [norF_self u1] at c1
    rw [norF_self m1] at c2
    rw [norF_self n1] at c3
    have e1 : lenF (norF (a ++ b)) + lenF (meeF a b) = lenF (norF a) + lenF (norF b) := lenF_two A1 B1 u1 m1 (fun t => by rw [u2, A2, B2]) (fun t => by rw [m2, A2, B2])
    have e2 : lenF (norF a) + lenF [] = lenF (minF a b) + lenF (meeF a b) := lenF_two n1 m1 A1 nrm_nil (fun t => by
      rw [A2, n2, m2]
      by_cases h : setOf t b <;> simp [h]) (fun t => by
      rw [n2, m2]
      constructor
      · exact fun h => absurd h inS_nil
      · rintro ⟨⟨_, h⟩, _, h'⟩; exact absurd h' h)
    have l0 : lenF [] = 0 := rfl
    rw [l0, Int.add_zero] at e2
    have g1 := lenF_bound u1.1
    have g2 := lenF_bound m1.1
    have g3 := lenF_bound n1.1
    generalize norF (a ++ b) = U at *
    generalize meeF a b = M at *
    generalize minF a b = D at *
    generalize norF a = A at *
    generalize norF b = B at *
    unfold MT at g1 g2 g3
    have w1 := wrap_i64 (lenF A + lenF B) (by omega) (by omega)
    have w2 := wrap_i64 (lenF A) (by omega) (by omega)
    simp only [eS, ha, hb, and_self, decide_true, u1, m1, n1] at fw b0 b1 b2 b3 b4 b5 c1 c2 c3 c4 c5
    refine evE_intro 3 D6 rfl ?_
    unfold c6
    simp [evCode, evOps, evOne, evOp, evPur, evEff, evPur.chunks, fillP, AOp.isEff, AO.ev, putP, PV.cells, PV.leaf, getB, getM, mapE, keyC, mapRows, mfind, eq1, eqL, scal, binP, unP, minP, maxP, foldP, PV.lt, PV.lt.ltL, endP, expoAll, expo, expo.expoL, frIds, frIds.frIdsL, nodupN, kill, cls, clsFuel, resO, RV.get, loadP, evC_p, evC_s, endS, endT, rowsOf, callP, thinL, unfr, unfr.unfrL, PV.noMem, PV.noMem.noMemL, optI, mapO, norm, trimT, trimB, forget, hasN, blksLt, List.set, eS, aw, fw, b0, b1, b2, b3, b4, b5, c1, c2, c3, c4, c5, e1, ← e2, w1, w2]
  · simp only [h, decide_false, eS] at fw
    refine evE_intro 3 D6 rfl ?_
    unfold c6
    simp [evCode, evOps, evOne, evOp, evPur, evEff, evPur.chunks, fillP, AOp.isEff, AO.ev, putP, PV.cells, PV.leaf, getB, getM, mapE, keyC, mapRows, mfind, eq1, eqL, scal, binP, unP, minP, maxP, foldP, PV.lt, PV.lt.ltL, endP, expoAll, expo, expo.expoL, frIds, frIds.frIdsL, nodupN, kill, cls, clsFuel, resO, RV.get, loadP, evC_p, evC_s, endS, endT, rowsOf, callP, thinL, unfr, unfr.unfrL, PV.noMem, PV.noMem.noMemL, optI, mapO, norm, trimT, trimB, forget, hasN, blksLt, List.set, eS, aw, fw]
end Go.Proofs.Ytildbjepbnjbfaa
