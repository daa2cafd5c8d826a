/- spans: the law on orders and repetitions, of pure arguments. -/
import Derived.Test.YtildbjepbnjbfaaSpL
namespace Go.Proofs.Ytildbjepbnjbfaa
open Go Go.RowKit
set_option linter.unusedVariables false
set_option linter.unusedSimpArgs false
set_option maxHeartbeats 8000000

/-- the list turned round, each span twice -/
def dblF (l : List Sp) (m : Nat) : List Sp := (l.drop m).reverse.flatMap fun s => [s, s]
theorem dblF_step {l : List Sp} {j : Nat} {a : Sp} (h : l[j]? = some a) : dblF l j = dblF l (j + 1) ++ [a, a] := by
  obtain ⟨h1, e⟩ := List.getElem?_eq_some_iff.1 h
  unfold dblF
  rw [List.drop_eq_getElem_cons h1, e, List.reverse_cons, List.flatMap_append]
  rfl
theorem dblF_len (l : List Sp) (m : Nat) : (dblF l m).length ≤ 2 * l.length := by
  have : ∀ q : List Sp, (q.flatMap fun s => [s, s]).length = 2 * q.length := by
    intro q
    induction q with
    | nil => rfl
    | cons s q ih =>
      rw [List.flatMap_cons, List.length_append, ih]
      simp only [List.length_cons, List.length_nil]
      omega
  unfold dblF
  rw [this, List.length_reverse, List.length_drop]
  omega
theorem dblF_mem (l : List Sp) (s : Sp) : s ∈ dblF l 0 ↔ s ∈ l := by
  unfold dblF
  simp [List.mem_flatMap]
theorem norF_dbl (l : List Sp) : norF (dblF l 0) = norF l := by
  obtain ⟨a, b⟩ := norF_spec l
  exact norF_eq a fun t => by rw [b, setOf_perm (dblF_mem l)]
def S8 (x : Bool) (l n : List Sp) (m : Nat) : St :=
  ⟨[eS x l, .top, .top, eS false n, .own 0 (dblF l m).length 0 (dblF l m).length, .int .i64 ((m : Int) - 1)] ++ List.replicate 50 .top, [some ⟨(dblF l m).length, 2, true, spRows (dblF l m)⟩]⟩
set_option maxRecDepth 100000 in
theorem turn8 (x : Bool) (l n : List Sp) (hN : l.length ≤ 25) (E : Option Out) (s0 : St)
    (hE : evLoop (evCode (evC Dg) 70 c8b0) [0, 3, 4, 5] 1 70 s0 = E) (h0 : norm [0, 3, 4, 5] 1 s0 = S8 x l n l.length) :
    E = evCode (evC Dg) 70 c8b0 (S8 x l n 0) := by
  have e1 := spRows_len l
  have H := loop_stop (body := evCode (evC Dg) 70 c8b0) (keep := [0, 3, 4, 5]) (n0 := 1) (fuel := 70) (S8 x l n) (fun m => m) (fun m => m ≤ l.length) (fun m => m = 0)
    (by
      intro m hm hs
      obtain ⟨j, rfl⟩ : ∃ j, m = j + 1 := ⟨m - 1, by omega⟩
      obtain ⟨a, ha⟩ : ∃ a, l[j]? = some a := ⟨_, List.getElem?_eq_getElem (by omega)⟩
      have r1 := spRows_get ha
      have g1 := spRows_got ha
      have hr := dblF_step ha
      have hlen := dblF_len l (j + 1)
      obtain ⟨R, hR⟩ := ex_eq (dblF l (j + 1))
      rw [hR] at hr hlen
      have e2 := spRows_len R
      have e3 := spRows_app R [a, a]
      have e4 : spRows [a, a] = [[.int .i64 a.1, .int .i64 a.2], [.int .i64 a.1, .int .i64 a.2]] := rfl
      have hj' : (j : Int) < l.length := by omega
      have hj : j < l.length := by omega
      have w0 : IntKind.i64.wrap ((j : Int) - 1) = (j : Int) - 1 := wrap_i64 _ (by omega) (by omega)
      have m1 : (R.length + 2) * 16 ≤ 140737488355328 := by omega
      have m2 : R.length + 2 ≤ 140737488355328 := by omega
      refine ⟨j, ?_⟩
      unfold c8b0
      simp [evCode, evOps, evOne, evOp, evPur, evEff, evPur.chunks, fillP, AOp.isEff, AO.ev, putP, PV.cells, PV.leaf, getB, getM, mapE, keyC, mapRows, mfind, eq1, eqL, scal, binP, unP, minP, maxP, foldP, PV.lt, PV.lt.ltL, endP, expoAll, expo, expo.expoL, frIds, frIds.frIdsL, nodupN, kill, cls, clsFuel, resO, RV.get, loadP, evC_p, evC_s, endS, endT, rowsOf, callP, thinL, unfr, unfr.unfrL, PV.noMem, PV.noMem.noMemL, optI, mapO, norm, trimT, trimB, forget, hasN, blksLt, List.set, S8, eS, e1, e2, hR, hr, e3, e4, r1, g1, hj', hj, w0, m1, m2]
      omega)
    (by
      intro m _ hm s
      subst hm
      unfold c8b0
      simp [evCode, evOps, evOne, evOp, evPur, evEff, evPur.chunks, fillP, AOp.isEff, AO.ev, putP, PV.cells, PV.leaf, getB, getM, mapE, keyC, mapRows, mfind, eq1, eqL, scal, binP, unP, minP, maxP, foldP, PV.lt, PV.lt.ltL, endP, expoAll, expo, expo.expoL, frIds, frIds.frIdsL, nodupN, kill, cls, clsFuel, resO, RV.get, loadP, evC_p, evC_s, endS, endT, rowsOf, callP, thinL, unfr, unfr.unfrL, PV.noMem, PV.noMem.noMemL, optI, mapO, norm, trimT, trimB, forget, hasN, blksLt, List.set, S8, eS])
    l.length (Nat.le_refl _) (by omega) s0 E hE (by rw [h0])
  obtain ⟨m, _, hm, h⟩ := H
  subst hm
  exact h
theorem noMem_sp (l : List Sp) : PV.noMem.noMemLL (spRows l) = true := by
  induction l with
  | nil => rfl
  | cons s l ih => exact ih
set_option maxRecDepth 100000 in
/-- SpansStable -/
theorem f8 (x : Bool) (l : List Sp) : evE Dg 8 [eS x l] = some (.bool true) := by
  have aw := f10
  have fw := f9n x l
  by_cases h : l.length ≤ 25
  · have hna := norF_len l
    have hd := dblF_len l 0
    obtain ⟨A1, _⟩ := norF_spec l
    have b1 := f14 x l (by omega)
    have b2 := f16 false (norF l) (by omega)
    have b3 := f14 false (norF l) (by omega)
    have b4 := f13 false false (norF l) (norF l) (by omega)
    have b5 := f14 false (dblF l 0) (by omega)
    have b6 := f16 x l (by omega)
    have b7 := f13 false x (norF l) l (by omega)
    rw [norF_self A1] at b3
    rw [norF_dbl] at b5
    have hdec : decide (norF l = l) = decide (Nrm l) := by
      by_cases h : Nrm l
      · simp [h, norF_self h]
      · have : ¬ norF l = l := fun e => h (norF_same.1 e)
        simp [h, this]
    rw [hdec] at b7
    have T := turn8 x l (norF l) h
    have e1 := spRows_len l
    have w0 : IntKind.i64.wrap ((l.length : Int) - 1) = (l.length : Int) - 1 := wrap_i64 _ (by omega) (by omega)
    have hd0 : dblF l l.length = [] := by unfold dblF; rw [List.drop_length]; rfl
    generalize norF l = A at *
    have nm := noMem_sp A
    obtain ⟨R, hR⟩ := ex_eq (dblF l 0)
    rw [hR] at b5
    have e2 := spRows_len R
    have tk : List.take R.length (spRows R) = spRows R := by rw [← e2, List.take_length]
    generalize decide (Nrm l) = D at *
    simp only [eS, h, decide_true, A1] at fw b1 b2 b3 b4 b5 b6 b7
    refine evE_intro 70 D8 rfl ?_
    unfold c8
    simp [evCode, evOps, evOne, evOp, evPur, evEff, evPur.chunks, fillP, AOp.isEff, AO.ev, putP, PV.cells, PV.leaf, getB, getM, mapE, keyC, mapRows, mfind, eq1, eqL, scal, binP, unP, minP, maxP, foldP, PV.lt, PV.lt.ltL, endP, expoAll, expo, expo.expoL, frIds, frIds.frIdsL, nodupN, kill, cls, clsFuel, resO, RV.get, loadP, evC_p, evC_s, endS, endT, rowsOf, callP, thinL, unfr, unfr.unfrL, PV.noMem, PV.noMem.noMemL, optI, mapO, norm, trimT, trimB, forget, hasN, blksLt, List.set, eS, aw, fw, b1, e1, w0]
    generalize hE : evLoop _ _ _ _ _ = E
    have g := T _ _ hE (by simp [evCode, evOps, evOne, evOp, evPur, evEff, evPur.chunks, fillP, AOp.isEff, AO.ev, putP, PV.cells, PV.leaf, getB, getM, mapE, keyC, mapRows, mfind, eq1, eqL, scal, binP, unP, minP, maxP, foldP, PV.lt, PV.lt.ltL, endP, expoAll, expo, expo.expoL, frIds, frIds.frIdsL, nodupN, kill, cls, clsFuel, resO, RV.get, loadP, evC_p, evC_s, endS, endT, rowsOf, callP, thinL, unfr, unfr.unfrL, PV.noMem, PV.noMem.noMemL, optI, mapO, norm, trimT, trimB, forget, hasN, blksLt, List.set, S8, eS, hd0, spRows_nil])
    rw [g]
    clear hE g
    unfold c8b0 c8r0
    cases D
    · simp [evCode, evOps, evOne, evOp, evPur, evEff, evPur.chunks, fillP, AOp.isEff, AO.ev, putP, PV.cells, PV.leaf, getB, getM, mapE, keyC, mapRows, mfind, eq1, eqL, scal, binP, unP, minP, maxP, foldP, PV.lt, PV.lt.ltL, endP, expoAll, expo, expo.expoL, frIds, frIds.frIdsL, nodupN, kill, cls, clsFuel, resO, RV.get, loadP, evC_p, evC_s, endS, endT, rowsOf, callP, thinL, unfr, unfr.unfrL, PV.noMem, PV.noMem.noMemL, optI, mapO, norm, trimT, trimB, forget, hasN, blksLt, List.set, S8, eS, hR, e2, tk, nm, b2, b3, b4, b5, b6, b7]
    · simp [evCode, evOps, evOne, evOp, evPur, evEff, evPur.chunks, fillP, AOp.isEff, AO.ev, putP, PV.cells, PV.leaf, getB, getM, mapE, keyC, mapRows, mfind, eq1, eqL, scal, binP, unP, minP, maxP, foldP, PV.lt, PV.lt.ltL, endP, expoAll, expo, expo.expoL, frIds, frIds.frIdsL, nodupN, kill, cls, clsFuel, resO, RV.get, loadP, evC_p, evC_s, endS, endT, rowsOf, callP, thinL, unfr, unfr.unfrL, PV.noMem, PV.noMem.noMemL, optI, mapO, norm, trimT, trimB, forget, hasN, blksLt, List.set, S8, eS, hR, e2, tk, nm, b2, b3, b4, b5, b6, b7]
  · simp only [h, decide_false, eS] at fw
    refine evE_intro 70 D8 rfl ?_
    unfold c8
    simp [evCode, evOps, evOne, evOp, evPur, evEff, evPur.chunks, fillP, AOp.isEff, AO.ev, putP, PV.cells, PV.leaf, getB, getM, mapE, keyC, mapRows, mfind, eq1, eqL, scal, binP, unP, minP, maxP, foldP, PV.lt, PV.lt.ltL, endP, expoAll, expo, expo.expoL, frIds, frIds.frIdsL, nodupN, kill, cls, clsFuel, resO, RV.get, loadP, evC_p, evC_s, endS, endT, rowsOf, callP, thinL, unfr, unfr.unfrL, PV.noMem, PV.noMem.noMemL, optI, mapO, norm, trimT, trimB, forget, hasN, blksLt, List.set, eS, aw, fw]
theorem law8 (ps : List PV) (h : ArgL Try.prog 12 [22] ps) : evE Dg 8 ps = some (.bool true) := by
  obtain ⟨p, rfl, h1⟩ := argL1 h
  obtain ⟨a, rfl⟩ := in_spans h1
  exact f8 false a
end Go.Proofs.Ytildbjepbnjbfaa
