/- frac: Sum; FracLong, FracCancels. -/
import Derived.Test.YtddglikicokpeaaDoorFrX
namespace Go.Proofs.YtddglikicokpeaaDoor
open Go Go.RowKit
set_option linter.unusedVariables false
set_option linter.unusedSimpArgs false
set_option maxHeartbeats 4000000

theorem numS_app (m : Nat) : ∀ (l : List Fr) (a : Fr), numS m (l ++ [a]) = numS m l + a.1 * ((m / a.2.natAbs : Nat) : Int)
  | [], a => by simp [numS]
  | b :: l, a => by simp only [List.cons_append, numS, numS_app m l a]; omega
def S27 (ex : Bool) (l : List Fr) (c : Nat) (k : Nat) (z : Int) : St :=
  ⟨[.top, .top, .ptr 0 1 0 0, .top, .int .i64 c, .top, .ptr 1 1 0 0, .top, .top, .top, .top, .top, .top, .top, .top, .top, .top, .sl ex 2 (rFs l), .int .i64 l.length, .int .i64 k] ++ List.replicate 18 .top,
   [some ⟨1, 2, true, [[.int .i64 0, .int .i64 0]]⟩, some ⟨1, 2, true, [[.int .u64 (hiZ z), .int .u64 (loZ z)]]⟩]⟩
set_option maxRecDepth 100000 in
theorem step27 (ex : Bool) (l : List Fr) (hl : l.length ≤ 20000) (hok : okL l) (k : Nat) (z : Int) (a : Fr) (ha : l[k]? = some a) :
    ∃ s', evCode (evC Dg) 30000 c27b0 (S27 ex l (lcmF 1 l) k z) = some (.normal s') ∧ norm [2, 4, 6, 17, 18, 19] 2 s' = S27 ex l (lcmF 1 l) (k + 1) (z + a.1 * ((lcmF 1 l / a.2.natAbs : Nat) : Int)) := by
  have hk := (List.getElem?_eq_some_iff.1 ha).1
  have hk' : (k : Int) < l.length := by omega
  have w1 := wrap_i64 ((k : Int) + 1) (by omega) (by omega)
  have eL := rFs_len l
  have eg := rFs_get ha
  have eg' := rFs_getE ha
  have ham := List.mem_of_getElem? ha
  obtain ⟨a1, a2, a3, a4, a5⟩ := hok.1 a ham
  have hle := hok.2
  have t1 : ((lcmF 1 l : Nat) : Int).tdiv a.2 = ((lcmF 1 l / a.2.natAbs : Nat) : Int) := by rw [← tdivN]; congr 1; omega
  have l1 : lcmF 1 l / a.2.natAbs ≤ lcmF 1 l := Nat.div_le_self _ _
  have u1 := wI _ _ l1 (by omega)
  have q1 := f39 a.1 ((lcmF 1 l / a.2.natAbs : Nat) : Int) ⟨by omega, by omega⟩ (i64N _ _ l1 (by omega)) (Int.natCast_nonneg _)
  have q2 := f40 z (a.1 * ((lcmF 1 l / a.2.natAbs : Nat) : Int))
  have d0 : ¬ a.2 = 0 := by omega
  generalize lcmF 1 l / a.2.natAbs = X at *
  generalize lcmF 1 l = M at *
  simp only [eZ] at q1 q2
  unfold c27b0
  simp [evCode, evOps, evOne, evOp, evPur, evEff, evPur.chunks, fillP, AOp.isEff, AO.ev, putP, PV.cells, PV.leaf, getB, getM, mapE, iterE, keyC, mapRows, mfind, eq1, eqL, scal, binP, unP, minP, maxP, foldP, PV.lt, PV.lt.ltL, endP, expoAll, expoG, expo, expo.expoL, frIds, frIds.frIdsL, nodupN, kill, cls, clsFuel, resO, RV.get, loadP, evC_p, evC_s, endS, endT, rowsOf, callP, thinL, unfr, unfr.unfrL, PV.noMem, PV.noMem.noMemL, optI, mapO, norm, trimT, trimB, forget, hasN, blksLt, List.set, softChk, softGo, softRd, effTg, rdP, S27, rF, eL, eg, eg', hk, hk', w1, t1, u1, q1, q2, d0]
set_option maxRecDepth 100000 in
theorem f27 (ex : Bool) (l : List Fr) (hll : l.length ≤ 1000000) (h64 : ∀ a ∈ l, i64F a) : evE Dg 27 [.sl ex 2 (rFs l)] = some (eR (sumS l)) := by
  have eL := rFs_len l
  have q51 := f51 ex l hll h64
  unfold denR at q51
  unfold sumS
  by_cases hc : l.length ≤ 20000 ∧ okL l
  · rw [if_pos hc] at q51
    rw [if_pos hc]
    obtain ⟨hl, hok⟩ := hc
    have hpos := lcmF_pos hok.1 1 (by omega)
    have hdv := ((lcmF_dvd l 1 (lcmF 1 l)).1 (Nat.dvd_refl _)).2
    have hnum := numS_R hpos hok.1 hdv
    have habs := numS_abs hok.2 hok.1
    have hH : ∀ (s0 : St) (E : Option Out), evLoop (evCode (evC Dg) 30000 c27b0) [2, 4, 6, 17, 18, 19] 2 30000 s0 = E → norm [2, 4, 6, 17, 18, 19] 2 s0 = S27 ex l (lcmF 1 l) 0 0 →
      (∃ z, z = numS (lcmF 1 l) (l.take l.length) ∧ E = evCode (evC Dg) 30000 c27b0 (S27 ex l (lcmF 1 l) l.length z)) ∨ (∃ s, E = some (.ret s) ∧ False) := by
      intro s0 E hE h0
      refine loop_inv (body := evCode (evC Dg) 30000 c27b0) (keep := [2, 4, 6, 17, 18, 19]) (n0 := 2) (fuel := 30000) l (S27 ex l (lcmF 1 l)) (fun k z => z = numS (lcmF 1 l) (l.take k)) (fun _ => False) ?_ ?_ (by omega) 0 rfl s0 E hE h0
      · intro k a z ha hk hz
        left
        obtain ⟨s', x1, x2⟩ := step27 ex l hl hok k z a ha
        refine ⟨_, s', x1, x2, ?_⟩
        rw [List.take_add_one, ha, hz]
        exact (numS_app _ _ _).symm
      · intro z _ s
        unfold c27b0
        simp [evCode, evOps, evOne, evOp, evPur, evEff, evPur.chunks, fillP, AOp.isEff, AO.ev, putP, PV.cells, PV.leaf, getB, getM, mapE, iterE, keyC, mapRows, mfind, eq1, eqL, scal, binP, unP, minP, maxP, foldP, PV.lt, PV.lt.ltL, endP, expoAll, expoG, expo, expo.expoL, frIds, frIds.frIdsL, nodupN, kill, cls, clsFuel, resO, RV.get, loadP, evC_p, evC_s, endS, endT, rowsOf, callP, thinL, unfr, unfr.unfrL, PV.noMem, PV.noMem.noMemL, optI, mapO, norm, trimT, trimB, forget, hasN, blksLt, List.set, softChk, softGo, softRd, effTg, rdP, S27, eL]
    have q52 := f52 (numS (lcmF 1 l) l) (lcmF 1 l) (by
      have : l.length * 4611686018427387904000000000000000 ≤ 20000 * 4611686018427387904000000000000000 := Nat.mul_le_mul_right _ hl
      omega) hpos hok.2
    rw [made_toF hpos, sgn_of _ _ rfl, hnum] at q52
    rw [List.take_length] at hH
    generalize numS (lcmF 1 l) l = z at *
    generalize toF (sumR l) = r at *
    clear hdv hnum habs hok
    generalize lcmF 1 l = M at *
    obtain ⟨⟨r1, r2⟩, r3⟩ := r
    simp only [eR, eF, eZ] at q52 ⊢
    refine evE_intro 30000 D27 rfl ?_
    unfold c27
    simp [evCode, evOps, evOne, evOp, evPur, evEff, evPur.chunks, fillP, AOp.isEff, AO.ev, putP, PV.cells, PV.leaf, getB, getM, mapE, iterE, keyC, mapRows, mfind, eq1, eqL, scal, binP, unP, minP, maxP, foldP, PV.lt, PV.lt.ltL, endP, expoAll, expoG, expo, expo.expoL, frIds, frIds.frIdsL, nodupN, kill, cls, clsFuel, resO, RV.get, loadP, evC_p, evC_s, endS, endT, rowsOf, callP, thinL, unfr, unfr.unfrL, PV.noMem, PV.noMem.noMemL, optI, mapO, norm, trimT, trimB, forget, hasN, blksLt, List.set, softChk, softGo, softRd, effTg, rdP, eL, q51]
    generalize hE : evLoop (evCode (evC Dg) 30000 c27b0) [2, 4, 6, 17, 18, 19] 2 30000 _ = E
    rcases hH _ E hE (by simp [evCode, evOps, evOne, evOp, evPur, evEff, evPur.chunks, fillP, AOp.isEff, AO.ev, putP, PV.cells, PV.leaf, getB, getM, mapE, iterE, keyC, mapRows, mfind, eq1, eqL, scal, binP, unP, minP, maxP, foldP, PV.lt, PV.lt.ltL, endP, expoAll, expoG, expo, expo.expoL, frIds, frIds.frIdsL, nodupN, kill, cls, clsFuel, resO, RV.get, loadP, evC_p, evC_s, endS, endT, rowsOf, callP, thinL, unfr, unfr.unfrL, PV.noMem, PV.noMem.noMemL, optI, mapO, norm, trimT, trimB, forget, hasN, blksLt, List.set, softChk, softGo, softRd, effTg, rdP, S27]; exact ⟨rfl, rfl⟩) with ⟨z', hz', rfl⟩ | ⟨_, _, h⟩
    · subst hz'
      unfold c27b0 c27r0
      simp [evCode, evOps, evOne, evOp, evPur, evEff, evPur.chunks, fillP, AOp.isEff, AO.ev, putP, PV.cells, PV.leaf, getB, getM, mapE, iterE, keyC, mapRows, mfind, eq1, eqL, scal, binP, unP, minP, maxP, foldP, PV.lt, PV.lt.ltL, endP, expoAll, expoG, expo, expo.expoL, frIds, frIds.frIdsL, nodupN, kill, cls, clsFuel, resO, RV.get, loadP, evC_p, evC_s, endS, endT, rowsOf, callP, thinL, unfr, unfr.unfrL, PV.noMem, PV.noMem.noMemL, optI, mapO, norm, trimT, trimB, forget, hasN, blksLt, List.set, softChk, softGo, softRd, effTg, rdP, S27, eL, q52]
    · exact h.elim
  · rw [if_neg hc] at q51
    rw [if_neg hc]
    refine evE_intro 1 D27 rfl ?_
    unfold c27
    simp [evCode, evOps, evOne, evOp, evPur, evEff, evPur.chunks, fillP, AOp.isEff, AO.ev, putP, PV.cells, PV.leaf, getB, getM, mapE, iterE, keyC, mapRows, mfind, eq1, eqL, scal, binP, unP, minP, maxP, foldP, PV.lt, PV.lt.ltL, endP, expoAll, expoG, expo, expo.expoL, frIds, frIds.frIdsL, nodupN, kill, cls, clsFuel, resO, RV.get, loadP, evC_p, evC_s, endS, endT, rowsOf, callP, thinL, unfr, unfr.unfrL, PV.noMem, PV.noMem.noMemL, optI, mapO, norm, trimT, trimB, forget, hasN, blksLt, List.set, softChk, softGo, softRd, effTg, rdP, eL, q51, eR, eF]
theorem f30 (n d : Int) : evE Dg 30 [.int .i64 n, .int .i64 d] = some (eF (n, d)) := by
  refine evE_intro 1 D30 rfl ?_
  unfold c30
  simp [evCode, evOps, evOne, evOp, evPur, evEff, evPur.chunks, fillP, AOp.isEff, AO.ev, putP, PV.cells, PV.leaf, getB, getM, mapE, iterE, keyC, mapRows, mfind, eq1, eqL, scal, binP, unP, minP, maxP, foldP, PV.lt, PV.lt.ltL, endP, expoAll, expoG, expo, expo.expoL, frIds, frIds.frIdsL, nodupN, kill, cls, clsFuel, resO, RV.get, loadP, evC_p, evC_s, endS, endT, rowsOf, callP, thinL, unfr, unfr.unfrL, PV.noMem, PV.noMem.noMemL, optI, mapO, norm, trimT, trimB, forget, hasN, blksLt, List.set, softChk, softGo, softRd, effTg, rdP, eF]
end Go.Proofs.YtddglikicokpeaaDoor
