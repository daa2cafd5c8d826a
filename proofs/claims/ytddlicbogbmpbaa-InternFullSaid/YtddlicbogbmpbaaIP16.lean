/- intern: InternFull. -/
import Derived.Test.YtddlicbogbmpbaaIP15
namespace Go.Proofs.Ytddlicbogbmpbaa
open Go Go.RowKit
set_option linter.unusedVariables false
set_option linter.unusedSimpArgs false
set_option maxHeartbeats 4000000

def nPV (k : Nat) (x : Bool) : PV := if k = 0 then .own 0 0 0 0 else eN x (wn (min k 1000))
def sPV (k : Nat) (x : Bool) : PV := if k = 0 then .own 1 0 0 0 else eSt x (wT (min k 1000))
def S7 (c : Nat) (k : Nat) (z : Bool × Bool) : St := ⟨[.top, .top, .top, .int .i64 c, nPV k z.1, sPV k z.2, .int .i64 k] ++ List.replicate 115 .top, [b0, b1]⟩

theorem wn_len (k : Nat) : (wn k).length = k := by simp [wn]
theorem wT_len (k : Nat) : (wT k).length = k := by simp [wT]

theorem p24 (n : Nat) (hn : n < 100000) (bl : Blks) : callP (evE Dg) bl false 24 [.int .i64 n] = some (.str (word n), []) := callP_unfr (f24 n hn) rfl rfl rfl
theorem unfr_lt (r : PV) : ∀ (h : (unfr r).lt 0 = true), True := fun _ => trivial
/-- the first call: nil slices -/
theorem p21n : ∃ x' y', ∀ g : Blks, callP (evE Dg) (b0 :: b1 :: g) false 21 [.own 0 0 0 0, .own 1 0 0 0, eTt [word 0]] = some (.tup [.int .i64 0, eN x' (wn 1), eSt y' (wT 1), .int .i64 0], []) := by
  obtain ⟨x, y, h⟩ := p21t false false [] [] [word 0] (by simp) (by simp)
  have e := put_new (k := 0) (by omega)
  have e' : putS [] [] [word 0] = (((0 : Nat) : Int), wn 1, wT 1, 0) := e
  rw [e'] at h
  have h0 := h []
  unfold callP at h0
  rw [if_pos (by rfl)] at h0
  refine ⟨x, y, fun g => ?_⟩
  cases hr : evE Dg 21 [eN false [], eSt false [], eTt [word 0]] with
  | none => rw [hr] at h0; simp at h0
  | some r =>
    rw [hr] at h0
    have hc : mapO (cls clsFuel (b0 :: b1 :: g)) [.own 0 0 0 0, .own 1 0 0 0, eTt [word 0]] = some [eN false [], eSt false [], eTt [word 0]] := by
      simp [mapO, cls, clsFuel, PV.lt, PV.lt.ltL, getB, mapE, b0, b1, eN, eSt, eTt]
    have ht : thinL [.own 0 0 0 0, .own 1 0 0 0, eTt [word 0]] [eN false [], eSt false [], eTt [word 0]] = true := by
      simp [thinL, PV.noMem, PV.lt, eN, eSt, eTt]
    unfold callP
    rw [if_neg (by simp [PV.lt.ltL, PV.lt]), hc]
    simp only
    rw [hr]
    simp only
    rw [ht, Bool.or_true, if_pos rfl]
    exact h0
/-- what a further word does -/
def ful (k : Nat) : Int × List (List UInt8) × List (Int × Int) × Int := if k < 1000 then (k, wn (k + 1), wT (k + 1), 0) else (0, wn 1000, wT 1000, 6)
theorem put_any {k : Nat} (hk : k < 1004) : putS (wn (min k 1000)) (wT (min k 1000)) [word k] = ful k := by
  unfold ful
  split
  · rename_i h
    rw [Nat.min_eq_left (by omega)]
    exact put_new h
  · rename_i h
    rw [Nat.min_eq_right (by omega)]
    exact put_full (by omega) hk
theorem p21k (k : Nat) (hk : k < 1004) (z : Bool × Bool) : ∃ x' y', callP (evE Dg) [b0, b1] false 21 [nPV k z.1, sPV k z.2, eTt [word k]] = some (.tup [.int .i64 (ful k).1, eN x' (wn (min (k + 1) 1000)), eSt y' (wT (min (k + 1) 1000)), .int .i64 (ful k).2.2.2], []) := by
  by_cases h0 : k = 0
  · subst h0
    obtain ⟨x, y, h⟩ := p21n
    exact ⟨x, y, h []⟩
  · obtain ⟨x, y, h⟩ := p21t z.1 z.2 (wn (min k 1000)) (wT (min k 1000)) [word k] (by rw [wn_len]; omega) (by rw [wT_len]; omega)
    rw [put_any hk] at h
    refine ⟨x, y, ?_⟩
    unfold nPV sPV
    rw [if_neg h0, if_neg h0, h]
    unfold ful
    split
    · rw [Nat.min_eq_left (by omega)]
    · rw [Nat.min_eq_right (by omega)]

set_option maxRecDepth 100000 in
theorem body7 (c k : Nat) (z : Bool × Bool) (f : Nat) (hc : c ≤ 1003) (hk : k < c) : ∃ z' s', evCode (evC Dg) f c7b0 (S7 c k z) = some (.normal s') ∧ norm [3, 4, 5, 6] 2 s' = S7 c (k + 1) z' := by
  obtain ⟨x, y, h⟩ := p21k k (by omega) z
  have h24 := p24 k (by omega)
  have hk' : (k : Int) < c := by omega
  have w := wrap_i64 ((k : Int) + 1) (by omega) (by omega)
  refine ⟨(x, y), ?_⟩
  have n1 : nPV (k + 1) x = eN x (wn (min (k + 1) 1000)) := by unfold nPV; rw [if_neg (by omega)]
  have n2 : sPV (k + 1) y = eSt y (wT (min (k + 1) 1000)) := by unfold sPV; rw [if_neg (by omega)]
  by_cases hA : k < 1000
  · have hA' : ¬ (1000 : Int) ≤ k := by omega
    have hf : ful k = ((k : Int), wn (k + 1), wT (k + 1), 0) := by unfold ful; rw [if_pos hA]
    rw [hf] at h
    simp only [b0, b1, eTt, eN, eSt, List.map_cons, List.map_nil] at h
    unfold c7b0
    simp [evCode, evOps, evOne, evOp, evPur, evEff, evPur.chunks, fillP, AOp.isEff, AO.ev, putP, PV.cells, PV.leaf, getB, getM, mapE, keyC, mapRows, mfind, eq1, eqL, scal, binP, unP, minP, maxP, foldP, PV.lt, PV.lt.ltL, endP, expoAll, expo, expo.expoL, frIds, frIds.frIdsL, nodupN, kill, resO, RV.get, loadP, evC_p, evC_s, endS, endT, rowsOf, thinL, unfr, unfr.unfrL, PV.noMem, PV.noMem.noMemL, optI, norm, trimT, trimB, forget, hasN, blksLt, List.set, S7, b0, b1, eN, eSt, hk', w, h24, h, hA', n1, n2]
  · have hA' : (1000 : Int) ≤ k := by omega
    have hf : ful k = (0, wn 1000, wT 1000, 6) := by unfold ful; rw [if_neg hA]
    have m1 : nPV k z.1 = eN z.1 (wn (min k 1000)) := by unfold nPV; rw [if_neg (by omega)]
    have m2 : sPV k z.2 = eSt z.2 (wT (min k 1000)) := by unfold sPV; rw [if_neg (by omega)]
    have l1 : (wn (min (k + 1) 1000)).length = 1000 := by rw [wn_len]; omega
    have l2 : (wT (min (k + 1) 1000)).length = 1000 := by rw [wT_len]; omega
    have l3 : (wn (min k 1000)).length = 1000 := by rw [wn_len]; omega
    have l4 : (wT (min k 1000)).length = 1000 := by rw [wT_len]; omega
    rw [hf, m1, m2] at h
    generalize wn (min (k + 1) 1000) = N at *
    generalize wT (min (k + 1) 1000) = T at *
    generalize wn (min k 1000) = N' at *
    generalize wT (min k 1000) = T' at *
    simp only [b0, b1, eTt, eN, eSt, List.map_cons, List.map_nil] at h
    unfold c7b0
    simp [evCode, evOps, evOne, evOp, evPur, evEff, evPur.chunks, fillP, AOp.isEff, AO.ev, putP, PV.cells, PV.leaf, getB, getM, mapE, keyC, mapRows, mfind, eq1, eqL, scal, binP, unP, minP, maxP, foldP, PV.lt, PV.lt.ltL, endP, expoAll, expo, expo.expoL, frIds, frIds.frIdsL, nodupN, kill, resO, RV.get, loadP, evC_p, evC_s, endS, endT, rowsOf, thinL, unfr, unfr.unfrL, PV.noMem, PV.noMem.noMemL, optI, norm, trimT, trimB, forget, hasN, blksLt, List.set, S7, b0, b1, eN, eSt, hk', w, h24, h, hA', n1, n2, m1, m2, l1, l2, l3, l4]

set_option maxRecDepth 100000 in
theorem f7 (b : Nat) (hb : b < 256) : evE Dg 7 [.int .u8 b] = some (.bool true) := by
  refine evE_intro 2000 D7 rfl ?_
  have h9 := p9
  obtain ⟨c, hc⟩ : ∃ c, c = 997 + b % 7 := ⟨_, rfl⟩
  have t1 : (b : Int).tmod 7 = (b : Int) % 7 := Int.tmod_eq_emod_of_nonneg (by omega)
  have w1 : IntKind.i64.wrap ((b : Int) % 7) = (b : Int) % 7 := wrap_i64 _ (by omega) (by omega)
  have w2 : IntKind.i64.wrap (997 + (b : Int) % 7) = (c : Int) := by rw [wrap_i64 _ (by omega) (by omega)]; omega
  have H := loop_inv (body := evCode (evC Dg) 2000 c7b0) (keep := [3, 4, 5, 6]) (n0 := 2) (fuel := 2000) (List.range c) (S7 c) (fun _ _ => True) (fun _ => False)
    (by
      intro k a x ha hk hI
      rw [List.length_range] at hk
      obtain ⟨z', s', g1, g2⟩ := body7 c k x 2000 (by omega) hk
      exact .inl ⟨z', s', g1, g2, trivial⟩)
    (by
      intro x hI t
      rw [List.length_range]
      unfold c7b0
      simp [evCode, evOps, evOne, evOp, evPur, evEff, evPur.chunks, fillP, AOp.isEff, AO.ev, putP, PV.cells, PV.leaf, getB, getM, mapE, keyC, mapRows, mfind, eq1, eqL, scal, binP, unP, minP, maxP, foldP, PV.lt, PV.lt.ltL, endP, expoAll, expo, expo.expoL, frIds, frIds.frIdsL, nodupN, kill, cls, clsFuel, resO, RV.get, loadP, evC_p, evC_s, endS, endT, rowsOf, callP, thinL, unfr, unfr.unfrL, PV.noMem, PV.noMem.noMemL, optI, mapO, norm, trimT, trimB, forget, hasN, blksLt, List.set, S7]) (by rw [List.length_range]; omega) (false, false) trivial
  rw [List.length_range] at H
  unfold c7
  simp [evCode, evOps, evOne, evOp, evPur, evEff, evPur.chunks, fillP, AOp.isEff, AO.ev, putP, PV.cells, PV.leaf, getB, getM, mapE, keyC, mapRows, mfind, eq1, eqL, scal, binP, unP, minP, maxP, foldP, PV.lt, PV.lt.ltL, endP, expoAll, expo, expo.expoL, frIds, frIds.frIdsL, nodupN, kill, resO, RV.get, loadP, evC_p, evC_s, endS, endT, rowsOf, thinL, unfr, unfr.unfrL, PV.noMem, PV.noMem.noMemL, optI, norm, trimT, trimB, forget, hasN, blksLt, List.set, t1, w1, w2]
  generalize hE : evLoop _ _ _ _ _ = E
  rcases H _ _ hE (by simp [evCode, evOps, evOne, evOp, evPur, evEff, evPur.chunks, fillP, AOp.isEff, AO.ev, putP, PV.cells, PV.leaf, getB, getM, mapE, keyC, mapRows, mfind, eq1, eqL, scal, binP, unP, minP, maxP, foldP, PV.lt, PV.lt.ltL, endP, expoAll, expo, expo.expoL, frIds, frIds.frIdsL, nodupN, kill, cls, clsFuel, resO, RV.get, loadP, evC_p, evC_s, endS, endT, rowsOf, callP, thinL, unfr, unfr.unfrL, PV.noMem, PV.noMem.noMemL, optI, mapO, norm, trimT, trimB, forget, hasN, blksLt, List.set, S7, nPV, sPV, b0, b1]) with ⟨z, _, g⟩ | ⟨_, _, h⟩
  · rw [g]
    have m1 : nPV c z.1 = eN z.1 (wn (min c 1000)) := by unfold nPV; rw [if_neg (by omega)]
    have m2 : sPV c z.2 = eSt z.2 (wT (min c 1000)) := by unfold sPV; rw [if_neg (by omega)]
    obtain ⟨x, y, h⟩ := p21t z.1 z.2 (wn (min c 1000)) (wT (min c 1000)) [word 5] (by rw [wn_len]; omega) (by rw [wT_len]; omega)
    rw [put_old (by omega) (by omega)] at h
    have h24 : ∀ bl, callP (evE Dg) bl false 24 [.int .i64 5] = some (.str (word 5), []) := fun bl => p24 5 (by omega) bl
    obtain ⟨m, hm⟩ : ∃ m, min c 1000 = m := ⟨_, rfl⟩
    have l1 : (wn (min c 1000)).length = m := by rw [wn_len, hm]
    have l2 : (wT (min c 1000)).length = m := by rw [wT_len, hm]
    by_cases hcc : (1000 : Int) < c
    · have l3 : m = 1000 := by omega
      generalize wn (min c 1000) = N' at *
      generalize wT (min c 1000) = T' at *
      subst l3
      simp only [eTt, eN, eSt, List.map_cons, List.map_nil] at h
      unfold c7b0 c7r0
      simp [evCode, evOps, evOne, evOp, evPur, evEff, evPur.chunks, fillP, AOp.isEff, AO.ev, putP, PV.cells, PV.leaf, getB, getM, mapE, keyC, mapRows, mfind, eq1, eqL, scal, binP, unP, minP, maxP, foldP, PV.lt, PV.lt.ltL, endP, expoAll, expo, expo.expoL, frIds, frIds.frIdsL, nodupN, kill, resO, RV.get, loadP, evC_p, evC_s, endS, endT, rowsOf, thinL, unfr, unfr.unfrL, PV.noMem, PV.noMem.noMemL, optI, norm, trimT, trimB, forget, hasN, blksLt, List.set, S7, b0, b1, eN, eSt, h24, h, m1, m2, l1, l2, hcc, h9, cls, clsFuel, mapO]
    · have l3 : (m : Int) = c := by omega
      generalize wn (min c 1000) = N' at *
      generalize wT (min c 1000) = T' at *
      simp only [eTt, eN, eSt, List.map_cons, List.map_nil] at h
      unfold c7b0 c7r0
      simp [evCode, evOps, evOne, evOp, evPur, evEff, evPur.chunks, fillP, AOp.isEff, AO.ev, putP, PV.cells, PV.leaf, getB, getM, mapE, keyC, mapRows, mfind, eq1, eqL, scal, binP, unP, minP, maxP, foldP, PV.lt, PV.lt.ltL, endP, expoAll, expo, expo.expoL, frIds, frIds.frIdsL, nodupN, kill, resO, RV.get, loadP, evC_p, evC_s, endS, endT, rowsOf, thinL, unfr, unfr.unfrL, PV.noMem, PV.noMem.noMemL, optI, norm, trimT, trimB, forget, hasN, blksLt, List.set, S7, b0, b1, eN, eSt, h24, h, m1, m2, l1, l2, l3, hcc, h9, cls, clsFuel, mapO]
  · exact h.elim
end Go.Proofs.Ytddlicbogbmpbaa
