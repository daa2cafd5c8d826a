/- num: the reference's Text. -/
import Derived.Test.YtnodcoemjojlhaaDoorEvP
import Derived.Test.YtnodcoemjojlhaaDoorNtA
import Derived.Test.YtnodcoemjojlhaaDoorNuF
import Derived.Test.YtnodcoemjojlhaaDoorAw
namespace Go.Proofs.YtnodcoemjojlhaaDoor
open Go Go.RowKit Go.Lib
set_option linter.unusedVariables false
set_option linter.unusedSimpArgs false
set_option maxHeartbeats 8000000

theorem itoa_pos (u : Nat) (h : u < 10) : itoa (u : Int) = [UInt8.ofNat (48 + u)] := by
  unfold itoa
  rw [if_neg (by omega), decDigits, dif_pos (by omega)]
  simp
theorem itoa_min (u : Nat) (h : u < 10) (h0 : 0 < u) : itoa (-(u : Int)) = [45, UInt8.ofNat (48 + u)] := by
  unfold itoa
  rw [if_pos (by omega), decDigits, dif_pos (by omega)]
  simp
def isS : Option PV → List UInt8 → Bool
  | some (.str a), b => a == b
  | _, _ => false
theorem isS_eq {x : Option PV} {b : List UInt8} (h : isS x b = true) : x = some (.str b) := by
  unfold isS at h
  split at h
  · simp at h; subst h; rfl
  · cases h
theorem small_pos : (List.range 10).all (fun n => isS ((evF Dg 12).p 26 [.int .i64 (n : Int)]) [UInt8.ofNat (48 + n)]) = true := by kernel_rfl
theorem small_min : (List.range 9).all (fun n => isS ((evF Dg 12).p 26 [.int .i64 (-((n + 1 : Nat) : Int))]) [45, UInt8.ofNat (48 + (n + 1))]) = true := by kernel_rfl
theorem f26_small (n : Int) (h : -10 < n ∧ n < 10) : evE Dg 26 [.int .i64 n] = some (.str (itoa n)) := by
  by_cases h0 : 0 ≤ n
  · obtain ⟨u, rfl⟩ := Int.eq_ofNat_of_zero_le h0
    have := List.all_eq_true.1 small_pos u (List.mem_range.2 (by omega))
    rw [itoa_pos u (by omega)]
    exact evE_of (isS_eq this)
  · obtain ⟨u, hu⟩ := Int.eq_ofNat_of_zero_le (show 0 ≤ -n - 1 by omega)
    have e : n = -((u + 1 : Nat) : Int) := by omega
    have := List.all_eq_true.1 small_min u (List.mem_range.2 (by omega))
    rw [e, itoa_min (u + 1) (by omega) (by omega)]
    exact evE_of (isS_eq this)
theorem rem_pos (n : Int) (h : 0 ≤ n) : n.tmod 10 = ((n.natAbs % 10 : Nat) : Int) := by
  rw [Int.tmod_eq_emod_of_nonneg h]; omega
theorem rem_neg (n : Int) (h : n < 0) : n.tmod 10 = -((n.natAbs % 10 : Nat) : Int) := by
  have : n.tmod 10 = -((-n).tmod 10) := by rw [Int.neg_tmod, Int.neg_neg]
  rw [this, Int.tmod_eq_emod_of_nonneg (by omega)]; omega
def dgs : List UInt8 := [48, 49, 50, 51, 52, 53, 54, 55, 56, 57]
theorem dgs_at : ∀ d : _root_.Fin 10, (dgs.take (d.val + 1)).drop d.val = [UInt8.ofNat (48 + d.val)] := by decide
set_option maxRecDepth 100000 in
theorem f26 (n : Int) (hn : -9223372036854775808 ≤ n ∧ n ≤ 9223372036854775807) : evE Dg 26 [.int .i64 n] = some (.str (itoa n)) := by
  generalize hk : n.natAbs = k
  induction k using Nat.strongRecOn generalizing n with
  | _ k ih =>
    by_cases hs : -10 < n ∧ n < 10
    · exact f26_small n hs
    · have e1 : (n.tdiv 10).natAbs = n.natAbs / 10 := by rw [Int.natAbs_tdiv]; rfl
      have h26 := ih (n.natAbs / 10) (by omega) (n.tdiv 10) (by omega) e1
      have hstep := itoa_step n (by omega)
      rw [hstep]
      have wq : IntKind.i64.wrap (n.tdiv 10) = n.tdiv 10 := wrap_i64 _ (by omega) (by omega)
      obtain ⟨q, hq⟩ := ex_eq (n.tdiv 10)
      obtain ⟨tq, htq⟩ := ex_eq (itoa q)
      rw [hq] at wq h26 ⊢
      rw [htq] at h26 ⊢
      have tl : tq.length ≤ 9223372036854775806 := by
        have := itoa_len20 q (by omega)
        rw [htq] at this; omega
      obtain ⟨d, hd⟩ := ex_eq (n.natAbs % 10)
      have hd10 : d < 10 := by omega
      rw [hd]
      have at0 : List.drop d (48 :: List.take d [49, 50, 51, 52, 53, 54, 55, 56, 57]) = [UInt8.ofNat (48 + d)] := dgs_at ⟨d, hd10⟩
      have g1 : (d : Int) ≤ (d : Int) + 1 := by omega
      have g2 : (d : Int) + 1 ≤ 10 := by omega
      have w1 : IntKind.i64.wrap ((d : Int) + 1) = ((d + 1 : Nat) : Int) := by rw [wrap_i64 _ (by omega) (by omega)]; omega
      have wd : IntKind.i64.wrap (d : Int) = d := wrap_i64 _ (by omega) (by omega)
      by_cases h0 : 0 ≤ n
      · have r := rem_pos n h0
        rw [hd] at r
        have c1 : ¬ n < 0 := by omega
        have c2 : ¬ n < 10 := by omega
        have c3 : ¬ (d : Int) < 0 := by omega
        have c4 : d + 1 ≤ 10 := by omega
        refine evE_intro 1 D26 rfl ?_
        unfold c26
        simp [evCode, evOps, evOne, evOp, evPur, evEff, evPur.chunks, fillP, AOp.isEff, AO.ev, putP, PV.cells, PV.leaf, getB, getM, mapE, keyC, mapRows, mfind, eq1, eqL, scal, binP, unP, minP, maxP, foldP, PV.lt, PV.lt.ltL, endP, expoAll, expo, expo.expoL, frIds, frIds.frIdsL, nodupN, kill, cls, clsFuel, resO, RV.get, loadP, evC_p, evC_s, endS, endT, rowsOf, callP, thinL, unfr, unfr.unfrL, PV.noMem, PV.noMem.noMemL, optI, mapO, norm, trimT, trimB, forget, hasN, blksLt, List.set, tl, c1, c2, c3, c4, h0, r, hq, wq, h26, w1, wd, at0, g1, g2]
      · have r := rem_neg n (by omega)
        rw [hd] at r
        have c1 : n < 0 := by omega
        have c2 : ¬ -10 < n := by omega
        have c5 : ¬ 0 ≤ n := h0
        have c4 : d + 1 ≤ 10 := by omega
        by_cases z : d = 0
        · subst z
          have w10 : IntKind.i64.wrap 1 = 1 := rfl
          refine evE_intro 1 D26 rfl ?_
          unfold c26
          simp [evCode, evOps, evOne, evOp, evPur, evEff, evPur.chunks, fillP, AOp.isEff, AO.ev, putP, PV.cells, PV.leaf, getB, getM, mapE, keyC, mapRows, mfind, eq1, eqL, scal, binP, unP, minP, maxP, foldP, PV.lt, PV.lt.ltL, endP, expoAll, expo, expo.expoL, frIds, frIds.frIdsL, nodupN, kill, cls, clsFuel, resO, RV.get, loadP, evC_p, evC_s, endS, endT, rowsOf, callP, thinL, unfr, unfr.unfrL, PV.noMem, PV.noMem.noMemL, optI, mapO, norm, trimT, trimB, forget, hasN, blksLt, List.set, tl, c1, c2, c5, r, hq, wq, h26, w1, w10, wd, at0]
        · have c3 : -(d : Int) < 0 := by omega
          have z' : 0 < d := by omega
          refine evE_intro 1 D26 rfl ?_
          unfold c26
          simp [evCode, evOps, evOne, evOp, evPur, evEff, evPur.chunks, fillP, AOp.isEff, AO.ev, putP, PV.cells, PV.leaf, getB, getM, mapE, keyC, mapRows, mfind, eq1, eqL, scal, binP, unP, minP, maxP, foldP, PV.lt, PV.lt.ltL, endP, expoAll, expo, expo.expoL, frIds, frIds.frIdsL, nodupN, kill, cls, clsFuel, resO, RV.get, loadP, evC_p, evC_s, endS, endT, rowsOf, callP, thinL, unfr, unfr.unfrL, PV.noMem, PV.noMem.noMemL, optI, mapO, norm, trimT, trimB, forget, hasN, blksLt, List.set, tl, c1, c2, c3, c4, c5, r, hq, wq, h26, w1, wd, at0, g1, g2, z', Int.neg_neg]
end Go.Proofs.YtnodcoemjojlhaaDoor
