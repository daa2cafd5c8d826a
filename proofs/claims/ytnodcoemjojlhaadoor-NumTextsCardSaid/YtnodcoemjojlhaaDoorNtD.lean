/- num: the reference's Parse. -/
import Derived.Test.YtnodcoemjojlhaaDoorNtC
import Derived.Test.YtnodcoemjojlhaaDoorNuG
namespace Go.Proofs.YtnodcoemjojlhaaDoor
open Go Go.RowKit Go.Lib
set_option linter.unusedVariables false
set_option linter.unusedSimpArgs false
set_option maxHeartbeats 8000000

def S25 (l : List UInt8) (k : Nat) : St := ⟨[.str l, .top, .top, .top, .int .i64 (dsum 0 (l.take k) : Nat), .int .i64 k] ++ List.replicate 47 .top, []⟩
theorem dsum_step {l : List UInt8} {k : Nat} {a : UInt8} (h : l[k]? = some a) : dsum 0 (l.take (k + 1)) = if 48 ≤ a.toNat ∧ a.toNat ≤ 57 then dsum 0 (l.take k) * 10 + (a.toNat - 48) else dsum 0 (l.take k) := by
  rw [List.take_add_one, h, dsum_app]
  simp only [Option.toList_some, dsum]
theorem loop25 (l : List UInt8) (hl : l.length ≤ 17) (E : Option Out) (s0 : St) (hE : evLoop (evCode (evC Dg) 20 c25b0) [0, 4, 5] 0 20 s0 = E) (h0 : norm [0, 4, 5] 0 s0 = S25 l 0) :
    E = evCode (evC Dg) 20 c25b0 (S25 l l.length) := by
  have H := loop_stop (body := evCode (evC Dg) 20 c25b0) (keep := [0, 4, 5]) (n0 := 0) (fuel := 20) (S25 l) (fun k => l.length - k) (fun k => k ≤ l.length) (fun k => k = l.length)
    (by
      intro k hk hs
      have hlt : k < l.length := by omega
      obtain ⟨a, ha⟩ : ∃ a, l[k]? = some a := ⟨_, List.getElem?_eq_getElem hlt⟩
      have hg : ∀ h : k < l.length, l[k]'h = a := fun h => by rw [List.getElem?_eq_getElem h] at ha; exact Option.some.inj ha
      have hst := dsum_step ha
      have hb : dsum 0 (l.take k) < 10 ^ 17 := by
        have := dsum_lt (l.take k) 0 0 (by decide)
        have h2 : 10 ^ (0 + (l.take k).length) ≤ 10 ^ 17 := Nat.pow_le_pow_right (by decide) (by rw [List.length_take]; omega)
        omega
      obtain ⟨s, hs'⟩ := ex_eq (dsum 0 (l.take k))
      obtain ⟨s2, hs2⟩ := ex_eq (dsum 0 (l.take (k + 1)))
      obtain ⟨z, hz⟩ := ex_eq a.toNat
      rw [hs2, hs', hz] at hst
      rw [hs'] at hb
      have hz2 : z < 256 := by rw [← hz]; exact a.toNat_lt
      have hk' : (k : Int) < l.length := by omega
      have w0 := wrap_i64 ((k : Int) + 1) (by omega) (by omega)
      refine ⟨k + 1, ?_⟩
      by_cases c : 48 ≤ z ∧ z ≤ 57
      · rw [if_pos c] at hst
        have c1 : (48 : Int) ≤ z := by omega
        have c2 : (z : Int) ≤ 57 := by omega
        have c1' : 48 ≤ z := by omega
        have c2' : z ≤ 57 := by omega
        have w1 := wrap_i64 (10 * (s : Int)) (by omega) (by omega)
        have w2 : IntKind.u8.wrap ((z : Int) - 48) = ((z - 48 : Nat) : Int) := by
          have e : (z : Int) - 48 = ((z - 48 : Nat) : Int) := by omega
          rw [e]
          simp [IntKind.wrap, IntKind.signed, IntKind.bits]
          omega
        have w3 : IntKind.i64.wrap ((z - 48 : Nat) : Int) = ((z - 48 : Nat) : Int) := wrap_i64 _ (by omega) (by omega)
        have w4 : IntKind.i64.wrap (10 * (s : Int) + ((z - 48 : Nat) : Int)) = (s2 : Int) := by rw [wrap_i64 _ (by omega) (by omega)]; omega
        unfold c25b0
        simp [evCode, evOps, evOne, evOp, evPur, evEff, evPur.chunks, fillP, AOp.isEff, AO.ev, putP, PV.cells, PV.leaf, getB, getM, mapE, keyC, mapRows, mfind, eq1, eqL, scal, binP, unP, minP, maxP, foldP, PV.lt, PV.lt.ltL, endP, expoAll, expo, expo.expoL, frIds, frIds.frIdsL, nodupN, kill, cls, clsFuel, resO, RV.get, loadP, evC_p, evC_s, endS, endT, rowsOf, callP, thinL, unfr, unfr.unfrL, PV.noMem, PV.noMem.noMemL, optI, mapO, norm, trimT, trimB, forget, hasN, blksLt, List.set, S25, hs', hs2, ha, hg, hz, hk', hlt, w0, c1, c2, c1', c2', w1, w2, w3, w4]
        omega
      · rw [if_neg c] at hst
        by_cases c1' : 48 ≤ z
        · have c2' : ¬ z ≤ 57 := by omega
          have c1 : (48 : Int) ≤ z := by omega
          have c2 : ¬ (z : Int) ≤ 57 := by omega
          unfold c25b0
          simp [evCode, evOps, evOne, evOp, evPur, evEff, evPur.chunks, fillP, AOp.isEff, AO.ev, putP, PV.cells, PV.leaf, getB, getM, mapE, keyC, mapRows, mfind, eq1, eqL, scal, binP, unP, minP, maxP, foldP, PV.lt, PV.lt.ltL, endP, expoAll, expo, expo.expoL, frIds, frIds.frIdsL, nodupN, kill, cls, clsFuel, resO, RV.get, loadP, evC_p, evC_s, endS, endT, rowsOf, callP, thinL, unfr, unfr.unfrL, PV.noMem, PV.noMem.noMemL, optI, mapO, norm, trimT, trimB, forget, hasN, blksLt, List.set, S25, hs', hs2, hst, ha, hg, hz, hk', hlt, w0, c1, c2, c1', c2']
          omega
        · have c1 : ¬ (48 : Int) ≤ z := by omega
          unfold c25b0
          simp [evCode, evOps, evOne, evOp, evPur, evEff, evPur.chunks, fillP, AOp.isEff, AO.ev, putP, PV.cells, PV.leaf, getB, getM, mapE, keyC, mapRows, mfind, eq1, eqL, scal, binP, unP, minP, maxP, foldP, PV.lt, PV.lt.ltL, endP, expoAll, expo, expo.expoL, frIds, frIds.frIdsL, nodupN, kill, cls, clsFuel, resO, RV.get, loadP, evC_p, evC_s, endS, endT, rowsOf, callP, thinL, unfr, unfr.unfrL, PV.noMem, PV.noMem.noMemL, optI, mapO, norm, trimT, trimB, forget, hasN, blksLt, List.set, S25, hs', hs2, hst, ha, hg, hz, hk', hlt, w0, c1, c1']
          omega)
    (by
      intro k _ hk s
      subst hk
      unfold c25b0
      simp [evCode, evOps, evOne, evOp, evPur, evEff, evPur.chunks, fillP, AOp.isEff, AO.ev, putP, PV.cells, PV.leaf, getB, getM, mapE, keyC, mapRows, mfind, eq1, eqL, scal, binP, unP, minP, maxP, foldP, PV.lt, PV.lt.ltL, endP, expoAll, expo, expo.expoL, frIds, frIds.frIdsL, nodupN, kill, cls, clsFuel, resO, RV.get, loadP, evC_p, evC_s, endS, endT, rowsOf, callP, thinL, unfr, unfr.unfrL, PV.noMem, PV.noMem.noMemL, optI, mapO, norm, trimT, trimB, forget, hasN, blksLt, List.set, S25])
    0 (Nat.zero_le _) (by omega) s0 E hE h0
  obtain ⟨k, _, hk, h⟩ := H
  subst hk
  exact h

theorem f25_long (l : List UInt8) (hl : 17 < l.length) : evE Dg 25 [.str l] = some (.tup [.int .i64 0, .bool false]) := by
  have h1 : (17 : Int) < l.length := by omega
  refine evE_intro 20 D25 rfl ?_
  unfold c25
  simp [evCode, evOps, evOne, evOp, evPur, evEff, evPur.chunks, fillP, AOp.isEff, AO.ev, putP, PV.cells, PV.leaf, getB, getM, mapE, keyC, mapRows, mfind, eq1, eqL, scal, binP, unP, minP, maxP, foldP, PV.lt, PV.lt.ltL, endP, expoAll, expo, expo.expoL, frIds, frIds.frIdsL, nodupN, kill, cls, clsFuel, resO, RV.get, loadP, evC_p, evC_s, endS, endT, rowsOf, callP, thinL, unfr, unfr.unfrL, PV.noMem, PV.noMem.noMemL, optI, mapO, norm, trimT, trimB, forget, hasN, blksLt, List.set, h1, hl]
theorem f25_yes (n : Int) (hb : inB n = true) : evE Dg 25 [.str (itoa n)] = some (.tup [.int .i64 n, .bool true]) := by
  have hn := (inB_iff n).1 hb
  have hl := itoa_len n hn
  have hd := dsum_itoa n
  have hN : inB (n.natAbs : Int) = true := (inB_iff _).2 (by omega)
  have h15 := f15 (n.natAbs : Int)
  rw [hN] at h15
  have h26 := f26 (n.natAbs : Int) (by omega)
  have h26n := f26 (-(n.natAbs : Int)) (by omega)
  have wN := wrap_i64 (-(n.natAbs : Int)) (by omega) (by omega)
  have H := loop25 (itoa n) hl
  have hl1 : ¬ (17 : Int) < ((itoa n).length : Int) := by omega
  by_cases h0 : 0 ≤ n
  · have e : (n.natAbs : Int) = n := by omega
    rw [e] at h26 h15
    obtain ⟨N, hNN⟩ := ex_eq n.natAbs
    obtain ⟨l, hll⟩ := ex_eq (itoa n)
    rw [hll] at H hl1 hl hd h26 ⊢
    rw [hNN] at hd e
    subst e
    refine evE_intro 20 D25 rfl ?_
    unfold c25
    simp [evCode, evOps, evOne, evOp, evPur, evEff, evPur.chunks, fillP, AOp.isEff, AO.ev, putP, PV.cells, PV.leaf, getB, getM, mapE, keyC, mapRows, mfind, eq1, eqL, scal, binP, unP, minP, maxP, foldP, PV.lt, PV.lt.ltL, endP, expoAll, expo, expo.expoL, frIds, frIds.frIdsL, nodupN, kill, cls, clsFuel, resO, RV.get, loadP, evC_p, evC_s, endS, endT, rowsOf, callP, thinL, unfr, unfr.unfrL, PV.noMem, PV.noMem.noMemL, optI, mapO, norm, trimT, trimB, forget, hasN, blksLt, List.set, hl1, hl]
    generalize hE : evLoop _ _ _ _ _ = E
    have g := H _ _ hE (by simp [evCode, evOps, evOne, evOp, evPur, evEff, evPur.chunks, fillP, AOp.isEff, AO.ev, putP, PV.cells, PV.leaf, getB, getM, mapE, keyC, mapRows, mfind, eq1, eqL, scal, binP, unP, minP, maxP, foldP, PV.lt, PV.lt.ltL, endP, expoAll, expo, expo.expoL, frIds, frIds.frIdsL, nodupN, kill, cls, clsFuel, resO, RV.get, loadP, evC_p, evC_s, endS, endT, rowsOf, callP, thinL, unfr, unfr.unfrL, PV.noMem, PV.noMem.noMemL, optI, mapO, norm, trimT, trimB, forget, hasN, blksLt, List.set, S25, dsum])
    rw [g]
    unfold c25b0
    simp [evCode, evOps, evOne, evOp, evPur, evEff, evPur.chunks, fillP, AOp.isEff, AO.ev, putP, PV.cells, PV.leaf, getB, getM, mapE, keyC, mapRows, mfind, eq1, eqL, scal, binP, unP, minP, maxP, foldP, PV.lt, PV.lt.ltL, endP, expoAll, expo, expo.expoL, frIds, frIds.frIdsL, nodupN, kill, cls, clsFuel, resO, RV.get, loadP, evC_p, evC_s, endS, endT, rowsOf, callP, thinL, unfr, unfr.unfrL, PV.noMem, PV.noMem.noMemL, optI, mapO, norm, trimT, trimB, forget, hasN, blksLt, List.set, S25, hd]
    unfold c25r0
    simp [evCode, evOps, evOne, evOp, evPur, evEff, evPur.chunks, fillP, AOp.isEff, AO.ev, putP, PV.cells, PV.leaf, getB, getM, mapE, keyC, mapRows, mfind, eq1, eqL, scal, binP, unP, minP, maxP, foldP, PV.lt, PV.lt.ltL, endP, expoAll, expo, expo.expoL, frIds, frIds.frIdsL, nodupN, kill, cls, clsFuel, resO, RV.get, loadP, evC_p, evC_s, endS, endT, rowsOf, callP, thinL, unfr, unfr.unfrL, PV.noMem, PV.noMem.noMemL, optI, mapO, norm, trimT, trimB, forget, hasN, blksLt, List.set, h15, h26]
  · have hne : itoa (n.natAbs : Int) ≠ itoa n := fun h => by
      have := itoa_inj (by omega) hn h
      omega
    have e : -(n.natAbs : Int) = n := by omega
    rw [e] at h26n wN
    obtain ⟨N, hNN⟩ := ex_eq n.natAbs
    obtain ⟨l, hll⟩ := ex_eq (itoa n)
    rw [hll] at H hl1 hl hd hne h26n ⊢
    rw [hNN] at hd e h26 h15 hne
    obtain ⟨t, ht⟩ := ex_eq (itoa (N : Int))
    rw [ht] at h26 hne
    subst e
    refine evE_intro 20 D25 rfl ?_
    unfold c25
    simp [evCode, evOps, evOne, evOp, evPur, evEff, evPur.chunks, fillP, AOp.isEff, AO.ev, putP, PV.cells, PV.leaf, getB, getM, mapE, keyC, mapRows, mfind, eq1, eqL, scal, binP, unP, minP, maxP, foldP, PV.lt, PV.lt.ltL, endP, expoAll, expo, expo.expoL, frIds, frIds.frIdsL, nodupN, kill, cls, clsFuel, resO, RV.get, loadP, evC_p, evC_s, endS, endT, rowsOf, callP, thinL, unfr, unfr.unfrL, PV.noMem, PV.noMem.noMemL, optI, mapO, norm, trimT, trimB, forget, hasN, blksLt, List.set, hl1, hl]
    generalize hE : evLoop _ _ _ _ _ = E
    have g := H _ _ hE (by simp [evCode, evOps, evOne, evOp, evPur, evEff, evPur.chunks, fillP, AOp.isEff, AO.ev, putP, PV.cells, PV.leaf, getB, getM, mapE, keyC, mapRows, mfind, eq1, eqL, scal, binP, unP, minP, maxP, foldP, PV.lt, PV.lt.ltL, endP, expoAll, expo, expo.expoL, frIds, frIds.frIdsL, nodupN, kill, cls, clsFuel, resO, RV.get, loadP, evC_p, evC_s, endS, endT, rowsOf, callP, thinL, unfr, unfr.unfrL, PV.noMem, PV.noMem.noMemL, optI, mapO, norm, trimT, trimB, forget, hasN, blksLt, List.set, S25, dsum])
    rw [g]
    unfold c25b0
    simp [evCode, evOps, evOne, evOp, evPur, evEff, evPur.chunks, fillP, AOp.isEff, AO.ev, putP, PV.cells, PV.leaf, getB, getM, mapE, keyC, mapRows, mfind, eq1, eqL, scal, binP, unP, minP, maxP, foldP, PV.lt, PV.lt.ltL, endP, expoAll, expo, expo.expoL, frIds, frIds.frIdsL, nodupN, kill, cls, clsFuel, resO, RV.get, loadP, evC_p, evC_s, endS, endT, rowsOf, callP, thinL, unfr, unfr.unfrL, PV.noMem, PV.noMem.noMemL, optI, mapO, norm, trimT, trimB, forget, hasN, blksLt, List.set, S25, hd]
    unfold c25r0
    simp [evCode, evOps, evOne, evOp, evPur, evEff, evPur.chunks, fillP, AOp.isEff, AO.ev, putP, PV.cells, PV.leaf, getB, getM, mapE, keyC, mapRows, mfind, eq1, eqL, scal, binP, unP, minP, maxP, foldP, PV.lt, PV.lt.ltL, endP, expoAll, expo, expo.expoL, frIds, frIds.frIdsL, nodupN, kill, cls, clsFuel, resO, RV.get, loadP, evC_p, evC_s, endS, endT, rowsOf, callP, thinL, unfr, unfr.unfrL, PV.noMem, PV.noMem.noMemL, optI, mapO, norm, trimT, trimB, forget, hasN, blksLt, List.set, h15, h26, hne, wN, h26n]
theorem f25_no (l : List UInt8) (h : ∀ n, inB n = true → itoa n ≠ l) : evE Dg 25 [.str l] = some (.tup [.int .i64 0, .bool false]) := by
  by_cases hl : 17 < l.length
  · exact f25_long l hl
  · have hl' : l.length ≤ 17 := by omega
    have hl1 : ¬ (17 : Int) < (l.length : Int) := by omega
    have H := loop25 l hl'
    obtain ⟨N, hd⟩ := ex_eq (dsum 0 l)
    have h15 := f15 (N : Int)
    cases hN : inB (N : Int) with
    | true =>
      have hb := (inB_iff _).1 hN
      have h26 := f26 (N : Int) (by omega)
      have h26n := f26 (-(N : Int)) (by omega)
      have n1 := h (N : Int) hN
      have n2 := h (-(N : Int)) (by rw [inB_neg, hN])
      have wN := wrap_i64 (-(N : Int)) (by omega) (by omega)
      rw [hN] at h15
      obtain ⟨t, ht⟩ := ex_eq (itoa (N : Int))
      obtain ⟨t2, ht2⟩ := ex_eq (itoa (-(N : Int)))
      rw [ht] at h26 n1
      rw [ht2] at h26n n2
      refine evE_intro 20 D25 rfl ?_
      unfold c25
      simp [evCode, evOps, evOne, evOp, evPur, evEff, evPur.chunks, fillP, AOp.isEff, AO.ev, putP, PV.cells, PV.leaf, getB, getM, mapE, keyC, mapRows, mfind, eq1, eqL, scal, binP, unP, minP, maxP, foldP, PV.lt, PV.lt.ltL, endP, expoAll, expo, expo.expoL, frIds, frIds.frIdsL, nodupN, kill, cls, clsFuel, resO, RV.get, loadP, evC_p, evC_s, endS, endT, rowsOf, callP, thinL, unfr, unfr.unfrL, PV.noMem, PV.noMem.noMemL, optI, mapO, norm, trimT, trimB, forget, hasN, blksLt, List.set, hl1, hl]
      generalize hE : evLoop _ _ _ _ _ = E
      have g := H _ _ hE (by simp [evCode, evOps, evOne, evOp, evPur, evEff, evPur.chunks, fillP, AOp.isEff, AO.ev, putP, PV.cells, PV.leaf, getB, getM, mapE, keyC, mapRows, mfind, eq1, eqL, scal, binP, unP, minP, maxP, foldP, PV.lt, PV.lt.ltL, endP, expoAll, expo, expo.expoL, frIds, frIds.frIdsL, nodupN, kill, cls, clsFuel, resO, RV.get, loadP, evC_p, evC_s, endS, endT, rowsOf, callP, thinL, unfr, unfr.unfrL, PV.noMem, PV.noMem.noMemL, optI, mapO, norm, trimT, trimB, forget, hasN, blksLt, List.set, S25, dsum])
      rw [g]
      unfold c25b0
      simp [evCode, evOps, evOne, evOp, evPur, evEff, evPur.chunks, fillP, AOp.isEff, AO.ev, putP, PV.cells, PV.leaf, getB, getM, mapE, keyC, mapRows, mfind, eq1, eqL, scal, binP, unP, minP, maxP, foldP, PV.lt, PV.lt.ltL, endP, expoAll, expo, expo.expoL, frIds, frIds.frIdsL, nodupN, kill, cls, clsFuel, resO, RV.get, loadP, evC_p, evC_s, endS, endT, rowsOf, callP, thinL, unfr, unfr.unfrL, PV.noMem, PV.noMem.noMemL, optI, mapO, norm, trimT, trimB, forget, hasN, blksLt, List.set, S25, hd]
      unfold c25r0
      simp [evCode, evOps, evOne, evOp, evPur, evEff, evPur.chunks, fillP, AOp.isEff, AO.ev, putP, PV.cells, PV.leaf, getB, getM, mapE, keyC, mapRows, mfind, eq1, eqL, scal, binP, unP, minP, maxP, foldP, PV.lt, PV.lt.ltL, endP, expoAll, expo, expo.expoL, frIds, frIds.frIdsL, nodupN, kill, cls, clsFuel, resO, RV.get, loadP, evC_p, evC_s, endS, endT, rowsOf, callP, thinL, unfr, unfr.unfrL, PV.noMem, PV.noMem.noMemL, optI, mapO, norm, trimT, trimB, forget, hasN, blksLt, List.set, h15, h26, h26n, n1, n2, wN]
    | false =>
      rw [hN] at h15
      refine evE_intro 20 D25 rfl ?_
      unfold c25
      simp [evCode, evOps, evOne, evOp, evPur, evEff, evPur.chunks, fillP, AOp.isEff, AO.ev, putP, PV.cells, PV.leaf, getB, getM, mapE, keyC, mapRows, mfind, eq1, eqL, scal, binP, unP, minP, maxP, foldP, PV.lt, PV.lt.ltL, endP, expoAll, expo, expo.expoL, frIds, frIds.frIdsL, nodupN, kill, cls, clsFuel, resO, RV.get, loadP, evC_p, evC_s, endS, endT, rowsOf, callP, thinL, unfr, unfr.unfrL, PV.noMem, PV.noMem.noMemL, optI, mapO, norm, trimT, trimB, forget, hasN, blksLt, List.set, hl1, hl]
      generalize hE : evLoop _ _ _ _ _ = E
      have g := H _ _ hE (by simp [evCode, evOps, evOne, evOp, evPur, evEff, evPur.chunks, fillP, AOp.isEff, AO.ev, putP, PV.cells, PV.leaf, getB, getM, mapE, keyC, mapRows, mfind, eq1, eqL, scal, binP, unP, minP, maxP, foldP, PV.lt, PV.lt.ltL, endP, expoAll, expo, expo.expoL, frIds, frIds.frIdsL, nodupN, kill, cls, clsFuel, resO, RV.get, loadP, evC_p, evC_s, endS, endT, rowsOf, callP, thinL, unfr, unfr.unfrL, PV.noMem, PV.noMem.noMemL, optI, mapO, norm, trimT, trimB, forget, hasN, blksLt, List.set, S25, dsum])
      rw [g]
      unfold c25b0
      simp [evCode, evOps, evOne, evOp, evPur, evEff, evPur.chunks, fillP, AOp.isEff, AO.ev, putP, PV.cells, PV.leaf, getB, getM, mapE, keyC, mapRows, mfind, eq1, eqL, scal, binP, unP, minP, maxP, foldP, PV.lt, PV.lt.ltL, endP, expoAll, expo, expo.expoL, frIds, frIds.frIdsL, nodupN, kill, cls, clsFuel, resO, RV.get, loadP, evC_p, evC_s, endS, endT, rowsOf, callP, thinL, unfr, unfr.unfrL, PV.noMem, PV.noMem.noMemL, optI, mapO, norm, trimT, trimB, forget, hasN, blksLt, List.set, S25, hd]
      unfold c25r0
      simp [evCode, evOps, evOne, evOp, evPur, evEff, evPur.chunks, fillP, AOp.isEff, AO.ev, putP, PV.cells, PV.leaf, getB, getM, mapE, keyC, mapRows, mfind, eq1, eqL, scal, binP, unP, minP, maxP, foldP, PV.lt, PV.lt.ltL, endP, expoAll, expo, expo.expoL, frIds, frIds.frIdsL, nodupN, kill, cls, clsFuel, resO, RV.get, loadP, evC_p, evC_s, endS, endT, rowsOf, callP, thinL, unfr, unfr.unfrL, PV.noMem, PV.noMem.noMemL, optI, mapO, norm, trimT, trimB, forget, hasN, blksLt, List.set, h15]
end Go.Proofs.YtnodcoemjojlhaaDoor
