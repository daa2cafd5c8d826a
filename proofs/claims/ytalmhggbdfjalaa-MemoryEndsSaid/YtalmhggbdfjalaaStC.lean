/- slices.symMergeCmpFunc: its searches. -/
import Derived.Test.YtalmhggbdfjalaaStB
namespace Go.Proofs.Ytalmhggbdfjalaa
open Go Go.RowKit
set_option linter.unusedVariables false
set_option linter.unusedSimpArgs false
set_option maxHeartbeats 4000000

/-- the order by which is sorted, and the function that compares -/
structure Cmp (g : Nat) (Ok : Rw → Prop) (le : Rw → Rw → Bool) : Prop where
  o : Ordr le
  gd : ∀ r, Ok r → Gd r
  c : ∀ r s, Ok r → Ok s → ∃ z, evE Dg g [.agg r, .agg s] = some (.int .i64 z) ∧ (z < 0 ↔ le s r = false)
def OkL (Ok : Rw → Prop) (D : List Rw) : Prop := ∀ r ∈ D, Ok r
theorem OkL.get {Ok : Rw → Prop} {D : List Rw} (h : OkL Ok D) {i : Nat} (hi : i < D.length) : ∃ r, D[i]? = some r ∧ Ok r := ⟨D[i], List.getElem?_eq_getElem hi, h _ (List.getElem_mem hi)⟩
theorem OkL.gd {g : Nat} {Ok : Rw → Prop} {le : Rw → Rw → Bool} (hC : Cmp g Ok le) {D : List Rw} (h : OkL Ok D) : GdL D := fun r hr => hC.gd r (h r hr)
/-- a search by halves -/
structure Hlv (P : Nat → Bool) (lo hi i j : Nat) : Prop where
  h1 : lo ≤ i
  h2 : i ≤ j
  h3 : j ≤ hi
  t : ∀ h, lo ≤ h → h < i → P h = true
  f : ∀ h, j ≤ h → h < hi → P h = false
theorem Hlv.up {P : Nat → Bool} {lo hi i j : Nat} (h : Hlv P lo hi i j) (hm : ∀ c d, lo ≤ c → c ≤ d → d < hi → P d = true → P c = true) {k : Nat} (h1 : i ≤ k) (h2 : k < j) (hP : P k = true) : Hlv P lo hi (k + 1) j :=
  ⟨by have := h.h1; omega, by omega, h.h3, fun c h3 h4 => hm c k h3 (by omega) (by have := h.h3; omega) hP, h.f⟩
theorem Hlv.dn {P : Nat → Bool} {lo hi i j : Nat} (h : Hlv P lo hi i j) (hm : ∀ c d, lo ≤ c → c ≤ d → d < hi → P d = true → P c = true) {k : Nat} (h1 : i ≤ k) (h2 : k < j) (hP : P k = false) : Hlv P lo hi i k :=
  ⟨h.h1, h1, by have := h.h3; omega, h.t, fun c h3 h4 => by
    cases hc : P c with
    | false => rfl
    | true =>
      rw [hm k c (by have := h.h1; omega) h3 h4 hc] at hP
      cases hP⟩
theorem gE {D : List Rw} {i : Nat} {r : Rw} (h : D[i]? = some r) : ∀ g, D[i]'g = r := fun g => by
  rw [List.getElem?_eq_getElem g] at h
  exact Option.some.inj h
theorem wrap_u64 (n : Int) (h1 : 0 ≤ n) (h2 : n < 18446744073709551616) : IntKind.u64.wrap n = n := by
  simp [IntKind.wrap, IntKind.signed, IntKind.bits]
  omega
theorem half_fd (s : Nat) : Int.fdiv (s : Int) 2 = ((s / 2 : Nat) : Int) := by
  rw [Int.fdiv_eq_ediv_of_nonneg _ (by omega)]; omega
def AS (B : List Rw → Blks) (b v n g : Nat) (a : Nat) (D : List Rw) (x : Nat × Nat) : St := ⟨[.own b v 0 n, .int .i64 a, .top, .top, .fn g [], .top, .top, .top, .top, .top, .int .i64 x.1, .int .i64 x.2] ++ List.replicate 208 .top, B D⟩
set_option maxRecDepth 100000 in
theorem Astep (B : List Rw → Blks) (b v L n g : Nat) (hB : BB B b v L) (hn : n ≤ 1000000) (a : Nat) (D : List Rw) (hah : a < n) (f i j h : Nat) (hij : i < j) (hh : (i + j) / 2 = h) (hjn : j ≤ n) (hl : n ≤ D.length) (r s : Rw) (e1 : D[h]? = some r) (e2 : D[a]? = some s) (hr : Gd r) (hs : Gd s) (z : Int) (hz : evE Dg g [.agg r, .agg s] = some (.int .i64 z)) :
    ∃ s', evCode (evC Dg) f c52b4 (AS B b v n g a D (i, j)) = some (.normal s') ∧ norm [0, 1, 4, 10, 11] L s' = AS B b v n g a D (if z < 0 then (h + 1, j) else (i, h)) := by
  obtain ⟨x1, x2, x3, x4, x5, x6, x7, rfl, ⟨m1, m2, m3, m4, m5, m6, m7⟩, l1, l2, l3, l4, l5, l6, l7⟩ := hr
  obtain ⟨y1, y2, y3, y4, y5, y6, y7, rfl, ⟨p1, p2, p3, p4, p5, p6, p7⟩, q1, q2, q3, q4, q5, q6, q7⟩ := hs
  have w1 : IntKind.i64.wrap ((i : Int) + j) = ((i + j : Nat) : Int) := by rw [wrap_i64 _ (by omega) (by omega)]; omega
  have w2 : IntKind.u64.wrap ((i + j : Nat) : Int) = ((i + j : Nat) : Int) := wrap_u64 _ (by omega) (by omega)
  have w3 : Int.fdiv ((i + j : Nat) : Int) 2 = ((h : Nat) : Int) := by rw [half_fd, hh]
  have w4 : IntKind.i64.wrap ((h : Nat) : Int) = ((h : Nat) : Int) := wrap_i64 _ (by omega) (by omega)
  have w5 : IntKind.u64.wrap ((h : Nat) : Int) = ((h : Nat) : Int) := wrap_u64 _ (by omega) (by omega)
  have w6 : IntKind.i64.wrap ((h : Int) + 1) = ((h + 1 : Nat) : Int) := by rw [wrap_i64 _ (by omega) (by omega)]; omega
  have hmin : Nat.min 1 IntKind.u64.bits = 1 := rfl
  have hij' : (i : Int) < j := by omega
  have hh0 : (0 : Int) ≤ h := by omega
  have hhn : h < n := by omega
  have n0 : n ≤ D.length := by omega
  have g0 := hB.len
  have g1 := hB.get
  have g3 := hB.tk
  have g4 := hB.lt
  have g5 : Nat.blt b L = true := by simpa [Nat.blt_eq] using hB.hb
  have e1' := gE e1
  have e2' := gE e2
  have ha0 : (0 : Int) ≤ a := by omega
  obtain ⟨t, ht⟩ : ∃ t, i + j = t := ⟨_, rfl⟩
  obtain ⟨u, hu⟩ : ∃ u, h + 1 = u := ⟨_, rfl⟩
  rw [ht] at w1 w2 w3
  rw [hu] at w6 ⊢
  clear hh ht hu
  unfold c52b4
  by_cases c0 : z < 0
  · rw [if_pos c0]
    simp [evCode, evOps, evOne, evOp, evPur, evEff, evPur.chunks, fillP, AOp.isEff, AO.ev, putP, PV.cells, PV.leaf, getB, getM, mapE, iterE, keyC, mapRows, mfind, eq1, eqL, scal, binP, unP, minP, maxP, foldP, PV.lt, PV.lt.ltL, endP, expoAll, expoG, expo, expo.expoL, frIds, frIds.frIdsL, nodupN, kill, cls, clsFuel, resO, RV.get, loadP, evC_p, evC_s, endS, endT, rowsOf, callP, thinL, unfr, unfr.unfrL, PV.noMem, PV.noMem.noMemL, optI, mapO, norm, trimT, trimB, forget, hasN, blksLt, List.set, softChk, softGo, softRd, effTg, rdP, AS, c0, hij', hh0, hhn, n0, hz, w1, w2, w3, w4, w5, w6, hmin, e1, e2, e1', e2', g0, g1, g3, g4, g5, ha0, hah, ↓l1, ↓l2, ↓l3, ↓l4, ↓l5, ↓l6, ↓l7, ↓q1, ↓q2, ↓q3, ↓q4, ↓q5, ↓q6, ↓q7]
  · rw [if_neg c0]
    simp [evCode, evOps, evOne, evOp, evPur, evEff, evPur.chunks, fillP, AOp.isEff, AO.ev, putP, PV.cells, PV.leaf, getB, getM, mapE, iterE, keyC, mapRows, mfind, eq1, eqL, scal, binP, unP, minP, maxP, foldP, PV.lt, PV.lt.ltL, endP, expoAll, expoG, expo, expo.expoL, frIds, frIds.frIdsL, nodupN, kill, cls, clsFuel, resO, RV.get, loadP, evC_p, evC_s, endS, endT, rowsOf, callP, thinL, unfr, unfr.unfrL, PV.noMem, PV.noMem.noMemL, optI, mapO, norm, trimT, trimB, forget, hasN, blksLt, List.set, softChk, softGo, softRd, effTg, rdP, AS, c0, hij', hh0, hhn, n0, hz, w1, w2, w3, w4, w5, w6, hmin, e1, e2, e1', e2', g0, g1, g3, g4, g5, ha0, hah, ↓l1, ↓l2, ↓l3, ↓l4, ↓l5, ↓l6, ↓l7, ↓q1, ↓q2, ↓q3, ↓q4, ↓q5, ↓q6, ↓q7]
def BbS (B : List Rw → Blks) (b v n g : Nat) (a : Nat) (D : List Rw) (x : Nat × Nat) : St := ⟨[.own b v 0 n, .top, .int .i64 a, .top, .fn g [], .top, .top, .top, .top, .top, .top, .top, .top, .top, .int .i64 x.1, .int .i64 x.2] ++ List.replicate 204 .top, B D⟩
set_option maxRecDepth 100000 in
theorem Bbstep (B : List Rw → Blks) (b v L n g : Nat) (hB : BB B b v L) (hn : n ≤ 1000000) (a : Nat) (D : List Rw) (hah : a < n) (f i j h : Nat) (hij : i < j) (hh : (i + j) / 2 = h) (hjn : j ≤ n) (hl : n ≤ D.length) (r s : Rw) (e1 : D[a]? = some r) (e2 : D[h]? = some s) (hr : Gd r) (hs : Gd s) (z : Int) (hz : evE Dg g [.agg r, .agg s] = some (.int .i64 z)) :
    ∃ s', evCode (evC Dg) f c52b2 (BbS B b v n g a D (i, j)) = some (.normal s') ∧ norm [0, 2, 4, 14, 15] L s' = BbS B b v n g a D (if ¬ z < 0 then (h + 1, j) else (i, h)) := by
  obtain ⟨x1, x2, x3, x4, x5, x6, x7, rfl, ⟨m1, m2, m3, m4, m5, m6, m7⟩, l1, l2, l3, l4, l5, l6, l7⟩ := hr
  obtain ⟨y1, y2, y3, y4, y5, y6, y7, rfl, ⟨p1, p2, p3, p4, p5, p6, p7⟩, q1, q2, q3, q4, q5, q6, q7⟩ := hs
  have w1 : IntKind.i64.wrap ((i : Int) + j) = ((i + j : Nat) : Int) := by rw [wrap_i64 _ (by omega) (by omega)]; omega
  have w2 : IntKind.u64.wrap ((i + j : Nat) : Int) = ((i + j : Nat) : Int) := wrap_u64 _ (by omega) (by omega)
  have w3 : Int.fdiv ((i + j : Nat) : Int) 2 = ((h : Nat) : Int) := by rw [half_fd, hh]
  have w4 : IntKind.i64.wrap ((h : Nat) : Int) = ((h : Nat) : Int) := wrap_i64 _ (by omega) (by omega)
  have w5 : IntKind.u64.wrap ((h : Nat) : Int) = ((h : Nat) : Int) := wrap_u64 _ (by omega) (by omega)
  have w6 : IntKind.i64.wrap ((h : Int) + 1) = ((h + 1 : Nat) : Int) := by rw [wrap_i64 _ (by omega) (by omega)]; omega
  have hmin : Nat.min 1 IntKind.u64.bits = 1 := rfl
  have hij' : (i : Int) < j := by omega
  have hh0 : (0 : Int) ≤ h := by omega
  have hhn : h < n := by omega
  have n0 : n ≤ D.length := by omega
  have g0 := hB.len
  have g1 := hB.get
  have g3 := hB.tk
  have g4 := hB.lt
  have g5 : Nat.blt b L = true := by simpa [Nat.blt_eq] using hB.hb
  have e1' := gE e1
  have e2' := gE e2
  have ha0 : (0 : Int) ≤ a := by omega
  obtain ⟨t, ht⟩ : ∃ t, i + j = t := ⟨_, rfl⟩
  obtain ⟨u, hu⟩ : ∃ u, h + 1 = u := ⟨_, rfl⟩
  rw [ht] at w1 w2 w3
  rw [hu] at w6 ⊢
  clear hh ht hu
  unfold c52b2
  by_cases c0 : z < 0
  · rw [if_neg (fun h => h c0)]
    simp [evCode, evOps, evOne, evOp, evPur, evEff, evPur.chunks, fillP, AOp.isEff, AO.ev, putP, PV.cells, PV.leaf, getB, getM, mapE, iterE, keyC, mapRows, mfind, eq1, eqL, scal, binP, unP, minP, maxP, foldP, PV.lt, PV.lt.ltL, endP, expoAll, expoG, expo, expo.expoL, frIds, frIds.frIdsL, nodupN, kill, cls, clsFuel, resO, RV.get, loadP, evC_p, evC_s, endS, endT, rowsOf, callP, thinL, unfr, unfr.unfrL, PV.noMem, PV.noMem.noMemL, optI, mapO, norm, trimT, trimB, forget, hasN, blksLt, List.set, softChk, softGo, softRd, effTg, rdP, BbS, c0, hij', hh0, hhn, n0, hz, w1, w2, w3, w4, w5, w6, hmin, e1, e2, e1', e2', g0, g1, g3, g4, g5, ha0, hah, ↓l1, ↓l2, ↓l3, ↓l4, ↓l5, ↓l6, ↓l7, ↓q1, ↓q2, ↓q3, ↓q4, ↓q5, ↓q6, ↓q7]
  · rw [if_pos c0]
    simp [evCode, evOps, evOne, evOp, evPur, evEff, evPur.chunks, fillP, AOp.isEff, AO.ev, putP, PV.cells, PV.leaf, getB, getM, mapE, iterE, keyC, mapRows, mfind, eq1, eqL, scal, binP, unP, minP, maxP, foldP, PV.lt, PV.lt.ltL, endP, expoAll, expoG, expo, expo.expoL, frIds, frIds.frIdsL, nodupN, kill, cls, clsFuel, resO, RV.get, loadP, evC_p, evC_s, endS, endT, rowsOf, callP, thinL, unfr, unfr.unfrL, PV.noMem, PV.noMem.noMemL, optI, mapO, norm, trimT, trimB, forget, hasN, blksLt, List.set, softChk, softGo, softRd, effTg, rdP, BbS, c0, hij', hh0, hhn, n0, hz, w1, w2, w3, w4, w5, w6, hmin, e1, e2, e1', e2', g0, g1, g3, g4, g5, ha0, hah, ↓l1, ↓l2, ↓l3, ↓l4, ↓l5, ↓l6, ↓l7, ↓q1, ↓q2, ↓q3, ↓q4, ↓q5, ↓q6, ↓q7]
def CcS (B : List Rw → Blks) (b v n g : Nat) (a0 m0 e0 d0 nn p : Nat) (D : List Rw) (x : Nat × Nat) : St := ⟨[.own b v 0 n, .int .i64 a0, .int .i64 m0, .int .i64 e0, .fn g [], .top, .top, .top, .top, .top, .top, .top, .top, .top, .top, .top, .top, .top, .int .i64 d0, .int .i64 nn, .int .i64 x.1, .int .i64 x.2, .int .i64 p] ++ List.replicate 197 .top, B D⟩
set_option maxRecDepth 100000 in
theorem Ccstep (B : List Rw → Blks) (b v L n g : Nat) (hB : BB B b v L) (hn : n ≤ 1000000) (a0 m0 e0 d0 nn p : Nat) (D : List Rw) (f i j h : Nat) (hp : j ≤ p + 1) (hpn : p < 2000000) (hph9 : p - h < n) (hij : i < j) (hh : (i + j) / 2 = h) (hjn : j ≤ n) (hl : n ≤ D.length) (r s : Rw) (e1 : D[p - h]? = some r) (e2 : D[h]? = some s) (hr : Gd r) (hs : Gd s) (z : Int) (hz : evE Dg g [.agg r, .agg s] = some (.int .i64 z)) :
    ∃ s', evCode (evC Dg) f c52b0 (CcS B b v n g a0 m0 e0 d0 nn p D (i, j)) = some (.normal s') ∧ norm [0, 1, 2, 3, 4, 18, 19, 20, 21, 22] L s' = CcS B b v n g a0 m0 e0 d0 nn p D (if ¬ z < 0 then (h + 1, j) else (i, h)) := by
  obtain ⟨x1, x2, x3, x4, x5, x6, x7, rfl, ⟨m1, m2, m3, m4, m5, m6, m7⟩, l1, l2, l3, l4, l5, l6, l7⟩ := hr
  obtain ⟨y1, y2, y3, y4, y5, y6, y7, rfl, ⟨p1, p2, p3, p4, p5, p6, p7⟩, q1, q2, q3, q4, q5, q6, q7⟩ := hs
  have w1 : IntKind.i64.wrap ((i : Int) + j) = ((i + j : Nat) : Int) := by rw [wrap_i64 _ (by omega) (by omega)]; omega
  have w2 : IntKind.u64.wrap ((i + j : Nat) : Int) = ((i + j : Nat) : Int) := wrap_u64 _ (by omega) (by omega)
  have w3 : Int.fdiv ((i + j : Nat) : Int) 2 = ((h : Nat) : Int) := by rw [half_fd, hh]
  have w4 : IntKind.i64.wrap ((h : Nat) : Int) = ((h : Nat) : Int) := wrap_i64 _ (by omega) (by omega)
  have w5 : IntKind.u64.wrap ((h : Nat) : Int) = ((h : Nat) : Int) := wrap_u64 _ (by omega) (by omega)
  have w6 : IntKind.i64.wrap ((h : Int) + 1) = ((h + 1 : Nat) : Int) := by rw [wrap_i64 _ (by omega) (by omega)]; omega
  have hmin : Nat.min 1 IntKind.u64.bits = 1 := rfl
  have hij' : (i : Int) < j := by omega
  have hh0 : (0 : Int) ≤ h := by omega
  have hhn : h < n := by omega
  have n0 : n ≤ D.length := by omega
  have g0 := hB.len
  have g1 := hB.get
  have g3 := hB.tk
  have g4 := hB.lt
  have g5 : Nat.blt b L = true := by simpa [Nat.blt_eq] using hB.hb
  have e1' := gE e1
  have e2' := gE e2
  have w7 : IntKind.i64.wrap ((p : Int) - h) = ((p - h : Nat) : Int) := by rw [wrap_i64 _ (by omega) (by omega)]; omega
  have hph : p - h < n := hph9
  have hph0 : (0 : Int) ≤ ((p - h : Nat) : Int) := by omega
  obtain ⟨w, hw⟩ : ∃ w, p - h = w := ⟨_, rfl⟩
  rw [hw] at w7 hph hph0 e1 e1'
  obtain ⟨t, ht⟩ : ∃ t, i + j = t := ⟨_, rfl⟩
  obtain ⟨u, hu⟩ : ∃ u, h + 1 = u := ⟨_, rfl⟩
  rw [ht] at w1 w2 w3
  rw [hu] at w6 ⊢
  clear hh ht hu
  unfold c52b0
  by_cases c0 : z < 0
  · rw [if_neg (fun h => h c0)]
    simp [evCode, evOps, evOne, evOp, evPur, evEff, evPur.chunks, fillP, AOp.isEff, AO.ev, putP, PV.cells, PV.leaf, getB, getM, mapE, iterE, keyC, mapRows, mfind, eq1, eqL, scal, binP, unP, minP, maxP, foldP, PV.lt, PV.lt.ltL, endP, expoAll, expoG, expo, expo.expoL, frIds, frIds.frIdsL, nodupN, kill, cls, clsFuel, resO, RV.get, loadP, evC_p, evC_s, endS, endT, rowsOf, callP, thinL, unfr, unfr.unfrL, PV.noMem, PV.noMem.noMemL, optI, mapO, norm, trimT, trimB, forget, hasN, blksLt, List.set, softChk, softGo, softRd, effTg, rdP, CcS, c0, hij', hh0, hhn, n0, hz, w1, w2, w3, w4, w5, w6, hmin, e1, e2, e1', e2', g0, g1, g3, g4, g5, w7, hph, hph0, ↓l1, ↓l2, ↓l3, ↓l4, ↓l5, ↓l6, ↓l7, ↓q1, ↓q2, ↓q3, ↓q4, ↓q5, ↓q6, ↓q7]
  · rw [if_pos c0]
    simp [evCode, evOps, evOne, evOp, evPur, evEff, evPur.chunks, fillP, AOp.isEff, AO.ev, putP, PV.cells, PV.leaf, getB, getM, mapE, iterE, keyC, mapRows, mfind, eq1, eqL, scal, binP, unP, minP, maxP, foldP, PV.lt, PV.lt.ltL, endP, expoAll, expoG, expo, expo.expoL, frIds, frIds.frIdsL, nodupN, kill, cls, clsFuel, resO, RV.get, loadP, evC_p, evC_s, endS, endT, rowsOf, callP, thinL, unfr, unfr.unfrL, PV.noMem, PV.noMem.noMemL, optI, mapO, norm, trimT, trimB, forget, hasN, blksLt, List.set, softChk, softGo, softRd, effTg, rdP, CcS, c0, hij', hh0, hhn, n0, hz, w1, w2, w3, w4, w5, w6, hmin, e1, e2, e1', e2', g0, g1, g3, g4, g5, w7, hph, hph0, ↓l1, ↓l2, ↓l3, ↓l4, ↓l5, ↓l6, ↓l7, ↓q1, ↓q2, ↓q3, ↓q4, ↓q5, ↓q6, ↓q7]
end Go.Proofs.Ytalmhggbdfjalaa
