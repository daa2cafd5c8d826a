/- several parts in one. -/
-- BIG
import Derived.Test.YtidkdiooempkpaaDoorEtU
/- event: the reference's Cut. -/
-- LATT
namespace Go.Proofs.YtidkdiooempkpaaDoor
open Go Go.RowKit Go.Lib
attribute [local simp] evCode evOps evOne evOp evPur evEff evPur.chunks fillP AOp.isEff AO.ev putP PV.cells PV.leaf getB getM mapE iterE keyC mapRows mfind eq1 eqL scal binP unP minP maxP foldP PV.lt PV.lt.ltL endP expoAll expoG expo expo.expoL frIds frIds.frIdsL nodupN kill cls clsFuel resO RV.get loadP evC_p evC_s endS endT rowsOf callP thinL unfr unfr.unfrL PV.noMem PV.noMem.noMemL optI mapO norm trimT trimB forget hasN blksLt List.set softChk softGo softRd effTg tgOf chgN sameB PV.same PV.same.sameL PV.same.sameLL rdP
set_option linter.unusedVariables false
set_option linter.unusedSimpArgs false
set_option maxHeartbeats 4000000
set_option maxRecDepth 100000

theorem cutB_snoc (c x : UInt8) : ∀ l : List UInt8, ∃ n last, (cutB c l).length = n + 1 ∧ (cutB c l)[n]? = some last ∧ cutB c (l ++ [x]) = if x = c then cutB c l ++ [[]] else (cutB c l).set n (last ++ [x])
  | [] => by
    refine ⟨0, [], rfl, rfl, ?_⟩
    by_cases h : x = c
    · simp [cutB, h]
    · simp [cutB, h]
  | y :: r => by
    obtain ⟨n, last, h1, h2, h3⟩ := cutB_snoc c x r
    rw [List.cons_append]
    by_cases hy : y = c
    · subst hy
      have e1 : cutB y (y :: r) = [] :: cutB y r := by conv => lhs; unfold cutB; rw [if_pos rfl]
      have e2 : cutB y (y :: (r ++ [x])) = [] :: cutB y (r ++ [x]) := by conv => lhs; unfold cutB; rw [if_pos rfl]
      refine ⟨n + 1, last, by rw [e1, List.length_cons, h1], by rw [e1, List.getElem?_cons_succ, h2], ?_⟩
      rw [e1, e2, h3]
      split <;> simp
    · cases hc : cutB c r with
      | nil => exact absurd hc (cutB_ne c r)
      | cons w ws =>
        have e1 : cutB c (y :: r) = (y :: w) :: ws := by conv => lhs; unfold cutB; rw [if_neg hy, hc]
        rw [hc] at h1 h2 h3
        cases n with
        | zero =>
          have hw : w = last := by simpa using h2
          subst hw
          refine ⟨0, y :: w, by rw [e1]; simpa using h1, by rw [e1]; rfl, ?_⟩
          rw [e1]
          by_cases hxc : x = c
          · rw [if_pos hxc] at h3 ⊢
            conv => lhs; unfold cutB; rw [if_neg hy, h3]
            rfl
          · rw [if_neg hxc] at h3 ⊢
            conv => lhs; unfold cutB; rw [if_neg hy, h3]
            rfl
        | succ n =>
          refine ⟨n + 1, last, by rw [e1]; simpa using h1, by rw [e1]; simpa using h2, ?_⟩
          rw [e1]
          by_cases hxc : x = c
          · rw [if_pos hxc] at h3 ⊢
            conv => lhs; unfold cutB; rw [if_neg hy, h3]
            rfl
          · rw [if_neg hxc] at h3 ⊢
            conv => lhs; unfold cutB; rw [if_neg hy, h3]
            rfl
theorem tR_set (W : List (List UInt8)) (n : Nat) (z : List UInt8) : (tR W).set n [.str z] = tR (W.set n z) := by
  unfold tR
  rw [List.map_set]
theorem tR_app1 (W : List (List UInt8)) (z : List UInt8) : tR W ++ [[.str z]] = tR (W ++ [z]) := by
  unfold tR
  simp
def S40 (c : UInt8) (l : List UInt8) (k : Nat) : St := ⟨[.str l, .int .u8 (c.toNat : Int), .top, .top, .top, .own 1 (cutB c (l.take k)).length 0 (cutB c (l.take k)).length, .int .i64 k] ++ List.replicate 33 .top, [some ⟨0, 1, true, []⟩, some ⟨(cutB c (l.take k)).length, 1, true, tR (cutB c (l.take k))⟩]⟩
theorem f40 (c : UInt8) (l : List UInt8) (hl : l.length ≤ 1000000) : evE Dg 40 [.str l, .int .u8 (c.toNat : Int)] = some (.fr 1 (tR (cutB c l))) := by
  have H := loop_all (body := evCode (evC Dg) (l.length + 1) c40b0) (keep := [0, 1, 5, 6]) (n0 := 2) (fuel := l.length + 1) l (S40 c l) (fun _ => true) (fun _ => False)
    (by
      intro k x hx hk _
      obtain ⟨n, last, h1, h2, h3⟩ := cutB_snoc c x (l.take k)
      have ht : l.take (k + 1) = l.take k ++ [x] := by rw [List.take_add_one, hx]; rfl
      rw [← ht] at h3
      have hcl := cutB_cnt c (l.take k)
      have hcle := cntB_le c (l.take k)
      have htl : (l.take k).length ≤ l.length := by rw [List.length_take]; omega
      have hll : last.length ≤ 1000000 := by
        have := mem_join_le [c] _ last (List.mem_of_getElem? h2)
        rw [cutB_join] at this
        omega
      have hg : ∀ h : k < l.length, l[k]'h = x := fun h => by rw [List.getElem?_eq_getElem h] at hx; exact Option.some.inj hx
      obtain ⟨W, hW⟩ := ex_eq (cutB c (l.take k))
      rw [hW] at h1 h2 h3 hcl
      have tl := tR_len W
      have r1 := tR_get h2
      have g1 := tR_got h2
      have ts := tR_set W n (last ++ [x])
      have ta := tR_app1 W []
      have hk' : (k : Int) < l.length := by omega
      have w1 := wrap_i64 ((k : Int) + 1) (by omega) (by omega)
      have w2 : IntKind.i64.wrap ((n : Int) + 1 - 1) = n := by rw [wrap_i64 _ (by omega) (by omega)]; omega
      have w3 := wrap_i64 (k : Int) (by omega) (by omega)
      have w4 := wrap_i64 (n : Int) (by omega) (by omega)
      have d1 : List.drop k (List.take (k + 1) l) = [x] := by rw [ht, List.drop_left' (by rw [List.length_take]; omega)]
      have k1 : (k : Int) + 1 ≤ l.length := by omega
      have k2 : k + 1 ≤ l.length := by omega
      have n1 : n < n + 1 := by omega
      have n2 : (n : Int) < (n : Int) + 1 := by omega
      have n3 : n + 1 + 1 ≤ 140737488355328 := by omega
      have n4 : (n + 1 + 1) * 16 ≤ 140737488355328 := by omega
      have m1 : last.length + 1 ≤ 9223372036854775807 := by omega
      have kk : (k : Int) ≤ (k : Int) + 1 := by omega
      have gt : ((k : Int) + 1).toNat = k + 1 := by omega
      by_cases hxc : x = c
      · subst hxc
        rw [if_pos rfl] at h3
        have hl3 : (W ++ [[]]).length = n + 1 + 1 := by simp [h1]
        unfold c40b0
        simp (maxSteps := 100000000) [S40, hW, h1, h3, hl3, tl, r1, g1, ta, hk', hk, w1, w2, w3, w4, hx, hg, n1, n2, n3, n4]
      · rw [if_neg hxc] at h3
        have hxn : ¬ ((x.toNat : Int) = (c.toNat : Int)) := fun h => hxc (UInt8.toNat_inj.1 (by omega))
        have hxn' : ¬ (x.toNat = c.toNat) := fun h => hxc (UInt8.toNat_inj.1 h)
        have hl3 : (W.set n (last ++ [x])).length = n + 1 := by simp [h1]
        unfold c40b0
        simp (maxSteps := 100000000) [S40, hW, h1, h3, hl3, tl, r1, g1, ts, hk', hk, w1, w2, w3, w4, hx, hg, n1, n2, hxn, hxn', hxc, d1, k1, k2, m1, kk, gt])
    (by intro k t ht hk hq; cases hq)
    (by
      intro s
      unfold c40b0
      simp (maxSteps := 100000000) [S40])
    (by omega)
  refine evE_intro (l.length + 1) D40 rfl ?_
  unfold c40
  simp (maxSteps := 100000000)
  generalize hE : evLoop _ _ _ _ _ = E
  rcases H _ _ hE (by simp (maxSteps := 100000000) [S40, cutB, tR]) with ⟨q1, q2⟩ | ⟨q1, s, q2, q3⟩
  · rw [q2]
    have tl := tR_len (cutB c l)
    unfold c40b0
    simp (maxSteps := 100000000) [S40, List.take_length, tl]
  · cases q3
end Go.Proofs.YtidkdiooempkpaaDoor
/- event: the reference's read (written by mkEtX.py). -/
-- LATT
namespace Go.Proofs.YtidkdiooempkpaaDoor
open Go Go.RowKit Go.Lib
attribute [local simp] evCode evOps evOne evOp evPur evEff evPur.chunks fillP AOp.isEff AO.ev putP PV.cells PV.leaf getB getM mapE iterE keyC mapRows mfind eq1 eqL scal binP unP minP maxP foldP PV.lt PV.lt.ltL endP expoAll expoG expo expo.expoL frIds frIds.frIdsL nodupN kill cls clsFuel resO RV.get loadP evC_p evC_s endS endT rowsOf callP thinL unfr unfr.unfrL PV.noMem PV.noMem.noMemL optI mapO norm trimT trimB forget hasN blksLt List.set softChk softGo softRd effTg tgOf chgN sameB PV.same PV.same.sameL PV.same.sameLL rdP
set_option linter.unusedVariables false
set_option linter.unusedSimpArgs false
set_option maxHeartbeats 4000000
set_option maxRecDepth 100000

theorem kSo_nil : ∀ k, k ≤ 13 → kSo [] k = 0 := by
  intro k hk
  have hc : k = 0 ∨ k = 1 ∨ k = 2 ∨ k = 3 ∨ k = 4 ∨ k = 5 ∨ k = 6 ∨ k = 7 ∨ k = 8 ∨ k = 9 ∨ k = 10 ∨ k = 11 ∨ k = 12 ∨ k = 13 := by omega
  rcases hc with rfl | rfl | rfl | rfl | rfl | rfl | rfl | rfl | rfl | rfl | rfl | rfl | rfl | rfl <;> decide
def S39 (x : Bool) (W : List (List UInt8)) (a : Int) (k : Nat) : St :=
  ⟨[.sl x 1 (tR W), .top, .ptr 0 1 0 0, .top, .top, .ptr 1 1 0 0, .int .i64 k] ++ List.replicate 116 .top,
   [some ⟨1, 6, true, [[.int .i64 0, .int .i64 0, .str [], .int .i64 0, .int .i64 0, .nilS]]⟩, some ⟨1, 6, true, [[.int .i64 a, .int .i64 (kSo (wAt W 1) k), .str [], .int .i64 0, .int .i64 0, .nilS]]⟩]⟩
theorem step39 (x : Bool) (W : List (List UInt8)) (a : Int) (k : Nat) (h1 : 1 ≤ k) (h12 : k ≤ 12) (hW : W.length ≤ 1000000000) :
    ∃ s', evCode (evC Dg) 14 c39b0 (S39 x W a k) = some (.normal s') ∧ norm [0, 2, 5, 6] 2 s' = S39 x W a (k + 1) := by
  have tl := tR_len W
  have c1 : (k : Int) ≤ 12 := by omega
  have w1 := wrap_i64 ((k : Int) + 1) (by omega) (by omega)
  have h34 := f34 (k : Int) (by omega) (by omega)
  have kp : 0 < k := by omega
  by_cases hL : 1 < W.length
  · have hL' : (1 : Int) < W.length := by omega
    have hg := List.getElem?_eq_getElem hL
    have hw : wAt W 1 = W[1] := by unfold wAt; rw [hg]; rfl
    have r1 := tR_get hg
    have g1 := tR_got hg
    obtain ⟨w, hww⟩ := ex_eq (W[1])
    rw [hww] at r1 g1 hw
    by_cases hk : kW k = w
    · have hs : kSo w (k + 1) = k := by rw [kSo, if_pos ⟨kp, hk⟩]
      unfold c39b0
      simp (maxSteps := 100000000) [S39, tl, c1, h12, w1, h34, hL, hL', r1, g1, hw, hs, eq_true hk]
    · have hs : kSo w (k + 1) = kSo w k := by rw [kSo, if_neg (fun h => hk h.2)]
      unfold c39b0
      simp (maxSteps := 100000000) [S39, tl, c1, h12, w1, h34, hL, hL', r1, g1, hw, hs, hk]
  · have hL' : ¬ (1 : Int) < W.length := by omega
    have hw : wAt W 1 = [] := by unfold wAt; rw [List.getElem?_eq_none (by omega)]; rfl
    have z1 := kSo_nil k (by omega)
    have z2 := kSo_nil (k + 1) (by omega)
    unfold c39b0
    simp (maxSteps := 100000000) [S39, tl, c1, h12, w1, h34, hL, hL', hw, z1, z2]
theorem loop39 (x : Bool) (W : List (List UInt8)) (a : Int) (hW : W.length ≤ 1000000000) (E : Option Out) (s0 : St) (hE : evLoop (evCode (evC Dg) 14 c39b0) [0, 2, 5, 6] 2 14 s0 = E) (h0 : norm [0, 2, 5, 6] 2 s0 = S39 x W a 1) :
    E = evCode (evC Dg) 14 c39b0 (S39 x W a 13) := by
  have H := loop_all (body := evCode (evC Dg) 14 c39b0) (keep := [0, 2, 5, 6]) (n0 := 2) (fuel := 14) (List.range 12) (fun j => S39 x W a (j + 1)) (fun _ => true) (fun _ => False)
    (by
      intro k t _ hk _
      rw [List.length_range] at hk
      exact step39 x W a (k + 1) (by omega) (by omega) hW)
    (by intro k t ht hk hq; cases hq)
    (by
      intro s
      rw [List.length_range]
      unfold c39b0
      simp (maxSteps := 100000000) [S39])
    (by simp) s0 E hE h0
  rcases H with ⟨q1, q2⟩ | ⟨q1, s, q2, q3⟩
  · rw [q2, List.length_range]
  · cases q3
theorem tR_at {W : List (List UInt8)} {i : Nat} (h : i < W.length) : (tR W)[i]? = some [.str (wAt W i)] ∧ ∀ q, (tR W)[i]'q = [.str (wAt W i)] := by
  have hg := List.getElem?_eq_getElem h
  have hw : wAt W i = W[i] := by unfold wAt; rw [hg]; rfl
  rw [hw]
  exact ⟨tR_get hg, tR_got hg⟩
end Go.Proofs.YtidkdiooempkpaaDoor
/- event: the reference's read (written by mkEtX.py). -/
-- LATT
namespace Go.Proofs.YtidkdiooempkpaaDoor
open Go Go.RowKit Go.Lib
attribute [local simp] evCode evOps evOne evOp evPur evEff evPur.chunks fillP AOp.isEff AO.ev putP PV.cells PV.leaf getB getM mapE iterE keyC mapRows mfind eq1 eqL scal binP unP minP maxP foldP PV.lt PV.lt.ltL endP expoAll expoG expo expo.expoL frIds frIds.frIdsL nodupN kill cls clsFuel resO RV.get loadP evC_p evC_s endS endT rowsOf callP thinL unfr unfr.unfrL PV.noMem PV.noMem.noMemL optI mapO norm trimT trimB forget hasN blksLt List.set softChk softGo softRd effTg tgOf chgN sameB PV.same PV.same.sameL PV.same.sameLL rdP
set_option linter.unusedVariables false
set_option linter.unusedSimpArgs false
set_option maxHeartbeats 4000000
set_option maxRecDepth 100000

theorem f39_z (x : Bool) (W : List (List UInt8)) (k : Int) (hW : W.length ≤ 1000000000) (hk : kOf (wAt W 1) = k) (hA : kA k = false) (hB : kB k = false) (hC : kC k = false) (hD : kD k = false) (hL : 1 ≤ W.length) :
    evE Dg 39 [.sl x 1 (tR W)] = some (.agg [.int .i64 (pV (wAt W 0)), .int .i64 k, .str ([]), .int .i64 (0), .int .i64 (0), .nilS]) := by
  have tl := tR_len W
  obtain ⟨r0, g0⟩ := tR_at (show 0 < W.length by omega)
  have h0 := f53 (wAt W 0)
  have l0 : 0 < W.length := by omega
  have m0 : (0 : Int) < W.length := by omega
  have H := loop39 x W (pV (wAt W 0)) hW
  have hs := kSo13 (wAt W 1)
  rw [hk] at hs
  have h25 := f25 k
  rw [hA, hB, hC, hD] at h25
  refine evE_intro 14 D39 rfl ?_
  unfold c39
  simp (maxSteps := 100000000) [h0, tl, r0, g0, l0, m0]
  generalize hE' : evLoop _ _ _ _ _ = E
  have g := H _ _ hE' (by simp (maxSteps := 100000000) [S39, kSo])
  rw [g]
  unfold c39b0
  simp (maxSteps := 100000000) [S39, hs]
  unfold c39r0
  simp (maxSteps := 100000000) [l0, m0, show IntKind.i64.wrap 3 = 3 from rfl, show IntKind.i64.wrap 4 = 4 from rfl, show IntKind.i64.wrap 5 = 5 from rfl, show IntKind.i64.wrap 6 = 6 from rfl, h0, h25, tl, r0, g0]
theorem f39_2_0 (x : Bool) (W : List (List UInt8)) (k : Int) (hW : W.length ≤ 1000000000) (hk : kOf (wAt W 1) = k) (hA : kA k = true) (hB : kB k = true) (hC : kC k = false) (hD : kD k = false) (hL : W.length = 2) :
    evE Dg 39 [.sl x 1 (tR W)] = some (.agg [.int .i64 (pV (wAt W 0)), .int .i64 k, .str ([]), .int .i64 (0), .int .i64 (0), .nilS]) := by
  have tl := tR_len W
  obtain ⟨r0, g0⟩ := tR_at (show 0 < W.length by omega)
  have h0 := f53 (wAt W 0)
  have l0 : 0 < W.length := by omega
  have m0 : (0 : Int) < W.length := by omega
  have l2 : ¬ 2 < W.length := by omega
  have m2 : ¬ (2 : Int) < W.length := by omega
  have H := loop39 x W (pV (wAt W 0)) hW
  have hs := kSo13 (wAt W 1)
  rw [hk] at hs
  have h25 := f25 k
  rw [hA, hB, hC, hD] at h25
  refine evE_intro 14 D39 rfl ?_
  unfold c39
  simp (maxSteps := 100000000) [h0, tl, r0, g0, l0, m0]
  generalize hE' : evLoop _ _ _ _ _ = E
  have g := H _ _ hE' (by simp (maxSteps := 100000000) [S39, kSo])
  rw [g]
  unfold c39b0
  simp (maxSteps := 100000000) [S39, hs]
  unfold c39r0
  simp (maxSteps := 100000000) [l0, m0, show IntKind.i64.wrap 3 = 3 from rfl, show IntKind.i64.wrap 4 = 4 from rfl, show IntKind.i64.wrap 5 = 5 from rfl, show IntKind.i64.wrap 6 = 6 from rfl, h0, h25, tl, r0, g0, l2, m2]
theorem f39_3_1 (x : Bool) (W : List (List UInt8)) (k : Int) (hW : W.length ≤ 1000000000) (hk : kOf (wAt W 1) = k) (hA : kA k = false) (hB : kB k = true) (hC : kC k = false) (hD : kD k = true) (hL : W.length = 3) :
    evE Dg 39 [.sl x 1 (tR W)] = some (.agg [.int .i64 (pV (wAt W 0)), .int .i64 k, .str ([]), .int .i64 (pV (wAt W 2)), .int .i64 (0), .nilS]) := by
  have tl := tR_len W
  obtain ⟨r0, g0⟩ := tR_at (show 0 < W.length by omega)
  have h0 := f53 (wAt W 0)
  have l0 : 0 < W.length := by omega
  have m0 : (0 : Int) < W.length := by omega
  have p2 := f53 (wAt W 2)
  obtain ⟨r2, g2⟩ := tR_at (show 2 < W.length by omega)
  have l2 : 2 < W.length := by omega
  have m2 : (2 : Int) < W.length := by omega
  have l3 : ¬ 3 < W.length := by omega
  have m3 : ¬ (3 : Int) < W.length := by omega
  have H := loop39 x W (pV (wAt W 0)) hW
  have hs := kSo13 (wAt W 1)
  rw [hk] at hs
  have h25 := f25 k
  rw [hA, hB, hC, hD] at h25
  refine evE_intro 14 D39 rfl ?_
  unfold c39
  simp (maxSteps := 100000000) [h0, tl, r0, g0, l0, m0]
  generalize hE' : evLoop _ _ _ _ _ = E
  have g := H _ _ hE' (by simp (maxSteps := 100000000) [S39, kSo])
  rw [g]
  unfold c39b0
  simp (maxSteps := 100000000) [S39, hs]
  unfold c39r0
  simp (maxSteps := 100000000) [l0, m0, show IntKind.i64.wrap 3 = 3 from rfl, show IntKind.i64.wrap 4 = 4 from rfl, show IntKind.i64.wrap 5 = 5 from rfl, show IntKind.i64.wrap 6 = 6 from rfl, h0, h25, tl, r0, g0, p2, r2, g2, l2, m2, l3, m3]
theorem f39_4_1 (x : Bool) (W : List (List UInt8)) (k : Int) (hW : W.length ≤ 1000000000) (hk : kOf (wAt W 1) = k) (hA : kA k = false) (hB : kB k = true) (hC : kC k = false) (hD : kD k = false) (hL : 3 ≤ W.length) :
    evE Dg 39 [.sl x 1 (tR W)] = some (.agg [.int .i64 (pV (wAt W 0)), .int .i64 k, .str ([]), .int .i64 (pV (wAt W 2)), .int .i64 (0), .nilS]) := by
  have tl := tR_len W
  obtain ⟨r0, g0⟩ := tR_at (show 0 < W.length by omega)
  have h0 := f53 (wAt W 0)
  have l0 : 0 < W.length := by omega
  have m0 : (0 : Int) < W.length := by omega
  have p2 := f53 (wAt W 2)
  obtain ⟨r2, g2⟩ := tR_at (show 2 < W.length by omega)
  have l2 : 2 < W.length := by omega
  have m2 : (2 : Int) < W.length := by omega
  have H := loop39 x W (pV (wAt W 0)) hW
  have hs := kSo13 (wAt W 1)
  rw [hk] at hs
  have h25 := f25 k
  rw [hA, hB, hC, hD] at h25
  refine evE_intro 14 D39 rfl ?_
  unfold c39
  simp (maxSteps := 100000000) [h0, tl, r0, g0, l0, m0]
  generalize hE' : evLoop _ _ _ _ _ = E
  have g := H _ _ hE' (by simp (maxSteps := 100000000) [S39, kSo])
  rw [g]
  unfold c39b0
  simp (maxSteps := 100000000) [S39, hs]
  unfold c39r0
  simp (maxSteps := 100000000) [l0, m0, show IntKind.i64.wrap 3 = 3 from rfl, show IntKind.i64.wrap 4 = 4 from rfl, show IntKind.i64.wrap 5 = 5 from rfl, show IntKind.i64.wrap 6 = 6 from rfl, h0, h25, tl, r0, g0, p2, r2, g2, l2, m2]
theorem f39_6_0 (x : Bool) (W : List (List UInt8)) (k : Int) (hW : W.length ≤ 1000000000) (hk : kOf (wAt W 1) = k) (hA : kA k = false) (hB : kB k = true) (hC : kC k = true) (hD : kD k = true) (hL : W.length = 2) :
    evE Dg 39 [.sl x 1 (tR W)] = some (.agg [.int .i64 (pV (wAt W 0)), .int .i64 k, .str ([]), .int .i64 (0), .int .i64 (0), .nilS]) := by
  have tl := tR_len W
  obtain ⟨r0, g0⟩ := tR_at (show 0 < W.length by omega)
  have h0 := f53 (wAt W 0)
  have l0 : 0 < W.length := by omega
  have m0 : (0 : Int) < W.length := by omega
  have l2 : ¬ 2 < W.length := by omega
  have m2 : ¬ (2 : Int) < W.length := by omega
  have H := loop39 x W (pV (wAt W 0)) hW
  have hs := kSo13 (wAt W 1)
  rw [hk] at hs
  have h25 := f25 k
  rw [hA, hB, hC, hD] at h25
  refine evE_intro 14 D39 rfl ?_
  unfold c39
  simp (maxSteps := 100000000) [h0, tl, r0, g0, l0, m0]
  generalize hE' : evLoop _ _ _ _ _ = E
  have g := H _ _ hE' (by simp (maxSteps := 100000000) [S39, kSo])
  rw [g]
  unfold c39b0
  simp (maxSteps := 100000000) [S39, hs]
  unfold c39r0
  simp (maxSteps := 100000000) [l0, m0, show IntKind.i64.wrap 3 = 3 from rfl, show IntKind.i64.wrap 4 = 4 from rfl, show IntKind.i64.wrap 5 = 5 from rfl, show IntKind.i64.wrap 6 = 6 from rfl, h0, h25, tl, r0, g0, l2, m2]
theorem f39_6_3 (x : Bool) (W : List (List UInt8)) (k : Int) (hW : W.length ≤ 1000000000) (hk : kOf (wAt W 1) = k) (hA : kA k = false) (hB : kB k = true) (hC : kC k = true) (hD : kD k = true) (hL : 5 ≤ W.length) (hE : ¬ wAt W 4 = [59]) (hl : (wAt W 4).length ≤ 1000000) :
    evE Dg 39 [.sl x 1 (tR W)] = some (.agg [.int .i64 (pV (wAt W 0)), .int .i64 k, .str ([]), .int .i64 (pV (wAt W 2)), .int .i64 (pV (wAt W 3)), .sl false 1 (tR (cutB 59 (wAt W 4)))]) := by
  have tl := tR_len W
  obtain ⟨r0, g0⟩ := tR_at (show 0 < W.length by omega)
  have h0 := f53 (wAt W 0)
  have l0 : 0 < W.length := by omega
  have m0 : (0 : Int) < W.length := by omega
  have p2 := f53 (wAt W 2)
  obtain ⟨r2, g2⟩ := tR_at (show 2 < W.length by omega)
  have l2 : 2 < W.length := by omega
  have m2 : (2 : Int) < W.length := by omega
  have p3 := f53 (wAt W 3)
  obtain ⟨r3, g3⟩ := tR_at (show 3 < W.length by omega)
  have l3 : 3 < W.length := by omega
  have m3 : (3 : Int) < W.length := by omega
  have h40 : evE Dg 40 [.str (wAt W 4), .int .u8 59] = some (.fr 1 (tR (cutB 59 (wAt W 4)))) := f40 59 (wAt W 4) hl
  obtain ⟨r4, g4⟩ := tR_at (show 4 < W.length by omega)
  have l4 : 4 < W.length := by omega
  have m4 : (4 : Int) < W.length := by omega
  have H := loop39 x W (pV (wAt W 0)) hW
  have hs := kSo13 (wAt W 1)
  rw [hk] at hs
  have h25 := f25 k
  rw [hA, hB, hC, hD] at h25
  refine evE_intro 14 D39 rfl ?_
  unfold c39
  simp (maxSteps := 100000000) [h0, tl, r0, g0, l0, m0]
  generalize hE' : evLoop _ _ _ _ _ = E
  have g := H _ _ hE' (by simp (maxSteps := 100000000) [S39, kSo])
  rw [g]
  unfold c39b0
  simp (maxSteps := 100000000) [S39, hs]
  unfold c39r0
  simp (maxSteps := 100000000) [l0, m0, show IntKind.i64.wrap 3 = 3 from rfl, show IntKind.i64.wrap 4 = 4 from rfl, show IntKind.i64.wrap 5 = 5 from rfl, show IntKind.i64.wrap 6 = 6 from rfl, h0, h25, tl, r0, g0, p2, r2, g2, l2, m2, p3, r3, g3, l3, m3, hE, h40, r4, g4, l4, m4]
end Go.Proofs.YtidkdiooempkpaaDoor
/- event: the reference's read (written by mkEtX.py). -/
-- LATT
namespace Go.Proofs.YtidkdiooempkpaaDoor
open Go Go.RowKit Go.Lib
attribute [local simp] evCode evOps evOne evOp evPur evEff evPur.chunks fillP AOp.isEff AO.ev putP PV.cells PV.leaf getB getM mapE iterE keyC mapRows mfind eq1 eqL scal binP unP minP maxP foldP PV.lt PV.lt.ltL endP expoAll expoG expo expo.expoL frIds frIds.frIdsL nodupN kill cls clsFuel resO RV.get loadP evC_p evC_s endS endT rowsOf callP thinL unfr unfr.unfrL PV.noMem PV.noMem.noMemL optI mapO norm trimT trimB forget hasN blksLt List.set softChk softGo softRd effTg tgOf chgN sameB PV.same PV.same.sameL PV.same.sameLL rdP
set_option linter.unusedVariables false
set_option linter.unusedSimpArgs false
set_option maxHeartbeats 4000000
set_option maxRecDepth 100000

theorem f39_0_0 (x : Bool) (W : List (List UInt8)) (k : Int) (hW : W.length ≤ 1000000000) (hk : kOf (wAt W 1) = k) (hA : kA k = true) (hB : kB k = false) (hC : kC k = false) (hD : kD k = false) (hL : W.length = 2) :
    evE Dg 39 [.sl x 1 (tR W)] = some (.agg [.int .i64 (pV (wAt W 0)), .int .i64 k, .str ([]), .int .i64 (0), .int .i64 (0), .nilS]) := by
  have tl := tR_len W
  obtain ⟨r0, g0⟩ := tR_at (show 0 < W.length by omega)
  have h0 := f53 (wAt W 0)
  have l0 : 0 < W.length := by omega
  have m0 : (0 : Int) < W.length := by omega
  have l2 : ¬ 2 < W.length := by omega
  have m2 : ¬ (2 : Int) < W.length := by omega
  have H := loop39 x W (pV (wAt W 0)) hW
  have hs := kSo13 (wAt W 1)
  rw [hk] at hs
  have h25 := f25 k
  rw [hA, hB, hC, hD] at h25
  refine evE_intro 14 D39 rfl ?_
  unfold c39
  simp (maxSteps := 100000000) [h0, tl, r0, g0, l0, m0]
  generalize hE' : evLoop _ _ _ _ _ = E
  have g := H _ _ hE' (by simp (maxSteps := 100000000) [S39, kSo])
  rw [g]
  unfold c39b0
  simp (maxSteps := 100000000) [S39, hs]
  unfold c39r0
  simp (maxSteps := 100000000) [l0, m0, show IntKind.i64.wrap 3 = 3 from rfl, show IntKind.i64.wrap 4 = 4 from rfl, show IntKind.i64.wrap 5 = 5 from rfl, show IntKind.i64.wrap 6 = 6 from rfl, h0, h25, tl, r0, g0, l2, m2]
theorem f39_2_1 (x : Bool) (W : List (List UInt8)) (k : Int) (hW : W.length ≤ 1000000000) (hk : kOf (wAt W 1) = k) (hA : kA k = true) (hB : kB k = true) (hC : kC k = false) (hD : kD k = false) (hL : W.length = 3) :
    evE Dg 39 [.sl x 1 (tR W)] = some (.agg [.int .i64 (pV (wAt W 0)), .int .i64 k, .str (wAt W 2), .int .i64 (0), .int .i64 (0), .nilS]) := by
  have tl := tR_len W
  obtain ⟨r0, g0⟩ := tR_at (show 0 < W.length by omega)
  have h0 := f53 (wAt W 0)
  have l0 : 0 < W.length := by omega
  have m0 : (0 : Int) < W.length := by omega
  obtain ⟨r2, g2⟩ := tR_at (show 2 < W.length by omega)
  have l2 : 2 < W.length := by omega
  have m2 : (2 : Int) < W.length := by omega
  have l3 : ¬ 3 < W.length := by omega
  have m3 : ¬ (3 : Int) < W.length := by omega
  have H := loop39 x W (pV (wAt W 0)) hW
  have hs := kSo13 (wAt W 1)
  rw [hk] at hs
  have h25 := f25 k
  rw [hA, hB, hC, hD] at h25
  refine evE_intro 14 D39 rfl ?_
  unfold c39
  simp (maxSteps := 100000000) [h0, tl, r0, g0, l0, m0]
  generalize hE' : evLoop _ _ _ _ _ = E
  have g := H _ _ hE' (by simp (maxSteps := 100000000) [S39, kSo])
  rw [g]
  unfold c39b0
  simp (maxSteps := 100000000) [S39, hs]
  unfold c39r0
  simp (maxSteps := 100000000) [l0, m0, show IntKind.i64.wrap 3 = 3 from rfl, show IntKind.i64.wrap 4 = 4 from rfl, show IntKind.i64.wrap 5 = 5 from rfl, show IntKind.i64.wrap 6 = 6 from rfl, h0, h25, tl, r0, g0, r2, g2, l2, m2, l3, m3]
theorem f39_3_2e (x : Bool) (W : List (List UInt8)) (k : Int) (hW : W.length ≤ 1000000000) (hk : kOf (wAt W 1) = k) (hA : kA k = false) (hB : kB k = true) (hC : kC k = false) (hD : kD k = true) (hL : 4 ≤ W.length) (hE : wAt W 3 = [59]) :
    evE Dg 39 [.sl x 1 (tR W)] = some (.agg [.int .i64 (pV (wAt W 0)), .int .i64 k, .str ([]), .int .i64 (pV (wAt W 2)), .int .i64 (0), .nilS]) := by
  have tl := tR_len W
  obtain ⟨r0, g0⟩ := tR_at (show 0 < W.length by omega)
  have h0 := f53 (wAt W 0)
  have l0 : 0 < W.length := by omega
  have m0 : (0 : Int) < W.length := by omega
  have p2 := f53 (wAt W 2)
  obtain ⟨r2, g2⟩ := tR_at (show 2 < W.length by omega)
  have l2 : 2 < W.length := by omega
  have m2 : (2 : Int) < W.length := by omega
  obtain ⟨r3, g3⟩ := tR_at (show 3 < W.length by omega)
  have l3 : 3 < W.length := by omega
  have m3 : (3 : Int) < W.length := by omega
  have H := loop39 x W (pV (wAt W 0)) hW
  have hs := kSo13 (wAt W 1)
  rw [hk] at hs
  have h25 := f25 k
  rw [hA, hB, hC, hD] at h25
  refine evE_intro 14 D39 rfl ?_
  unfold c39
  simp (maxSteps := 100000000) [h0, tl, r0, g0, l0, m0]
  generalize hE' : evLoop _ _ _ _ _ = E
  have g := H _ _ hE' (by simp (maxSteps := 100000000) [S39, kSo])
  rw [g]
  unfold c39b0
  simp (maxSteps := 100000000) [S39, hs]
  unfold c39r0
  simp (maxSteps := 100000000) [l0, m0, show IntKind.i64.wrap 3 = 3 from rfl, show IntKind.i64.wrap 4 = 4 from rfl, show IntKind.i64.wrap 5 = 5 from rfl, show IntKind.i64.wrap 6 = 6 from rfl, h0, h25, tl, r0, g0, p2, r2, g2, l2, m2, eq_true hE, r3, g3, l3, m3]
theorem f39_5_0 (x : Bool) (W : List (List UInt8)) (k : Int) (hW : W.length ≤ 1000000000) (hk : kOf (wAt W 1) = k) (hA : kA k = false) (hB : kB k = true) (hC : kC k = true) (hD : kD k = false) (hL : W.length = 2) :
    evE Dg 39 [.sl x 1 (tR W)] = some (.agg [.int .i64 (pV (wAt W 0)), .int .i64 k, .str ([]), .int .i64 (0), .int .i64 (0), .nilS]) := by
  have tl := tR_len W
  obtain ⟨r0, g0⟩ := tR_at (show 0 < W.length by omega)
  have h0 := f53 (wAt W 0)
  have l0 : 0 < W.length := by omega
  have m0 : (0 : Int) < W.length := by omega
  have l2 : ¬ 2 < W.length := by omega
  have m2 : ¬ (2 : Int) < W.length := by omega
  have H := loop39 x W (pV (wAt W 0)) hW
  have hs := kSo13 (wAt W 1)
  rw [hk] at hs
  have h25 := f25 k
  rw [hA, hB, hC, hD] at h25
  refine evE_intro 14 D39 rfl ?_
  unfold c39
  simp (maxSteps := 100000000) [h0, tl, r0, g0, l0, m0]
  generalize hE' : evLoop _ _ _ _ _ = E
  have g := H _ _ hE' (by simp (maxSteps := 100000000) [S39, kSo])
  rw [g]
  unfold c39b0
  simp (maxSteps := 100000000) [S39, hs]
  unfold c39r0
  simp (maxSteps := 100000000) [l0, m0, show IntKind.i64.wrap 3 = 3 from rfl, show IntKind.i64.wrap 4 = 4 from rfl, show IntKind.i64.wrap 5 = 5 from rfl, show IntKind.i64.wrap 6 = 6 from rfl, h0, h25, tl, r0, g0, l2, m2]
theorem f39_6_1 (x : Bool) (W : List (List UInt8)) (k : Int) (hW : W.length ≤ 1000000000) (hk : kOf (wAt W 1) = k) (hA : kA k = false) (hB : kB k = true) (hC : kC k = true) (hD : kD k = true) (hL : W.length = 3) :
    evE Dg 39 [.sl x 1 (tR W)] = some (.agg [.int .i64 (pV (wAt W 0)), .int .i64 k, .str ([]), .int .i64 (pV (wAt W 2)), .int .i64 (0), .nilS]) := by
  have tl := tR_len W
  obtain ⟨r0, g0⟩ := tR_at (show 0 < W.length by omega)
  have h0 := f53 (wAt W 0)
  have l0 : 0 < W.length := by omega
  have m0 : (0 : Int) < W.length := by omega
  have p2 := f53 (wAt W 2)
  obtain ⟨r2, g2⟩ := tR_at (show 2 < W.length by omega)
  have l2 : 2 < W.length := by omega
  have m2 : (2 : Int) < W.length := by omega
  have l3 : ¬ 3 < W.length := by omega
  have m3 : ¬ (3 : Int) < W.length := by omega
  have H := loop39 x W (pV (wAt W 0)) hW
  have hs := kSo13 (wAt W 1)
  rw [hk] at hs
  have h25 := f25 k
  rw [hA, hB, hC, hD] at h25
  refine evE_intro 14 D39 rfl ?_
  unfold c39
  simp (maxSteps := 100000000) [h0, tl, r0, g0, l0, m0]
  generalize hE' : evLoop _ _ _ _ _ = E
  have g := H _ _ hE' (by simp (maxSteps := 100000000) [S39, kSo])
  rw [g]
  unfold c39b0
  simp (maxSteps := 100000000) [S39, hs]
  unfold c39r0
  simp (maxSteps := 100000000) [l0, m0, show IntKind.i64.wrap 3 = 3 from rfl, show IntKind.i64.wrap 4 = 4 from rfl, show IntKind.i64.wrap 5 = 5 from rfl, show IntKind.i64.wrap 6 = 6 from rfl, h0, h25, tl, r0, g0, p2, r2, g2, l2, m2, l3, m3]
end Go.Proofs.YtidkdiooempkpaaDoor
/- event: the reference's read (written by mkEtX.py). -/
-- LATT
namespace Go.Proofs.YtidkdiooempkpaaDoor
open Go Go.RowKit Go.Lib
attribute [local simp] evCode evOps evOne evOp evPur evEff evPur.chunks fillP AOp.isEff AO.ev putP PV.cells PV.leaf getB getM mapE iterE keyC mapRows mfind eq1 eqL scal binP unP minP maxP foldP PV.lt PV.lt.ltL endP expoAll expoG expo expo.expoL frIds frIds.frIdsL nodupN kill cls clsFuel resO RV.get loadP evC_p evC_s endS endT rowsOf callP thinL unfr unfr.unfrL PV.noMem PV.noMem.noMemL optI mapO norm trimT trimB forget hasN blksLt List.set softChk softGo softRd effTg tgOf chgN sameB PV.same PV.same.sameL PV.same.sameLL rdP
set_option linter.unusedVariables false
set_option linter.unusedSimpArgs false
set_option maxHeartbeats 4000000
set_option maxRecDepth 100000

theorem f39_0_1 (x : Bool) (W : List (List UInt8)) (k : Int) (hW : W.length ≤ 1000000000) (hk : kOf (wAt W 1) = k) (hA : kA k = true) (hB : kB k = false) (hC : kC k = false) (hD : kD k = false) (hL : 3 ≤ W.length) :
    evE Dg 39 [.sl x 1 (tR W)] = some (.agg [.int .i64 (pV (wAt W 0)), .int .i64 k, .str (wAt W 2), .int .i64 (0), .int .i64 (0), .nilS]) := by
  have tl := tR_len W
  obtain ⟨r0, g0⟩ := tR_at (show 0 < W.length by omega)
  have h0 := f53 (wAt W 0)
  have l0 : 0 < W.length := by omega
  have m0 : (0 : Int) < W.length := by omega
  obtain ⟨r2, g2⟩ := tR_at (show 2 < W.length by omega)
  have l2 : 2 < W.length := by omega
  have m2 : (2 : Int) < W.length := by omega
  have H := loop39 x W (pV (wAt W 0)) hW
  have hs := kSo13 (wAt W 1)
  rw [hk] at hs
  have h25 := f25 k
  rw [hA, hB, hC, hD] at h25
  refine evE_intro 14 D39 rfl ?_
  unfold c39
  simp (maxSteps := 100000000) [h0, tl, r0, g0, l0, m0]
  generalize hE' : evLoop _ _ _ _ _ = E
  have g := H _ _ hE' (by simp (maxSteps := 100000000) [S39, kSo])
  rw [g]
  unfold c39b0
  simp (maxSteps := 100000000) [S39, hs]
  unfold c39r0
  simp (maxSteps := 100000000) [l0, m0, show IntKind.i64.wrap 3 = 3 from rfl, show IntKind.i64.wrap 4 = 4 from rfl, show IntKind.i64.wrap 5 = 5 from rfl, show IntKind.i64.wrap 6 = 6 from rfl, h0, h25, tl, r0, g0, r2, g2, l2, m2]
theorem f39_2_2 (x : Bool) (W : List (List UInt8)) (k : Int) (hW : W.length ≤ 1000000000) (hk : kOf (wAt W 1) = k) (hA : kA k = true) (hB : kB k = true) (hC : kC k = false) (hD : kD k = false) (hL : 4 ≤ W.length) :
    evE Dg 39 [.sl x 1 (tR W)] = some (.agg [.int .i64 (pV (wAt W 0)), .int .i64 k, .str (wAt W 2), .int .i64 (pV (wAt W 3)), .int .i64 (0), .nilS]) := by
  have tl := tR_len W
  obtain ⟨r0, g0⟩ := tR_at (show 0 < W.length by omega)
  have h0 := f53 (wAt W 0)
  have l0 : 0 < W.length := by omega
  have m0 : (0 : Int) < W.length := by omega
  obtain ⟨r2, g2⟩ := tR_at (show 2 < W.length by omega)
  have l2 : 2 < W.length := by omega
  have m2 : (2 : Int) < W.length := by omega
  have p3 := f53 (wAt W 3)
  obtain ⟨r3, g3⟩ := tR_at (show 3 < W.length by omega)
  have l3 : 3 < W.length := by omega
  have m3 : (3 : Int) < W.length := by omega
  have H := loop39 x W (pV (wAt W 0)) hW
  have hs := kSo13 (wAt W 1)
  rw [hk] at hs
  have h25 := f25 k
  rw [hA, hB, hC, hD] at h25
  refine evE_intro 14 D39 rfl ?_
  unfold c39
  simp (maxSteps := 100000000) [h0, tl, r0, g0, l0, m0]
  generalize hE' : evLoop _ _ _ _ _ = E
  have g := H _ _ hE' (by simp (maxSteps := 100000000) [S39, kSo])
  rw [g]
  unfold c39b0
  simp (maxSteps := 100000000) [S39, hs]
  unfold c39r0
  simp (maxSteps := 100000000) [l0, m0, show IntKind.i64.wrap 3 = 3 from rfl, show IntKind.i64.wrap 4 = 4 from rfl, show IntKind.i64.wrap 5 = 5 from rfl, show IntKind.i64.wrap 6 = 6 from rfl, h0, h25, tl, r0, g0, r2, g2, l2, m2, p3, r3, g3, l3, m3]
theorem f39_3_2 (x : Bool) (W : List (List UInt8)) (k : Int) (hW : W.length ≤ 1000000000) (hk : kOf (wAt W 1) = k) (hA : kA k = false) (hB : kB k = true) (hC : kC k = false) (hD : kD k = true) (hL : 4 ≤ W.length) (hE : ¬ wAt W 3 = [59]) (hl : (wAt W 3).length ≤ 1000000) :
    evE Dg 39 [.sl x 1 (tR W)] = some (.agg [.int .i64 (pV (wAt W 0)), .int .i64 k, .str ([]), .int .i64 (pV (wAt W 2)), .int .i64 (0), .sl false 1 (tR (cutB 59 (wAt W 3)))]) := by
  have tl := tR_len W
  obtain ⟨r0, g0⟩ := tR_at (show 0 < W.length by omega)
  have h0 := f53 (wAt W 0)
  have l0 : 0 < W.length := by omega
  have m0 : (0 : Int) < W.length := by omega
  have p2 := f53 (wAt W 2)
  obtain ⟨r2, g2⟩ := tR_at (show 2 < W.length by omega)
  have l2 : 2 < W.length := by omega
  have m2 : (2 : Int) < W.length := by omega
  have h40 : evE Dg 40 [.str (wAt W 3), .int .u8 59] = some (.fr 1 (tR (cutB 59 (wAt W 3)))) := f40 59 (wAt W 3) hl
  obtain ⟨r3, g3⟩ := tR_at (show 3 < W.length by omega)
  have l3 : 3 < W.length := by omega
  have m3 : (3 : Int) < W.length := by omega
  have H := loop39 x W (pV (wAt W 0)) hW
  have hs := kSo13 (wAt W 1)
  rw [hk] at hs
  have h25 := f25 k
  rw [hA, hB, hC, hD] at h25
  refine evE_intro 14 D39 rfl ?_
  unfold c39
  simp (maxSteps := 100000000) [h0, tl, r0, g0, l0, m0]
  generalize hE' : evLoop _ _ _ _ _ = E
  have g := H _ _ hE' (by simp (maxSteps := 100000000) [S39, kSo])
  rw [g]
  unfold c39b0
  simp (maxSteps := 100000000) [S39, hs]
  unfold c39r0
  simp (maxSteps := 100000000) [l0, m0, show IntKind.i64.wrap 3 = 3 from rfl, show IntKind.i64.wrap 4 = 4 from rfl, show IntKind.i64.wrap 5 = 5 from rfl, show IntKind.i64.wrap 6 = 6 from rfl, h0, h25, tl, r0, g0, p2, r2, g2, l2, m2, hE, h40, r3, g3, l3, m3]
theorem f39_5_1 (x : Bool) (W : List (List UInt8)) (k : Int) (hW : W.length ≤ 1000000000) (hk : kOf (wAt W 1) = k) (hA : kA k = false) (hB : kB k = true) (hC : kC k = true) (hD : kD k = false) (hL : W.length = 3) :
    evE Dg 39 [.sl x 1 (tR W)] = some (.agg [.int .i64 (pV (wAt W 0)), .int .i64 k, .str ([]), .int .i64 (pV (wAt W 2)), .int .i64 (0), .nilS]) := by
  have tl := tR_len W
  obtain ⟨r0, g0⟩ := tR_at (show 0 < W.length by omega)
  have h0 := f53 (wAt W 0)
  have l0 : 0 < W.length := by omega
  have m0 : (0 : Int) < W.length := by omega
  have p2 := f53 (wAt W 2)
  obtain ⟨r2, g2⟩ := tR_at (show 2 < W.length by omega)
  have l2 : 2 < W.length := by omega
  have m2 : (2 : Int) < W.length := by omega
  have l3 : ¬ 3 < W.length := by omega
  have m3 : ¬ (3 : Int) < W.length := by omega
  have H := loop39 x W (pV (wAt W 0)) hW
  have hs := kSo13 (wAt W 1)
  rw [hk] at hs
  have h25 := f25 k
  rw [hA, hB, hC, hD] at h25
  refine evE_intro 14 D39 rfl ?_
  unfold c39
  simp (maxSteps := 100000000) [h0, tl, r0, g0, l0, m0]
  generalize hE' : evLoop _ _ _ _ _ = E
  have g := H _ _ hE' (by simp (maxSteps := 100000000) [S39, kSo])
  rw [g]
  unfold c39b0
  simp (maxSteps := 100000000) [S39, hs]
  unfold c39r0
  simp (maxSteps := 100000000) [l0, m0, show IntKind.i64.wrap 3 = 3 from rfl, show IntKind.i64.wrap 4 = 4 from rfl, show IntKind.i64.wrap 5 = 5 from rfl, show IntKind.i64.wrap 6 = 6 from rfl, h0, h25, tl, r0, g0, p2, r2, g2, l2, m2, l3, m3]
theorem f39_6_2 (x : Bool) (W : List (List UInt8)) (k : Int) (hW : W.length ≤ 1000000000) (hk : kOf (wAt W 1) = k) (hA : kA k = false) (hB : kB k = true) (hC : kC k = true) (hD : kD k = true) (hL : W.length = 4) :
    evE Dg 39 [.sl x 1 (tR W)] = some (.agg [.int .i64 (pV (wAt W 0)), .int .i64 k, .str ([]), .int .i64 (pV (wAt W 2)), .int .i64 (pV (wAt W 3)), .nilS]) := by
  have tl := tR_len W
  obtain ⟨r0, g0⟩ := tR_at (show 0 < W.length by omega)
  have h0 := f53 (wAt W 0)
  have l0 : 0 < W.length := by omega
  have m0 : (0 : Int) < W.length := by omega
  have p2 := f53 (wAt W 2)
  obtain ⟨r2, g2⟩ := tR_at (show 2 < W.length by omega)
  have l2 : 2 < W.length := by omega
  have m2 : (2 : Int) < W.length := by omega
  have p3 := f53 (wAt W 3)
  obtain ⟨r3, g3⟩ := tR_at (show 3 < W.length by omega)
  have l3 : 3 < W.length := by omega
  have m3 : (3 : Int) < W.length := by omega
  have l4 : ¬ 4 < W.length := by omega
  have m4 : ¬ (4 : Int) < W.length := by omega
  have H := loop39 x W (pV (wAt W 0)) hW
  have hs := kSo13 (wAt W 1)
  rw [hk] at hs
  have h25 := f25 k
  rw [hA, hB, hC, hD] at h25
  refine evE_intro 14 D39 rfl ?_
  unfold c39
  simp (maxSteps := 100000000) [h0, tl, r0, g0, l0, m0]
  generalize hE' : evLoop _ _ _ _ _ = E
  have g := H _ _ hE' (by simp (maxSteps := 100000000) [S39, kSo])
  rw [g]
  unfold c39b0
  simp (maxSteps := 100000000) [S39, hs]
  unfold c39r0
  simp (maxSteps := 100000000) [l0, m0, show IntKind.i64.wrap 3 = 3 from rfl, show IntKind.i64.wrap 4 = 4 from rfl, show IntKind.i64.wrap 5 = 5 from rfl, show IntKind.i64.wrap 6 = 6 from rfl, h0, h25, tl, r0, g0, p2, r2, g2, l2, m2, p3, r3, g3, l3, m3, l4, m4]
end Go.Proofs.YtidkdiooempkpaaDoor
/- event: the reference's read (written by mkEtX.py). -/
-- LATT
namespace Go.Proofs.YtidkdiooempkpaaDoor
open Go Go.RowKit Go.Lib
attribute [local simp] evCode evOps evOne evOp evPur evEff evPur.chunks fillP AOp.isEff AO.ev putP PV.cells PV.leaf getB getM mapE iterE keyC mapRows mfind eq1 eqL scal binP unP minP maxP foldP PV.lt PV.lt.ltL endP expoAll expoG expo expo.expoL frIds frIds.frIdsL nodupN kill cls clsFuel resO RV.get loadP evC_p evC_s endS endT rowsOf callP thinL unfr unfr.unfrL PV.noMem PV.noMem.noMemL optI mapO norm trimT trimB forget hasN blksLt List.set softChk softGo softRd effTg tgOf chgN sameB PV.same PV.same.sameL PV.same.sameLL rdP
set_option linter.unusedVariables false
set_option linter.unusedSimpArgs false
set_option maxHeartbeats 4000000
set_option maxRecDepth 100000

theorem f39_1_0 (x : Bool) (W : List (List UInt8)) (k : Int) (hW : W.length ≤ 1000000000) (hk : kOf (wAt W 1) = k) (hA : kA k = false) (hB : kB k = false) (hC : kC k = false) (hD : kD k = false) (hL : 2 ≤ W.length) :
    evE Dg 39 [.sl x 1 (tR W)] = some (.agg [.int .i64 (pV (wAt W 0)), .int .i64 k, .str ([]), .int .i64 (0), .int .i64 (0), .nilS]) := by
  have tl := tR_len W
  obtain ⟨r0, g0⟩ := tR_at (show 0 < W.length by omega)
  have h0 := f53 (wAt W 0)
  have l0 : 0 < W.length := by omega
  have m0 : (0 : Int) < W.length := by omega
  have H := loop39 x W (pV (wAt W 0)) hW
  have hs := kSo13 (wAt W 1)
  rw [hk] at hs
  have h25 := f25 k
  rw [hA, hB, hC, hD] at h25
  refine evE_intro 14 D39 rfl ?_
  unfold c39
  simp (maxSteps := 100000000) [h0, tl, r0, g0, l0, m0]
  generalize hE' : evLoop _ _ _ _ _ = E
  have g := H _ _ hE' (by simp (maxSteps := 100000000) [S39, kSo])
  rw [g]
  unfold c39b0
  simp (maxSteps := 100000000) [S39, hs]
  unfold c39r0
  simp (maxSteps := 100000000) [l0, m0, show IntKind.i64.wrap 3 = 3 from rfl, show IntKind.i64.wrap 4 = 4 from rfl, show IntKind.i64.wrap 5 = 5 from rfl, show IntKind.i64.wrap 6 = 6 from rfl, h0, h25, tl, r0, g0]
theorem f39_3_0 (x : Bool) (W : List (List UInt8)) (k : Int) (hW : W.length ≤ 1000000000) (hk : kOf (wAt W 1) = k) (hA : kA k = false) (hB : kB k = true) (hC : kC k = false) (hD : kD k = true) (hL : W.length = 2) :
    evE Dg 39 [.sl x 1 (tR W)] = some (.agg [.int .i64 (pV (wAt W 0)), .int .i64 k, .str ([]), .int .i64 (0), .int .i64 (0), .nilS]) := by
  have tl := tR_len W
  obtain ⟨r0, g0⟩ := tR_at (show 0 < W.length by omega)
  have h0 := f53 (wAt W 0)
  have l0 : 0 < W.length := by omega
  have m0 : (0 : Int) < W.length := by omega
  have l2 : ¬ 2 < W.length := by omega
  have m2 : ¬ (2 : Int) < W.length := by omega
  have H := loop39 x W (pV (wAt W 0)) hW
  have hs := kSo13 (wAt W 1)
  rw [hk] at hs
  have h25 := f25 k
  rw [hA, hB, hC, hD] at h25
  refine evE_intro 14 D39 rfl ?_
  unfold c39
  simp (maxSteps := 100000000) [h0, tl, r0, g0, l0, m0]
  generalize hE' : evLoop _ _ _ _ _ = E
  have g := H _ _ hE' (by simp (maxSteps := 100000000) [S39, kSo])
  rw [g]
  unfold c39b0
  simp (maxSteps := 100000000) [S39, hs]
  unfold c39r0
  simp (maxSteps := 100000000) [l0, m0, show IntKind.i64.wrap 3 = 3 from rfl, show IntKind.i64.wrap 4 = 4 from rfl, show IntKind.i64.wrap 5 = 5 from rfl, show IntKind.i64.wrap 6 = 6 from rfl, h0, h25, tl, r0, g0, l2, m2]
theorem f39_4_0 (x : Bool) (W : List (List UInt8)) (k : Int) (hW : W.length ≤ 1000000000) (hk : kOf (wAt W 1) = k) (hA : kA k = false) (hB : kB k = true) (hC : kC k = false) (hD : kD k = false) (hL : W.length = 2) :
    evE Dg 39 [.sl x 1 (tR W)] = some (.agg [.int .i64 (pV (wAt W 0)), .int .i64 k, .str ([]), .int .i64 (0), .int .i64 (0), .nilS]) := by
  have tl := tR_len W
  obtain ⟨r0, g0⟩ := tR_at (show 0 < W.length by omega)
  have h0 := f53 (wAt W 0)
  have l0 : 0 < W.length := by omega
  have m0 : (0 : Int) < W.length := by omega
  have l2 : ¬ 2 < W.length := by omega
  have m2 : ¬ (2 : Int) < W.length := by omega
  have H := loop39 x W (pV (wAt W 0)) hW
  have hs := kSo13 (wAt W 1)
  rw [hk] at hs
  have h25 := f25 k
  rw [hA, hB, hC, hD] at h25
  refine evE_intro 14 D39 rfl ?_
  unfold c39
  simp (maxSteps := 100000000) [h0, tl, r0, g0, l0, m0]
  generalize hE' : evLoop _ _ _ _ _ = E
  have g := H _ _ hE' (by simp (maxSteps := 100000000) [S39, kSo])
  rw [g]
  unfold c39b0
  simp (maxSteps := 100000000) [S39, hs]
  unfold c39r0
  simp (maxSteps := 100000000) [l0, m0, show IntKind.i64.wrap 3 = 3 from rfl, show IntKind.i64.wrap 4 = 4 from rfl, show IntKind.i64.wrap 5 = 5 from rfl, show IntKind.i64.wrap 6 = 6 from rfl, h0, h25, tl, r0, g0, l2, m2]
theorem f39_5_2 (x : Bool) (W : List (List UInt8)) (k : Int) (hW : W.length ≤ 1000000000) (hk : kOf (wAt W 1) = k) (hA : kA k = false) (hB : kB k = true) (hC : kC k = true) (hD : kD k = false) (hL : 4 ≤ W.length) :
    evE Dg 39 [.sl x 1 (tR W)] = some (.agg [.int .i64 (pV (wAt W 0)), .int .i64 k, .str ([]), .int .i64 (pV (wAt W 2)), .int .i64 (pV (wAt W 3)), .nilS]) := by
  have tl := tR_len W
  obtain ⟨r0, g0⟩ := tR_at (show 0 < W.length by omega)
  have h0 := f53 (wAt W 0)
  have l0 : 0 < W.length := by omega
  have m0 : (0 : Int) < W.length := by omega
  have p2 := f53 (wAt W 2)
  obtain ⟨r2, g2⟩ := tR_at (show 2 < W.length by omega)
  have l2 : 2 < W.length := by omega
  have m2 : (2 : Int) < W.length := by omega
  have p3 := f53 (wAt W 3)
  obtain ⟨r3, g3⟩ := tR_at (show 3 < W.length by omega)
  have l3 : 3 < W.length := by omega
  have m3 : (3 : Int) < W.length := by omega
  have H := loop39 x W (pV (wAt W 0)) hW
  have hs := kSo13 (wAt W 1)
  rw [hk] at hs
  have h25 := f25 k
  rw [hA, hB, hC, hD] at h25
  refine evE_intro 14 D39 rfl ?_
  unfold c39
  simp (maxSteps := 100000000) [h0, tl, r0, g0, l0, m0]
  generalize hE' : evLoop _ _ _ _ _ = E
  have g := H _ _ hE' (by simp (maxSteps := 100000000) [S39, kSo])
  rw [g]
  unfold c39b0
  simp (maxSteps := 100000000) [S39, hs]
  unfold c39r0
  simp (maxSteps := 100000000) [l0, m0, show IntKind.i64.wrap 3 = 3 from rfl, show IntKind.i64.wrap 4 = 4 from rfl, show IntKind.i64.wrap 5 = 5 from rfl, show IntKind.i64.wrap 6 = 6 from rfl, h0, h25, tl, r0, g0, p2, r2, g2, l2, m2, p3, r3, g3, l3, m3]
theorem f39_6_3e (x : Bool) (W : List (List UInt8)) (k : Int) (hW : W.length ≤ 1000000000) (hk : kOf (wAt W 1) = k) (hA : kA k = false) (hB : kB k = true) (hC : kC k = true) (hD : kD k = true) (hL : 5 ≤ W.length) (hE : wAt W 4 = [59]) :
    evE Dg 39 [.sl x 1 (tR W)] = some (.agg [.int .i64 (pV (wAt W 0)), .int .i64 k, .str ([]), .int .i64 (pV (wAt W 2)), .int .i64 (pV (wAt W 3)), .nilS]) := by
  have tl := tR_len W
  obtain ⟨r0, g0⟩ := tR_at (show 0 < W.length by omega)
  have h0 := f53 (wAt W 0)
  have l0 : 0 < W.length := by omega
  have m0 : (0 : Int) < W.length := by omega
  have p2 := f53 (wAt W 2)
  obtain ⟨r2, g2⟩ := tR_at (show 2 < W.length by omega)
  have l2 : 2 < W.length := by omega
  have m2 : (2 : Int) < W.length := by omega
  have p3 := f53 (wAt W 3)
  obtain ⟨r3, g3⟩ := tR_at (show 3 < W.length by omega)
  have l3 : 3 < W.length := by omega
  have m3 : (3 : Int) < W.length := by omega
  obtain ⟨r4, g4⟩ := tR_at (show 4 < W.length by omega)
  have l4 : 4 < W.length := by omega
  have m4 : (4 : Int) < W.length := by omega
  have H := loop39 x W (pV (wAt W 0)) hW
  have hs := kSo13 (wAt W 1)
  rw [hk] at hs
  have h25 := f25 k
  rw [hA, hB, hC, hD] at h25
  refine evE_intro 14 D39 rfl ?_
  unfold c39
  simp (maxSteps := 100000000) [h0, tl, r0, g0, l0, m0]
  generalize hE' : evLoop _ _ _ _ _ = E
  have g := H _ _ hE' (by simp (maxSteps := 100000000) [S39, kSo])
  rw [g]
  unfold c39b0
  simp (maxSteps := 100000000) [S39, hs]
  unfold c39r0
  simp (maxSteps := 100000000) [l0, m0, show IntKind.i64.wrap 3 = 3 from rfl, show IntKind.i64.wrap 4 = 4 from rfl, show IntKind.i64.wrap 5 = 5 from rfl, show IntKind.i64.wrap 6 = 6 from rfl, h0, h25, tl, r0, g0, p2, r2, g2, l2, m2, p3, r3, g3, l3, m3, eq_true hE, r4, g4, l4, m4]
end Go.Proofs.YtidkdiooempkpaaDoor
