/- Integral of the reference; CounterSums. -/
import Derived.Test.YtecmcggnpgjbiaaCtK
namespace Go.Proofs.Ytecmcggnpgjbiaa
open Go Go.RowKit
set_option linter.unusedVariables false
set_option linter.unusedSimpArgs false
set_option maxHeartbeats 4000000

theorem sg_scaled (v d : Int) (hd : 0 ≤ d) : sg (decide (v < 0), v.natAbs * d.natAbs) = v * d := by
  unfold sg
  have e : ((v.natAbs * d.natAbs : Nat) : Int) = (v.natAbs : Int) * d := by rw [Int.natCast_mul, show ((d.natAbs : Nat) : Int) = d by omega]
  simp only [decide_eq_true_eq]
  rw [e]
  split
  · rw [show (v.natAbs : Int) = -v by omega, Int.neg_mul, Int.neg_neg]
  · rw [show (v.natAbs : Int) = v by omega]
theorem abs_le {v d : Int} (hv1 : -1000000000000000 ≤ v) (hv2 : v ≤ 1000000000000000) (hd1 : 0 ≤ d) (hd2 : d ≤ 1000000000000) : v.natAbs * d.natAbs ≤ 1000000000000000000000000000 := by
  have : v.natAbs * d.natAbs ≤ 1000000000000000 * 1000000000000 := Nat.mul_le_mul (by omega) (by omega)
  omega
theorem seg_le {name : List UInt8} {F T : Int} {a : Stp} {r : List Stp} (hF : 0 ≤ F) (hT : T ≤ 1000000000000) (hv1 : -1000000000000000 ≤ a.2.2) (hv2 : a.2.2 ≤ 1000000000000000) : (seg name F T a r).natAbs ≤ 1000000000000000000000000000 := by
  unfold seg
  split
  · rename_i hc
    rw [Int.natAbs_mul]
    exact abs_le hv1 hv2 (by omega) (by omega)
  · simp
theorem ref_le {name : List UInt8} {F T : Int} (hF : 0 ≤ F) (hT : T ≤ 1000000000000) : ∀ {l : List Stp}, rng l → (refL name F T l).natAbs ≤ l.length * 1000000000000000000000000000
  | [], _ => by simp [refL]
  | a :: r, h => by
    have ih := ref_le (name := name) hF hT (l := r) fun c hc => h c (List.mem_cons_of_mem _ hc)
    obtain ⟨_, _, h3, h4⟩ := h a List.mem_cons_self
    have hs := seg_le (name := name) (r := r) hF hT h3 h4
    rw [refL, List.length_cons]
    omega
theorem le_step {u k : Nat} (h : u ≤ k * 1000000000000000000000000000) : u ≤ (k + 1) * 1000000000000000000000000000 := Nat.le_trans h (Nat.mul_le_mul_right _ (Nat.le_succ k))
def S21 (x : Bool) (l : List Stp) (name : List UInt8) (F T : Int) (k : Nat) (u : Bool × Nat) : St := ⟨[eSp x l, .str name, .top, .top, .top, .ptr 0 1 0 0, .top, .top, .ptr 1 1 0 0, .int .i64 k] ++ List.replicate 59 .top,
  [some ⟨1, 2, true, [[.int .i64 F, .int .i64 T]]⟩, some ⟨1, 3, true, [(eG u.1 u.2).cells]⟩]⟩
set_option maxRecDepth 100000 in
theorem f21 (x : Bool) (l : List Stp) (hl : l.length ≤ 1000) (hr : rng l) (name : List UInt8) (F T : Int) : evE Dg 21 [eSp x l, .str name, .agg [.int .i64 F, .int .i64 T]] = some (intR F T (refL name F T l)) := by
  have el : (l.map row).length = l.length := by simp
  have h34 := f34 F T
  unfold intR
  by_cases cv : 0 ≤ F ∧ F < T ∧ T ≤ 1000000000000
  rotate_left
  · rw [if_neg cv]
    rw [decide_eq_false cv] at h34
    refine evE_intro 3 D21 rfl ?_
    unfold c21
    simp [evCode, evOps, evOne, evOp, evPur, evEff, evPur.chunks, fillP, AOp.isEff, AO.ev, putP, PV.cells, PV.leaf, getB, getM, mapE, keyC, mapRows, mfind, eq1, eqL, scal, binP, unP, minP, maxP, foldP, PV.lt, PV.lt.ltL, endP, expoAll, expo, expo.expoL, frIds, frIds.frIdsL, nodupN, kill, cls, clsFuel, resO, RV.get, loadP, evC_p, evC_s, endS, endT, rowsOf, callP, thinL, unfr, unfr.unfrL, PV.noMem, PV.noMem.noMemL, optI, mapO, norm, trimT, trimB, forget, hasN, blksLt, List.set, h34]
  rw [if_pos cv]
  rw [decide_eq_true cv] at h34
  obtain ⟨v1, v2, v3⟩ := cv
  have H := loop_inv (body := evCode (evC Dg) 1010 c21b0) (keep := [0, 1, 5, 8, 9]) (n0 := 2) (fuel := 1010) l (S21 x l name F T) (fun k u => sg u + refL name F T (l.drop k) = refL name F T l ∧ u.2 ≤ k * 1000000000000000000000000000) (fun _ => False)
    (by
      rintro k a u ha hk ⟨i1, i2⟩
      left
      have hk' : (k : Int) < l.length := by omega
      have g1 := map_get (f := row) ha
      have g2 := sp_got ha
      obtain ⟨r1, r2, r3, r4⟩ := hr a (List.mem_of_getElem? ha)
      have w1 := wrap_i64 ((k : Int) + 1) (by omega) (by omega)
      have h35 := f35 x l (by omega) k a ha hk
      rw [unt_drop] at h35
      have hd : l.drop k = a :: l.drop (k + 1) := by
        obtain ⟨q1, q2⟩ := List.getElem?_eq_some_iff.1 ha
        rw [List.drop_eq_getElem_cons q1, q2]
      rw [hd, refL] at i1
      generalize l.drop (k + 1) = R at *
      generalize refL name F T R = rr at *
      generalize refL name F T l = rl at *
      have hsg : seg name F T a R = if a.1 = name ∧ max a.2.1 F < min (untL a R) T then a.2.2 * (min (untL a R) T - max a.2.1 F) else 0 := rfl
      rw [hsg] at i1
      clear hsg hd
      obtain ⟨U, hU⟩ := ex_eq (untL a R)
      rw [hU] at h35 i1
      clear hU
      obtain ⟨a1, a2, a3⟩ := a
      simp only [row] at g1 g2
      simp only at r1 r2 r3 r4 i1
      simp only [eSp] at h35
      have fin : ∀ u', (∃ s', evCode (evC Dg) 1010 c21b0 (S21 x l name F T k u) = some (.normal s') ∧ norm [0, 1, 5, 8, 9] 2 s' = S21 x l name F T (k + 1) u') → (sg u' + rr = rl ∧ u'.2 ≤ (k + 1) * 1000000000000000000000000000) →
          ∃ x' s', evCode (evC Dg) 1010 c21b0 (S21 x l name F T k u) = some (.normal s') ∧ norm [0, 1, 5, 8, 9] 2 s' = S21 x l name F T (k + 1) x' ∧ (sg x' + rr = rl ∧ x'.2 ≤ (k + 1) * 1000000000000000000000000000) := by
        rintro u' ⟨s', h1, h2⟩ h3
        exact ⟨u', s', h1, h2, h3⟩
      have main : ∀ fr to : Int, max a2 F = fr → min U T = to → (a2 < F ∧ fr = F ∨ ¬ a2 < F ∧ fr = a2) → (T < U ∧ to = T ∨ ¬ T < U ∧ to = U) →
          ∃ x' s', evCode (evC Dg) 1010 c21b0 (S21 x l name F T k u) = some (.normal s') ∧ norm [0, 1, 5, 8, 9] 2 s' = S21 x l name F T (k + 1) x' ∧ (sg x' + rr = rl ∧ x'.2 ≤ (k + 1) * 1000000000000000000000000000) := by
        intro fr to hfr hto e1 e2
        rw [hfr, hto] at i1
        by_cases c1 : a1 = name
        · by_cases c2 : fr < to
          · rw [if_pos ⟨c1, c2⟩] at i1
            have hd1 : 0 ≤ to - fr := by omega
            have hd2 : to - fr ≤ 1000000000000 := by omega
            have hy := abs_le r3 r4 hd1 hd2
            have h37 := f37 a3 (to - fr) (by omega) (by omega) (by omega) (by omega)
            have h36 := f36 u (decide (a3 < 0), a3.natAbs * (to - fr).natAbs) (by simp only; omega)
            have hsum := sg_add u (decide (a3 < 0), a3.natAbs * (to - fr).natAbs)
            rw [sg_scaled a3 (to - fr) hd1] at hsum
            have hle := addG_le u (decide (a3 < 0), a3.natAbs * (to - fr).natAbs)
            have w2 : IntKind.i64.wrap (to - fr) = to - fr := wrap_i64 _ (by omega) (by omega)
            refine fin (addG u (decide (a3 < 0), a3.natAbs * (to - fr).natAbs)) ?_ ⟨by rw [hsum]; omega, by simp only at hle; omega⟩
            subst c1
            simp only at h36
            clear hsum hle hy i1 i2 fin
            generalize addG u (decide (a3 < 0), a3.natAbs * (to - fr).natAbs) = y at *
            generalize decide (a3 < 0) = sgn at *
            generalize a3.natAbs * (to - fr).natAbs = W at *
            obtain ⟨um, uw⟩ := u
            obtain ⟨ym, yw⟩ := y
            unfold S21
            unfold eG at h36 h37 ⊢
            simp only at h36 h37 ⊢
            generalize W / 18446744073709551616 = w1' at *
            generalize W % 18446744073709551616 = w0' at *
            generalize uw / 18446744073709551616 = u1 at *
            generalize uw % 18446744073709551616 = u0 at *
            generalize yw / 18446744073709551616 = y1 at *
            generalize yw % 18446744073709551616 = y0 at *
            rcases e1 with ⟨e1, rfl⟩ | ⟨e1, rfl⟩ <;> rcases e2 with ⟨e2, rfl⟩ | ⟨e2, rfl⟩
            · unfold c21b0
              simp [evCode, evOps, evOne, evOp, evPur, evEff, evPur.chunks, fillP, AOp.isEff, AO.ev, putP, PV.cells, PV.leaf, getB, getM, mapE, keyC, mapRows, mfind, eq1, eqL, scal, binP, unP, minP, maxP, foldP, PV.lt, PV.lt.ltL, endP, expoAll, expo, expo.expoL, frIds, frIds.frIdsL, nodupN, kill, cls, clsFuel, resO, RV.get, loadP, evC_p, evC_s, endS, endT, rowsOf, callP, thinL, unfr, unfr.unfrL, PV.noMem, PV.noMem.noMemL, optI, mapO, norm, trimT, trimB, forget, hasN, blksLt, List.set, eSp, el, hk', hk, g1, g2, w1, w2, h35, e1, e2, c2, h36, h37]
            · unfold c21b0
              simp [evCode, evOps, evOne, evOp, evPur, evEff, evPur.chunks, fillP, AOp.isEff, AO.ev, putP, PV.cells, PV.leaf, getB, getM, mapE, keyC, mapRows, mfind, eq1, eqL, scal, binP, unP, minP, maxP, foldP, PV.lt, PV.lt.ltL, endP, expoAll, expo, expo.expoL, frIds, frIds.frIdsL, nodupN, kill, cls, clsFuel, resO, RV.get, loadP, evC_p, evC_s, endS, endT, rowsOf, callP, thinL, unfr, unfr.unfrL, PV.noMem, PV.noMem.noMemL, optI, mapO, norm, trimT, trimB, forget, hasN, blksLt, List.set, eSp, el, hk', hk, g1, g2, w1, w2, h35, e1, e2, c2, h36, h37]
            · unfold c21b0
              simp [evCode, evOps, evOne, evOp, evPur, evEff, evPur.chunks, fillP, AOp.isEff, AO.ev, putP, PV.cells, PV.leaf, getB, getM, mapE, keyC, mapRows, mfind, eq1, eqL, scal, binP, unP, minP, maxP, foldP, PV.lt, PV.lt.ltL, endP, expoAll, expo, expo.expoL, frIds, frIds.frIdsL, nodupN, kill, cls, clsFuel, resO, RV.get, loadP, evC_p, evC_s, endS, endT, rowsOf, callP, thinL, unfr, unfr.unfrL, PV.noMem, PV.noMem.noMemL, optI, mapO, norm, trimT, trimB, forget, hasN, blksLt, List.set, eSp, el, hk', hk, g1, g2, w1, w2, h35, e1, e2, c2, h36, h37]
            · unfold c21b0
              simp [evCode, evOps, evOne, evOp, evPur, evEff, evPur.chunks, fillP, AOp.isEff, AO.ev, putP, PV.cells, PV.leaf, getB, getM, mapE, keyC, mapRows, mfind, eq1, eqL, scal, binP, unP, minP, maxP, foldP, PV.lt, PV.lt.ltL, endP, expoAll, expo, expo.expoL, frIds, frIds.frIdsL, nodupN, kill, cls, clsFuel, resO, RV.get, loadP, evC_p, evC_s, endS, endT, rowsOf, callP, thinL, unfr, unfr.unfrL, PV.noMem, PV.noMem.noMemL, optI, mapO, norm, trimT, trimB, forget, hasN, blksLt, List.set, eSp, el, hk', hk, g1, g2, w1, w2, h35, e1, e2, c2, h36, h37]
          · rw [if_neg (fun h => c2 h.2)] at i1
            refine fin u ?_ ⟨by rw [Int.zero_add] at i1; exact i1, le_step i2⟩
            subst c1
            clear i1 i2 fin
            obtain ⟨um, uw⟩ := u
            unfold S21
            unfold eG
            simp only
            generalize uw / 18446744073709551616 = u1 at *
            generalize uw % 18446744073709551616 = u0 at *
            rcases e1 with ⟨e1, rfl⟩ | ⟨e1, rfl⟩ <;> rcases e2 with ⟨e2, rfl⟩ | ⟨e2, rfl⟩
            · unfold c21b0
              simp [evCode, evOps, evOne, evOp, evPur, evEff, evPur.chunks, fillP, AOp.isEff, AO.ev, putP, PV.cells, PV.leaf, getB, getM, mapE, keyC, mapRows, mfind, eq1, eqL, scal, binP, unP, minP, maxP, foldP, PV.lt, PV.lt.ltL, endP, expoAll, expo, expo.expoL, frIds, frIds.frIdsL, nodupN, kill, cls, clsFuel, resO, RV.get, loadP, evC_p, evC_s, endS, endT, rowsOf, callP, thinL, unfr, unfr.unfrL, PV.noMem, PV.noMem.noMemL, optI, mapO, norm, trimT, trimB, forget, hasN, blksLt, List.set, eSp, el, hk', hk, g1, g2, w1, h35, e1, e2, c2]
            · unfold c21b0
              simp [evCode, evOps, evOne, evOp, evPur, evEff, evPur.chunks, fillP, AOp.isEff, AO.ev, putP, PV.cells, PV.leaf, getB, getM, mapE, keyC, mapRows, mfind, eq1, eqL, scal, binP, unP, minP, maxP, foldP, PV.lt, PV.lt.ltL, endP, expoAll, expo, expo.expoL, frIds, frIds.frIdsL, nodupN, kill, cls, clsFuel, resO, RV.get, loadP, evC_p, evC_s, endS, endT, rowsOf, callP, thinL, unfr, unfr.unfrL, PV.noMem, PV.noMem.noMemL, optI, mapO, norm, trimT, trimB, forget, hasN, blksLt, List.set, eSp, el, hk', hk, g1, g2, w1, h35, e1, e2, c2]
            · unfold c21b0
              simp [evCode, evOps, evOne, evOp, evPur, evEff, evPur.chunks, fillP, AOp.isEff, AO.ev, putP, PV.cells, PV.leaf, getB, getM, mapE, keyC, mapRows, mfind, eq1, eqL, scal, binP, unP, minP, maxP, foldP, PV.lt, PV.lt.ltL, endP, expoAll, expo, expo.expoL, frIds, frIds.frIdsL, nodupN, kill, cls, clsFuel, resO, RV.get, loadP, evC_p, evC_s, endS, endT, rowsOf, callP, thinL, unfr, unfr.unfrL, PV.noMem, PV.noMem.noMemL, optI, mapO, norm, trimT, trimB, forget, hasN, blksLt, List.set, eSp, el, hk', hk, g1, g2, w1, h35, e1, e2, c2]
            · unfold c21b0
              simp [evCode, evOps, evOne, evOp, evPur, evEff, evPur.chunks, fillP, AOp.isEff, AO.ev, putP, PV.cells, PV.leaf, getB, getM, mapE, keyC, mapRows, mfind, eq1, eqL, scal, binP, unP, minP, maxP, foldP, PV.lt, PV.lt.ltL, endP, expoAll, expo, expo.expoL, frIds, frIds.frIdsL, nodupN, kill, cls, clsFuel, resO, RV.get, loadP, evC_p, evC_s, endS, endT, rowsOf, callP, thinL, unfr, unfr.unfrL, PV.noMem, PV.noMem.noMemL, optI, mapO, norm, trimT, trimB, forget, hasN, blksLt, List.set, eSp, el, hk', hk, g1, g2, w1, h35, e1, e2, c2]
        · rw [if_neg (fun h => c1 h.1)] at i1
          refine fin u ?_ ⟨by rw [Int.zero_add] at i1; exact i1, le_step i2⟩
          clear i1 i2 fin
          obtain ⟨um, uw⟩ := u
          unfold S21
          unfold eG
          simp only
          generalize uw / 18446744073709551616 = u1 at *
          generalize uw % 18446744073709551616 = u0 at *
          rcases e1 with ⟨e1, rfl⟩ | ⟨e1, rfl⟩ <;> rcases e2 with ⟨e2, rfl⟩ | ⟨e2, rfl⟩
          · unfold c21b0
            simp [evCode, evOps, evOne, evOp, evPur, evEff, evPur.chunks, fillP, AOp.isEff, AO.ev, putP, PV.cells, PV.leaf, getB, getM, mapE, keyC, mapRows, mfind, eq1, eqL, scal, binP, unP, minP, maxP, foldP, PV.lt, PV.lt.ltL, endP, expoAll, expo, expo.expoL, frIds, frIds.frIdsL, nodupN, kill, cls, clsFuel, resO, RV.get, loadP, evC_p, evC_s, endS, endT, rowsOf, callP, thinL, unfr, unfr.unfrL, PV.noMem, PV.noMem.noMemL, optI, mapO, norm, trimT, trimB, forget, hasN, blksLt, List.set, eSp, el, hk', hk, g1, g2, w1, h35, e1, e2, c1]
          · unfold c21b0
            simp [evCode, evOps, evOne, evOp, evPur, evEff, evPur.chunks, fillP, AOp.isEff, AO.ev, putP, PV.cells, PV.leaf, getB, getM, mapE, keyC, mapRows, mfind, eq1, eqL, scal, binP, unP, minP, maxP, foldP, PV.lt, PV.lt.ltL, endP, expoAll, expo, expo.expoL, frIds, frIds.frIdsL, nodupN, kill, cls, clsFuel, resO, RV.get, loadP, evC_p, evC_s, endS, endT, rowsOf, callP, thinL, unfr, unfr.unfrL, PV.noMem, PV.noMem.noMemL, optI, mapO, norm, trimT, trimB, forget, hasN, blksLt, List.set, eSp, el, hk', hk, g1, g2, w1, h35, e1, e2, c1]
          · unfold c21b0
            simp [evCode, evOps, evOne, evOp, evPur, evEff, evPur.chunks, fillP, AOp.isEff, AO.ev, putP, PV.cells, PV.leaf, getB, getM, mapE, keyC, mapRows, mfind, eq1, eqL, scal, binP, unP, minP, maxP, foldP, PV.lt, PV.lt.ltL, endP, expoAll, expo, expo.expoL, frIds, frIds.frIdsL, nodupN, kill, cls, clsFuel, resO, RV.get, loadP, evC_p, evC_s, endS, endT, rowsOf, callP, thinL, unfr, unfr.unfrL, PV.noMem, PV.noMem.noMemL, optI, mapO, norm, trimT, trimB, forget, hasN, blksLt, List.set, eSp, el, hk', hk, g1, g2, w1, h35, e1, e2, c1]
          · unfold c21b0
            simp [evCode, evOps, evOne, evOp, evPur, evEff, evPur.chunks, fillP, AOp.isEff, AO.ev, putP, PV.cells, PV.leaf, getB, getM, mapE, keyC, mapRows, mfind, eq1, eqL, scal, binP, unP, minP, maxP, foldP, PV.lt, PV.lt.ltL, endP, expoAll, expo, expo.expoL, frIds, frIds.frIdsL, nodupN, kill, cls, clsFuel, resO, RV.get, loadP, evC_p, evC_s, endS, endT, rowsOf, callP, thinL, unfr, unfr.unfrL, PV.noMem, PV.noMem.noMemL, optI, mapO, norm, trimT, trimB, forget, hasN, blksLt, List.set, eSp, el, hk', hk, g1, g2, w1, h35, e1, e2, c1]
      exact main _ _ rfl rfl (by omega) (by omega))
    (by
      intro u _ s
      unfold c21b0
      simp [evCode, evOps, evOne, evOp, evPur, evEff, evPur.chunks, fillP, AOp.isEff, AO.ev, putP, PV.cells, PV.leaf, getB, getM, mapE, keyC, mapRows, mfind, eq1, eqL, scal, binP, unP, minP, maxP, foldP, PV.lt, PV.lt.ltL, endP, expoAll, expo, expo.expoL, frIds, frIds.frIdsL, nodupN, kill, cls, clsFuel, resO, RV.get, loadP, evC_p, evC_s, endS, endT, rowsOf, callP, thinL, unfr, unfr.unfrL, PV.noMem, PV.noMem.noMemL, optI, mapO, norm, trimT, trimB, forget, hasN, blksLt, List.set, S21, eSp, el])
    (by omega) (false, 0) ⟨by simp [sg], by simp⟩
  refine evE_intro 1010 D21 rfl ?_
  unfold c21
  simp [evCode, evOps, evOne, evOp, evPur, evEff, evPur.chunks, fillP, AOp.isEff, AO.ev, putP, PV.cells, PV.leaf, getB, getM, mapE, keyC, mapRows, mfind, eq1, eqL, scal, binP, unP, minP, maxP, foldP, PV.lt, PV.lt.ltL, endP, expoAll, expo, expo.expoL, frIds, frIds.frIdsL, nodupN, kill, cls, clsFuel, resO, RV.get, loadP, evC_p, evC_s, endS, endT, rowsOf, callP, thinL, unfr, unfr.unfrL, PV.noMem, PV.noMem.noMemL, optI, mapO, norm, trimT, trimB, forget, hasN, blksLt, List.set, eSp, el, h34]
  generalize hE : evLoop _ _ _ _ _ = E
  rcases H _ _ hE (by simp [evCode, evOps, evOne, evOp, evPur, evEff, evPur.chunks, fillP, AOp.isEff, AO.ev, putP, PV.cells, PV.leaf, getB, getM, mapE, keyC, mapRows, mfind, eq1, eqL, scal, binP, unP, minP, maxP, foldP, PV.lt, PV.lt.ltL, endP, expoAll, expo, expo.expoL, frIds, frIds.frIdsL, nodupN, kill, cls, clsFuel, resO, RV.get, loadP, evC_p, evC_s, endS, endT, rowsOf, callP, thinL, unfr, unfr.unfrL, PV.noMem, PV.noMem.noMemL, optI, mapO, norm, trimT, trimB, forget, hasN, blksLt, List.set, S21, eSp, eG]) with ⟨u, ⟨j1, j2⟩, h⟩ | ⟨_, _, h⟩
  · rw [h]
    rw [List.drop_length] at j1
    have j1 : sg u = refL name F T l := by simpa [refL] using j1
    have h38 := f38 u (by omega)
    rw [← j1]
    obtain ⟨um, uw⟩ := u
    generalize sg (um, uw) = z at *
    unfold S21
    unfold eG at h38 ⊢
    simp only at h38 ⊢
    generalize uw / 18446744073709551616 = u1 at *
    generalize uw % 18446744073709551616 = u0 at *
    unfold inR at h38 ⊢
    clear j1 j2
    by_cases c : -1000000000000000 ≤ z ∧ z ≤ 1000000000000000
    · rw [if_pos c] at h38 ⊢
      unfold c21b0 c21r0
      simp [evCode, evOps, evOne, evOp, evPur, evEff, evPur.chunks, fillP, AOp.isEff, AO.ev, putP, PV.cells, PV.leaf, getB, getM, mapE, keyC, mapRows, mfind, eq1, eqL, scal, binP, unP, minP, maxP, foldP, PV.lt, PV.lt.ltL, endP, expoAll, expo, expo.expoL, frIds, frIds.frIdsL, nodupN, kill, cls, clsFuel, resO, RV.get, loadP, evC_p, evC_s, endS, endT, rowsOf, callP, thinL, unfr, unfr.unfrL, PV.noMem, PV.noMem.noMemL, optI, mapO, norm, trimT, trimB, forget, hasN, blksLt, List.set, eSp, el, h38]
    · rw [if_neg c] at h38 ⊢
      unfold c21b0 c21r0
      simp [evCode, evOps, evOne, evOp, evPur, evEff, evPur.chunks, fillP, AOp.isEff, AO.ev, putP, PV.cells, PV.leaf, getB, getM, mapE, keyC, mapRows, mfind, eq1, eqL, scal, binP, unP, minP, maxP, foldP, PV.lt, PV.lt.ltL, endP, expoAll, expo, expo.expoL, frIds, frIds.frIdsL, nodupN, kill, cls, clsFuel, resO, RV.get, loadP, evC_p, evC_s, endS, endT, rowsOf, callP, thinL, unfr, unfr.unfrL, PV.noMem, PV.noMem.noMemL, optI, mapO, norm, trimT, trimB, forget, hasN, blksLt, List.set, eSp, el, h38]
  · exact h.elim
end Go.Proofs.Ytecmcggnpgjbiaa
