/- The reference's Sum; FracSums. -/
import Derived.Test.YtddglikicokpeaaDoorFuC
import Derived.Test.YtddglikicokpeaaDoorFrZ
namespace Go.Proofs.YtddglikicokpeaaDoor
open Go Go.RowKit
set_option linter.unusedVariables false
set_option linter.unusedSimpArgs false
set_option maxHeartbeats 4000000

def S53 (l : List Fr) (k : Nat) (m : Nat) : St := ⟨[.sl false 2 (rFs l), .top, .top, .top, .int .i64 m, .int .i64 k] ++ List.replicate 49 .top, []⟩
set_option maxRecDepth 100000 in
theorem step53 (l : List Fr) (hl : l.length ≤ 20000) (h64 : ∀ a ∈ l, i64F a) (k m : Nat) (a : Fr) (ha : l[k]? = some a) (hI : I51 l k m) :
    (∃ m' s', evCode (evC Dg) 30000 c53b0 (S53 l k m) = some (.normal s') ∧ norm [0, 4, 5] 0 s' = S53 l (k + 1) m' ∧ I51 l (k + 1) m') ∨ ∃ s', evCode (evC Dg) 30000 c53b0 (S53 l k m) = some (.ret s') ∧ R51 l s' := by
  obtain ⟨hm, hv, hle, hpos⟩ := hI
  have hk := (List.getElem?_eq_some_iff.1 ha).1
  have hk' : (k : Int) < l.length := by omega
  have w1 := wrap_i64 ((k : Int) + 1) (by omega) (by omega)
  have eL := rFs_len l
  have eg := rFs_get ha
  have eg' := rFs_getE ha
  have ham := List.mem_of_getElem? ha
  have v1 := f15 a (h64 a ham)
  by_cases hva : validF a
  · have hlcm := lcm_snoc ha
    rw [← hm, ← lcm_code] at hlcm
    have hvv : ∀ b ∈ l.take (k + 1), validF b := fun b hb => by
      rw [List.take_add_one, ha] at hb
      rcases List.mem_append.1 hb with hb | hb
      · exact hv b hb
      · simp at hb; subst hb; exact hva
    have hpos' := lcmF_pos hvv 1 (by omega)
    simp only [eF, hva, decide_true] at v1
    have hva' := hva
    obtain ⟨a1, a2, a3, a4, a5⟩ := hva'
    have q0 := f35 (m : Int) (by omega) (by omega)
    rw [show ((m : Int).natAbs) = m from rfl] at q0
    have q1 := f35 a.2 (by omega) (by omega)
    have q2 := f36 m a.2.natAbs (by omega) (by omega)
    have g0 : 0 < Nat.gcd m a.2.natAbs := Nat.gcd_pos_of_pos_left _ hpos
    have g1 : Nat.gcd m a.2.natAbs ≤ m := Nat.gcd_le_left _ hpos
    rw [eW_small (W := m) (by omega), eW_small (W := a.2.natAbs) (by omega), eW_small (W := Nat.gcd m a.2.natAbs) (by omega)] at q2
    have t1 := tdivN m (Nat.gcd m a.2.natAbs)
    have l1 : m / Nat.gcd m a.2.natAbs ≤ m := Nat.div_le_self _ _
    have u1 := wU _ _ l1 (by omega)
    have q3 := f48 (m / Nat.gcd m a.2.natAbs) a.2.natAbs (lt64 _ _ l1 (by omega)) (by omega)
    obtain ⟨s1, s2⟩ := small_of (W := m / Nat.gcd m a.2.natAbs * a.2.natAbs) (k := 1000000000000000) (by decide)
    by_cases hc : m / Nat.gcd m a.2.natAbs * a.2.natAbs ≤ 1000000000000000
    · left
      refine ⟨m / Nat.gcd m a.2.natAbs * a.2.natAbs, ?_⟩
      have J : I51 l (k + 1) (m / Nat.gcd m a.2.natAbs * a.2.natAbs) := ⟨hlcm.symm, hvv, hc, by rw [← hlcm]; exact hpos'⟩
      suffices h : ∃ s', evCode (evC Dg) 30000 c53b0 (S53 l k m) = some (.normal s') ∧ norm [0, 4, 5] 0 s' = S53 l (k + 1) (m / Nat.gcd m a.2.natAbs * a.2.natAbs) by
        obtain ⟨s', x1, x2⟩ := h
        exact ⟨s', x1, x2, J⟩
      clear J hlcm
      obtain ⟨e1, e2⟩ := s1 hc
      rw [eW_eq, e1, e2] at q3
      clear s1 s2 e1 e2
      generalize m / Nat.gcd m a.2.natAbs * a.2.natAbs = P at *
      have hc' : ¬ (1000000000000000 : Int) < P := by omega
      have w2 := wrap_i64 (P : Int) (by omega) (by omega)
      generalize m / Nat.gcd m a.2.natAbs = X at *
      generalize Nat.gcd m a.2.natAbs = G at *
      have gne : ¬ ((G : Nat) : Int) = 0 := by omega
      have gne' : ¬ G = 0 := by omega
      generalize a.2.natAbs = d at *
      unfold c53b0
      simp [evCode, evOps, evOne, evOp, evPur, evEff, evPur.chunks, fillP, AOp.isEff, AO.ev, putP, PV.cells, PV.leaf, getB, getM, mapE, iterE, keyC, mapRows, mfind, eq1, eqL, scal, binP, unP, minP, maxP, foldP, PV.lt, PV.lt.ltL, endP, expoAll, expoG, expo, expo.expoL, frIds, frIds.frIdsL, nodupN, kill, cls, clsFuel, resO, RV.get, loadP, evC_p, evC_s, endS, endT, rowsOf, callP, thinL, unfr, unfr.unfrL, PV.noMem, PV.noMem.noMemL, optI, mapO, norm, trimT, trimB, forget, hasN, blksLt, List.set, softChk, softGo, softRd, effTg, rdP, S53, rF, eL, eg, eg', hk, hk', w1, w2, v1, q0, q1, q2, q3, t1, u1, gne, gne', hc']
    · right
      have hno : ¬ okL l := fun h => by
        have h1 := lcm_take h.1 (k + 1)
        rw [hlcm] at h1
        have := h.2
        omega
      suffices h : ∃ s', evCode (evC Dg) 30000 c53b0 (S53 l k m) = some (.ret s') ∧ s'.sl[2]?.getD .top = .int .i64 0 ∧ s'.sl[3]?.getD .top = .bool false by
        obtain ⟨s', x1, x2, x3⟩ := h
        exact ⟨s', x1, x2, x3, hno⟩
      have s3 := s2 hc
      clear hlcm hno s1 s2
      rw [eW_eq] at q3
      generalize m / Nat.gcd m a.2.natAbs * a.2.natAbs = P at *
      generalize m / Nat.gcd m a.2.natAbs = X at *
      generalize Nat.gcd m a.2.natAbs = G at *
      have gne : ¬ ((G : Nat) : Int) = 0 := by omega
      have gne' : ¬ G = 0 := by omega
      generalize a.2.natAbs = d at *
      rcases s3 with h | ⟨h, h2, h3⟩
      · generalize hW P = P1 at *
        generalize lW P = P2 at *
        unfold c53b0
        simp [evCode, evOps, evOne, evOp, evPur, evEff, evPur.chunks, fillP, AOp.isEff, AO.ev, putP, PV.cells, PV.leaf, getB, getM, mapE, iterE, keyC, mapRows, mfind, eq1, eqL, scal, binP, unP, minP, maxP, foldP, PV.lt, PV.lt.ltL, endP, expoAll, expoG, expo, expo.expoL, frIds, frIds.frIdsL, nodupN, kill, cls, clsFuel, resO, RV.get, loadP, evC_p, evC_s, endS, endT, rowsOf, callP, thinL, unfr, unfr.unfrL, PV.noMem, PV.noMem.noMemL, optI, mapO, norm, trimT, trimB, forget, hasN, blksLt, List.set, softChk, softGo, softRd, effTg, rdP, S53, rF, eL, eg, eg', hk, hk', w1, v1, q0, q1, q2, q3, t1, u1, gne, gne', h]
      · have h3' : (1000000000000000 : Int) < lW P := h3
        rw [h] at q3
        generalize lW P = P2 at *
        unfold c53b0
        simp [evCode, evOps, evOne, evOp, evPur, evEff, evPur.chunks, fillP, AOp.isEff, AO.ev, putP, PV.cells, PV.leaf, getB, getM, mapE, iterE, keyC, mapRows, mfind, eq1, eqL, scal, binP, unP, minP, maxP, foldP, PV.lt, PV.lt.ltL, endP, expoAll, expoG, expo, expo.expoL, frIds, frIds.frIdsL, nodupN, kill, cls, clsFuel, resO, RV.get, loadP, evC_p, evC_s, endS, endT, rowsOf, callP, thinL, unfr, unfr.unfrL, PV.noMem, PV.noMem.noMemL, optI, mapO, norm, trimT, trimB, forget, hasN, blksLt, List.set, softChk, softGo, softRd, effTg, rdP, S53, rF, eL, eg, eg', hk, hk', w1, v1, q0, q1, q2, q3, t1, u1, gne, gne', h3']
  · right
    have hno : ¬ okL l := fun h => hva (h.1 a ham)
    simp only [eF, hva, decide_false] at v1
    suffices h : ∃ s', evCode (evC Dg) 30000 c53b0 (S53 l k m) = some (.ret s') ∧ s'.sl[2]?.getD .top = .int .i64 0 ∧ s'.sl[3]?.getD .top = .bool false by
      obtain ⟨s', x1, x2, x3⟩ := h
      exact ⟨s', x1, x2, x3, hno⟩
    unfold c53b0
    simp [evCode, evOps, evOne, evOp, evPur, evEff, evPur.chunks, fillP, AOp.isEff, AO.ev, putP, PV.cells, PV.leaf, getB, getM, mapE, iterE, keyC, mapRows, mfind, eq1, eqL, scal, binP, unP, minP, maxP, foldP, PV.lt, PV.lt.ltL, endP, expoAll, expoG, expo, expo.expoL, frIds, frIds.frIdsL, nodupN, kill, cls, clsFuel, resO, RV.get, loadP, evC_p, evC_s, endS, endT, rowsOf, callP, thinL, unfr, unfr.unfrL, PV.noMem, PV.noMem.noMemL, optI, mapO, norm, trimT, trimB, forget, hasN, blksLt, List.set, softChk, softGo, softRd, effTg, rdP, S53, rF, eL, eg, eg', hk, hk', w1, v1]
set_option maxRecDepth 100000 in
theorem f53 (l : List Fr) (hl : l.length ≤ 20000) (h64 : ∀ a ∈ l, i64F a) : evE Dg 53 [.sl false 2 (rFs l)] = some (denR l) := by
  have eL := rFs_len l
  unfold denR
  have H : ∀ (s0 : St) (E : Option Out), evLoop (evCode (evC Dg) 30000 c53b0) [0, 4, 5] 0 30000 s0 = E → norm [0, 4, 5] 0 s0 = S53 l 0 1 →
    (∃ m, I51 l l.length m ∧ E = evCode (evC Dg) 30000 c53b0 (S53 l l.length m)) ∨ (∃ s, E = some (.ret s) ∧ R51 l s) := by
    intro s0 E hE h0
    refine loop_inv (body := evCode (evC Dg) 30000 c53b0) (keep := [0, 4, 5]) (n0 := 0) (fuel := 30000) l (S53 l) (I51 l) (R51 l) ?_ ?_ (by omega) 1 ⟨rfl, by simp, by omega, by omega⟩ s0 E hE h0
    · intro k a m ha hk hI
      exact step53 l hl h64 k m a ha hI
    · intro m _ s
      unfold c53b0
      simp [evCode, evOps, evOne, evOp, evPur, evEff, evPur.chunks, fillP, AOp.isEff, AO.ev, putP, PV.cells, PV.leaf, getB, getM, mapE, iterE, keyC, mapRows, mfind, eq1, eqL, scal, binP, unP, minP, maxP, foldP, PV.lt, PV.lt.ltL, endP, expoAll, expoG, expo, expo.expoL, frIds, frIds.frIdsL, nodupN, kill, cls, clsFuel, resO, RV.get, loadP, evC_p, evC_s, endS, endT, rowsOf, callP, thinL, unfr, unfr.unfrL, PV.noMem, PV.noMem.noMemL, optI, mapO, norm, trimT, trimB, forget, hasN, blksLt, List.set, softChk, softGo, softRd, effTg, rdP, S53, eL]
  refine evE_intro 30000 D53 rfl ?_
  unfold c53
  simp [evCode, evOps, evOne, evOp, evPur, evEff, evPur.chunks, fillP, AOp.isEff, AO.ev, putP, PV.cells, PV.leaf, getB, getM, mapE, iterE, keyC, mapRows, mfind, eq1, eqL, scal, binP, unP, minP, maxP, foldP, PV.lt, PV.lt.ltL, endP, expoAll, expoG, expo, expo.expoL, frIds, frIds.frIdsL, nodupN, kill, cls, clsFuel, resO, RV.get, loadP, evC_p, evC_s, endS, endT, rowsOf, callP, thinL, unfr, unfr.unfrL, PV.noMem, PV.noMem.noMemL, optI, mapO, norm, trimT, trimB, forget, hasN, blksLt, List.set, softChk, softGo, softRd, effTg, rdP]
  generalize hE : evLoop (evCode (evC Dg) 30000 c53b0) [0, 4, 5] 0 30000 _ = E
  rcases H _ E hE (by simp [evCode, evOps, evOne, evOp, evPur, evEff, evPur.chunks, fillP, AOp.isEff, AO.ev, putP, PV.cells, PV.leaf, getB, getM, mapE, iterE, keyC, mapRows, mfind, eq1, eqL, scal, binP, unP, minP, maxP, foldP, PV.lt, PV.lt.ltL, endP, expoAll, expoG, expo, expo.expoL, frIds, frIds.frIdsL, nodupN, kill, cls, clsFuel, resO, RV.get, loadP, evC_p, evC_s, endS, endT, rowsOf, callP, thinL, unfr, unfr.unfrL, PV.noMem, PV.noMem.noMemL, optI, mapO, norm, trimT, trimB, forget, hasN, blksLt, List.set, softChk, softGo, softRd, effTg, rdP, S53]) with ⟨m, ⟨hm, hv, hle, hpos⟩, rfl⟩ | ⟨⟨sl, bl⟩, rfl, h1, h2, h3⟩
  · rw [List.take_length] at hm hv
    subst hm
    have hok : okL l := ⟨hv, hle⟩
    generalize lcmF 1 l = m at *
    unfold c53b0
    simp [evCode, evOps, evOne, evOp, evPur, evEff, evPur.chunks, fillP, AOp.isEff, AO.ev, putP, PV.cells, PV.leaf, getB, getM, mapE, iterE, keyC, mapRows, mfind, eq1, eqL, scal, binP, unP, minP, maxP, foldP, PV.lt, PV.lt.ltL, endP, expoAll, expoG, expo, expo.expoL, frIds, frIds.frIdsL, nodupN, kill, cls, clsFuel, resO, RV.get, loadP, evC_p, evC_s, endS, endT, rowsOf, callP, thinL, unfr, unfr.unfrL, PV.noMem, PV.noMem.noMemL, optI, mapO, norm, trimT, trimB, forget, hasN, blksLt, List.set, softChk, softGo, softRd, effTg, rdP, S53, eL, hok, hl]
  · simp only at h1 h2
    simp [evCode, evOps, evOne, evOp, evPur, evEff, evPur.chunks, fillP, AOp.isEff, AO.ev, putP, PV.cells, PV.leaf, getB, getM, mapE, iterE, keyC, mapRows, mfind, eq1, eqL, scal, binP, unP, minP, maxP, foldP, PV.lt, PV.lt.ltL, endP, expoAll, expoG, expo, expo.expoL, frIds, frIds.frIdsL, nodupN, kill, cls, clsFuel, resO, RV.get, loadP, evC_p, evC_s, endS, endT, rowsOf, callP, thinL, unfr, unfr.unfrL, PV.noMem, PV.noMem.noMemL, optI, mapO, norm, trimT, trimB, forget, hasN, blksLt, List.set, softChk, softGo, softRd, effTg, rdP, h1, h2, h3]
/-- the reference's Sum -/
def S28 (l : List Fr) (M : Nat) (k : Nat) (z : Bool × Nat) : St :=
  ⟨[.sl false 2 (rFs l), .top, .ptr 0 1 0 0, .top, .int .i64 M, .top, .ptr 1 1 0 0, .int .i64 k] ++ List.replicate 41 .top,
   [some ⟨1, 2, true, [[.int .i64 0, .int .i64 0]]⟩, some ⟨1, 3, true, [[.bool z.1, .int .u64 (hW z.2), .int .u64 (lW z.2)]]⟩]⟩
def I28 (l : List Fr) (M : Nat) (k : Nat) (z : Bool × Nat) : Prop := sg z = numS M (l.take k) ∧ z.2 ≤ k * 4611686018427387904000000000000000
set_option maxRecDepth 100000 in
theorem step28 (l : List Fr) (hl : l.length ≤ 20000) (hok : okL l) (k : Nat) (z : Bool × Nat) (a : Fr) (ha : l[k]? = some a) (hI : I28 l (lcmF 1 l) k z) :
    ∃ z' s', evCode (evC Dg) 30000 c28b0 (S28 l (lcmF 1 l) k z) = some (.normal s') ∧ norm [0, 2, 4, 6, 7] 2 s' = S28 l (lcmF 1 l) (k + 1) z' ∧ I28 l (lcmF 1 l) (k + 1) z' := by
  obtain ⟨hz, hz2⟩ := hI
  have hk := (List.getElem?_eq_some_iff.1 ha).1
  have hk' : (k : Int) < l.length := by omega
  have w1 := wrap_i64 ((k : Int) + 1) (by omega) (by omega)
  have eL := rFs_len l
  have eg := rFs_get ha
  have eg' := rFs_getE ha
  have ham := List.mem_of_getElem? ha
  obtain ⟨a1, a2, a3, a4, a5⟩ := hok.1 a ham
  have hle := hok.2
  have t1 : ((lcmF 1 l : Nat) : Int).tdiv a.2 = ((lcmF 1 l / a.2.natAbs : Nat) : Int) := by rw [← tdivN]; congr 1; omega
  have l1 : lcmF 1 l / a.2.natAbs ≤ lcmF 1 l := Nat.div_le_self _ _
  have u1 := wI _ _ l1 (by omega)
  have i1 := i64N _ _ l1 (show lcmF 1 l ≤ 9223372036854775807 by omega)
  have d0 : ¬ a.2 = 0 := by omega
  have hsn : numS (lcmF 1 l) (l.take (k + 1)) = numS (lcmF 1 l) (l.take k) + a.1 * ((lcmF 1 l / a.2.natAbs : Nat) : Int) := by
    rw [List.take_add_one, ha]; exact numS_app _ _ _
  rw [← hz] at hsn
  have l2 := Nat.le_trans l1 hle
  generalize lcmF 1 l / a.2.natAbs = X at *
  have q1 := f47 a.1 (X : Int) (by omega) (by omega) i1.1 i1.2
  rw [show ((X : Int).natAbs) = X from rfl] at q1
  have l3 : a.1.natAbs * X ≤ 4611686018427387904 * 1000000000000000 := Nat.mul_le_mul (by omega) l2
  have hk3 : k * 4611686018427387904000000000000000 ≤ 20000 * 4611686018427387904000000000000000 := Nat.mul_le_mul_right _ (by omega)
  have q2 := f46 z (decide (a.1 < 0), a.1.natAbs * X) (by simp only; omega)
  refine ⟨addG z (decide (a.1 < 0), a.1.natAbs * X), ?_⟩
  have J : I28 l (lcmF 1 l) (k + 1) (addG z (decide (a.1 < 0), a.1.natAbs * X)) := by
    refine ⟨?_, ?_⟩
    · rw [hsn, sg_add]
      have := sg_scaled a.1 (X : Int) (by omega)
      rw [show ((X : Int).natAbs) = X from rfl] at this
      rw [this]
    · have := addG_le z (decide (a.1 < 0), a.1.natAbs * X)
      simp only at this
      have e : (k + 1) * 4611686018427387904000000000000000 = k * 4611686018427387904000000000000000 + 4611686018427387904000000000000000 := by omega
      omega
  suffices h : ∃ s', evCode (evC Dg) 30000 c28b0 (S28 l (lcmF 1 l) k z) = some (.normal s') ∧ norm [0, 2, 4, 6, 7] 2 s' = S28 l (lcmF 1 l) (k + 1) (addG z (decide (a.1 < 0), a.1.natAbs * X)) by
    obtain ⟨s', x1, x2⟩ := h
    exact ⟨s', x1, x2, J⟩
  simp only at q2
  clear J hsn hz hz2 l3 hk3
  generalize addG z (decide (a.1 < 0), a.1.natAbs * X) = y at *
  simp only [eG_eq] at q1 q2
  generalize lcmF 1 l = M at *
  obtain ⟨z1, z2⟩ := z
  obtain ⟨y1, y2⟩ := y
  simp only at q2
  generalize hW (a.1.natAbs * X) = x1 at *
  generalize lW (a.1.natAbs * X) = x2 at *
  unfold S28
  simp only
  generalize hW z2 = x3 at *
  generalize lW z2 = x4 at *
  generalize hW y2 = x5 at *
  generalize lW y2 = x6 at *
  generalize decide (a.1 < 0) = x7 at *
  unfold c28b0
  simp [evCode, evOps, evOne, evOp, evPur, evEff, evPur.chunks, fillP, AOp.isEff, AO.ev, putP, PV.cells, PV.leaf, getB, getM, mapE, iterE, keyC, mapRows, mfind, eq1, eqL, scal, binP, unP, minP, maxP, foldP, PV.lt, PV.lt.ltL, endP, expoAll, expoG, expo, expo.expoL, frIds, frIds.frIdsL, nodupN, kill, cls, clsFuel, resO, RV.get, loadP, evC_p, evC_s, endS, endT, rowsOf, callP, thinL, unfr, unfr.unfrL, PV.noMem, PV.noMem.noMemL, optI, mapO, norm, trimT, trimB, forget, hasN, blksLt, List.set, softChk, softGo, softRd, effTg, rdP, rF, eL, eg, eg', hk, hk', w1, t1, u1, q1, q2, d0]
set_option maxRecDepth 100000 in
theorem f28 (l : List Fr) (h64 : ∀ a ∈ l, i64F a) : evE Dg 28 [.sl false 2 (rFs l)] = some (eR (sumS l)) := by
  have eL := rFs_len l
  unfold sumS
  by_cases hl : l.length ≤ 20000
  · have hl' : ¬ (20000 : Int) < l.length := by omega
    have q53 := f53 l hl h64
    unfold denR at q53
    by_cases hok : okL l
    · rw [if_pos ⟨hl, hok⟩] at q53
      rw [if_pos ⟨hl, hok⟩]
      have hpos := lcmF_pos hok.1 1 (by omega)
      have hdv := ((lcmF_dvd l 1 (lcmF 1 l)).1 (Nat.dvd_refl _)).2
      have hnum := numS_R hpos hok.1 hdv
      have hle := hok.2
      have hH : ∀ (s0 : St) (E : Option Out), evLoop (evCode (evC Dg) 30000 c28b0) [0, 2, 4, 6, 7] 2 30000 s0 = E → norm [0, 2, 4, 6, 7] 2 s0 = S28 l (lcmF 1 l) 0 (false, 0) →
        (∃ z, I28 l (lcmF 1 l) l.length z ∧ E = evCode (evC Dg) 30000 c28b0 (S28 l (lcmF 1 l) l.length z)) ∨ (∃ s, E = some (.ret s) ∧ False) := by
        intro s0 E hE h0
        refine loop_inv (body := evCode (evC Dg) 30000 c28b0) (keep := [0, 2, 4, 6, 7]) (n0 := 2) (fuel := 30000) l (S28 l (lcmF 1 l)) (I28 l (lcmF 1 l)) (fun _ => False) ?_ ?_ (by omega) (false, 0) ⟨rfl, Nat.le_refl _⟩ s0 E hE h0
        · intro k a z ha hk hz
          left
          exact step28 l hl hok k z a ha hz
        · intro z _ s
          unfold c28b0
          simp [evCode, evOps, evOne, evOp, evPur, evEff, evPur.chunks, fillP, AOp.isEff, AO.ev, putP, PV.cells, PV.leaf, getB, getM, mapE, iterE, keyC, mapRows, mfind, eq1, eqL, scal, binP, unP, minP, maxP, foldP, PV.lt, PV.lt.ltL, endP, expoAll, expoG, expo, expo.expoL, frIds, frIds.frIdsL, nodupN, kill, cls, clsFuel, resO, RV.get, loadP, evC_p, evC_s, endS, endT, rowsOf, callP, thinL, unfr, unfr.unfrL, PV.noMem, PV.noMem.noMemL, optI, mapO, norm, trimT, trimB, forget, hasN, blksLt, List.set, softChk, softGo, softRd, effTg, rdP, S28, eL]
      have q35 := f35 ((lcmF 1 l : Nat) : Int) (by omega) (by omega)
      rw [show (((lcmF 1 l : Nat) : Int).natAbs) = lcmF 1 l from rfl] at q35
      have q34 : ∀ z : Bool × Nat, I28 l (lcmF 1 l) l.length z → evE Dg 34 [eG z.1 z.2, eW (lcmF 1 l)] = some (eR (toF (sumR l))) := fun z hz => by
        obtain ⟨z1, z2⟩ := hz
        have : l.length * 4611686018427387904000000000000000 ≤ 20000 * 4611686018427387904000000000000000 := Nat.mul_le_mul_right _ hl
        have := f34 z.1 z.2 (lcmF 1 l) (by omega) hpos (by omega)
        rw [made_toF hpos, sg_sgn, z1, List.take_length, hnum] at this
        exact this
      rw [eW_small (W := lcmF 1 l) (by omega)] at q34
      generalize toF (sumR l) = r at *
      obtain ⟨⟨r1, r2⟩, r3⟩ := r
      simp only [eR, eF, eG_eq] at q34 ⊢
      clear hnum hdv hpos hle
      generalize lcmF 1 l = M at *
      have e0 : hW 0 = 0 := rfl
      have e1 : lW 0 = 0 := rfl
      refine evE_intro 30000 D28 rfl ?_
      unfold c28
      simp [evCode, evOps, evOne, evOp, evPur, evEff, evPur.chunks, fillP, AOp.isEff, AO.ev, putP, PV.cells, PV.leaf, getB, getM, mapE, iterE, keyC, mapRows, mfind, eq1, eqL, scal, binP, unP, minP, maxP, foldP, PV.lt, PV.lt.ltL, endP, expoAll, expoG, expo, expo.expoL, frIds, frIds.frIdsL, nodupN, kill, cls, clsFuel, resO, RV.get, loadP, evC_p, evC_s, endS, endT, rowsOf, callP, thinL, unfr, unfr.unfrL, PV.noMem, PV.noMem.noMemL, optI, mapO, norm, trimT, trimB, forget, hasN, blksLt, List.set, softChk, softGo, softRd, effTg, rdP, eL, hl', q53]
      generalize hE : evLoop (evCode (evC Dg) 30000 c28b0) [0, 2, 4, 6, 7] 2 30000 _ = E
      rcases hH _ E hE (by simp [evCode, evOps, evOne, evOp, evPur, evEff, evPur.chunks, fillP, AOp.isEff, AO.ev, putP, PV.cells, PV.leaf, getB, getM, mapE, iterE, keyC, mapRows, mfind, eq1, eqL, scal, binP, unP, minP, maxP, foldP, PV.lt, PV.lt.ltL, endP, expoAll, expoG, expo, expo.expoL, frIds, frIds.frIdsL, nodupN, kill, cls, clsFuel, resO, RV.get, loadP, evC_p, evC_s, endS, endT, rowsOf, callP, thinL, unfr, unfr.unfrL, PV.noMem, PV.noMem.noMemL, optI, mapO, norm, trimT, trimB, forget, hasN, blksLt, List.set, softChk, softGo, softRd, effTg, rdP, S28, e0, e1]) with ⟨z, hz, rfl⟩ | ⟨_, _, h⟩
      · have q := q34 z hz
        obtain ⟨z1, z2⟩ := z
        unfold c28b0 c28r0
        simp [evCode, evOps, evOne, evOp, evPur, evEff, evPur.chunks, fillP, AOp.isEff, AO.ev, putP, PV.cells, PV.leaf, getB, getM, mapE, iterE, keyC, mapRows, mfind, eq1, eqL, scal, binP, unP, minP, maxP, foldP, PV.lt, PV.lt.ltL, endP, expoAll, expoG, expo, expo.expoL, frIds, frIds.frIdsL, nodupN, kill, cls, clsFuel, resO, RV.get, loadP, evC_p, evC_s, endS, endT, rowsOf, callP, thinL, unfr, unfr.unfrL, PV.noMem, PV.noMem.noMemL, optI, mapO, norm, trimT, trimB, forget, hasN, blksLt, List.set, softChk, softGo, softRd, effTg, rdP, S28, eL, q, q35]
      · exact h.elim
    · rw [if_neg (fun h => hok h.2)] at q53
      rw [if_neg (fun h => hok h.2)]
      refine evE_intro 1 D28 rfl ?_
      unfold c28
      simp [evCode, evOps, evOne, evOp, evPur, evEff, evPur.chunks, fillP, AOp.isEff, AO.ev, putP, PV.cells, PV.leaf, getB, getM, mapE, iterE, keyC, mapRows, mfind, eq1, eqL, scal, binP, unP, minP, maxP, foldP, PV.lt, PV.lt.ltL, endP, expoAll, expoG, expo, expo.expoL, frIds, frIds.frIdsL, nodupN, kill, cls, clsFuel, resO, RV.get, loadP, evC_p, evC_s, endS, endT, rowsOf, callP, thinL, unfr, unfr.unfrL, PV.noMem, PV.noMem.noMemL, optI, mapO, norm, trimT, trimB, forget, hasN, blksLt, List.set, softChk, softGo, softRd, effTg, rdP, eL, hl', q53, eR, eF]
  · rw [if_neg (fun h => hl h.1)]
    have hl' : (20000 : Int) < l.length := by omega
    refine evE_intro 1 D28 rfl ?_
    unfold c28
    simp [evCode, evOps, evOne, evOp, evPur, evEff, evPur.chunks, fillP, AOp.isEff, AO.ev, putP, PV.cells, PV.leaf, getB, getM, mapE, iterE, keyC, mapRows, mfind, eq1, eqL, scal, binP, unP, minP, maxP, foldP, PV.lt, PV.lt.ltL, endP, expoAll, expoG, expo, expo.expoL, frIds, frIds.frIdsL, nodupN, kill, cls, clsFuel, resO, RV.get, loadP, evC_p, evC_s, endS, endT, rowsOf, callP, thinL, unfr, unfr.unfrL, PV.noMem, PV.noMem.noMemL, optI, mapO, norm, trimT, trimB, forget, hasN, blksLt, List.set, softChk, softGo, softRd, effTg, rdP, eL, hl', eR, eF]
end Go.Proofs.YtddglikicokpeaaDoor
