/- frac: Sum. -/
import Derived.Test.YtddglikicokpeaaDoorFrV
namespace Go.Proofs.YtddglikicokpeaaDoor
open Go Go.RowKit
set_option linter.unusedVariables false
set_option linter.unusedSimpArgs false
set_option maxHeartbeats 4000000

set_option maxRecDepth 100000 in
theorem f52 (z : Int) (d : Nat) (h1 : z.natAbs < 170141183460469231731687303715884105728) (hd : 0 < d) (hd2 : d ≤ 1000000000000000) : evE Dg 52 [eZ z, .int .i64 d] = some (eR (made (decide (z < 0)) z.natAbs d)) := by
  have w1 : IntKind.u64.wrap (d : Int) = d := wrapN _ (by omega)
  have q5 := f41 z (by omega) (by omega)
  have q6 := f42 0 z
  have q7 := f43 z.natAbs d (by omega) (by omega) hd
  have hml : z.natAbs % d < d := Nat.mod_lt _ hd
  have q8 := f32 (z.natAbs % d) d (lt64 _ _ (Nat.le_of_lt hml) (by omega)) (by omega)
  rw [← Nat.gcd_rec, Nat.gcd_comm] at q8
  have g0 : 0 < Nat.gcd z.natAbs d := Nat.gcd_pos_of_pos_right _ hd
  have gle : Nat.gcd z.natAbs d ≤ d := Nat.le_of_dvd hd (Nat.gcd_dvd_right _ _)
  have q9 := f44 z.natAbs (Nat.gcd z.natAbs d) (by omega) (by omega) g0
  have t3 := tdivN d (Nat.gcd z.natAbs d)
  have l3 : d / Nat.gcd z.natAbs d ≤ d := Nat.div_le_self _ _
  have w7 := wU _ _ l3 (by omega)
  have q11 := fun (neg : Bool) (hp : z.natAbs / Nat.gcd z.natAbs d < 18446744073709551616) => f33 neg (z.natAbs / Nat.gcd z.natAbs d) (d / Nat.gcd z.natAbs d) hp (lt64 _ _ l3 (by omega))
  have hb1 := fun neg => @outF_big neg (z.natAbs / Nat.gcd z.natAbs d) (d / Nat.gcd z.natAbs d)
  unfold made
  unfold divR at q9
  generalize d / Nat.gcd z.natAbs d = V at *
  generalize z.natAbs / Nat.gcd z.natAbs d = U at *
  generalize z.natAbs % d = M at *
  generalize Nat.gcd z.natAbs d = H at *
  have hne : ¬ ((H : Nat) : Int) = 0 := by omega
  have hne' : ¬ H = 0 := by omega
  rw [eZ0] at q6
  refine evE_intro 1 D52 rfl ?_
  by_cases hs : z < 0
  · have e0 : sgI z = -1 := if_pos hs
    have e1 : 0 - z = ((z.natAbs : Nat) : Int) := by omega
    rw [e0] at q5
    rw [e1] at q6
    have hdd : decide (z < 0) = true := decide_eq_true hs
    rw [hdd]
    simp only [eZ] at q5 q6 q7 q9 ⊢
    by_cases hu : U < 18446744073709551616
    · rw [if_pos hu] at q9
      have q12 := q11 true hu
      generalize outF true U V = r at *
      obtain ⟨⟨r1, r2⟩, r3⟩ := r
      simp only [eR, eF] at q12 ⊢
      unfold c52
      simp [evCode, evOps, evOne, evOp, evPur, evEff, evPur.chunks, fillP, AOp.isEff, AO.ev, putP, PV.cells, PV.leaf, getB, getM, mapE, iterE, keyC, mapRows, mfind, eq1, eqL, scal, binP, unP, minP, maxP, foldP, PV.lt, PV.lt.ltL, endP, expoAll, expoG, expo, expo.expoL, frIds, frIds.frIdsL, nodupN, kill, cls, clsFuel, resO, RV.get, loadP, evC_p, evC_s, endS, endT, rowsOf, callP, thinL, unfr, unfr.unfrL, PV.noMem, PV.noMem.noMemL, optI, mapO, norm, trimT, trimB, forget, hasN, blksLt, List.set, softChk, softGo, softRd, effTg, rdP, w1, q5, q6, q7, q8, q9, t3, w7, hne, hne', q12]
    · rw [hb1 true (.inl hu)]
      rw [if_neg hu] at q9
      simp only [eR, eF]
      unfold c52
      simp [evCode, evOps, evOne, evOp, evPur, evEff, evPur.chunks, fillP, AOp.isEff, AO.ev, putP, PV.cells, PV.leaf, getB, getM, mapE, iterE, keyC, mapRows, mfind, eq1, eqL, scal, binP, unP, minP, maxP, foldP, PV.lt, PV.lt.ltL, endP, expoAll, expoG, expo, expo.expoL, frIds, frIds.frIdsL, nodupN, kill, cls, clsFuel, resO, RV.get, loadP, evC_p, evC_s, endS, endT, rowsOf, callP, thinL, unfr, unfr.unfrL, PV.noMem, PV.noMem.noMemL, optI, mapO, norm, trimT, trimB, forget, hasN, blksLt, List.set, softChk, softGo, softRd, effTg, rdP, w1, q5, q6, q7, q8, q9, t3, w7, hne, hne']
  · have e0 : ¬ sgI z < 0 := by unfold sgI; rw [if_neg hs]; split <;> omega
    have e1 : ((z.natAbs : Nat) : Int) = z := by omega
    rw [e1] at q7 q9
    have hdd : decide (z < 0) = false := decide_eq_false hs
    rw [hdd]
    generalize sgI z = sg0 at *
    simp only [eZ] at q5 q6 q7 q9 ⊢
    by_cases hu : U < 18446744073709551616
    · rw [if_pos hu] at q9
      have q12 := q11 false hu
      generalize outF false U V = r at *
      obtain ⟨⟨r1, r2⟩, r3⟩ := r
      simp only [eR, eF] at q12 ⊢
      unfold c52
      simp [evCode, evOps, evOne, evOp, evPur, evEff, evPur.chunks, fillP, AOp.isEff, AO.ev, putP, PV.cells, PV.leaf, getB, getM, mapE, iterE, keyC, mapRows, mfind, eq1, eqL, scal, binP, unP, minP, maxP, foldP, PV.lt, PV.lt.ltL, endP, expoAll, expoG, expo, expo.expoL, frIds, frIds.frIdsL, nodupN, kill, cls, clsFuel, resO, RV.get, loadP, evC_p, evC_s, endS, endT, rowsOf, callP, thinL, unfr, unfr.unfrL, PV.noMem, PV.noMem.noMemL, optI, mapO, norm, trimT, trimB, forget, hasN, blksLt, List.set, softChk, softGo, softRd, effTg, rdP, e0, w1, q5, q7, q8, q9, t3, w7, hne, hne', q12]
    · rw [hb1 false (.inl hu)]
      rw [if_neg hu] at q9
      simp only [eR, eF]
      unfold c52
      simp [evCode, evOps, evOne, evOp, evPur, evEff, evPur.chunks, fillP, AOp.isEff, AO.ev, putP, PV.cells, PV.leaf, getB, getM, mapE, iterE, keyC, mapRows, mfind, eq1, eqL, scal, binP, unP, minP, maxP, foldP, PV.lt, PV.lt.ltL, endP, expoAll, expoG, expo, expo.expoL, frIds, frIds.frIdsL, nodupN, kill, cls, clsFuel, resO, RV.get, loadP, evC_p, evC_s, endS, endT, rowsOf, callP, thinL, unfr, unfr.unfrL, PV.noMem, PV.noMem.noMemL, optI, mapO, norm, trimT, trimB, forget, hasN, blksLt, List.set, softChk, softGo, softRd, effTg, rdP, e0, w1, q5, q7, q8, q9, t3, w7, hne, hne']

/-- lists of fractions -/
def rF (a : Fr) : List PV := [.int .i64 a.1, .int .i64 a.2]
def rFs (l : List Fr) : List (List PV) := l.map rF
theorem rFs_len (l : List Fr) : (rFs l).length = l.length := by simp [rFs]
theorem rFs_get {l : List Fr} {i : Nat} {t : Fr} (h : l[i]? = some t) : (rFs l)[i]? = some (rF t) := by simp [rFs, h]
theorem rFs_getE {l : List Fr} {i : Nat} {t : Fr} (h : l[i]? = some t) : ∀ g, (rFs l)[i]'g = rF t := fun g => by
  have := rFs_get h
  rw [List.getElem?_eq_getElem g] at this
  exact Option.some.inj this
theorem lcm_code (m d : Nat) : m / Nat.gcd m d * d = Nat.lcm m d := by
  unfold Nat.lcm
  obtain ⟨k, hk⟩ := Nat.gcd_dvd_left m d
  by_cases h0 : Nat.gcd m d = 0
  · have hm := Nat.eq_zero_of_gcd_eq_zero_left h0
    subst hm
    simp
  · have hp : 0 < Nat.gcd m d := by omega
    generalize Nat.gcd m d = g at *
    rw [hk, Nat.mul_div_cancel_left _ hp, Nat.mul_assoc, Nat.mul_div_cancel_left _ hp]
theorem lcm_take {l : List Fr} (h : ∀ a ∈ l, validF a) (j : Nat) : lcmF 1 (l.take j) ≤ lcmF 1 l := by
  refine Nat.le_of_dvd (lcmF_pos h 1 (by omega)) ?_
  rw [lcmF_dvd]
  obtain ⟨q1, q2⟩ := (lcmF_dvd l 1 (lcmF 1 l)).1 (Nat.dvd_refl _)
  exact ⟨q1, fun x hx => q2 x (List.mem_of_mem_take hx)⟩
theorem lcm_snoc {l : List Fr} {k : Nat} {a : Fr} (ha : l[k]? = some a) : lcmF 1 (l.take (k + 1)) = Nat.lcm (lcmF 1 (l.take k)) a.2.natAbs := by
  rw [List.take_add_one, ha]
  unfold lcmF
  rw [List.foldl_append]
  rfl
def S51 (ex : Bool) (l : List Fr) (k : Nat) (m : Nat) : St := ⟨[.top, .top, .top, .top, .int .u64 m, .top, .top, .top, .top, .top, .top, .top, .sl ex 2 (rFs l), .int .i64 l.length, .int .i64 k] ++ List.replicate 30 .top, []⟩
def I51 (l : List Fr) (k m : Nat) : Prop := m = lcmF 1 (l.take k) ∧ (∀ a ∈ l.take k, validF a) ∧ m ≤ 1000000000000000 ∧ 0 < m
def R51 (l : List Fr) (s : St) : Prop := s.sl[2]?.getD .top = .int .i64 0 ∧ s.sl[3]?.getD .top = .bool false ∧ ¬ okL l
set_option maxRecDepth 100000 in
theorem step51 (ex : Bool) (l : List Fr) (hl : l.length ≤ 20000) (h64 : ∀ a ∈ l, i64F a) (k m : Nat) (a : Fr) (ha : l[k]? = some a) (hI : I51 l k m) :
    (∃ m' s', evCode (evC Dg) 30000 c51b0 (S51 ex l k m) = some (.normal s') ∧ norm [4, 12, 13, 14] 0 s' = S51 ex l (k + 1) m' ∧ I51 l (k + 1) m') ∨ ∃ s', evCode (evC Dg) 30000 c51b0 (S51 ex l k m) = some (.ret s') ∧ R51 l s' := by
  obtain ⟨hm, hv, hle, hpos⟩ := hI
  have hk := (List.getElem?_eq_some_iff.1 ha).1
  have hk' : (k : Int) < l.length := by omega
  have w1 := wrap_i64 ((k : Int) + 1) (by omega) (by omega)
  have eL := rFs_len l
  have eg := rFs_get ha
  have eg' := rFs_getE ha
  have ham := List.mem_of_getElem? ha
  have v1 := f13 a (h64 a ham)
  by_cases hva : validF a
  · have hlcm := lcm_snoc ha
    rw [← hm, ← lcm_code] at hlcm
    have hvv : ∀ b ∈ l.take (k + 1), validF b := fun b hb => by
      rw [List.take_add_one, ha] at hb
      rcases List.mem_append.1 hb with hb | hb
      · exact hv b hb
      · simp at hb; subst hb; exact hva
    have hpos' := lcmF_pos hvv 1 (by omega)
    simp only [eF, hva, decide_true] at v1
    have hva' := hva
    obtain ⟨a1, a2, a3, a4, a5⟩ := hva'
    have w2 : IntKind.u64.wrap a.2 = ((a.2.natAbs : Nat) : Int) := by rw [wrap_u64']; omega
    have q1 := f32 m a.2.natAbs (by omega) (by omega)
    have g0 : 0 < Nat.gcd m a.2.natAbs := Nat.gcd_pos_of_pos_left _ hpos
    have t1 := tdivN m (Nat.gcd m a.2.natAbs)
    have l1 : m / Nat.gcd m a.2.natAbs ≤ m := Nat.div_le_self _ _
    have u1 := wU _ _ l1 (by omega)
    have q2 := f45 (m / Nat.gcd m a.2.natAbs) a.2.natAbs (lt64 _ _ l1 (by omega)) (by omega)
    have hbig : m / Nat.gcd m a.2.natAbs * a.2.natAbs ≤ 1000000000000000 * 1000000000000000 := Nat.mul_le_mul (Nat.le_trans l1 hle) (by omega)
    by_cases hc : m / Nat.gcd m a.2.natAbs * a.2.natAbs ≤ 1000000000000000
    · left
      refine ⟨m / Nat.gcd m a.2.natAbs * a.2.natAbs, ?_⟩
      have J : I51 l (k + 1) (m / Nat.gcd m a.2.natAbs * a.2.natAbs) := ⟨hlcm.symm, hvv, hc, by rw [← hlcm]; exact hpos'⟩
      suffices h : ∃ s', evCode (evC Dg) 30000 c51b0 (S51 ex l k m) = some (.normal s') ∧ norm [4, 12, 13, 14] 0 s' = S51 ex l (k + 1) (m / Nat.gcd m a.2.natAbs * a.2.natAbs) by
        obtain ⟨s', x1, x2⟩ := h
        exact ⟨s', x1, x2, J⟩
      clear J hlcm hbig
      generalize m / Nat.gcd m a.2.natAbs * a.2.natAbs = P at *
      have hp : P < 18446744073709551616 := by omega
      have hm1 : P % 18446744073709551616 = P := Nat.mod_eq_of_lt hp
      rw [hm1] at q2
      simp only [hp, decide_true] at q2
      have hc' : ¬ (1000000000000000 : Int) < P := by omega
      generalize m / Nat.gcd m a.2.natAbs = X at *
      generalize Nat.gcd m a.2.natAbs = G at *
      have gne : ¬ ((G : Nat) : Int) = 0 := by omega
      have gne' : ¬ G = 0 := by omega
      unfold c51b0
      simp [evCode, evOps, evOne, evOp, evPur, evEff, evPur.chunks, fillP, AOp.isEff, AO.ev, putP, PV.cells, PV.leaf, getB, getM, mapE, iterE, keyC, mapRows, mfind, eq1, eqL, scal, binP, unP, minP, maxP, foldP, PV.lt, PV.lt.ltL, endP, expoAll, expoG, expo, expo.expoL, frIds, frIds.frIdsL, nodupN, kill, cls, clsFuel, resO, RV.get, loadP, evC_p, evC_s, endS, endT, rowsOf, callP, thinL, unfr, unfr.unfrL, PV.noMem, PV.noMem.noMemL, optI, mapO, norm, trimT, trimB, forget, hasN, blksLt, List.set, softChk, softGo, softRd, effTg, rdP, S51, rF, eL, eg, eg', hk, hk', w1, v1, w2, q1, t1, u1, q2, gne, gne', hc']
    · right
      have hno : ¬ okL l := fun h => by
        have h1 := lcm_take h.1 (k + 1)
        rw [hlcm] at h1
        have := h.2
        omega
      suffices h : ∃ s', evCode (evC Dg) 30000 c51b0 (S51 ex l k m) = some (.ret s') ∧ s'.sl[2]?.getD .top = .int .i64 0 ∧ s'.sl[3]?.getD .top = .bool false by
        obtain ⟨s', x1, x2, x3⟩ := h
        exact ⟨s', x1, x2, x3, hno⟩
      clear hlcm hno
      generalize m / Nat.gcd m a.2.natAbs * a.2.natAbs = P at *
      generalize m / Nat.gcd m a.2.natAbs = X at *
      generalize Nat.gcd m a.2.natAbs = G at *
      have gne : ¬ ((G : Nat) : Int) = 0 := by omega
      have gne' : ¬ G = 0 := by omega
      by_cases hp : P < 18446744073709551616
      · have hm1 : P % 18446744073709551616 = P := Nat.mod_eq_of_lt hp
        rw [hm1] at q2
        simp only [hp, decide_true] at q2
        have hc' : (1000000000000000 : Int) < P := by omega
        unfold c51b0
        simp [evCode, evOps, evOne, evOp, evPur, evEff, evPur.chunks, fillP, AOp.isEff, AO.ev, putP, PV.cells, PV.leaf, getB, getM, mapE, iterE, keyC, mapRows, mfind, eq1, eqL, scal, binP, unP, minP, maxP, foldP, PV.lt, PV.lt.ltL, endP, expoAll, expoG, expo, expo.expoL, frIds, frIds.frIdsL, nodupN, kill, cls, clsFuel, resO, RV.get, loadP, evC_p, evC_s, endS, endT, rowsOf, callP, thinL, unfr, unfr.unfrL, PV.noMem, PV.noMem.noMemL, optI, mapO, norm, trimT, trimB, forget, hasN, blksLt, List.set, softChk, softGo, softRd, effTg, rdP, S51, rF, eL, eg, eg', hk, hk', w1, v1, w2, q1, t1, u1, q2, gne, gne', hc']
      · simp only [hp, decide_false] at q2
        generalize P % 18446744073709551616 = P' at *
        unfold c51b0
        simp [evCode, evOps, evOne, evOp, evPur, evEff, evPur.chunks, fillP, AOp.isEff, AO.ev, putP, PV.cells, PV.leaf, getB, getM, mapE, iterE, keyC, mapRows, mfind, eq1, eqL, scal, binP, unP, minP, maxP, foldP, PV.lt, PV.lt.ltL, endP, expoAll, expoG, expo, expo.expoL, frIds, frIds.frIdsL, nodupN, kill, cls, clsFuel, resO, RV.get, loadP, evC_p, evC_s, endS, endT, rowsOf, callP, thinL, unfr, unfr.unfrL, PV.noMem, PV.noMem.noMemL, optI, mapO, norm, trimT, trimB, forget, hasN, blksLt, List.set, softChk, softGo, softRd, effTg, rdP, S51, rF, eL, eg, eg', hk, hk', w1, v1, w2, q1, t1, u1, q2, gne, gne']
  · right
    have hno : ¬ okL l := fun h => hva (h.1 a ham)
    simp only [eF, hva, decide_false] at v1
    suffices h : ∃ s', evCode (evC Dg) 30000 c51b0 (S51 ex l k m) = some (.ret s') ∧ s'.sl[2]?.getD .top = .int .i64 0 ∧ s'.sl[3]?.getD .top = .bool false by
      obtain ⟨s', x1, x2, x3⟩ := h
      exact ⟨s', x1, x2, x3, hno⟩
    unfold c51b0
    simp [evCode, evOps, evOne, evOp, evPur, evEff, evPur.chunks, fillP, AOp.isEff, AO.ev, putP, PV.cells, PV.leaf, getB, getM, mapE, iterE, keyC, mapRows, mfind, eq1, eqL, scal, binP, unP, minP, maxP, foldP, PV.lt, PV.lt.ltL, endP, expoAll, expoG, expo, expo.expoL, frIds, frIds.frIdsL, nodupN, kill, cls, clsFuel, resO, RV.get, loadP, evC_p, evC_s, endS, endT, rowsOf, callP, thinL, unfr, unfr.unfrL, PV.noMem, PV.noMem.noMemL, optI, mapO, norm, trimT, trimB, forget, hasN, blksLt, List.set, softChk, softGo, softRd, effTg, rdP, S51, rF, eL, eg, eg', hk, hk', w1, v1]
def denR (l : List Fr) : PV := if l.length ≤ 20000 ∧ okL l then .tup [.int .i64 ((lcmF 1 l : Nat) : Int), .bool true] else .tup [.int .i64 0, .bool false]
set_option maxRecDepth 100000 in
theorem f51 (ex : Bool) (l : List Fr) (hll : l.length ≤ 1000000) (h64 : ∀ a ∈ l, i64F a) : evE Dg 51 [.sl ex 2 (rFs l)] = some (denR l) := by
  have eL := rFs_len l
  unfold denR
  by_cases hl : l.length ≤ 20000
  · have hl' : ¬ (20000 : Int) < l.length := by omega
    have H : ∀ (s0 : St) (E : Option Out), evLoop (evCode (evC Dg) 30000 c51b0) [4, 12, 13, 14] 0 30000 s0 = E → norm [4, 12, 13, 14] 0 s0 = S51 ex l 0 1 →
      (∃ m, I51 l l.length m ∧ E = evCode (evC Dg) 30000 c51b0 (S51 ex l l.length m)) ∨ (∃ s, E = some (.ret s) ∧ R51 l s) := by
      intro s0 E hE h0
      refine loop_inv (body := evCode (evC Dg) 30000 c51b0) (keep := [4, 12, 13, 14]) (n0 := 0) (fuel := 30000) l (S51 ex l) (I51 l) (R51 l) ?_ ?_ (by omega) 1 ⟨rfl, by simp, by omega, by omega⟩ s0 E hE h0
      · intro k a m ha hk hI
        exact step51 ex l hl h64 k m a ha hI
      · intro m _ s
        unfold c51b0
        simp [evCode, evOps, evOne, evOp, evPur, evEff, evPur.chunks, fillP, AOp.isEff, AO.ev, putP, PV.cells, PV.leaf, getB, getM, mapE, iterE, keyC, mapRows, mfind, eq1, eqL, scal, binP, unP, minP, maxP, foldP, PV.lt, PV.lt.ltL, endP, expoAll, expoG, expo, expo.expoL, frIds, frIds.frIdsL, nodupN, kill, cls, clsFuel, resO, RV.get, loadP, evC_p, evC_s, endS, endT, rowsOf, callP, thinL, unfr, unfr.unfrL, PV.noMem, PV.noMem.noMemL, optI, mapO, norm, trimT, trimB, forget, hasN, blksLt, List.set, softChk, softGo, softRd, effTg, rdP, S51, eL]
    refine evE_intro 30000 D51 rfl ?_
    unfold c51
    simp [evCode, evOps, evOne, evOp, evPur, evEff, evPur.chunks, fillP, AOp.isEff, AO.ev, putP, PV.cells, PV.leaf, getB, getM, mapE, iterE, keyC, mapRows, mfind, eq1, eqL, scal, binP, unP, minP, maxP, foldP, PV.lt, PV.lt.ltL, endP, expoAll, expoG, expo, expo.expoL, frIds, frIds.frIdsL, nodupN, kill, cls, clsFuel, resO, RV.get, loadP, evC_p, evC_s, endS, endT, rowsOf, callP, thinL, unfr, unfr.unfrL, PV.noMem, PV.noMem.noMemL, optI, mapO, norm, trimT, trimB, forget, hasN, blksLt, List.set, softChk, softGo, softRd, effTg, rdP, eL, hl, hl']
    generalize hE : evLoop (evCode (evC Dg) 30000 c51b0) [4, 12, 13, 14] 0 30000 _ = E
    rcases H _ E hE (by simp [evCode, evOps, evOne, evOp, evPur, evEff, evPur.chunks, fillP, AOp.isEff, AO.ev, putP, PV.cells, PV.leaf, getB, getM, mapE, iterE, keyC, mapRows, mfind, eq1, eqL, scal, binP, unP, minP, maxP, foldP, PV.lt, PV.lt.ltL, endP, expoAll, expoG, expo, expo.expoL, frIds, frIds.frIdsL, nodupN, kill, cls, clsFuel, resO, RV.get, loadP, evC_p, evC_s, endS, endT, rowsOf, callP, thinL, unfr, unfr.unfrL, PV.noMem, PV.noMem.noMemL, optI, mapO, norm, trimT, trimB, forget, hasN, blksLt, List.set, softChk, softGo, softRd, effTg, rdP, S51]) with ⟨m, ⟨hm, hv, hle, hpos⟩, rfl⟩ | ⟨⟨sl, bl⟩, rfl, h1, h2, h3⟩
    · rw [List.take_length] at hm hv
      subst hm
      have hok : okL l := ⟨hv, hle⟩
      generalize lcmF 1 l = m at *
      have w1 := wrap_i64 (m : Int) (by omega) (by omega)
      unfold c51b0
      simp [evCode, evOps, evOne, evOp, evPur, evEff, evPur.chunks, fillP, AOp.isEff, AO.ev, putP, PV.cells, PV.leaf, getB, getM, mapE, iterE, keyC, mapRows, mfind, eq1, eqL, scal, binP, unP, minP, maxP, foldP, PV.lt, PV.lt.ltL, endP, expoAll, expoG, expo, expo.expoL, frIds, frIds.frIdsL, nodupN, kill, cls, clsFuel, resO, RV.get, loadP, evC_p, evC_s, endS, endT, rowsOf, callP, thinL, unfr, unfr.unfrL, PV.noMem, PV.noMem.noMemL, optI, mapO, norm, trimT, trimB, forget, hasN, blksLt, List.set, softChk, softGo, softRd, effTg, rdP, S51, eL, w1, hok]
    · simp only at h1 h2
      simp [evCode, evOps, evOne, evOp, evPur, evEff, evPur.chunks, fillP, AOp.isEff, AO.ev, putP, PV.cells, PV.leaf, getB, getM, mapE, iterE, keyC, mapRows, mfind, eq1, eqL, scal, binP, unP, minP, maxP, foldP, PV.lt, PV.lt.ltL, endP, expoAll, expoG, expo, expo.expoL, frIds, frIds.frIdsL, nodupN, kill, cls, clsFuel, resO, RV.get, loadP, evC_p, evC_s, endS, endT, rowsOf, callP, thinL, unfr, unfr.unfrL, PV.noMem, PV.noMem.noMemL, optI, mapO, norm, trimT, trimB, forget, hasN, blksLt, List.set, softChk, softGo, softRd, effTg, rdP, h1, h2, h3]
  · have hl' : (20000 : Int) < l.length := by omega
    refine evE_intro 1 D51 rfl ?_
    unfold c51
    simp [evCode, evOps, evOne, evOp, evPur, evEff, evPur.chunks, fillP, AOp.isEff, AO.ev, putP, PV.cells, PV.leaf, getB, getM, mapE, iterE, keyC, mapRows, mfind, eq1, eqL, scal, binP, unP, minP, maxP, foldP, PV.lt, PV.lt.ltL, endP, expoAll, expoG, expo, expo.expoL, frIds, frIds.frIdsL, nodupN, kill, cls, clsFuel, resO, RV.get, loadP, evC_p, evC_s, endS, endT, rowsOf, callP, thinL, unfr, unfr.unfrL, PV.noMem, PV.noMem.noMemL, optI, mapO, norm, trimT, trimB, forget, hasN, blksLt, List.set, softChk, softGo, softRd, effTg, rdP, eL, hl, hl']
end Go.Proofs.YtddglikicokpeaaDoor
