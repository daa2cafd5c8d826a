/- CounterSums, CounterParts. -/
import Derived.Test.YtecmcggnpgjbiaaCtL
namespace Go.Proofs.Ytecmcggnpgjbiaa
open Go Go.RowKit
set_option linter.unusedVariables false
set_option linter.unusedSimpArgs false
set_option maxHeartbeats 4000000

theorem itg_le {name : List UInt8} {F T : Int} {l : List Stp} (h : chkC l = 0) (hl : l.length ≤ 60) (hF : 0 ≤ F) (hFT : F ≤ T) (hT : T ≤ 1000000000000) : -170141183460469231731687303715884105728 ≤ itg name F T l ∧ itg name F T l < 170141183460469231731687303715884105728 := by
  obtain ⟨h1, h2⟩ := chk_ok h
  have e := itg_ref (name := name) hT hFT (good_of name h2)
  have b := ref_le (name := name) hF hT h1
  have b2 : l.length * 1000000000000000000000000000 ≤ 60 * 1000000000000000000000000000 := Nat.mul_le_mul_right _ hl
  rw [e]
  have b3 := Nat.le_trans b b2
  generalize refL name F T l = z at *
  clear e b b2
  omega
theorem f20v (l : List Stp) (h : chkC l = 0) (hl : l.length ≤ 60) (name : List UInt8) (F T : Int) : evE Dg 20 [eSp false l, .str name, .agg [.int .i64 F, .int .i64 T]] = some (intR F T (itg name F T l)) :=
  f20 false l (by omega) (chk_ok h).1 name F T (fun hc => itg_le h hl hc.1 (Int.le_of_lt hc.2.1) hc.2.2)
theorem inR_cases (z : Int) : ∃ n b, inR z = .tup [.int .i64 n, .bool b] ∧ (b = true → n = z ∧ -1000000000000000 ≤ z ∧ z ≤ 1000000000000000) ∧ ((-1000000000000000 ≤ z ∧ z ≤ 1000000000000000) → b = true ∧ n = z) := by
  unfold inR
  split
  · rename_i h; exact ⟨z, true, rfl, fun _ => ⟨rfl, h⟩, fun _ => ⟨rfl, rfl⟩⟩
  · rename_i h; exact ⟨0, false, rfl, (fun hb => by cases hb), fun hc => absurd hc h⟩
theorem int_cases (F T z : Int) : ∃ n b, intR F T z = .tup [.int .i64 n, .bool b] ∧ (b = true → n = z ∧ 0 ≤ F ∧ F < T ∧ T ≤ 1000000000000 ∧ -1000000000000000 ≤ z ∧ z ≤ 1000000000000000) ∧ ((0 ≤ F ∧ F < T ∧ T ≤ 1000000000000 ∧ -1000000000000000 ≤ z ∧ z ≤ 1000000000000000) → b = true ∧ n = z) := by
  unfold intR
  split
  · rename_i h
    obtain ⟨n, b, h1, h2, h3⟩ := inR_cases z
    exact ⟨n, b, h1, fun hb => ⟨(h2 hb).1, h.1, h.2.1, h.2.2, (h2 hb).2⟩, fun hc => h3 ⟨hc.2.2.2.1, hc.2.2.2.2⟩⟩
  · rename_i h
    exact ⟨0, false, rfl, (fun hb => by cases hb), fun hc => absurd ⟨hc.1, hc.2.1, hc.2.2.1⟩ h⟩
set_option maxRecDepth 100000 in
theorem f7 (l : List Stp) (name : List UInt8) (F T : Int) : evE Dg 7 [eSp false l, .str name, .agg [.int .i64 F, .int .i64 T]] = some (.bool true) := by
  have el : (l.map row).length = l.length := by simp
  have aw := f10
  by_cases c : 60 < l.length
  · have c' : (60 : Int) < l.length := by omega
    refine evE_intro 3 D7 rfl ?_
    unfold c7
    simp [evCode, evOps, evOne, evOp, evPur, evEff, evPur.chunks, fillP, AOp.isEff, AO.ev, putP, PV.cells, PV.leaf, getB, getM, mapE, keyC, mapRows, mfind, eq1, eqL, scal, binP, unP, minP, maxP, foldP, PV.lt, PV.lt.ltL, endP, expoAll, expo, expo.expoL, frIds, frIds.frIdsL, nodupN, kill, cls, clsFuel, resO, RV.get, loadP, evC_p, evC_s, endS, endT, rowsOf, callP, thinL, unfr, unfr.unfrL, PV.noMem, PV.noMem.noMemL, optI, mapO, norm, trimT, trimB, forget, hasN, blksLt, List.set, eSp, el, c, c', aw]
  · have c' : ¬ (60 : Int) < l.length := by omega
    have h16 := f16 false l (by omega)
    by_cases ce : chkC l = 0
    · have h20 := f20v l ce (by omega) name F T
      have h21 := f21 false l (by omega) (chk_ok ce).1 name F T
      have he : intR F T (refL name F T l) = intR F T (itg name F T l) := by
        unfold intR
        split
        · rename_i hc
          rw [itg_ref hc.2.2 (Int.le_of_lt hc.2.1) (good_of name (chk_ok ce).2)]
        · rfl
      rw [he] at h21
      rw [ce] at h16
      obtain ⟨n, b, hr, _, _⟩ := int_cases F T (itg name F T l)
      rw [hr] at h20 h21
      simp only [eSp] at h16 h20 h21
      refine evE_intro 3 D7 rfl ?_
      unfold c7
      cases b <;> simp [evCode, evOps, evOne, evOp, evPur, evEff, evPur.chunks, fillP, AOp.isEff, AO.ev, putP, PV.cells, PV.leaf, getB, getM, mapE, keyC, mapRows, mfind, eq1, eqL, scal, binP, unP, minP, maxP, foldP, PV.lt, PV.lt.ltL, endP, expoAll, expo, expo.expoL, frIds, frIds.frIdsL, nodupN, kill, cls, clsFuel, resO, RV.get, loadP, evC_p, evC_s, endS, endT, rowsOf, callP, thinL, unfr, unfr.unfrL, PV.noMem, PV.noMem.noMemL, optI, mapO, norm, trimT, trimB, forget, hasN, blksLt, List.set, eSp, el, c, c', h16, h20, h21, aw]
    · generalize chkC l = e at *
      simp only [eSp] at h16
      refine evE_intro 3 D7 rfl ?_
      unfold c7
      simp [evCode, evOps, evOne, evOp, evPur, evEff, evPur.chunks, fillP, AOp.isEff, AO.ev, putP, PV.cells, PV.leaf, getB, getM, mapE, keyC, mapRows, mfind, eq1, eqL, scal, binP, unP, minP, maxP, foldP, PV.lt, PV.lt.ltL, endP, expoAll, expo, expo.expoL, frIds, frIds.frIdsL, nodupN, kill, cls, clsFuel, resO, RV.get, loadP, evC_p, evC_s, endS, endT, rowsOf, callP, thinL, unfr, unfr.unfrL, PV.noMem, PV.noMem.noMemL, optI, mapO, norm, trimT, trimB, forget, hasN, blksLt, List.set, eSp, el, c, c', h16, ce, aw]
def S8 (l : List Stp) (F T m : Int) (k : Nat) : St := ⟨[eSp false l, .top, .int .i64 m, .top, .ptr 0 1 0 0, .top, .top, .int .i64 k] ++ List.replicate 111 .top, [some ⟨1, 2, true, [[.int .i64 F, .int .i64 T]]⟩]⟩
theorem at_zero {name : List UInt8} {t : Int} {l : List Stp} (h : (atF name t l).2 = false) : (atF name t l).1 = 0 := by
  unfold atF at *
  have key : ∀ (r : List Stp) (u : Int × Bool), (u.2 = false → u.1 = 0) → (r.foldl (atS name t) u).2 = false → (r.foldl (atS name t) u).1 = 0 := by
    intro r
    induction r with
    | nil => intro u h; exact h
    | cons a r ih =>
      intro u h
      refine ih _ ?_
      unfold atS
      split
      · intro h; cases h
      · exact h
  exact key l _ (fun _ => rfl) h
set_option maxRecDepth 100000 in
theorem b8 (l : List Stp) (hl : l.length ≤ 60) (h : chkC l = 0) (F T m : Int) (hm : is64 m) (n : Nat) (k : Nat) (a : Stp) (ha : l[k]? = some a) (hk : k < l.length) :
    ∃ s', evCode (evC Dg) n c8b0 (S8 l F T m k) = some (.normal s') ∧ norm [0, 2, 4, 7] 1 s' = S8 l F T m (k + 1) := by
  have el : (l.map row).length = l.length := by simp
  have hk' : (k : Int) < l.length := by omega
  have g1 := map_get (f := row) ha
  have g2 := sp_got ha
  have w1 := wrap_i64 ((k : Int) + 1) (by omega) (by omega)
  obtain ⟨a1, a2, a3⟩ := a
  simp only [row] at g1 g2
  obtain ⟨hr, hp⟩ := chk_ok h
  have hgd := good_of a1 hp
  have hA := f20v l h hl a1 F m
  have hB := f20v l h hl a1 m T
  have hC := f20v l h hl a1 F T
  obtain ⟨na, ba, ra, pa, _⟩ := int_cases F m (itg a1 F m l)
  obtain ⟨nb, bb, rb, pb, _⟩ := int_cases m T (itg a1 m T l)
  obtain ⟨nc, bc, rc, pc, _⟩ := int_cases F T (itg a1 F T l)
  rw [ra] at hA
  rw [rb] at hB
  rw [rc] at hC
  -- the three integrals together
  have hsum : ba = true → bb = true → bc = true → IntKind.i64.wrap (na + nb) = nc := by
    intro q1 q2 q3
    obtain ⟨e1, x1, x2, x3, x4, x5⟩ := pa q1
    obtain ⟨e2, y1, y2, y3, y4, y5⟩ := pb q2
    obtain ⟨e3, z1, z2, z3, _, _⟩ := pc q3
    have i1 := itg_ref (name := a1) (F := F) (T := m) x3 (Int.le_of_lt x2) hgd
    have i2 := itg_ref (name := a1) (F := m) (T := T) y3 (Int.le_of_lt y2) hgd
    have i3 := itg_ref (name := a1) (F := F) (T := T) z3 (Int.le_of_lt z2) hgd
    have i4 := ref_add a1 F m T (Int.le_of_lt x2) (Int.le_of_lt y2) l
    rw [e1, e2, e3]
    rw [wrap_i64 _ (by omega) (by omega), i1, i2, i3, i4]
  have hrest : ∀ (bad : Bool), bad = (ba && (bb && (bc && !(decide (IntKind.i64.wrap (na + nb) = nc))))) → bad = false := by
    intro bad hb
    subst hb
    cases ba <;> cases bb <;> cases bc <;> simp
    exact hsum rfl rfl rfl
  by_cases c1 : 0 ≤ m ∧ m < 1000000000000
  · obtain ⟨c1, c2⟩ := c1
    have w2 : IntKind.i64.wrap (m + 1) = m + 1 := wrap_i64 _ (by omega) (by omega)
    have hO := f20v l h hl a1 m (m + 1)
    have h15 := f15 false l (by omega) a1 m
    have hz := at_zero (name := a1) (t := m) (l := l)
    have hs := at_some (name := a1) (t := m) (l := l)
    rw [itg_one] at hO
    obtain ⟨v, ok, hu⟩ : ∃ v ok, atF a1 m l = (v, ok) := ⟨_, _, rfl⟩
    rw [hu] at h15 hz hs hO
    simp only at h15 hz hs hO
    have hv : -1000000000000000 ≤ v ∧ v ≤ 1000000000000000 := by
      cases ok with
      | false => have := hz rfl; omega
      | true =>
        obtain ⟨s, s1, s2, s3⟩ := hs rfl
        have := hr s s1
        omega
    obtain ⟨no, bo, ro, _, po⟩ := int_cases m (m + 1) v
    rw [ro] at hO
    obtain ⟨rfl, rfl⟩ := po ⟨c1, by omega, by omega, hv⟩
    simp only [eSp] at hA hB hC hO h15
    have hokz : ok = false → no = 0 := hz
    clear hz hs hv hu po ro pa pb pc ra rb rc
    cases ba with
    | false =>
      cases ok with
      | false =>
        obtain rfl := hokz rfl
        unfold c8b0
        simp [evCode, evOps, evOne, evOp, evPur, evEff, evPur.chunks, fillP, AOp.isEff, AO.ev, putP, PV.cells, PV.leaf, getB, getM, mapE, keyC, mapRows, mfind, eq1, eqL, scal, binP, unP, minP, maxP, foldP, PV.lt, PV.lt.ltL, endP, expoAll, expo, expo.expoL, frIds, frIds.frIdsL, nodupN, kill, cls, clsFuel, resO, RV.get, loadP, evC_p, evC_s, endS, endT, rowsOf, callP, thinL, unfr, unfr.unfrL, PV.noMem, PV.noMem.noMemL, optI, mapO, norm, trimT, trimB, forget, hasN, blksLt, List.set, S8, eSp, el, hk', hk, g1, g2, w1, w2, c1, c2, hA, hB, hC, hO, h15]
      | true =>
        unfold c8b0
        simp [evCode, evOps, evOne, evOp, evPur, evEff, evPur.chunks, fillP, AOp.isEff, AO.ev, putP, PV.cells, PV.leaf, getB, getM, mapE, keyC, mapRows, mfind, eq1, eqL, scal, binP, unP, minP, maxP, foldP, PV.lt, PV.lt.ltL, endP, expoAll, expo, expo.expoL, frIds, frIds.frIdsL, nodupN, kill, cls, clsFuel, resO, RV.get, loadP, evC_p, evC_s, endS, endT, rowsOf, callP, thinL, unfr, unfr.unfrL, PV.noMem, PV.noMem.noMemL, optI, mapO, norm, trimT, trimB, forget, hasN, blksLt, List.set, S8, eSp, el, hk', hk, g1, g2, w1, w2, c1, c2, hA, hB, hC, hO, h15]
    | true =>
      cases bb with
      | false =>
        cases ok with
        | false =>
          obtain rfl := hokz rfl
          unfold c8b0
          simp [evCode, evOps, evOne, evOp, evPur, evEff, evPur.chunks, fillP, AOp.isEff, AO.ev, putP, PV.cells, PV.leaf, getB, getM, mapE, keyC, mapRows, mfind, eq1, eqL, scal, binP, unP, minP, maxP, foldP, PV.lt, PV.lt.ltL, endP, expoAll, expo, expo.expoL, frIds, frIds.frIdsL, nodupN, kill, cls, clsFuel, resO, RV.get, loadP, evC_p, evC_s, endS, endT, rowsOf, callP, thinL, unfr, unfr.unfrL, PV.noMem, PV.noMem.noMemL, optI, mapO, norm, trimT, trimB, forget, hasN, blksLt, List.set, S8, eSp, el, hk', hk, g1, g2, w1, w2, c1, c2, hA, hB, hC, hO, h15]
        | true =>
          unfold c8b0
          simp [evCode, evOps, evOne, evOp, evPur, evEff, evPur.chunks, fillP, AOp.isEff, AO.ev, putP, PV.cells, PV.leaf, getB, getM, mapE, keyC, mapRows, mfind, eq1, eqL, scal, binP, unP, minP, maxP, foldP, PV.lt, PV.lt.ltL, endP, expoAll, expo, expo.expoL, frIds, frIds.frIdsL, nodupN, kill, cls, clsFuel, resO, RV.get, loadP, evC_p, evC_s, endS, endT, rowsOf, callP, thinL, unfr, unfr.unfrL, PV.noMem, PV.noMem.noMemL, optI, mapO, norm, trimT, trimB, forget, hasN, blksLt, List.set, S8, eSp, el, hk', hk, g1, g2, w1, w2, c1, c2, hA, hB, hC, hO, h15]
      | true =>
        cases bc with
        | false =>
          cases ok with
          | false =>
            obtain rfl := hokz rfl
            unfold c8b0
            simp [evCode, evOps, evOne, evOp, evPur, evEff, evPur.chunks, fillP, AOp.isEff, AO.ev, putP, PV.cells, PV.leaf, getB, getM, mapE, keyC, mapRows, mfind, eq1, eqL, scal, binP, unP, minP, maxP, foldP, PV.lt, PV.lt.ltL, endP, expoAll, expo, expo.expoL, frIds, frIds.frIdsL, nodupN, kill, cls, clsFuel, resO, RV.get, loadP, evC_p, evC_s, endS, endT, rowsOf, callP, thinL, unfr, unfr.unfrL, PV.noMem, PV.noMem.noMemL, optI, mapO, norm, trimT, trimB, forget, hasN, blksLt, List.set, S8, eSp, el, hk', hk, g1, g2, w1, w2, c1, c2, hA, hB, hC, hO, h15]
          | true =>
            unfold c8b0
            simp [evCode, evOps, evOne, evOp, evPur, evEff, evPur.chunks, fillP, AOp.isEff, AO.ev, putP, PV.cells, PV.leaf, getB, getM, mapE, keyC, mapRows, mfind, eq1, eqL, scal, binP, unP, minP, maxP, foldP, PV.lt, PV.lt.ltL, endP, expoAll, expo, expo.expoL, frIds, frIds.frIdsL, nodupN, kill, cls, clsFuel, resO, RV.get, loadP, evC_p, evC_s, endS, endT, rowsOf, callP, thinL, unfr, unfr.unfrL, PV.noMem, PV.noMem.noMemL, optI, mapO, norm, trimT, trimB, forget, hasN, blksLt, List.set, S8, eSp, el, hk', hk, g1, g2, w1, w2, c1, c2, hA, hB, hC, hO, h15]
        | true =>
          have hw := hsum rfl rfl rfl
          cases ok with
          | false =>
            obtain rfl := hokz rfl
            unfold c8b0
            simp [evCode, evOps, evOne, evOp, evPur, evEff, evPur.chunks, fillP, AOp.isEff, AO.ev, putP, PV.cells, PV.leaf, getB, getM, mapE, keyC, mapRows, mfind, eq1, eqL, scal, binP, unP, minP, maxP, foldP, PV.lt, PV.lt.ltL, endP, expoAll, expo, expo.expoL, frIds, frIds.frIdsL, nodupN, kill, cls, clsFuel, resO, RV.get, loadP, evC_p, evC_s, endS, endT, rowsOf, callP, thinL, unfr, unfr.unfrL, PV.noMem, PV.noMem.noMemL, optI, mapO, norm, trimT, trimB, forget, hasN, blksLt, List.set, S8, eSp, el, hk', hk, g1, g2, w1, w2, c1, c2, hA, hB, hC, hO, h15, hw]
          | true =>
            unfold c8b0
            simp [evCode, evOps, evOne, evOp, evPur, evEff, evPur.chunks, fillP, AOp.isEff, AO.ev, putP, PV.cells, PV.leaf, getB, getM, mapE, keyC, mapRows, mfind, eq1, eqL, scal, binP, unP, minP, maxP, foldP, PV.lt, PV.lt.ltL, endP, expoAll, expo, expo.expoL, frIds, frIds.frIdsL, nodupN, kill, cls, clsFuel, resO, RV.get, loadP, evC_p, evC_s, endS, endT, rowsOf, callP, thinL, unfr, unfr.unfrL, PV.noMem, PV.noMem.noMemL, optI, mapO, norm, trimT, trimB, forget, hasN, blksLt, List.set, S8, eSp, el, hk', hk, g1, g2, w1, w2, c1, c2, hA, hB, hC, hO, h15, hw]
  · simp only [eSp] at hA hB hC
    have go : ∀ (P : Prop), ((¬ 0 ≤ m) → P) → ((0 ≤ m ∧ ¬ m < 1000000000000) → P) → P := fun P h1 h2 => by
      by_cases q : 0 ≤ m
      · exact h2 ⟨q, fun h => c1 ⟨q, h⟩⟩
      · exact h1 q
    clear pa pb pc ra rb rc
    refine go _ (fun d => ?_) (fun ⟨d1, d2⟩ => ?_)
    · cases ba with
      | false => unfold c8b0; simp [evCode, evOps, evOne, evOp, evPur, evEff, evPur.chunks, fillP, AOp.isEff, AO.ev, putP, PV.cells, PV.leaf, getB, getM, mapE, keyC, mapRows, mfind, eq1, eqL, scal, binP, unP, minP, maxP, foldP, PV.lt, PV.lt.ltL, endP, expoAll, expo, expo.expoL, frIds, frIds.frIdsL, nodupN, kill, cls, clsFuel, resO, RV.get, loadP, evC_p, evC_s, endS, endT, rowsOf, callP, thinL, unfr, unfr.unfrL, PV.noMem, PV.noMem.noMemL, optI, mapO, norm, trimT, trimB, forget, hasN, blksLt, List.set, S8, eSp, el, hk', hk, g1, g2, w1, d, hA, hB, hC]
      | true =>
        cases bb with
        | false => unfold c8b0; simp [evCode, evOps, evOne, evOp, evPur, evEff, evPur.chunks, fillP, AOp.isEff, AO.ev, putP, PV.cells, PV.leaf, getB, getM, mapE, keyC, mapRows, mfind, eq1, eqL, scal, binP, unP, minP, maxP, foldP, PV.lt, PV.lt.ltL, endP, expoAll, expo, expo.expoL, frIds, frIds.frIdsL, nodupN, kill, cls, clsFuel, resO, RV.get, loadP, evC_p, evC_s, endS, endT, rowsOf, callP, thinL, unfr, unfr.unfrL, PV.noMem, PV.noMem.noMemL, optI, mapO, norm, trimT, trimB, forget, hasN, blksLt, List.set, S8, eSp, el, hk', hk, g1, g2, w1, d, hA, hB, hC]
        | true =>
          cases bc with
          | false => unfold c8b0; simp [evCode, evOps, evOne, evOp, evPur, evEff, evPur.chunks, fillP, AOp.isEff, AO.ev, putP, PV.cells, PV.leaf, getB, getM, mapE, keyC, mapRows, mfind, eq1, eqL, scal, binP, unP, minP, maxP, foldP, PV.lt, PV.lt.ltL, endP, expoAll, expo, expo.expoL, frIds, frIds.frIdsL, nodupN, kill, cls, clsFuel, resO, RV.get, loadP, evC_p, evC_s, endS, endT, rowsOf, callP, thinL, unfr, unfr.unfrL, PV.noMem, PV.noMem.noMemL, optI, mapO, norm, trimT, trimB, forget, hasN, blksLt, List.set, S8, eSp, el, hk', hk, g1, g2, w1, d, hA, hB, hC]
          | true =>
            have hw := hsum rfl rfl rfl
            unfold c8b0; simp [evCode, evOps, evOne, evOp, evPur, evEff, evPur.chunks, fillP, AOp.isEff, AO.ev, putP, PV.cells, PV.leaf, getB, getM, mapE, keyC, mapRows, mfind, eq1, eqL, scal, binP, unP, minP, maxP, foldP, PV.lt, PV.lt.ltL, endP, expoAll, expo, expo.expoL, frIds, frIds.frIdsL, nodupN, kill, cls, clsFuel, resO, RV.get, loadP, evC_p, evC_s, endS, endT, rowsOf, callP, thinL, unfr, unfr.unfrL, PV.noMem, PV.noMem.noMemL, optI, mapO, norm, trimT, trimB, forget, hasN, blksLt, List.set, S8, eSp, el, hk', hk, g1, g2, w1, d, hA, hB, hC, hw]
    · cases ba with
      | false => unfold c8b0; simp [evCode, evOps, evOne, evOp, evPur, evEff, evPur.chunks, fillP, AOp.isEff, AO.ev, putP, PV.cells, PV.leaf, getB, getM, mapE, keyC, mapRows, mfind, eq1, eqL, scal, binP, unP, minP, maxP, foldP, PV.lt, PV.lt.ltL, endP, expoAll, expo, expo.expoL, frIds, frIds.frIdsL, nodupN, kill, cls, clsFuel, resO, RV.get, loadP, evC_p, evC_s, endS, endT, rowsOf, callP, thinL, unfr, unfr.unfrL, PV.noMem, PV.noMem.noMemL, optI, mapO, norm, trimT, trimB, forget, hasN, blksLt, List.set, S8, eSp, el, hk', hk, g1, g2, w1, d1, d2, hA, hB, hC]
      | true =>
        cases bb with
        | false => unfold c8b0; simp [evCode, evOps, evOne, evOp, evPur, evEff, evPur.chunks, fillP, AOp.isEff, AO.ev, putP, PV.cells, PV.leaf, getB, getM, mapE, keyC, mapRows, mfind, eq1, eqL, scal, binP, unP, minP, maxP, foldP, PV.lt, PV.lt.ltL, endP, expoAll, expo, expo.expoL, frIds, frIds.frIdsL, nodupN, kill, cls, clsFuel, resO, RV.get, loadP, evC_p, evC_s, endS, endT, rowsOf, callP, thinL, unfr, unfr.unfrL, PV.noMem, PV.noMem.noMemL, optI, mapO, norm, trimT, trimB, forget, hasN, blksLt, List.set, S8, eSp, el, hk', hk, g1, g2, w1, d1, d2, hA, hB, hC]
        | true =>
          cases bc with
          | false => unfold c8b0; simp [evCode, evOps, evOne, evOp, evPur, evEff, evPur.chunks, fillP, AOp.isEff, AO.ev, putP, PV.cells, PV.leaf, getB, getM, mapE, keyC, mapRows, mfind, eq1, eqL, scal, binP, unP, minP, maxP, foldP, PV.lt, PV.lt.ltL, endP, expoAll, expo, expo.expoL, frIds, frIds.frIdsL, nodupN, kill, cls, clsFuel, resO, RV.get, loadP, evC_p, evC_s, endS, endT, rowsOf, callP, thinL, unfr, unfr.unfrL, PV.noMem, PV.noMem.noMemL, optI, mapO, norm, trimT, trimB, forget, hasN, blksLt, List.set, S8, eSp, el, hk', hk, g1, g2, w1, d1, d2, hA, hB, hC]
          | true =>
            have hw := hsum rfl rfl rfl
            unfold c8b0; simp [evCode, evOps, evOne, evOp, evPur, evEff, evPur.chunks, fillP, AOp.isEff, AO.ev, putP, PV.cells, PV.leaf, getB, getM, mapE, keyC, mapRows, mfind, eq1, eqL, scal, binP, unP, minP, maxP, foldP, PV.lt, PV.lt.ltL, endP, expoAll, expo, expo.expoL, frIds, frIds.frIdsL, nodupN, kill, cls, clsFuel, resO, RV.get, loadP, evC_p, evC_s, endS, endT, rowsOf, callP, thinL, unfr, unfr.unfrL, PV.noMem, PV.noMem.noMemL, optI, mapO, norm, trimT, trimB, forget, hasN, blksLt, List.set, S8, eSp, el, hk', hk, g1, g2, w1, d1, d2, hA, hB, hC, hw]
set_option maxRecDepth 100000 in
theorem f8 (l : List Stp) (F T m : Int) (hm : is64 m) : evE Dg 8 [eSp false l, .agg [.int .i64 F, .int .i64 T], .int .i64 m] = some (.bool true) := by
  have el : (l.map row).length = l.length := by simp
  have aw := f10
  by_cases c : 60 < l.length
  · have c' : (60 : Int) < l.length := by omega
    refine evE_intro 3 D8 rfl ?_
    unfold c8
    simp [evCode, evOps, evOne, evOp, evPur, evEff, evPur.chunks, fillP, AOp.isEff, AO.ev, putP, PV.cells, PV.leaf, getB, getM, mapE, keyC, mapRows, mfind, eq1, eqL, scal, binP, unP, minP, maxP, foldP, PV.lt, PV.lt.ltL, endP, expoAll, expo, expo.expoL, frIds, frIds.frIdsL, nodupN, kill, cls, clsFuel, resO, RV.get, loadP, evC_p, evC_s, endS, endT, rowsOf, callP, thinL, unfr, unfr.unfrL, PV.noMem, PV.noMem.noMemL, optI, mapO, norm, trimT, trimB, forget, hasN, blksLt, List.set, eSp, el, c, c', aw]
  · have c' : ¬ (60 : Int) < l.length := by omega
    have h16 := f16 false l (by omega)
    by_cases ce : chkC l = 0
    · rw [ce] at h16
      have H := loop_foldE (body := evCode (evC Dg) 70 c8b0) (keep := [0, 2, 4, 7]) (n0 := 1) (fuel := 70) l (fun k (_ : Unit) => S8 l F T m k) (fun _ _ => ()) (fun _ _ => True)
        (fun k a _ ha hk _ => ⟨trivial, b8 l (by omega) ce F T m hm 70 k a ha hk⟩)
        (by
          intro _ _ s
          unfold c8b0
          simp [evCode, evOps, evOne, evOp, evPur, evEff, evPur.chunks, fillP, AOp.isEff, AO.ev, putP, PV.cells, PV.leaf, getB, getM, mapE, keyC, mapRows, mfind, eq1, eqL, scal, binP, unP, minP, maxP, foldP, PV.lt, PV.lt.ltL, endP, expoAll, expo, expo.expoL, frIds, frIds.frIdsL, nodupN, kill, cls, clsFuel, resO, RV.get, loadP, evC_p, evC_s, endS, endT, rowsOf, callP, thinL, unfr, unfr.unfrL, PV.noMem, PV.noMem.noMemL, optI, mapO, norm, trimT, trimB, forget, hasN, blksLt, List.set, S8, eSp, el])
        (by omega) () trivial
      simp only [eSp] at h16
      refine evE_intro 70 D8 rfl ?_
      unfold c8
      simp [evCode, evOps, evOne, evOp, evPur, evEff, evPur.chunks, fillP, AOp.isEff, AO.ev, putP, PV.cells, PV.leaf, getB, getM, mapE, keyC, mapRows, mfind, eq1, eqL, scal, binP, unP, minP, maxP, foldP, PV.lt, PV.lt.ltL, endP, expoAll, expo, expo.expoL, frIds, frIds.frIdsL, nodupN, kill, cls, clsFuel, resO, RV.get, loadP, evC_p, evC_s, endS, endT, rowsOf, callP, thinL, unfr, unfr.unfrL, PV.noMem, PV.noMem.noMemL, optI, mapO, norm, trimT, trimB, forget, hasN, blksLt, List.set, eSp, el, c, c', h16]
      generalize hE : evLoop _ _ _ _ _ = E
      obtain ⟨h, _⟩ := H _ _ hE (by simp [evCode, evOps, evOne, evOp, evPur, evEff, evPur.chunks, fillP, AOp.isEff, AO.ev, putP, PV.cells, PV.leaf, getB, getM, mapE, keyC, mapRows, mfind, eq1, eqL, scal, binP, unP, minP, maxP, foldP, PV.lt, PV.lt.ltL, endP, expoAll, expo, expo.expoL, frIds, frIds.frIdsL, nodupN, kill, cls, clsFuel, resO, RV.get, loadP, evC_p, evC_s, endS, endT, rowsOf, callP, thinL, unfr, unfr.unfrL, PV.noMem, PV.noMem.noMemL, optI, mapO, norm, trimT, trimB, forget, hasN, blksLt, List.set, S8, eSp])
      rw [h]
      unfold c8b0 c8r0
      simp [evCode, evOps, evOne, evOp, evPur, evEff, evPur.chunks, fillP, AOp.isEff, AO.ev, putP, PV.cells, PV.leaf, getB, getM, mapE, keyC, mapRows, mfind, eq1, eqL, scal, binP, unP, minP, maxP, foldP, PV.lt, PV.lt.ltL, endP, expoAll, expo, expo.expoL, frIds, frIds.frIdsL, nodupN, kill, cls, clsFuel, resO, RV.get, loadP, evC_p, evC_s, endS, endT, rowsOf, callP, thinL, unfr, unfr.unfrL, PV.noMem, PV.noMem.noMemL, optI, mapO, norm, trimT, trimB, forget, hasN, blksLt, List.set, S8, eSp, el, aw]
    · generalize chkC l = e at *
      simp only [eSp] at h16
      refine evE_intro 3 D8 rfl ?_
      unfold c8
      simp [evCode, evOps, evOne, evOp, evPur, evEff, evPur.chunks, fillP, AOp.isEff, AO.ev, putP, PV.cells, PV.leaf, getB, getM, mapE, keyC, mapRows, mfind, eq1, eqL, scal, binP, unP, minP, maxP, foldP, PV.lt, PV.lt.ltL, endP, expoAll, expo, expo.expoL, frIds, frIds.frIdsL, nodupN, kill, cls, clsFuel, resO, RV.get, loadP, evC_p, evC_s, endS, endT, rowsOf, callP, thinL, unfr, unfr.unfrL, PV.noMem, PV.noMem.noMemL, optI, mapO, norm, trimT, trimB, forget, hasN, blksLt, List.set, eSp, el, c, c', h16, ce, aw]
theorem in_span {d : Nat} {p : PV} (h : ArgT Try.prog (d + 2) 50 p) : ∃ F T, p = .agg [.int .i64 F, .int .i64 T] := by
  obtain ⟨ps, rfl, g⟩ := argT_struct Try.underlying50 h
  clear h
  obtain ⟨q0, r0, rfl, h0, h⟩ := htf_cons (ht_struct Try.underlying50 g)
  obtain ⟨q1, r1, rfl, h1, h⟩ := htf_cons h
  obtain rfl := htf_nil h
  obtain ⟨i0, rfl, _⟩ := ht_int Try.underlying3 h0
  obtain ⟨i1, rfl, _⟩ := ht_int Try.underlying3 h1
  exact ⟨i0, i1, rfl⟩
theorem law7 (ps : List PV) (h : ArgL Try.prog 12 [25, 9, 50] ps) : evE Dg 7 ps = some (.bool true) := by
  obtain ⟨p, q, r, rfl, h1, h2, h3⟩ := argL3 h
  obtain ⟨l, rfl, _⟩ := in_steps h1
  obtain ⟨s, rfl, _⟩ := argT_string Try.underlying9 h2
  obtain ⟨F, T, rfl⟩ := in_span h3
  exact f7 l s F T
theorem law8 (ps : List PV) (h : ArgL Try.prog 12 [25, 50, 3] ps) : evE Dg 8 ps = some (.bool true) := by
  obtain ⟨p, q, r, rfl, h1, h2, h3⟩ := argL3 h
  obtain ⟨l, rfl, _⟩ := in_steps h1
  obtain ⟨F, T, rfl⟩ := in_span h2
  obtain ⟨i, rfl, w⟩ := argT_int Try.underlying3 h3
  exact f8 l F T i (wfi64 w)
end Go.Proofs.Ytecmcggnpgjbiaa
