/- FracOrders. -/
import Derived.Test.YtddglikicokpeaaDoorFrW
import Derived.Test.YtddglikicokpeaaDoorFrWa
import Derived.Test.YtddglikicokpeaaDoorFrWb
import Derived.Test.YtddglikicokpeaaDoorFrWc
import Derived.Test.YtddglikicokpeaaDoorFrWd
namespace Go.Proofs.YtddglikicokpeaaDoor
open Go Go.RowKit
set_option linter.unusedVariables false
set_option linter.unusedSimpArgs false
set_option maxHeartbeats 8000000

set_option maxRecDepth 100000 in
theorem f7 (a b c : Fr) (ha : i64F a) (hb : i64F b) (hc : i64F c) : evE Dg 7 [eF a, eF b, eF c] = some (.bool true) := by
  have h14 := f14
  have qa := f24 a a ha ha
  rw [cmp_self] at qa
  have qab := f24 a b ha hb
  have qba := f24 b a hb ha
  rw [cmp_anti a b] at qba
  have qbc := f24 b c hb hc
  have qac := f24 a c ha hc
  have va := f13 a ha
  have vb := f13 b hb
  have qs := f20 a b ha hb
  have qg := f26 (subS a b).1.1
  have t1 := (cmp_rat a b).2.2.2
  have t2 := @cmp_trans a b c
  have t3 := @cmp_eq a b
  have t4 := @cmp_sub a b
  generalize cmpS a b = x at *
  generalize cmpS b c = y at *
  generalize cmpS a c = z at *
  generalize subS a b = d at *
  obtain ⟨⟨d1, d2⟩, dk⟩ := d
  simp only at t4 qg
  obtain ⟨an, ad⟩ := a
  obtain ⟨bn, bd⟩ := b
  obtain ⟨cn, cd⟩ := c
  have w1 : IntKind.i64.wrap (- -x) = x := by rw [Int.neg_neg]; exact wrap_i64 _ (by omega) (by omega)
  have w2 : IntKind.i64.wrap (0 - -x) = x := by rw [show 0 - -x = x by omega]; exact wrap_i64 _ (by omega) (by omega)
  -- the last part
  have ht : x ≤ 0 → y ≤ 0 → ¬ 0 < z := t2
  have hv : decide (validF (an, ad)) = true → decide (validF (bn, bd)) = true → (x = 0 ↔ an = bn ∧ ad = bd) := fun h1 h2 => by
    rw [t3 (of_decide_eq_true h1) (of_decide_eq_true h2), Prod.mk.injEq]
  clear t2 t3 ha hb hc
  generalize decide (validF (an, ad)) = v1 at *
  generalize decide (validF (bn, bd)) = v2 at *
  have hd : dk = true → x = sgI d1 := t4
  clear t4
  generalize sgI d1 = g at *
  simp only [eF, eR] at *
  have w0 : IntKind.i64.wrap x = x := wrap_i64 _ (by omega) (by omega)
  have w00 : IntKind.i64.wrap 0 = 0 := wrap_i64 _ (by omega) (by omega)
  have P1 : (x ≤ 0 ∧ y ≤ 0 ∧ ¬ 0 < z) ∨ (x ≤ 0 ∧ ¬ y ≤ 0) ∨ ¬ x ≤ 0 := by
    by_cases hx : x ≤ 0
    · by_cases hy : y ≤ 0
      · exact .inl ⟨hx, hy, ht hx hy⟩
      · exact .inr (.inl ⟨hx, hy⟩)
    · exact .inr (.inr hx)
  have P2 : v1 = false ∨ (v1 = true ∧ v2 = false) ∨ (v1 = true ∧ v2 = true ∧ x = 0 ∧ an = bn ∧ ad = bd) ∨ (v1 = true ∧ v2 = true ∧ ¬ x = 0 ∧ ¬ an = bn) ∨ (v1 = true ∧ v2 = true ∧ ¬ x = 0 ∧ an = bn ∧ ¬ ad = bd) := by
    cases v1
    · exact .inl rfl
    · cases v2
      · exact .inr (.inl ⟨rfl, rfl⟩)
      · have h := hv rfl rfl
        by_cases h0 : x = 0
        · obtain ⟨e1, e2⟩ := h.1 h0
          exact .inr (.inr (.inl ⟨rfl, rfl, h0, e1, e2⟩))
        · by_cases h1 : an = bn
          · exact .inr (.inr (.inr (.inr ⟨rfl, rfl, h0, h1, fun h2 => h0 (h.2 ⟨h1, h2⟩)⟩)))
          · exact .inr (.inr (.inr (.inl ⟨rfl, rfl, h0, h1⟩)))
  have P3 : dk = false ∨ (dk = true ∧ g = x) := by
    cases dk
    · exact .inl rfl
    · exact .inr ⟨rfl, (hd rfl).symm⟩
  clear ht hv hd t1
  rcases P2 with rfl | ⟨rfl, rfl⟩ | ⟨rfl, rfl, rfl, rfl, rfl⟩ | ⟨rfl, rfl, b3, b4⟩ | ⟨rfl, rfl, b3, rfl, b5⟩
  · rcases P3 with rfl | ⟨rfl, rfl⟩
    · rcases P1 with ⟨a1, a2, a3⟩ | ⟨a1, a2⟩ | a1
      · exact f7_000 _ _ _ _ _ _ _ _ _ _ _ _ _ h14 qa qab qba qbc qac va vb qs qg w0 w1 w2 a1 a2 a3
      · exact f7_001 _ _ _ _ _ _ _ _ _ _ _ _ _ h14 qa qab qba qbc qac va vb qs qg w0 w1 w2 a1 a2
      · exact f7_002 _ _ _ _ _ _ _ _ _ _ _ _ _ h14 qa qab qba qbc qac va vb qs qg w0 w1 w2 a1
    · rcases P1 with ⟨a1, a2, a3⟩ | ⟨a1, a2⟩ | a1
      · exact f7_010 _ _ _ _ _ _ _ _ _ _ _ _ h14 qa qab qba qbc qac va vb qs qg w0 w1 w2 a1 a2 a3
      · exact f7_011 _ _ _ _ _ _ _ _ _ _ _ _ h14 qa qab qba qbc qac va vb qs qg w0 w1 w2 a1 a2
      · exact f7_012 _ _ _ _ _ _ _ _ _ _ _ _ h14 qa qab qba qbc qac va vb qs qg w0 w1 w2 a1
  · rcases P3 with rfl | ⟨rfl, rfl⟩
    · rcases P1 with ⟨a1, a2, a3⟩ | ⟨a1, a2⟩ | a1
      · exact f7_100 _ _ _ _ _ _ _ _ _ _ _ _ h14 qa qab qba qbc qac va vb qs qg w0 w1 w2 a1 a2 a3
      · exact f7_101 _ _ _ _ _ _ _ _ _ _ _ _ h14 qa qab qba qbc qac va vb qs qg w0 w1 w2 a1 a2
      · exact f7_102 _ _ _ _ _ _ _ _ _ _ _ _ h14 qa qab qba qbc qac va vb qs qg w0 w1 w2 a1
    · rcases P1 with ⟨a1, a2, a3⟩ | ⟨a1, a2⟩ | a1
      · exact f7_110 _ _ _ _ _ _ _ _ _ _ _ h14 qa qab qba qbc qac va vb qs qg w0 w1 w2 a1 a2 a3
      · exact f7_111 _ _ _ _ _ _ _ _ _ _ _ h14 qa qab qba qbc qac va vb qs qg w0 w1 w2 a1 a2
      · exact f7_112 _ _ _ _ _ _ _ _ _ _ _ h14 qa qab qba qbc qac va vb qs qg w0 w1 w2 a1
  · have w00 : IntKind.i64.wrap 0 = 0 := w00
    rcases P3 with rfl | ⟨rfl, rfl⟩
    · rcases P1 with ⟨a1, a2, a3⟩ | ⟨a1, a2⟩ | a1
      · exact f7_200 _ _ _ _ _ _ _ _ _ h14 qa qbc qac va vb qs qg w00 a2 a3 (by omega)
      · exact f7_201 _ _ _ _ _ _ _ _ _ h14 qa qbc qac va vb qs qg w00 a2 (by omega)
      · omega
    · rcases P1 with ⟨a1, a2, a3⟩ | ⟨a1, a2⟩ | a1
      · exact f7_210 _ _ _ _ _ _ _ _ h14 qa qbc qac va vb qs qg w00 a2 a3 (by omega)
      · exact f7_211 _ _ _ _ _ _ _ _ h14 qa qbc qac va vb qs qg w00 a2 (by omega)
      · omega
  · have c1 : (x == 0) = false := by simpa using b3
    have c2 : (an == bn) = false := by simpa using b4
    rcases P3 with rfl | ⟨rfl, rfl⟩
    · rcases P1 with ⟨a1, a2, a3⟩ | ⟨a1, a2⟩ | a1
      · exact f7_300 _ _ _ _ _ _ _ _ _ _ _ _ h14 qa qab qba qbc qac va vb qs qg w0 w1 w2 a1 a2 a3 b3 b4 c1 c2
      · exact f7_301 _ _ _ _ _ _ _ _ _ _ _ _ h14 qa qab qba qbc qac va vb qs qg w0 w1 w2 a1 a2 b3 b4 c1 c2
      · exact f7_302 _ _ _ _ _ _ _ _ _ _ _ _ h14 qa qab qba qbc qac va vb qs qg w0 w1 w2 a1 b3 b4 c1 c2
    · rcases P1 with ⟨a1, a2, a3⟩ | ⟨a1, a2⟩ | a1
      · exact f7_310 _ _ _ _ _ _ _ _ _ _ _ h14 qa qab qba qbc qac va vb qs qg w0 w1 w2 a1 a2 a3 b3 b4 c1 c2
      · exact f7_311 _ _ _ _ _ _ _ _ _ _ _ h14 qa qab qba qbc qac va vb qs qg w0 w1 w2 a1 a2 b3 b4 c1 c2
      · exact f7_312 _ _ _ _ _ _ _ _ _ _ _ h14 qa qab qba qbc qac va vb qs qg w0 w1 w2 a1 b3 b4 c1 c2
  · have c1 : (x == 0) = false := by simpa using b3
    have c2 : (ad == bd) = false := by simpa using b5
    rcases P3 with rfl | ⟨rfl, rfl⟩
    · rcases P1 with ⟨a1, a2, a3⟩ | ⟨a1, a2⟩ | a1
      · exact f7_400 _ _ _ _ _ _ _ _ _ _ _ h14 qa qab qba qbc qac va vb qs qg w0 w1 w2 a1 a2 a3 b3 b5 c1 c2
      · exact f7_401 _ _ _ _ _ _ _ _ _ _ _ h14 qa qab qba qbc qac va vb qs qg w0 w1 w2 a1 a2 b3 b5 c1 c2
      · exact f7_402 _ _ _ _ _ _ _ _ _ _ _ h14 qa qab qba qbc qac va vb qs qg w0 w1 w2 a1 b3 b5 c1 c2
    · rcases P1 with ⟨a1, a2, a3⟩ | ⟨a1, a2⟩ | a1
      · exact f7_410 _ _ _ _ _ _ _ _ _ _ h14 qa qab qba qbc qac va vb qs qg w0 w1 w2 a1 a2 a3 b3 b5 c1 c2
      · exact f7_411 _ _ _ _ _ _ _ _ _ _ h14 qa qab qba qbc qac va vb qs qg w0 w1 w2 a1 a2 b3 b5 c1 c2
      · exact f7_412 _ _ _ _ _ _ _ _ _ _ h14 qa qab qba qbc qac va vb qs qg w0 w1 w2 a1 b3 b5 c1 c2
theorem law7 (ps : List PV) (h : ArgL Tryd.prog 12 [23, 23, 23] ps) : evE Dg 7 ps = some (.bool true) := by
  obtain ⟨p, q, r, rfl, h1, h2, h3⟩ := argL3 h
  obtain ⟨a, rfl, ha⟩ := in23 h1
  obtain ⟨b, rfl, hb⟩ := in23 h2
  obtain ⟨c, rfl, hc⟩ := in23 h3
  exact f7 a b c ha hb hc
end Go.Proofs.YtddglikicokpeaaDoor
