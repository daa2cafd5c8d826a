/- slices.IndexFunc, DeleteFunc, with the blocks that have no length. -/
import Derived.Test.YtalmhggbdfjalaaMmA
namespace Go.Proofs.Ytalmhggbdfjalaa
open Go Go.RowKit
set_option linter.unusedVariables false
set_option linter.unusedSimpArgs false
set_option maxHeartbeats 4000000

def keyE : List PV → Int
  | [_, _, _, _, .int _ n, _, _] => n
  | _ => 0
def del (r : Rw) : Bool := decide (keyE r ≤ keyR r)
theorem f31d {r : Rw} (hr : OkR r) : evE Dg 31 [.agg r] = some (.bool (del r)) := by
  obtain ⟨i, t, z, f, e, p, lv, rfl, h1, h2⟩ := hr
  refine evE_intro 1 D31 rfl ?_
  unfold c31 del keyE keyR
  simp [evCode, evOps, evOne, evOp, evPur, evEff, evPur.chunks, fillP, AOp.isEff, AO.ev, putP, PV.cells, PV.leaf, getB, getM, mapE, iterE, keyC, mapRows, mfind, eq1, eqL, scal, binP, unP, minP, maxP, foldP, PV.lt, PV.lt.ltL, endP, expoAll, expoG, expo, expo.expoL, frIds, frIds.frIdsL, nodupN, kill, cls, clsFuel, resO, RV.get, loadP, evC_p, evC_s, endS, endT, rowsOf, callP, thinL, unfr, unfr.unfrL, PV.noMem, PV.noMem.noMemL, optI, mapO, norm, trimT, trimB, forget, hasN, blksLt, List.set, softChk, softGo, softRd, effTg, rdP, h1, h2, ↓h1, ↓h2]
  try rfl
theorem gE' {D : List Rw} {i : Nat} {r : Rw} (h : D[i]? = some r) : ∀ g, D[i]'g = r := fun g => by
  rw [List.getElem?_eq_getElem g] at h
  exact Option.some.inj h
def OkLR (D : List Rw) : Prop := ∀ r ∈ D, OkR r
/-- the first that is deleted -/
def fstZ (l : List Rw) : Int := match l.findIdx? del with
  | some k => (k : Nat)
  | none => -1
def S44 (l : List Rw) (k : Nat) : St := ⟨[.sl false 7 l, .fn 31 [], .top, .top, .top, .top, .top, .int .i64 l.length, .int .i64 k] ++ List.replicate 10 .top, []⟩
def X44 (l : List Rw) : St := ⟨[.sl false 7 l, .fn 31 [], .top, .top, .top, .top, .top, .int .i64 l.length, .int .i64 l.length, .bool false] ++ List.replicate 9 .top, []⟩
def R44 (l : List Rw) (o : Out) : Prop := (∃ s, o = .ret s ∧ s.sl[4]?.getD .top = .int .i64 (fstZ l)) ∨ (fstZ l = -1 ∧ o = .exit 0 (X44 l))
theorem fstZ_some {l : List Rw} {k : Nat} {r : Rw} (h1 : ∀ j q, j < k → l[j]? = some q → del q = false) (hr : l[k]? = some r) (h2 : del r = true) : fstZ l = k := by
  have : l.findIdx? del = some k := by
    rw [List.findIdx?_eq_some_iff_getElem]
    obtain ⟨h3, rfl⟩ := List.getElem?_eq_some_iff.1 hr
    refine ⟨h3, h2, fun j hj => ?_⟩
    have := h1 j _ hj (List.getElem?_eq_getElem (by omega))
    simp [this]
  unfold fstZ; rw [this]
theorem fstZ_none {l : List Rw} (h : ∀ r ∈ l, del r = false) : fstZ l = -1 := by
  have : l.findIdx? del = none := List.findIdx?_eq_none_iff.2 h
  unfold fstZ; rw [this]
set_option maxRecDepth 100000 in
theorem f44 (l : List Rw) (hO : OkLR l) (hl : l.length ≤ 1000000) : evE Dg 44 [.sl false 7 l, .fn 31 []] = some (.int .i64 (fstZ l)) := by
  refine evE_intro (l.length + 2) D44 rfl ?_
  unfold c44
  simp [evCode, evOps, evOne, evOp, evPur, evEff, evPur.chunks, fillP, AOp.isEff, AO.ev, putP, PV.cells, PV.leaf, getB, getM, mapE, iterE, keyC, mapRows, mfind, eq1, eqL, scal, binP, unP, minP, maxP, foldP, PV.lt, PV.lt.ltL, endP, expoAll, expoG, expo, expo.expoL, frIds, frIds.frIdsL, nodupN, kill, cls, clsFuel, resO, RV.get, loadP, evC_p, evC_s, endS, endT, rowsOf, callP, thinL, unfr, unfr.unfrL, PV.noMem, PV.noMem.noMemL, optI, mapO, norm, trimT, trimB, forget, hasN, blksLt, List.set, softChk, softGo, softRd, effTg, rdP]
  generalize hE : evLoop (evCode (evC Dg) (l.length + 2) c44b0) [0, 1, 7, 8] 0 (l.length + 2) _ = E
  obtain ⟨o, rfl, hR⟩ := loop_while (body := evCode (evC Dg) (l.length + 2) c44b0) (keep := [0, 1, 7, 8]) (n0 := 0) (fuel := l.length + 2) (S44 l) (fun k => l.length - k) (fun k => k ≤ l.length ∧ ∀ j r, j < k → l[j]? = some r → del r = false) (R44 l) (by
    rintro k ⟨hk, hI⟩
    rcases Nat.lt_or_ge k l.length with hk1 | hk1
    · obtain ⟨r, hr⟩ : ∃ r, l[k]? = some r := ⟨_, List.getElem?_eq_getElem hk1⟩
      have hr' := gE' hr
      have ok := hO r (List.mem_of_getElem? hr)
      have h31 := f31d ok
      have w1 := wrap_i64 ((k : Int) + 1) (by omega) (by omega)
      have hk2 : (k : Int) < l.length := by omega
      cases hd : del r with
      | true =>
        have hz := fstZ_some hI hr hd
        rw [hd] at h31
        right
        suffices h : ∃ s, evCode (evC Dg) (l.length + 2) c44b0 (S44 l k) = some (.ret s) ∧ s.sl[4]?.getD .top = .int .i64 (fstZ l) by
          obtain ⟨s, h1, h2⟩ := h
          exact ⟨_, h1, fun s h => (by cases h), Or.inl ⟨s, rfl, h2⟩⟩
        rw [hz]
        obtain ⟨i, t, z, f, e, p, lv, rfl, m1, m2⟩ := ok
        unfold c44b0
        simp [evCode, evOps, evOne, evOp, evPur, evEff, evPur.chunks, fillP, AOp.isEff, AO.ev, putP, PV.cells, PV.leaf, getB, getM, mapE, iterE, keyC, mapRows, mfind, eq1, eqL, scal, binP, unP, minP, maxP, foldP, PV.lt, PV.lt.ltL, endP, expoAll, expoG, expo, expo.expoL, frIds, frIds.frIdsL, nodupN, kill, cls, clsFuel, resO, RV.get, loadP, evC_p, evC_s, endS, endT, rowsOf, callP, thinL, unfr, unfr.unfrL, PV.noMem, PV.noMem.noMemL, optI, mapO, norm, trimT, trimB, forget, hasN, blksLt, List.set, softChk, softGo, softRd, effTg, rdP, S44, hk1, hk2, hr, hr', h31, ↓m1, ↓m2]
      | false =>
        rw [hd] at h31
        left
        suffices h : ∃ s, evCode (evC Dg) (l.length + 2) c44b0 (S44 l k) = some (.normal s) ∧ norm [0, 1, 7, 8] 0 s = S44 l (k + 1) by
          obtain ⟨s, h1, h2⟩ := h
          refine ⟨k + 1, s, h1, h2, ⟨by omega, fun j q hj hq => ?_⟩, by omega⟩
          rcases Nat.lt_or_ge j k with h3 | h3
          · exact hI j q h3 hq
          · obtain rfl : j = k := by omega
            rw [hr] at hq; cases hq; exact hd
        obtain ⟨i, t, z, f, e, p, lv, rfl, m1, m2⟩ := ok
        unfold c44b0
        simp [evCode, evOps, evOne, evOp, evPur, evEff, evPur.chunks, fillP, AOp.isEff, AO.ev, putP, PV.cells, PV.leaf, getB, getM, mapE, iterE, keyC, mapRows, mfind, eq1, eqL, scal, binP, unP, minP, maxP, foldP, PV.lt, PV.lt.ltL, endP, expoAll, expoG, expo, expo.expoL, frIds, frIds.frIdsL, nodupN, kill, cls, clsFuel, resO, RV.get, loadP, evC_p, evC_s, endS, endT, rowsOf, callP, thinL, unfr, unfr.unfrL, PV.noMem, PV.noMem.noMemL, optI, mapO, norm, trimT, trimB, forget, hasN, blksLt, List.set, softChk, softGo, softRd, effTg, rdP, S44, hk1, hk2, hr, hr', h31, w1, ↓m1, ↓m2]
    · obtain rfl : k = l.length := by omega
      right
      refine ⟨.exit 0 (X44 l), ?_, fun s h => (by cases h), Or.inr ⟨fstZ_none fun r hr => ?_, rfl⟩⟩
      · unfold c44b0 X44
        simp [evCode, evOps, evOne, evOp, evPur, evEff, evPur.chunks, fillP, AOp.isEff, AO.ev, putP, PV.cells, PV.leaf, getB, getM, mapE, iterE, keyC, mapRows, mfind, eq1, eqL, scal, binP, unP, minP, maxP, foldP, PV.lt, PV.lt.ltL, endP, expoAll, expoG, expo, expo.expoL, frIds, frIds.frIdsL, nodupN, kill, cls, clsFuel, resO, RV.get, loadP, evC_p, evC_s, endS, endT, rowsOf, callP, thinL, unfr, unfr.unfrL, PV.noMem, PV.noMem.noMemL, optI, mapO, norm, trimT, trimB, forget, hasN, blksLt, List.set, softChk, softGo, softRd, effTg, rdP, S44]
      · obtain ⟨i, hi⟩ := List.mem_iff_getElem?.1 hr
        exact hI i r (List.getElem?_eq_some_iff.1 hi).1 hi) 0 ⟨Nat.zero_le _, fun j r h => by omega⟩ (by omega) _ E hE (by simp [evCode, evOps, evOne, evOp, evPur, evEff, evPur.chunks, fillP, AOp.isEff, AO.ev, putP, PV.cells, PV.leaf, getB, getM, mapE, iterE, keyC, mapRows, mfind, eq1, eqL, scal, binP, unP, minP, maxP, foldP, PV.lt, PV.lt.ltL, endP, expoAll, expoG, expo, expo.expoL, frIds, frIds.frIdsL, nodupN, kill, cls, clsFuel, resO, RV.get, loadP, evC_p, evC_s, endS, endT, rowsOf, callP, thinL, unfr, unfr.unfrL, PV.noMem, PV.noMem.noMemL, optI, mapO, norm, trimT, trimB, forget, hasN, blksLt, List.set, softChk, softGo, softRd, effTg, rdP, S44])
  rcases hR with ⟨s, rfl, h4⟩ | ⟨h1, rfl⟩
  · obtain ⟨sl, bl⟩ := s
    simp only at h4
    simp [evCode, evOps, evOne, evOp, evPur, evEff, evPur.chunks, fillP, AOp.isEff, AO.ev, putP, PV.cells, PV.leaf, getB, getM, mapE, iterE, keyC, mapRows, mfind, eq1, eqL, scal, binP, unP, minP, maxP, foldP, PV.lt, PV.lt.ltL, endP, expoAll, expoG, expo, expo.expoL, frIds, frIds.frIdsL, nodupN, kill, cls, clsFuel, resO, RV.get, loadP, evC_p, evC_s, endS, endT, rowsOf, callP, thinL, unfr, unfr.unfrL, PV.noMem, PV.noMem.noMemL, optI, mapO, norm, trimT, trimB, forget, hasN, blksLt, List.set, softChk, softGo, softRd, effTg, rdP, h4]
  · rw [h1]
    unfold X44
    simp [evCode, evOps, evOne, evOp, evPur, evEff, evPur.chunks, fillP, AOp.isEff, AO.ev, putP, PV.cells, PV.leaf, getB, getM, mapE, iterE, keyC, mapRows, mfind, eq1, eqL, scal, binP, unP, minP, maxP, foldP, PV.lt, PV.lt.ltL, endP, expoAll, expoG, expo, expo.expoL, frIds, frIds.frIdsL, nodupN, kill, cls, clsFuel, resO, RV.get, loadP, evC_p, evC_s, endS, endT, rowsOf, callP, thinL, unfr, unfr.unfrL, PV.noMem, PV.noMem.noMemL, optI, mapO, norm, trimT, trimB, forget, hasN, blksLt, List.set, softChk, softGo, softRd, effTg, rdP]
/-- what is kept -/
def kept (l : List Rw) : List Rw := l.filter fun r => !(del r)
def zRow : Rw := [.int .i64 0, .int .i64 0, .int .i64 0, .int .i64 0, .int .i64 0, .nilS, .bool false]
theorem zRow_ok : OkR zRow := ⟨0, 0, 0, 0, 0, .nilS, false, rfl, rfl, rfl⟩
theorem kept_len (l : List Rw) : (kept l).length ≤ l.length := List.length_filter_le _ _
theorem kept_snoc (l : List Rw) (r : Rw) : kept (l ++ [r]) = kept l ++ (if del r = true then [] else [r]) := by
  unfold kept
  rw [List.filter_append]
  congr 1
  cases h : del r <;> simp [h]
def B30 (v : Nat) (M : List Rw) (D : List Rw) : Blks := [some ⟨0, 7, true, []⟩, some ⟨v, 7, true, D⟩, some ⟨0, mapE, true, M⟩]
def B31 (v : Nat) (M : List Rw) (D : List Rw) : Blks := [some ⟨0, 7, true, []⟩, some ⟨v, 7, true, D⟩, some ⟨0, mapE, true, M⟩, some ⟨0, 7, true, []⟩]
def S30 (v n : Nat) (M : List Rw) (i j : Nat) (D : List Rw) : St := ⟨[.own 1 v 0 n, .fn 31 [], .top, .top, .top, .int .i64 i, .int .i64 j] ++ List.replicate 35 .top, B31 v M D⟩
def X30 (v n : Nat) (M : List Rw) (i : Nat) (D : List Rw) : St := ⟨[.own 1 v 0 n, .fn 31 [], .top, .top, .top, .int .i64 i, .int .i64 n] ++ List.replicate 9 .top ++ [.int .i64 n, .own 1 v 0 n, .int .i64 n, .bool false] ++ List.replicate 22 .top, B31 v M D⟩
set_option maxRecDepth 100000 in
theorem step30 (v n : Nat) (M : List Rw) (i j : Nat) (D : List Rw) (f : Nat) (hn : n ≤ 1000000) (hl : D.length = n) (hj : j < n) (hi : i < n) (r : Rw) (hr : D[j]? = some r) (ok : OkR r) (hO : OkLR D) :
    ∃ s, evCode (evC Dg) f c30b0 (S30 v n M i j D) = some (.normal s) ∧ norm [0, 1, 5, 6] 4 s = S30 v n M (if del r = true then i else i + 1) (j + 1) (if del r = true then D else D.set i r) := by
  have hr' := gE' hr
  have h31 := f31d ok
  have w1 : IntKind.i64.wrap ((j : Int) + 1) = ((j + 1 : Nat) : Int) := by rw [wrap_i64 _ (by omega) (by omega)]; omega
  have w2 : IntKind.i64.wrap ((i : Int) + 1) = ((i + 1 : Nat) : Int) := by rw [wrap_i64 _ (by omega) (by omega)]; omega
  have c1 : (j : Int) < n := by omega
  have c2 : (i : Int) < n := by omega
  have n0 : n ≤ D.length := by omega
  have hj2 : j < D.length := by omega
  have hi2 : i < D.length := by omega
  obtain ⟨q, hq⟩ : ∃ q, D[i]? = some q := ⟨_, List.getElem?_eq_getElem hi2⟩
  have hq' := gE' hq
  obtain ⟨ii', t', z', ff', e', p', lv', rfl, m1', m2'⟩ := hO q (List.mem_of_getElem? hq)
  obtain ⟨ii, t, z, ff, e, p, lv, rfl, m1, m2⟩ := ok
  generalize j + 1 = j1 at *
  generalize i + 1 = i1 at *
  unfold c30b0
  cases hd : del [PV.int IntKind.i64 ii, .int .i64 t, .int .i64 z, .int .i64 ff, .int .i64 e, p, .bool lv] with
  | true =>
    rw [hd] at h31
    rw [if_pos rfl, if_pos rfl]
    simp [evCode, evOps, evOne, evOp, evPur, evEff, evPur.chunks, fillP, AOp.isEff, AO.ev, putP, PV.cells, PV.leaf, getB, getM, mapE, iterE, keyC, mapRows, mfind, eq1, eqL, scal, binP, unP, minP, maxP, foldP, PV.lt, PV.lt.ltL, endP, expoAll, expoG, expo, expo.expoL, frIds, frIds.frIdsL, nodupN, kill, cls, clsFuel, resO, RV.get, loadP, evC_p, evC_s, endS, endT, rowsOf, callP, thinL, unfr, unfr.unfrL, PV.noMem, PV.noMem.noMemL, optI, mapO, norm, trimT, trimB, forget, hasN, blksLt, List.set, softChk, softGo, softRd, effTg, rdP, S30, B31, c1, c2, hj, hi, hj2, hi2, hl, hr, hr', hq, hq', h31, w1, w2, n0, ↓m1, ↓m2]
  | false =>
    rw [hd] at h31
    rw [if_neg Bool.false_ne_true, if_neg Bool.false_ne_true]
    simp [evCode, evOps, evOne, evOp, evPur, evEff, evPur.chunks, fillP, AOp.isEff, AO.ev, putP, PV.cells, PV.leaf, getB, getM, mapE, iterE, keyC, mapRows, mfind, eq1, eqL, scal, binP, unP, minP, maxP, foldP, PV.lt, PV.lt.ltL, endP, expoAll, expoG, expo, expo.expoL, frIds, frIds.frIdsL, nodupN, kill, cls, clsFuel, resO, RV.get, loadP, evC_p, evC_s, endS, endT, rowsOf, callP, thinL, unfr, unfr.unfrL, PV.noMem, PV.noMem.noMemL, optI, mapO, norm, trimT, trimB, forget, hasN, blksLt, List.set, softChk, softGo, softRd, effTg, rdP, S30, B31, c1, c2, hj, hi, hj2, hi2, hl, hr, hr', hq, hq', h31, w1, w2, n0, ↓m1, ↓m2]
end Go.Proofs.Ytalmhggbdfjalaa
