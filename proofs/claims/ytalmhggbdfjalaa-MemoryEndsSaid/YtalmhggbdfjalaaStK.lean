/- slices.stableCmpFunc, SortStableFunc: upon the caller's own block. -/
import Derived.Test.YtalmhggbdfjalaaStH
import Derived.Test.YtalmhggbdfjalaaStJ
import Derived.Test.YtalmhggbdfjalaaStK0
namespace Go.Proofs.Ytalmhggbdfjalaa
open Go Go.RowKit
set_option linter.unusedVariables false
set_option linter.unusedSimpArgs false
set_option maxHeartbeats 8000000

def S45a (B : List Rw → Blks) (b v n g k : Nat) (Z : List Rw) (x : Nat × Nat × List Rw) : St := ⟨[.own b v 0 n, .int .i64 n, .fn g [], .top, .top, .top, .int .i64 k, .int .i64 x.1, .int .i64 x.2.1] ++ List.replicate 54 .top, B (x.2.2 ++ Z)⟩
def X45a (B : List Rw → Blks) (b v n g k : Nat) (Z : List Rw) (a e : Nat) (D : List Rw) : St := ⟨[.own b v 0 n, .int .i64 n, .fn g [], .top, .top, .top, .int .i64 k, .int .i64 a, .int .i64 e, .top, .top, .int .i64 e, .int .i64 n, .bool false] ++ List.replicate 49 .top, B (D ++ Z)⟩
def X45b (B : List Rw → Blks) (b v n g k : Nat) (Z : List Rw) (a e : Nat) (D : List Rw) : St := ⟨[.own b v 0 n, .int .i64 n, .fn g [], .top, .top, .top, .int .i64 k, .int .i64 a, .int .i64 e] ++ List.replicate 24 .top ++ [.int .i64 e, .int .i64 n, .bool false] ++ List.replicate 27 .top, B (D ++ Z)⟩
theorem OkL.app {Ok : Rw → Prop} {X Z : List Rw} (h : OkL Ok X) (hZ : OkL Ok Z) : OkL Ok (X ++ Z) := fun r hr => by
  rcases List.mem_append.1 hr with h1 | h1
  · exact h r h1
  · exact hZ r h1
section
variable {B : List Rw → Blks} {b v L n g : Nat} {Ok : Rw → Prop} {le : Rw → Rw → Bool}
set_option maxRecDepth 100000 in
theorem loop45a (hB : BB B b v L) (hC : Cmp g Ok le) (hn : n ≤ 1000000) (Z : List Rw) (hZ : OkL Ok Z) (l : List Rw) (hO : OkL Ok l) (hl : l.length = n) (f : Nat) (hf : n < f) (s0 : St) (E : Option Out)
    (hE : evLoop (evCode (evC Dg) f c45b2) [0, 1, 2, 6, 7, 8] L f s0 = E) (h0 : norm [0, 1, 2, 6, 7, 8] L s0 = S45a B b v n g 20 Z (0, 20, l)) :
    ∃ X R, X ++ wS le 20 R = wS le 20 l ∧ R.length < 20 ∧ X.length + R.length = n ∧ OkL Ok (X ++ R) ∧ E = some (.exit 0 (X45a B b v n g 20 Z X.length (X.length + 20) (X ++ R))) := by
  have g0 := hB.len
  have g3 := hB.tk
  have g4 := hB.lt
  have g5 : Nat.blt b L = true := by simpa [Nat.blt_eq] using hB.hb
  obtain ⟨o, ho, X, R, h1, h2, h3, h4, rfl⟩ := loop_while (body := evCode (evC Dg) f c45b2) (keep := [0, 1, 2, 6, 7, 8]) (n0 := L) (fuel := f) (S45a B b v n g 20 Z) (fun x => n - x.1) (fun x => ∃ X R, x = (X.length, X.length + 20, X ++ R) ∧ X ++ wS le 20 R = wS le 20 l ∧ X.length + R.length = n ∧ OkL Ok (X ++ R))
    (fun o => ∃ X R, X ++ wS le 20 R = wS le 20 l ∧ R.length < 20 ∧ X.length + R.length = n ∧ OkL Ok (X ++ R) ∧ o = .exit 0 (X45a B b v n g 20 Z X.length (X.length + 20) (X ++ R))) (by
    rintro _ ⟨X, R, rfl, h1, h3, h4⟩
    by_cases h2 : R.length < 20
    · refine .inr ⟨_, ?_, ?_, X, R, h1, h2, h3, h4, rfl⟩
      · have c1 : ¬ ((X.length + 20 : Nat) : Int) ≤ n := by omega
        generalize X.length + 20 = e at *
        generalize X.length = a at *
        generalize X ++ R = D at *
        unfold c45b2 X45a
        simp [evCode, evOps, evOne, evOp, evPur, evEff, evPur.chunks, fillP, AOp.isEff, AO.ev, putP, PV.cells, PV.leaf, getB, getM, mapE, iterE, keyC, mapRows, mfind, eq1, eqL, scal, binP, unP, minP, maxP, foldP, PV.lt, PV.lt.ltL, endP, expoAll, expoG, expo, expo.expoL, frIds, frIds.frIdsL, nodupN, kill, cls, clsFuel, resO, RV.get, loadP, evC_p, evC_s, endS, endT, rowsOf, callP, thinL, unfr, unfr.unfrL, PV.noMem, PV.noMem.noMemL, optI, mapO, norm, trimT, trimB, forget, hasN, blksLt, List.set, softChk, softGo, softRd, effTg, rdP, S45a, c1]
      · intro s h; cases h
    · have hd : X ++ R.take 20 ++ (R.drop 20 ++ Z) = X ++ R ++ Z := by rw [← List.append_assoc, List.append_assoc X, List.take_append_drop]
      have hs := s51 hB hC hn X (R.take 20) (R.drop 20 ++ Z) (by rw [hd]; exact h4.app hZ) (by rw [hd]; simp only [List.length_append]; omega) X.length (X.length + 20) rfl (by rw [List.length_take]; omega) (by omega)
      rw [hd, ← List.append_assoc (X ++ srtS le (R.take 20))] at hs
      have hXl : (X ++ srtS le (R.take 20)).length = X.length + 20 := by rw [List.length_append, srtS_len, List.length_take]; omega
      refine .inl ⟨((X ++ srtS le (R.take 20)).length, (X ++ srtS le (R.take 20)).length + 20, X ++ srtS le (R.take 20) ++ R.drop 20), ?_⟩
      suffices h : ∃ s', evCode (evC Dg) f c45b2 (S45a B b v n g 20 Z (X.length, X.length + 20, X ++ R)) = some (.normal s') ∧ norm [0, 1, 2, 6, 7, 8] L s' = S45a B b v n g 20 Z ((X ++ srtS le (R.take 20)).length, (X ++ srtS le (R.take 20)).length + 20, X ++ srtS le (R.take 20) ++ R.drop 20) by
        obtain ⟨s', x1, x2⟩ := h
        refine ⟨s', x1, x2, ⟨_, R.drop 20, rfl, ?_, ?_, ?_⟩, ?_⟩
        · rw [← h1, wS_step le 20 (by omega) R, List.append_assoc]
        · rw [hXl, List.length_drop]; omega
        · intro r hr
          refine h4 r ?_
          have := (srtS_perm le (R.take 20)).mem_iff (a := r)
          have h5 := List.take_append_drop 20 R
          rw [← h5]
          simp only [List.mem_append] at hr this ⊢
          grind
        · simp only; rw [hXl]; omega
      rw [hXl]
      have c1 : ((X.length + 20 : Nat) : Int) ≤ n := by omega
      have w1 : IntKind.i64.wrap (((X.length + 20 : Nat) : Int) + 20) = ((X.length + 20 + 20 : Nat) : Int) := by rw [wrap_i64 _ (by omega) (by omega)]; omega
      clear h1 h4 hd hXl h3
      generalize X.length + 20 + 20 = e2 at *
      generalize X.length + 20 = e at *
      generalize X.length = a at *
      generalize X ++ srtS le (R.take 20) ++ R.drop 20 = D2 at *
      generalize X ++ R = D at *
      unfold c45b2
      simp [evCode, evOps, evOne, evOp, evPur, evEff, evPur.chunks, fillP, AOp.isEff, AO.ev, putP, PV.cells, PV.leaf, getB, getM, mapE, iterE, keyC, mapRows, mfind, eq1, eqL, scal, binP, unP, minP, maxP, foldP, PV.lt, PV.lt.ltL, endP, expoAll, expoG, expo, expo.expoL, frIds, frIds.frIdsL, nodupN, kill, cls, clsFuel, resO, RV.get, loadP, evC_p, evC_s, endS, endT, rowsOf, callP, thinL, unfr, unfr.unfrL, PV.noMem, PV.noMem.noMemL, optI, mapO, norm, trimT, trimB, forget, hasN, blksLt, List.set, softChk, softGo, softRd, effTg, rdP, S45a, c1, hs, w1, g0, g3, g4, g5]) (0, 20, l) ⟨[], l, rfl, rfl, by simpa using hl, hO⟩ (by simp only; omega) s0 E hE h0
  exact ⟨X, R, h1, h2, h3, h4, ho⟩
set_option maxRecDepth 100000 in
theorem loop45b (hB : BB B b v L) (hC : Cmp g Ok le) (hn : n ≤ 1000000) (Z : List Rw) (hZ : OkL Ok Z) (k : Nat) (hk : 0 < k) (hkn : k < n) (l : List Rw) (hO : OkL Ok l) (hl : l.length = n) (f : Nat) (hf : n < f) (s0 : St) (E : Option Out)
    (hE : evLoop (evCode (evC Dg) f c45b0) [0, 1, 2, 6, 7, 8] L f s0 = E) (h0 : norm [0, 1, 2, 6, 7, 8] L s0 = S45a B b v n g k Z (0, 2 * k, wS le k l)) :
    ∃ X R, X ++ wS le (2 * k) R = wS le (2 * k) l ∧ R.length < 2 * k ∧ X.length + R.length = n ∧ OkL Ok (X ++ R) ∧ E = some (.exit 4 (X45b B b v n g k Z X.length (X.length + 2 * k) (X ++ wS le k R))) := by
  have g0 := hB.len
  have g3 := hB.tk
  have g4 := hB.lt
  have g5 : Nat.blt b L = true := by simpa [Nat.blt_eq] using hB.hb
  obtain ⟨o, ho, X, R, h1, h2, h3, h4, rfl⟩ := loop_while (body := evCode (evC Dg) f c45b0) (keep := [0, 1, 2, 6, 7, 8]) (n0 := L) (fuel := f) (S45a B b v n g k Z) (fun x => n - x.1) (fun x => ∃ X R, x = (X.length, X.length + 2 * k, X ++ wS le k R) ∧ X ++ wS le (2 * k) R = wS le (2 * k) l ∧ X.length + R.length = n ∧ OkL Ok (X ++ R))
    (fun o => ∃ X R, X ++ wS le (2 * k) R = wS le (2 * k) l ∧ R.length < 2 * k ∧ X.length + R.length = n ∧ OkL Ok (X ++ R) ∧ o = .exit 4 (X45b B b v n g k Z X.length (X.length + 2 * k) (X ++ wS le k R))) (by
    rintro _ ⟨X, R, rfl, h1, h3, h4⟩
    by_cases h2 : R.length < 2 * k
    · refine .inr ⟨_, ?_, ?_, X, R, h1, h2, h3, h4, rfl⟩
      · have c1 : ¬ ((X.length + 2 * k : Nat) : Int) ≤ n := by omega
        generalize X.length + 2 * k = e at *
        generalize X.length = a at *
        generalize X ++ wS le k R = D at *
        unfold c45b0 X45b
        simp [evCode, evOps, evOne, evOp, evPur, evEff, evPur.chunks, fillP, AOp.isEff, AO.ev, putP, PV.cells, PV.leaf, getB, getM, mapE, iterE, keyC, mapRows, mfind, eq1, eqL, scal, binP, unP, minP, maxP, foldP, PV.lt, PV.lt.ltL, endP, expoAll, expoG, expo, expo.expoL, frIds, frIds.frIdsL, nodupN, kill, cls, clsFuel, resO, RV.get, loadP, evC_p, evC_s, endS, endT, rowsOf, callP, thinL, unfr, unfr.unfrL, PV.noMem, PV.noMem.noMemL, optI, mapO, norm, trimT, trimB, forget, hasN, blksLt, List.set, softChk, softGo, softRd, effTg, rdP, S45a, c1]
      · intro s h; cases h
    · have hw : wS le k R = srtS le (R.take k) ++ srtS le ((R.drop k).take k) ++ wS le k (R.drop (2 * k)) := by
        rw [wS_step le k hk R, wS_step le k hk (R.drop k), List.drop_drop, ← List.append_assoc, show k + k = 2 * k by omega]
      have hok : ∀ r, r ∈ R → Ok r := fun r hr => h4 r (List.mem_append_right _ hr)
      have hokX : ∀ r, r ∈ X → Ok r := fun r hr => h4 r (List.mem_append_left _ hr)
      have l1 : (srtS le (R.take k)).length = k := by rw [srtS_len, List.length_take]; omega
      have l2 : (srtS le ((R.drop k).take k)).length = k := by rw [srtS_len, List.length_take, List.length_drop]; omega
      have l3 : (wS le k (R.drop (2 * k))).length = n - X.length - 2 * k := by rw [wS_len le k hk _ _ rfl, List.length_drop]; omega
      have hs := s52 hB hC hn X (srtS le (R.take k)) (srtS le ((R.drop k).take k)) (wS le k (R.drop (2 * k)) ++ Z) (by omega) (by omega) (by
        intro r hr
        simp only [List.mem_append, (srtS_perm le _).mem_iff, wS_mem le k hk r _ _ rfl] at hr
        rcases hr with ((h | h) | h) | h | h
        · exact hokX r h
        · exact hok r (List.mem_of_mem_take h)
        · exact hok r (List.mem_of_mem_drop (List.mem_of_mem_take h))
        · exact hok r (List.mem_of_mem_drop h)
        · exact hZ r h) (by simp only [List.length_append, l1, l2, l3]; omega) (srtS_SSt hC.o _).1 (srtS_SSt hC.o _).1 X.length (X.length + k) (X.length + 2 * k) rfl (by omega) (by omega) (by omega)
      have e1 : X ++ srtS le (R.take k) ++ srtS le ((R.drop k).take k) ++ (wS le k (R.drop (2 * k)) ++ Z) = X ++ wS le k R ++ Z := by rw [hw]; simp only [List.append_assoc]
      rw [wS_two hC.o, e1, ← List.append_assoc (X ++ srtS le (R.take (2 * k)))] at hs
      have hXl : (X ++ srtS le (R.take (2 * k))).length = X.length + 2 * k := by rw [List.length_append, srtS_len, List.length_take]; omega
      refine .inl ⟨((X ++ srtS le (R.take (2 * k))).length, (X ++ srtS le (R.take (2 * k))).length + 2 * k, X ++ srtS le (R.take (2 * k)) ++ wS le k (R.drop (2 * k))), ?_⟩
      suffices h : ∃ s', evCode (evC Dg) f c45b0 (S45a B b v n g k Z (X.length, X.length + 2 * k, X ++ wS le k R)) = some (.normal s') ∧ norm [0, 1, 2, 6, 7, 8] L s' = S45a B b v n g k Z ((X ++ srtS le (R.take (2 * k))).length, (X ++ srtS le (R.take (2 * k))).length + 2 * k, X ++ srtS le (R.take (2 * k)) ++ wS le k (R.drop (2 * k))) by
        obtain ⟨s', x1, x2⟩ := h
        refine ⟨s', x1, x2, ⟨_, R.drop (2 * k), rfl, ?_, ?_, ?_⟩, ?_⟩
        · rw [← h1, wS_step le (2 * k) (by omega) R, List.append_assoc]
        · rw [hXl, List.length_drop]; omega
        · intro r hr
          simp only [List.mem_append, (srtS_perm le _).mem_iff] at hr
          rcases hr with (h | h) | h
          · exact hokX r h
          · exact hok r (List.mem_of_mem_take h)
          · exact hok r (List.mem_of_mem_drop h)
        · simp only; rw [hXl]; omega
      rw [hXl]
      have c1 : ((X.length + 2 * k : Nat) : Int) ≤ n := by omega
      have w0 : IntKind.i64.wrap (((X.length : Nat) : Int) + k) = ((X.length + k : Nat) : Int) := by rw [wrap_i64 _ (by omega) (by omega)]; omega
      have w2 : IntKind.i64.wrap (2 * (k : Int)) = ((2 * k : Nat) : Int) := by rw [wrap_i64 _ (by omega) (by omega)]; omega
      have w1 : IntKind.i64.wrap (((X.length + 2 * k : Nat) : Int) + ((2 * k : Nat) : Int)) = ((X.length + 2 * k + 2 * k : Nat) : Int) := by rw [wrap_i64 _ (by omega) (by omega)]; omega
      clear h1 h4 hXl h3 hw e1 l1 l2 l3 hok hokX
      generalize X.length + 2 * k + 2 * k = e2 at *
      generalize X.length + 2 * k = e at *
      generalize X ++ srtS le (R.take (2 * k)) ++ wS le k (R.drop (2 * k)) = D2 at *
      generalize X ++ wS le k R = D at *
      generalize 2 * k = kk at *
      generalize X.length + k = m at *
      generalize X.length = a at *
      unfold c45b0
      simp [evCode, evOps, evOne, evOp, evPur, evEff, evPur.chunks, fillP, AOp.isEff, AO.ev, putP, PV.cells, PV.leaf, getB, getM, mapE, iterE, keyC, mapRows, mfind, eq1, eqL, scal, binP, unP, minP, maxP, foldP, PV.lt, PV.lt.ltL, endP, expoAll, expoG, expo, expo.expoL, frIds, frIds.frIdsL, nodupN, kill, cls, clsFuel, resO, RV.get, loadP, evC_p, evC_s, endS, endT, rowsOf, callP, thinL, unfr, unfr.unfrL, PV.noMem, PV.noMem.noMemL, optI, mapO, norm, trimT, trimB, forget, hasN, blksLt, List.set, softChk, softGo, softRd, effTg, rdP, S45a, c1, hs, w0, w1, w2, g0, g3, g4, g5]) (0, 2 * k, wS le k l) ⟨[], l, by simp, rfl, by simpa using hl, hO⟩ (by simp only; omega) s0 E hE h0
  exact ⟨X, R, h1, h2, h3, h4, ho⟩
def S45c (B : List Rw → Blks) (b v n g : Nat) (Z : List Rw) (x : Nat × List Rw) : St := ⟨[.own b v 0 n, .int .i64 n, .fn g [], .top, .top, .top, .int .i64 x.1] ++ List.replicate 56 .top, B (x.2 ++ Z)⟩
def X45c (B : List Rw → Blks) (b v n g k : Nat) (Z : List Rw) (D : List Rw) : St := ⟨[.own b v 0 n, .int .i64 n, .fn g [], .top, .top, .top, .int .i64 k] ++ List.replicate 21 .top ++ [.int .i64 k, .int .i64 n, .bool false] ++ List.replicate 32 .top, B (D ++ Z)⟩
set_option maxRecDepth 100000 in
/-- behind the inner loop: what is left is merged -/
theorem r45 (hB : BB B b v L) (hn : n ≤ 1000000) (Z : List Rw) (k a e m : Nat) (hk : k < n) (ha : a ≤ n) (hm : m = a + k) (D D2 : List Rw) (f : Nat)
    (H : (m < n ∧ evS Dg 52 [.own b v 0 n, .int .i64 a, .int .i64 m, .int .i64 n, .fn g []] (B (D ++ Z)) = some (.tup [], B (D2 ++ Z))) ∨ (¬ m < n ∧ D2 = D)) :
    ∃ s', evCode (evC Dg) f c45r0 (X45b B b v n g k Z a e D) = some (.normal s') ∧ norm [0, 1, 2, 6] L s' = S45c B b v n g Z (2 * k, D2) := by
  have g0 := hB.len
  have g3 := hB.tk
  have g4 := hB.lt
  have g5 : Nat.blt b L = true := by simpa [Nat.blt_eq] using hB.hb
  have w1 : IntKind.i64.wrap ((a : Int) + k) = (m : Int) := by rw [wrap_i64 _ (by omega) (by omega)]; omega
  have w2 : IntKind.i64.wrap ((k : Int) * 2) = ((2 * k : Nat) : Int) := by rw [wrap_i64 _ (by omega) (by omega)]; omega
  generalize 2 * k = kk at *
  unfold c45r0 X45b
  rcases H with ⟨h1, h2⟩ | ⟨h1, rfl⟩
  · have c1 : (m : Int) < n := by omega
    clear hm ha hk
    simp [evCode, evOps, evOne, evOp, evPur, evEff, evPur.chunks, fillP, AOp.isEff, AO.ev, putP, PV.cells, PV.leaf, getB, getM, mapE, iterE, keyC, mapRows, mfind, eq1, eqL, scal, binP, unP, minP, maxP, foldP, PV.lt, PV.lt.ltL, endP, expoAll, expoG, expo, expo.expoL, frIds, frIds.frIdsL, nodupN, kill, cls, clsFuel, resO, RV.get, loadP, evC_p, evC_s, endS, endT, rowsOf, callP, thinL, unfr, unfr.unfrL, PV.noMem, PV.noMem.noMemL, optI, mapO, norm, trimT, trimB, forget, hasN, blksLt, List.set, softChk, softGo, softRd, effTg, rdP, S45c, c1, h2, w1, w2, g0, g3, g4, g5]
  · have c1 : ¬ (m : Int) < n := by omega
    clear hm ha hk
    simp [evCode, evOps, evOne, evOp, evPur, evEff, evPur.chunks, fillP, AOp.isEff, AO.ev, putP, PV.cells, PV.leaf, getB, getM, mapE, iterE, keyC, mapRows, mfind, eq1, eqL, scal, binP, unP, minP, maxP, foldP, PV.lt, PV.lt.ltL, endP, expoAll, expoG, expo, expo.expoL, frIds, frIds.frIdsL, nodupN, kill, cls, clsFuel, resO, RV.get, loadP, evC_p, evC_s, endS, endT, rowsOf, callP, thinL, unfr, unfr.unfrL, PV.noMem, PV.noMem.noMemL, optI, mapO, norm, trimT, trimB, forget, hasN, blksLt, List.set, softChk, softGo, softRd, effTg, rdP, S45c, c1, w1, w2, g0, g3, g4, g5]
set_option maxRecDepth 100000 in
theorem loop45c (hB : BB B b v L) (hC : Cmp g Ok le) (hn : n ≤ 1000000) (Z : List Rw) (hZ : OkL Ok Z) (l : List Rw) (hO : OkL Ok l) (hl : l.length = n) (f : Nat) (hf : n < f) (s0 : St) (E : Option Out)
    (hE : evLoop (evCode (evC Dg) f c45b1) [0, 1, 2, 6] L f s0 = E) (h0 : norm [0, 1, 2, 6] L s0 = S45c B b v n g Z (20, wS le 20 l)) :
    ∃ k, E = some (.exit 2 (X45c B b v n g k Z (srtS le l))) := by
  have g0 := hB.len
  have g3 := hB.tk
  have g4 := hB.lt
  have g5 : Nat.blt b L = true := by simpa [Nat.blt_eq] using hB.hb
  obtain ⟨o, ho, k, rfl⟩ := loop_while (body := evCode (evC Dg) f c45b1) (keep := [0, 1, 2, 6]) (n0 := L) (fuel := f) (S45c B b v n g Z) (fun x => n - x.1) (fun x => 0 < x.1 ∧ x.2 = wS le x.1 l) (fun o => ∃ k, o = .exit 2 (X45c B b v n g k Z (srtS le l))) (by
    rintro ⟨k, D⟩ ⟨hk, hD⟩
    simp only at hk hD
    subst hD
    by_cases hkn : k < n
    · have hL := fun s0 E => loop45b hB hC hn Z hZ k hk hkn l hO hl f hf s0 E
      refine .inl ⟨(2 * k, wS le (2 * k) l), ?_⟩
      suffices h : ∃ s', evCode (evC Dg) f c45b1 (S45c B b v n g Z (k, wS le k l)) = some (.normal s') ∧ norm [0, 1, 2, 6] L s' = S45c B b v n g Z (2 * k, wS le (2 * k) l) by
        obtain ⟨s', x1, x2⟩ := h
        exact ⟨s', x1, x2, ⟨by simp only; omega, rfl⟩, by simp only; omega⟩
      have hR : ∀ X R, X ++ wS le (2 * k) R = wS le (2 * k) l → R.length < 2 * k → X.length + R.length = n → OkL Ok (X ++ R) → ∃ s', evCode (evC Dg) f c45r0 (X45b B b v n g k Z X.length (X.length + 2 * k) (X ++ wS le k R)) = some (.normal s') ∧ norm [0, 1, 2, 6] L s' = S45c B b v n g Z (2 * k, wS le (2 * k) l) := by
        intro X R h1 h2 h3 h4
        refine r45 hB hn Z k X.length (X.length + 2 * k) (X.length + k) hkn (by omega) rfl _ _ f ?_
        have hok : ∀ r, r ∈ R → Ok r := fun r hr => h4 r (List.mem_append_right _ hr)
        have hokX : ∀ r, r ∈ X → Ok r := fun r hr => h4 r (List.mem_append_left _ hr)
        rw [← h1, wS_short le (2 * k) (by omega) R (by omega)]
        by_cases hm : X.length + k < n
        · refine .inl ⟨hm, ?_⟩
          have hw : wS le k R = srtS le (R.take k) ++ srtS le (R.drop k) := by
            rw [wS_step le k hk R, wS_short le k hk (R.drop k) (by rw [List.length_drop]; omega)]
          have l1 : (srtS le (R.take k)).length = k := by rw [srtS_len, List.length_take]; omega
          have l2 : (srtS le (R.drop k)).length = R.length - k := by rw [srtS_len, List.length_drop]
          have hs := s52 hB hC hn X (srtS le (R.take k)) (srtS le (R.drop k)) Z (by omega) (by omega) (by
            intro r hr
            simp only [List.mem_append, (srtS_perm le _).mem_iff] at hr
            rcases hr with ((h | h) | h) | h
            · exact hokX r h
            · exact hok r (List.mem_of_mem_take h)
            · exact hok r (List.mem_of_mem_drop h)
            · exact hZ r h) (by simp only [List.length_append, l1, l2]; omega) (srtS_SSt hC.o _).1 (srtS_SSt hC.o _).1 X.length (X.length + k) n rfl (by omega) (by omega) (Nat.le_refl _)
          rw [srtS_app hC.o, List.take_append_drop, List.append_assoc X (srtS le (R.take k)), ← hw] at hs
          exact hs
        · refine .inr ⟨hm, ?_⟩
          rw [wS_short le k hk R (by omega)]
      have c1 : (k : Int) < n := by omega
      have w2 : IntKind.i64.wrap (2 * (k : Int)) = ((2 * k : Nat) : Int) := by rw [wrap_i64 _ (by omega) (by omega)]; omega
      obtain ⟨Q, hQ⟩ : ∃ Q : St → Prop, Q = fun s' => norm [0, 1, 2, 6] L s' = S45c B b v n g Z (2 * k, wS le (2 * k) l) := ⟨_, rfl⟩
      suffices h : ∃ s', evCode (evC Dg) f c45b1 (S45c B b v n g Z (k, wS le k l)) = some (.normal s') ∧ Q s' by
        rw [hQ] at h; exact h
      have hR' : ∀ X R, X ++ wS le (2 * k) R = wS le (2 * k) l → R.length < 2 * k → X.length + R.length = n → OkL Ok (X ++ R) → ∃ s', evCode (evC Dg) f c45r0 (X45b B b v n g k Z X.length (X.length + 2 * k) (X ++ wS le k R)) = some (.normal s') ∧ Q s' := by
        rw [hQ]; exact hR
      clear hR hQ
      generalize wS le (2 * k) l = D2 at *
      generalize wS le k l = D at *
      unfold c45b1
      simp [evCode, evOps, evOne, evOp, evPur, evEff, evPur.chunks, fillP, AOp.isEff, AO.ev, putP, PV.cells, PV.leaf, getB, getM, mapE, iterE, keyC, mapRows, mfind, eq1, eqL, scal, binP, unP, minP, maxP, foldP, PV.lt, PV.lt.ltL, endP, expoAll, expoG, expo, expo.expoL, frIds, frIds.frIdsL, nodupN, kill, cls, clsFuel, resO, RV.get, loadP, evC_p, evC_s, endS, endT, rowsOf, callP, thinL, unfr, unfr.unfrL, PV.noMem, PV.noMem.noMemL, optI, mapO, norm, trimT, trimB, forget, hasN, blksLt, List.set, softChk, softGo, softRd, effTg, rdP, S45c, c1, w2]
      rw [g0]
      generalize hE : evLoop (evCode (evC Dg) f c45b0) [0, 1, 2, 6, 7, 8] L f _ = E
      obtain ⟨X, R, h1, h2, h3, h4, rfl⟩ := hL _ E hE (by simp [evCode, evOps, evOne, evOp, evPur, evEff, evPur.chunks, fillP, AOp.isEff, AO.ev, putP, PV.cells, PV.leaf, getB, getM, mapE, iterE, keyC, mapRows, mfind, eq1, eqL, scal, binP, unP, minP, maxP, foldP, PV.lt, PV.lt.ltL, endP, expoAll, expoG, expo, expo.expoL, frIds, frIds.frIdsL, nodupN, kill, cls, clsFuel, resO, RV.get, loadP, evC_p, evC_s, endS, endT, rowsOf, callP, thinL, unfr, unfr.unfrL, PV.noMem, PV.noMem.noMemL, optI, mapO, norm, trimT, trimB, forget, hasN, blksLt, List.set, softChk, softGo, softRd, effTg, rdP, S45a, g0, g3, g4, g5])
      obtain ⟨s', q1, q2⟩ := hR' X R h1 h2 h3 h4
      clear hE hL hR'
      refine ⟨s', ?_, q2⟩
      simp [evCode, evOps, evOne, evOp, evPur, evEff, evPur.chunks, fillP, AOp.isEff, AO.ev, putP, PV.cells, PV.leaf, getB, getM, mapE, iterE, keyC, mapRows, mfind, eq1, eqL, scal, binP, unP, minP, maxP, foldP, PV.lt, PV.lt.ltL, endP, expoAll, expoG, expo, expo.expoL, frIds, frIds.frIdsL, nodupN, kill, cls, clsFuel, resO, RV.get, loadP, evC_p, evC_s, endS, endT, rowsOf, callP, thinL, unfr, unfr.unfrL, PV.noMem, PV.noMem.noMemL, optI, mapO, norm, trimT, trimB, forget, hasN, blksLt, List.set, softChk, softGo, softRd, effTg, rdP, q1]
    · refine .inr ⟨_, ?_, ?_, k, rfl⟩
      · rw [wS_short le k hk l (by omega)]
        have c1 : ¬ (k : Int) < n := by omega
        generalize srtS le l = D
        unfold c45b1 X45c
        simp [evCode, evOps, evOne, evOp, evPur, evEff, evPur.chunks, fillP, AOp.isEff, AO.ev, putP, PV.cells, PV.leaf, getB, getM, mapE, iterE, keyC, mapRows, mfind, eq1, eqL, scal, binP, unP, minP, maxP, foldP, PV.lt, PV.lt.ltL, endP, expoAll, expoG, expo, expo.expoL, frIds, frIds.frIdsL, nodupN, kill, cls, clsFuel, resO, RV.get, loadP, evC_p, evC_s, endS, endT, rowsOf, callP, thinL, unfr, unfr.unfrL, PV.noMem, PV.noMem.noMemL, optI, mapO, norm, trimT, trimB, forget, hasN, blksLt, List.set, softChk, softGo, softRd, effTg, rdP, S45c, c1]
      · intro s h; cases h) (20, wS le 20 l) ⟨by simp, rfl⟩ (by simp only; omega) s0 E hE h0
  exact ⟨k, ho⟩
set_option maxRecDepth 100000 in
theorem s45 (hB : BB B b v L) (hC : Cmp g Ok le) (hn : n ≤ 1000000) (Z : List Rw) (hZ : OkL Ok Z) (l : List Rw) (hO : OkL Ok l) (hl : l.length = n) :
    evS Dg 45 [.own b v 0 n, .int .i64 n, .fn g []] (B (l ++ Z)) = some (.tup [], B (srtS le l ++ Z)) := by
  have g0 := hB.len
  have g3 := hB.tk
  have g4 := hB.lt
  have g5 : Nat.blt b L = true := by simpa [Nat.blt_eq] using hB.hb
  have hA := fun s0 E => loop45a hB hC hn Z hZ l hO hl (n + 2) (by omega) s0 E
  have hCC := fun s0 E => loop45c hB hC hn Z hZ l hO hl (n + 2) (by omega) s0 E
  have h51 : ∀ X R, X ++ wS le 20 R = wS le 20 l → R.length < 20 → X.length + R.length = n → OkL Ok (X ++ R) → evS Dg 51 [.own b v 0 n, .int .i64 X.length, .int .i64 n, .fn g []] (B (X ++ R ++ Z)) = some (.tup [], B (wS le 20 l ++ Z)) := by
    intro X R h1 h2 h3 h4
    have := s51 hB hC hn X R Z (h4.app hZ) (by simp only [List.length_append]; omega) X.length n rfl h3.symm (Nat.le_refl _)
    rw [← wS_short le 20 (by omega) R (by omega), h1] at this
    exact this
  generalize wS le 20 l = D1 at *
  generalize srtS le l = D2 at *
  refine evS_intro (n + 2) D45 rfl ?_
  unfold c45
  simp [evCode, evOps, evOne, evOp, evPur, evEff, evPur.chunks, fillP, AOp.isEff, AO.ev, putP, PV.cells, PV.leaf, getB, getM, mapE, iterE, keyC, mapRows, mfind, eq1, eqL, scal, binP, unP, minP, maxP, foldP, PV.lt, PV.lt.ltL, endP, expoAll, expoG, expo, expo.expoL, frIds, frIds.frIdsL, nodupN, kill, cls, clsFuel, resO, RV.get, loadP, evC_p, evC_s, endS, endT, rowsOf, callP, thinL, unfr, unfr.unfrL, PV.noMem, PV.noMem.noMemL, optI, mapO, norm, trimT, trimB, forget, hasN, blksLt, List.set, softChk, softGo, softRd, effTg, rdP]
  rw [g0]
  generalize hE : evLoop (evCode (evC Dg) (n + 2) c45b2) [0, 1, 2, 6, 7, 8] L (n + 2) _ = E
  obtain ⟨X, R, h1, h2, h3, h4, rfl⟩ := hA _ E hE (by simp [evCode, evOps, evOne, evOp, evPur, evEff, evPur.chunks, fillP, AOp.isEff, AO.ev, putP, PV.cells, PV.leaf, getB, getM, mapE, iterE, keyC, mapRows, mfind, eq1, eqL, scal, binP, unP, minP, maxP, foldP, PV.lt, PV.lt.ltL, endP, expoAll, expoG, expo, expo.expoL, frIds, frIds.frIdsL, nodupN, kill, cls, clsFuel, resO, RV.get, loadP, evC_p, evC_s, endS, endT, rowsOf, callP, thinL, unfr, unfr.unfrL, PV.noMem, PV.noMem.noMemL, optI, mapO, norm, trimT, trimB, forget, hasN, blksLt, List.set, softChk, softGo, softRd, effTg, rdP, S45a, g0, g3, g4, g5])
  have h5 := h51 X R h1 h2 h3 h4
  clear hE hA h51 h1 h2 h3 h4
  generalize X ++ R = XR at h5 ⊢
  generalize X.length = xl at h5 ⊢
  unfold c45r1 X45a
  simp [evCode, evOps, evOne, evOp, evPur, evEff, evPur.chunks, fillP, AOp.isEff, AO.ev, putP, PV.cells, PV.leaf, getB, getM, mapE, iterE, keyC, mapRows, mfind, eq1, eqL, scal, binP, unP, minP, maxP, foldP, PV.lt, PV.lt.ltL, endP, expoAll, expoG, expo, expo.expoL, frIds, frIds.frIdsL, nodupN, kill, cls, clsFuel, resO, RV.get, loadP, evC_p, evC_s, endS, endT, rowsOf, callP, thinL, unfr, unfr.unfrL, PV.noMem, PV.noMem.noMemL, optI, mapO, norm, trimT, trimB, forget, hasN, blksLt, List.set, softChk, softGo, softRd, effTg, rdP, h5, g0, g3, g4, g5]
  generalize hE : evLoop (evCode (evC Dg) (n + 2) c45b1) [0, 1, 2, 6] L (n + 2) _ = E
  obtain ⟨k, rfl⟩ := hCC _ E hE (by simp [evCode, evOps, evOne, evOp, evPur, evEff, evPur.chunks, fillP, AOp.isEff, AO.ev, putP, PV.cells, PV.leaf, getB, getM, mapE, iterE, keyC, mapRows, mfind, eq1, eqL, scal, binP, unP, minP, maxP, foldP, PV.lt, PV.lt.ltL, endP, expoAll, expoG, expo, expo.expoL, frIds, frIds.frIdsL, nodupN, kill, cls, clsFuel, resO, RV.get, loadP, evC_p, evC_s, endS, endT, rowsOf, callP, thinL, unfr, unfr.unfrL, PV.noMem, PV.noMem.noMemL, optI, mapO, norm, trimT, trimB, forget, hasN, blksLt, List.set, softChk, softGo, softRd, effTg, rdP, S45c, g0, g3, g4, g5])
  clear hE hCC h5
  unfold X45c
  simp [evCode, evOps, evOne, evOp, evPur, evEff, evPur.chunks, fillP, AOp.isEff, AO.ev, putP, PV.cells, PV.leaf, getB, getM, mapE, iterE, keyC, mapRows, mfind, eq1, eqL, scal, binP, unP, minP, maxP, foldP, PV.lt, PV.lt.ltL, endP, expoAll, expoG, expo, expo.expoL, frIds, frIds.frIdsL, nodupN, kill, cls, clsFuel, resO, RV.get, loadP, evC_p, evC_s, endS, endT, rowsOf, callP, thinL, unfr, unfr.unfrL, PV.noMem, PV.noMem.noMemL, optI, mapO, norm, trimT, trimB, forget, hasN, blksLt, List.set, softChk, softGo, softRd, effTg, rdP, g0, g3, g4, g5]
set_option maxRecDepth 100000 in
theorem s32 (hB : BB B b v L) (hC : Cmp g Ok le) (hn : n ≤ 1000000) (Z : List Rw) (hZ : OkL Ok Z) (l : List Rw) (hO : OkL Ok l) (hl : l.length = n) :
    evS Dg 32 [.own b v 0 n, .fn g []] (B (l ++ Z)) = some (.tup [], B (srtS le l ++ Z)) := by
  have g0 := hB.len
  have g3 := hB.tk
  have g4 := hB.lt
  have g5 : Nat.blt b L = true := by simpa [Nat.blt_eq] using hB.hb
  have h := s45 hB hC hn Z hZ l hO hl
  have g1 := hB.get
  have hl2 : n ≤ l.length + Z.length := by omega
  generalize srtS le l = D2 at *
  refine evS_intro (n + 2) D32 rfl ?_
  unfold c32
  simp [evCode, evOps, evOne, evOp, evPur, evEff, evPur.chunks, fillP, AOp.isEff, AO.ev, putP, PV.cells, PV.leaf, getB, getM, mapE, iterE, keyC, mapRows, mfind, eq1, eqL, scal, binP, unP, minP, maxP, foldP, PV.lt, PV.lt.ltL, endP, expoAll, expoG, expo, expo.expoL, frIds, frIds.frIdsL, nodupN, kill, cls, clsFuel, resO, RV.get, loadP, evC_p, evC_s, endS, endT, rowsOf, callP, thinL, unfr, unfr.unfrL, PV.noMem, PV.noMem.noMemL, optI, mapO, norm, trimT, trimB, forget, hasN, blksLt, List.set, softChk, softGo, softRd, effTg, rdP, h, hl2, g0, g1, g3, g4, g5]
end
end Go.Proofs.Ytalmhggbdfjalaa
