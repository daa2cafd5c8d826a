/- slices.symMergeCmpFunc: its moves, and the two cases of a single element. -/
import Derived.Test.YtalmhggbdfjalaaStE
namespace Go.Proofs.Ytalmhggbdfjalaa
open Go Go.RowKit
set_option linter.unusedVariables false
set_option linter.unusedSimpArgs false
set_option maxHeartbeats 4000000

def DX (B : List Rw → Blks) (b v n i u : Nat) (D : List Rw) : St := ⟨[.own b v 0 n, .top, .top, .top, .top, .top, .top, .top, .top, .top, .int .i64 i, .top, .top, .int .i64 u] ++ List.replicate 41 .top ++ [.int .i64 u, .int .i64 i, .int .i64 u, .bool false] ++ List.replicate 161 .top, B D⟩
def EX (B : List Rw → Blks) (b v n i : Nat) (D : List Rw) : St := ⟨[.own b v 0 n, .top, .top, .top, .top, .top, .top, .top, .top, .top, .top, .top, .top, .top, .int .i64 i, .top, .top, .int .i64 i] ++ List.replicate 90 .top ++ [.int .i64 i, .int .i64 i, .bool false] ++ List.replicate 109 .top, B D⟩
set_option maxRecDepth 100000 in
theorem exitD (B : List Rw → Blks) (b v n g i u : Nat) (hu : i = u + 1) (hi : i ≤ 1000000) (D : List Rw) (f : Nat) : evCode (evC Dg) f c52b3 (DdS B b v n g i u D) = some (.exit 2 (DX B b v n i u D)) := by
  have w : IntKind.i64.wrap ((i : Int) - 1) = (u : Int) := by rw [wrap_i64 _ (by omega) (by omega)]; omega
  unfold c52b3 DX
  simp [evCode, evOps, evOne, evOp, evPur, evEff, evPur.chunks, fillP, AOp.isEff, AO.ev, putP, PV.cells, PV.leaf, getB, getM, mapE, iterE, keyC, mapRows, mfind, eq1, eqL, scal, binP, unP, minP, maxP, foldP, PV.lt, PV.lt.ltL, endP, expoAll, expoG, expo, expo.expoL, frIds, frIds.frIdsL, nodupN, kill, cls, clsFuel, resO, RV.get, loadP, evC_p, evC_s, endS, endT, rowsOf, callP, thinL, unfr, unfr.unfrL, PV.noMem, PV.noMem.noMemL, optI, mapO, norm, trimT, trimB, forget, hasN, blksLt, List.set, softChk, softGo, softRd, effTg, rdP, DdS, w]
set_option maxRecDepth 100000 in
theorem exitE (B : List Rw → Blks) (b v n g i : Nat) (D : List Rw) (f : Nat) : evCode (evC Dg) f c52b1 (EeS B b v n g i i D) = some (.exit 6 (EX B b v n i D)) := by
  unfold c52b1 EX
  simp [evCode, evOps, evOne, evOp, evPur, evEff, evPur.chunks, fillP, AOp.isEff, AO.ev, putP, PV.cells, PV.leaf, getB, getM, mapE, iterE, keyC, mapRows, mfind, eq1, eqL, scal, binP, unP, minP, maxP, foldP, PV.lt, PV.lt.ltL, endP, expoAll, expoG, expo, expo.expoL, frIds, frIds.frIdsL, nodupN, kill, cls, clsFuel, resO, RV.get, loadP, evC_p, evC_s, endS, endT, rowsOf, callP, thinL, unfr, unfr.unfrL, PV.noMem, PV.noMem.noMemL, optI, mapO, norm, trimT, trimB, forget, hasN, blksLt, List.set, softChk, softGo, softRd, effTg, rdP, EeS]
theorem foldl_gd {α : Type} (l : List α) (f : List Rw → α → List Rw) (n : Nat) (I : List Rw → Prop) (h : ∀ D a, I D → a ∈ l → I (f D a)) : ∀ D, I D → I (l.foldl f D) := by
  induction l with
  | nil => exact fun D h => h
  | cons a l ih =>
    intro D hD
    exact ih (fun D c hD hc => h D c hD (List.mem_cons_of_mem _ hc)) _ (h D a hD (List.mem_cons_self ..))
section
variable {B : List Rw → Blks} {b v L n g : Nat} {Ok : Rw → Prop} {le : Rw → Rw → Bool}
theorem runR (hB : BB B b v L) (hn : n ≤ 1000000) (i a u : Nat) (hi : i ≤ n) (hu : i = u + 1) (hau : a ≤ u) (D : List Rw) (hD : GdL D) (hl : n ≤ D.length) (f : Nat) (hf : n < f) (s0 : St) (E : Option Out) (hE : evLoop (evCode (evC Dg) f c52b3) [0, 10, 13] L f s0 = E) (h0 : norm [0, 10, 13] L s0 = DdS B b v n g i a D) :
    E = some (.exit 2 (DX B b v n i u (mvR D a (u - a)))) := by
  obtain ⟨h, -⟩ := loop_foldE (body := evCode (evC Dg) f c52b3) (keep := [0, 10, 13]) (n0 := L) (fuel := f) (List.range (u - a)) (fun k o => DdS B b v n g i (a + k) o) (fun o j => swapAt o (a + j) (a + j + 1)) (fun _ o => GdL o ∧ n ≤ o.length) (by
    intro k j o hj hk hI
    rw [List.length_range] at hk
    rw [List.getElem?_range hk] at hj
    obtain rfl := Option.some.inj hj
    obtain ⟨h1, h2⟩ := hI
    refine ⟨⟨swapAt_gd h1 (by omega) (by omega), by rw [swapAt_len]; exact h2⟩, ?_⟩
    have := Ddstep B b v L n g hB hn i (a + k) (by omega) hi o h1 h2 f
    exact this) (by
    intro o _ s
    rw [List.length_range, show a + (u - a) = u by omega, exitD B b v n g i u hu (by omega)]
    intro h; cases h) (by rw [List.length_range]; omega) D ⟨hD, hl⟩ s0 E hE (by rw [h0]; rfl)
  rw [h, List.length_range, show a + (u - a) = u by omega, exitD B b v n g i u hu (by omega)]
  rfl
theorem runL (hB : BB B b v L) (hn : n ≤ 1000000) (i m : Nat) (hi : i ≤ m) (hm : m < n) (D : List Rw) (hD : GdL D) (hl : n ≤ D.length) (f : Nat) (hf : n < f) (s0 : St) (E : Option Out) (hE : evLoop (evCode (evC Dg) f c52b1) [0, 14, 17] L f s0 = E) (h0 : norm [0, 14, 17] L s0 = EeS B b v n g i m D) :
    E = some (.exit 6 (EX B b v n i (mvL D m (m - i)))) := by
  obtain ⟨h, -⟩ := loop_foldE (body := evCode (evC Dg) f c52b1) (keep := [0, 14, 17]) (n0 := L) (fuel := f) (List.range (m - i)) (fun k o => EeS B b v n g i (m - k) o) (fun o j => swapAt o (m - j) (m - j - 1)) (fun _ o => GdL o ∧ n ≤ o.length) (by
    intro k j o hj hk hI
    rw [List.length_range] at hk
    rw [List.getElem?_range hk] at hj
    obtain rfl := Option.some.inj hj
    obtain ⟨h1, h2⟩ := hI
    refine ⟨⟨swapAt_gd h1 (by omega) (by omega), by rw [swapAt_len]; exact h2⟩, ?_⟩
    have := Eestep B b v L n g hB hn i (m - k) (by omega) (by omega) o h1 h2 f
    exact this) (by
    intro o _ s
    rw [List.length_range, show m - (m - i) = i by omega, exitE]
    intro h; cases h) (by rw [List.length_range]; omega) D ⟨hD, hl⟩ s0 E hE (by rw [h0]; rfl)
  rw [h, List.length_range, show m - (m - i) = i by omega, exitE]
  rfl
set_option maxRecDepth 100000 in
/-- one element, and a sorted piece -/
theorem s52_one (hB : BB B b v L) (hC : Cmp g Ok le) (hn : n ≤ 1000000) (P Bl Q : List Rw) (x : Rw) (hO : OkL Ok (P ++ x :: (Bl ++ Q))) (hl : n ≤ (P ++ x :: (Bl ++ Q)).length) (hS : Srt le Bl) (a m e : Nat) (ha : a = P.length) (hm : m = a + 1) (he : e = m + Bl.length) (hen : e ≤ n) :
    evS Dg 52 [.own b v 0 n, .int .i64 a, .int .i64 m, .int .i64 e, .fn g []] (B (P ++ x :: (Bl ++ Q))) = some (.tup [], B (P ++ srtS le (x :: Bl) ++ Q)) := by
  have hA := fun s0 E => searchA hB hC hn P Bl Q x _ rfl hO hl hS a m e ha hm he hen (n + 2) (by omega) s0 E
  have g0 := hB.len
  have g3 := hB.tk
  have g4 := hB.lt
  have g5 : Nat.blt b L = true := by simpa [Nat.blt_eq] using hB.hb
  have w1 : IntKind.i64.wrap ((m : Int) - a) = 1 := by rw [wrap_i64 _ (by omega) (by omega)]; omega
  obtain ⟨D2, hD2⟩ : ∃ D2, P ++ srtS le (x :: Bl) ++ Q = D2 := ⟨_, rfl⟩
  rw [hD2]
  refine evS_intro (n + 2) D52 rfl ?_
  unfold c52
  generalize hDD : P ++ x :: (Bl ++ Q) = D at *
  simp [evCode, evOps, evOne, evOp, evPur, evEff, evPur.chunks, fillP, AOp.isEff, AO.ev, putP, PV.cells, PV.leaf, getB, getM, mapE, iterE, keyC, mapRows, mfind, eq1, eqL, scal, binP, unP, minP, maxP, foldP, PV.lt, PV.lt.ltL, endP, expoAll, expoG, expo, expo.expoL, frIds, frIds.frIdsL, nodupN, kill, cls, clsFuel, resO, RV.get, loadP, evC_p, evC_s, endS, endT, rowsOf, callP, thinL, unfr, unfr.unfrL, PV.noMem, PV.noMem.noMemL, optI, mapO, norm, trimT, trimB, forget, hasN, blksLt, List.set, softChk, softGo, softRd, effTg, rdP, w1]
  rw [g0]
  generalize hE : evLoop (evCode (evC Dg) (n + 2) c52b4) [0, 1, 4, 10, 11] L (n + 2) _ = E
  obtain ⟨B1, B2, rfl, h1, h2, rfl⟩ := hA _ E hE (by simp [evCode, evOps, evOne, evOp, evPur, evEff, evPur.chunks, fillP, AOp.isEff, AO.ev, putP, PV.cells, PV.leaf, getB, getM, mapE, iterE, keyC, mapRows, mfind, eq1, eqL, scal, binP, unP, minP, maxP, foldP, PV.lt, PV.lt.ltL, endP, expoAll, expoG, expo, expo.expoL, frIds, frIds.frIdsL, nodupN, kill, cls, clsFuel, resO, RV.get, loadP, evC_p, evC_s, endS, endT, rowsOf, callP, thinL, unfr, unfr.unfrL, PV.noMem, PV.noMem.noMemL, optI, mapO, norm, trimT, trimB, forget, hasN, blksLt, List.set, softChk, softGo, softRd, effTg, rdP, AS, g0, g3, g4, g5])
  have hR := fun s0 E => runR (g := g) hB hn (m + B1.length) a (a + B1.length) (by simp only [List.length_append] at he; omega) (by omega) (by omega) D (hO.gd hC) hl (n + 2) (by omega) s0 E
  have hmv : mvR D a (a + B1.length - a) = P ++ srtS le (x :: (B1 ++ B2)) ++ Q := by
    have := mvR_app P x B1.length B1 (B2 ++ Q) rfl
    rw [← hDD, ha, Nat.add_sub_cancel_left, List.append_assoc, this]
    have hss : SSt le (B1 ++ x :: B2) (x :: (B1 ++ B2)) := by
      have := SSt.sym (A1 := []) (A2 := [x]) (B1 := B1) (B2 := B2) (M1 := B1) (M2 := x :: B2) hC.o (by simp [Srt]) hS (fun _ h => by simp at h) (fun y hy z hz => by
        simp at hz; subst hz; exact h1 y hy) (SSt.self (List.pairwise_append.1 hS).1) (SSt.self (List.pairwise_cons.2 ⟨h2, (List.pairwise_append.1 hS).2.1⟩))
      simpa using this
    rw [← hss.eq hC.o]
    simp
  rw [hmv, hD2] at hR
  clear hmv hA hDD hE hD2
  generalize m + B1.length = i at *
  generalize a + B1.length = u at *
  unfold c52r3 AX
  simp [evCode, evOps, evOne, evOp, evPur, evEff, evPur.chunks, fillP, AOp.isEff, AO.ev, putP, PV.cells, PV.leaf, getB, getM, mapE, iterE, keyC, mapRows, mfind, eq1, eqL, scal, binP, unP, minP, maxP, foldP, PV.lt, PV.lt.ltL, endP, expoAll, expoG, expo, expo.expoL, frIds, frIds.frIdsL, nodupN, kill, cls, clsFuel, resO, RV.get, loadP, evC_p, evC_s, endS, endT, rowsOf, callP, thinL, unfr, unfr.unfrL, PV.noMem, PV.noMem.noMemL, optI, mapO, norm, trimT, trimB, forget, hasN, blksLt, List.set, softChk, softGo, softRd, effTg, rdP]
  rw [g0]
  generalize hE2 : evLoop (evCode (evC Dg) (n + 2) c52b3) [0, 10, 13] L (n + 2) _ = E2
  obtain rfl := hR _ E2 hE2 (by simp [evCode, evOps, evOne, evOp, evPur, evEff, evPur.chunks, fillP, AOp.isEff, AO.ev, putP, PV.cells, PV.leaf, getB, getM, mapE, iterE, keyC, mapRows, mfind, eq1, eqL, scal, binP, unP, minP, maxP, foldP, PV.lt, PV.lt.ltL, endP, expoAll, expoG, expo, expo.expoL, frIds, frIds.frIdsL, nodupN, kill, cls, clsFuel, resO, RV.get, loadP, evC_p, evC_s, endS, endT, rowsOf, callP, thinL, unfr, unfr.unfrL, PV.noMem, PV.noMem.noMemL, optI, mapO, norm, trimT, trimB, forget, hasN, blksLt, List.set, softChk, softGo, softRd, effTg, rdP, DdS, g0, g3, g4, g5])
  clear hR hE2
  unfold DX
  simp [evCode, evOps, evOne, evOp, evPur, evEff, evPur.chunks, fillP, AOp.isEff, AO.ev, putP, PV.cells, PV.leaf, getB, getM, mapE, iterE, keyC, mapRows, mfind, eq1, eqL, scal, binP, unP, minP, maxP, foldP, PV.lt, PV.lt.ltL, endP, expoAll, expoG, expo, expo.expoL, frIds, frIds.frIdsL, nodupN, kill, cls, clsFuel, resO, RV.get, loadP, evC_p, evC_s, endS, endT, rowsOf, callP, thinL, unfr, unfr.unfrL, PV.noMem, PV.noMem.noMemL, optI, mapO, norm, trimT, trimB, forget, hasN, blksLt, List.set, softChk, softGo, softRd, effTg, rdP, g0, g3, g4, g5]
set_option maxRecDepth 100000 in
/-- a sorted piece of two or more, and one element -/
theorem s52_last (hB : BB B b v L) (hC : Cmp g Ok le) (hn : n ≤ 1000000) (P Al Q : List Rw) (x : Rw) (hA2 : 2 ≤ Al.length) (hO : OkL Ok (P ++ Al ++ x :: Q)) (hl : n ≤ (P ++ Al ++ x :: Q).length) (hS : Srt le Al) (a m e : Nat) (ha : a = P.length) (hm : m = a + Al.length) (he : e = m + 1) (hen : e ≤ n) :
    evS Dg 52 [.own b v 0 n, .int .i64 a, .int .i64 m, .int .i64 e, .fn g []] (B (P ++ Al ++ x :: Q)) = some (.tup [], B (P ++ srtS le (Al ++ [x]) ++ Q)) := by
  have hA := fun s0 E => searchB hB hC hn P Al Q x _ rfl hO hl hS a m ha hm (by omega) (n + 2) (by omega) s0 E
  have g0 := hB.len
  have g3 := hB.tk
  have g4 := hB.lt
  have g5 : Nat.blt b L = true := by simpa [Nat.blt_eq] using hB.hb
  have w1 : IntKind.i64.wrap ((m : Int) - a) = (Al.length : Int) := by rw [wrap_i64 _ (by omega) (by omega)]; omega
  have w2 : IntKind.i64.wrap ((e : Int) - m) = 1 := by rw [wrap_i64 _ (by omega) (by omega)]; omega
  have c1 : ¬ (Al.length : Int) = 1 := by omega
  obtain ⟨D2, hD2⟩ : ∃ D2, P ++ srtS le (Al ++ [x]) ++ Q = D2 := ⟨_, rfl⟩
  rw [hD2]
  refine evS_intro (n + 2) D52 rfl ?_
  generalize hDD : P ++ Al ++ x :: Q = D at *
  unfold c52
  generalize hal : (Al.length : Int) = k at w1 c1
  simp [evCode, evOps, evOne, evOp, evPur, evEff, evPur.chunks, fillP, AOp.isEff, AO.ev, putP, PV.cells, PV.leaf, getB, getM, mapE, iterE, keyC, mapRows, mfind, eq1, eqL, scal, binP, unP, minP, maxP, foldP, PV.lt, PV.lt.ltL, endP, expoAll, expoG, expo, expo.expoL, frIds, frIds.frIdsL, nodupN, kill, cls, clsFuel, resO, RV.get, loadP, evC_p, evC_s, endS, endT, rowsOf, callP, thinL, unfr, unfr.unfrL, PV.noMem, PV.noMem.noMemL, optI, mapO, norm, trimT, trimB, forget, hasN, blksLt, List.set, softChk, softGo, softRd, effTg, rdP, w1, c1]
  unfold c52r4
  simp [evCode, evOps, evOne, evOp, evPur, evEff, evPur.chunks, fillP, AOp.isEff, AO.ev, putP, PV.cells, PV.leaf, getB, getM, mapE, iterE, keyC, mapRows, mfind, eq1, eqL, scal, binP, unP, minP, maxP, foldP, PV.lt, PV.lt.ltL, endP, expoAll, expoG, expo, expo.expoL, frIds, frIds.frIdsL, nodupN, kill, cls, clsFuel, resO, RV.get, loadP, evC_p, evC_s, endS, endT, rowsOf, callP, thinL, unfr, unfr.unfrL, PV.noMem, PV.noMem.noMemL, optI, mapO, norm, trimT, trimB, forget, hasN, blksLt, List.set, softChk, softGo, softRd, effTg, rdP, w2]
  rw [g0]
  generalize hE : evLoop (evCode (evC Dg) (n + 2) c52b2) [0, 2, 4, 14, 15] L (n + 2) _ = E
  obtain ⟨A1, A2, rfl, h1, h2, rfl⟩ := hA _ E hE (by simp [evCode, evOps, evOne, evOp, evPur, evEff, evPur.chunks, fillP, AOp.isEff, AO.ev, putP, PV.cells, PV.leaf, getB, getM, mapE, iterE, keyC, mapRows, mfind, eq1, eqL, scal, binP, unP, minP, maxP, foldP, PV.lt, PV.lt.ltL, endP, expoAll, expoG, expo, expo.expoL, frIds, frIds.frIdsL, nodupN, kill, cls, clsFuel, resO, RV.get, loadP, evC_p, evC_s, endS, endT, rowsOf, callP, thinL, unfr, unfr.unfrL, PV.noMem, PV.noMem.noMemL, optI, mapO, norm, trimT, trimB, forget, hasN, blksLt, List.set, softChk, softGo, softRd, effTg, rdP, BbS, g0, g3, g4, g5])
  simp only [List.length_append] at hm
  have hR := fun s0 E => runL (g := g) hB hn (a + A1.length) m (by omega) (by omega) D (hO.gd hC) hl (n + 2) (by omega) s0 E
  have hmv : mvL D m (m - (a + A1.length)) = P ++ srtS le ((A1 ++ A2) ++ [x]) ++ Q := by
    have := mvL_app x A2.length (P ++ A1) A2 Q rfl
    rw [List.length_append, ← ha, show a + A1.length + A2.length = m by omega, show P ++ A1 ++ A2 = P ++ (A1 ++ A2) by simp, hDD] at this
    rw [show m - (a + A1.length) = A2.length by omega, this, ← (SSt.ins hC.o hS h1 h2).eq hC.o]
    simp
  rw [hmv, hD2] at hR
  clear hmv hA hDD hE hD2
  generalize a + A1.length = i at *
  unfold c52r1 BX
  simp [evCode, evOps, evOne, evOp, evPur, evEff, evPur.chunks, fillP, AOp.isEff, AO.ev, putP, PV.cells, PV.leaf, getB, getM, mapE, iterE, keyC, mapRows, mfind, eq1, eqL, scal, binP, unP, minP, maxP, foldP, PV.lt, PV.lt.ltL, endP, expoAll, expoG, expo, expo.expoL, frIds, frIds.frIdsL, nodupN, kill, cls, clsFuel, resO, RV.get, loadP, evC_p, evC_s, endS, endT, rowsOf, callP, thinL, unfr, unfr.unfrL, PV.noMem, PV.noMem.noMemL, optI, mapO, norm, trimT, trimB, forget, hasN, blksLt, List.set, softChk, softGo, softRd, effTg, rdP]
  rw [g0]
  generalize hE2 : evLoop (evCode (evC Dg) (n + 2) c52b1) [0, 14, 17] L (n + 2) _ = E2
  obtain rfl := hR _ E2 hE2 (by simp [evCode, evOps, evOne, evOp, evPur, evEff, evPur.chunks, fillP, AOp.isEff, AO.ev, putP, PV.cells, PV.leaf, getB, getM, mapE, iterE, keyC, mapRows, mfind, eq1, eqL, scal, binP, unP, minP, maxP, foldP, PV.lt, PV.lt.ltL, endP, expoAll, expoG, expo, expo.expoL, frIds, frIds.frIdsL, nodupN, kill, cls, clsFuel, resO, RV.get, loadP, evC_p, evC_s, endS, endT, rowsOf, callP, thinL, unfr, unfr.unfrL, PV.noMem, PV.noMem.noMemL, optI, mapO, norm, trimT, trimB, forget, hasN, blksLt, List.set, softChk, softGo, softRd, effTg, rdP, EeS, g0, g3, g4, g5])
  clear hR hE2
  unfold EX
  simp [evCode, evOps, evOne, evOp, evPur, evEff, evPur.chunks, fillP, AOp.isEff, AO.ev, putP, PV.cells, PV.leaf, getB, getM, mapE, iterE, keyC, mapRows, mfind, eq1, eqL, scal, binP, unP, minP, maxP, foldP, PV.lt, PV.lt.ltL, endP, expoAll, expoG, expo, expo.expoL, frIds, frIds.frIdsL, nodupN, kill, cls, clsFuel, resO, RV.get, loadP, evC_p, evC_s, endS, endT, rowsOf, callP, thinL, unfr, unfr.unfrL, PV.noMem, PV.noMem.noMemL, optI, mapO, norm, trimT, trimB, forget, hasN, blksLt, List.set, softChk, softGo, softRd, effTg, rdP, g0, g3, g4, g5]
end
end Go.Proofs.Ytalmhggbdfjalaa
