/- slices.symMergeCmpFunc: two sorted pieces are merged. -/
import Derived.Test.YtalmhggbdfjalaaStG
import Derived.Test.YtalmhggbdfjalaaStH0
namespace Go.Proofs.Ytalmhggbdfjalaa
open Go Go.RowKit
set_option linter.unusedVariables false
set_option linter.unusedSimpArgs false
set_option maxHeartbeats 4000000

/-- what symMerge does, for pieces of less than k elements -/
def Sym (B : List Rw → Blks) (b v n g : Nat) (Ok : Rw → Prop) (le : Rw → Rw → Bool) (k : Nat) : Prop :=
  ∀ (P Al Bl Q : List Rw), Al.length + Bl.length < k → 0 < Al.length → 0 < Bl.length → OkL Ok (P ++ Al ++ Bl ++ Q) → n ≤ (P ++ Al ++ Bl ++ Q).length → Srt le Al → Srt le Bl → ∀ a m e, a = P.length → m = a + Al.length → e = m + Bl.length → e ≤ n →
    evS Dg 52 [.own b v 0 n, .int .i64 a, .int .i64 m, .int .i64 e, .fn g []] (B (P ++ Al ++ Bl ++ Q)) = some (.tup [], B (P ++ srtS le (Al ++ Bl) ++ Q))
section
variable {B : List Rw → Blks} {b v L n g : Nat} {Ok : Rw → Prop} {le : Rw → Rw → Bool}
theorem Sym.two (hO : Ordr le) {k : Nat} (h : Sym B b v n g Ok le k) (P Al Bl Q : List Rw) (hk : Al.length + Bl.length < k) (hOk : OkL Ok (P ++ Al ++ Bl ++ Q)) (hl : n ≤ (P ++ Al ++ Bl ++ Q).length) (hA : Srt le Al) (hB : Srt le Bl) (a m e : Nat) (ha : a = P.length) (hm : m = a + Al.length) (he : e = m + Bl.length) (hen : e ≤ n) :
    (a < m ∧ m < e ∧ evS Dg 52 [.own b v 0 n, .int .i64 a, .int .i64 m, .int .i64 e, .fn g []] (B (P ++ Al ++ Bl ++ Q)) = some (.tup [], B (P ++ srtS le (Al ++ Bl) ++ Q))) ∨ (¬ (a < m ∧ m < e) ∧ P ++ srtS le (Al ++ Bl) ++ Q = P ++ Al ++ Bl ++ Q) := by
  by_cases h1 : a < m ∧ m < e
  · exact .inl ⟨h1.1, h1.2, h P Al Bl Q hk (by omega) (by omega) hOk hl hA hB a m e ha hm he hen⟩
  · refine .inr ⟨h1, ?_⟩
    rcases Nat.eq_zero_or_pos Al.length with h2 | h2
    · rw [List.length_eq_zero_iff.1 h2, List.nil_append, srtS_self hO hB, List.append_nil]
    · have : Bl.length = 0 := by omega
      rw [List.length_eq_zero_iff.1 this, List.append_nil, srtS_self hO hA, List.append_nil]
theorem SSt_perm_ok {Ok : Rw → Prop} {X : List Rw} (h : ∀ r ∈ X, Ok r) (le : Rw → Rw → Bool) : ∀ r ∈ srtS le X, Ok r := fun r hr => h r ((srtS_perm le X).mem_iff.1 hr)
set_option maxRecDepth 100000 in
theorem s52_gen (hB : BB B b v L) (hC : Cmp g Ok le) (hn : n ≤ 1000000) (P Al Bl Q : List Rw) (hA2 : 2 ≤ Al.length) (hB2 : 2 ≤ Bl.length) (hO : OkL Ok (P ++ Al ++ Bl ++ Q)) (hl : n ≤ (P ++ Al ++ Bl ++ Q).length) (hSA : Srt le Al) (hSB : Srt le Bl) (a m e : Nat) (ha : a = P.length) (hm : m = a + Al.length) (he : e = m + Bl.length) (hen : e ≤ n)
    (IH : Sym B b v n g Ok le (Al.length + Bl.length)) :
    evS Dg 52 [.own b v 0 n, .int .i64 a, .int .i64 m, .int .i64 e, .fn g []] (B (P ++ Al ++ Bl ++ Q)) = some (.tup [], B (P ++ srtS le (Al ++ Bl) ++ Q)) := by
  have hlen : n ≤ P.length + Al.length + Bl.length + Q.length := by simpa only [List.length_append] using hl
  obtain ⟨d, hd⟩ : ∃ d, d = (a + e) / 2 := ⟨_, rfl⟩
  obtain ⟨nn, hnn⟩ : ∃ nn, nn = d + m := ⟨_, rfl⟩
  obtain ⟨q, hq⟩ : ∃ q, q + 1 = nn := ⟨nn - 1, by omega⟩
  obtain ⟨lo, hi, hlo⟩ : ∃ lo hi, (d < m ∧ lo = nn - e ∧ hi = d) ∨ (m ≤ d ∧ lo = a ∧ hi = m) := by
    by_cases h : d < m
    · exact ⟨_, _, .inl ⟨h, rfl, rfl⟩⟩
    · exact ⟨_, _, .inr ⟨by omega, rfl, rfl⟩⟩
  have hSr := fun f hf s0 E => searchC hB hC hn (P ++ Al ++ Bl ++ Q) hO hl a m e d nn q lo hi (by omega) (by omega) (by omega) (by omega) (by omega) (sym_mono hC.o rfl hSA hSB ha hm he d nn q lo hi hd hnn hq hlo) f hf s0 E
  have hCut := sym_cut (P := P) (Q := Q) hC.o rfl hSA hSB ha hm he d nn q lo hi
  have hR : ∀ p, lo ≤ p → p ≤ hi → (∀ h, lo ≤ h → h < p → le ((P ++ Al ++ Bl ++ Q)[h]?.getD []) ((P ++ Al ++ Bl ++ Q)[q - h]?.getD []) = true) → (∀ h, p ≤ h → h < hi → le ((P ++ Al ++ Bl ++ Q)[h]?.getD []) ((P ++ Al ++ Bl ++ Q)[q - h]?.getD []) = false) →
      ∀ f, ∃ t, evCode (evC Dg) f c52r0 (CX B b v n g a m e d nn q (P ++ Al ++ Bl ++ Q) p) = some (.normal ⟨t, B (P ++ srtS le (Al ++ Bl) ++ Q)⟩) := by
    intro p h1 h2 h3 h4 f
    obtain ⟨A1, A2, B1, B2, rfl, rfl, e1, e2, h12, h21⟩ := hCut p hd hnn hq hlo h1 h2 h3 h4
    simp only [List.length_append] at hm he hlen hA2 hB2 IH
    have okm : ∀ r, r ∈ P ∨ r ∈ A1 ∨ r ∈ A2 ∨ r ∈ B1 ∨ r ∈ B2 ∨ r ∈ Q → Ok r := by
      intro r hr
      refine hO r ?_
      simp only [List.mem_append]
      grind
    have sA := List.pairwise_append.1 hSA
    have sB := List.pairwise_append.1 hSB
    have f1 : SSt le (srtS le (A1 ++ B1) ++ srtS le (A2 ++ B2)) ((A1 ++ A2) ++ (B1 ++ B2)) := SSt.sym hC.o hSA hSB h12 h21 (srtS_SSt hC.o _) (srtS_SSt hC.o _)
    rw [← f1.eq hC.o]
    have k1 := IH.two hC.o P A1 B1 (A2 ++ B2 ++ Q) (by omega) (fun r hr => okm r (by simp only [List.mem_append] at hr; grind)) (by simp only [List.length_append]; omega) sA.1 sB.1 a p d ha (by omega) (by omega) (by omega)
    have k2 := IH.two hC.o (P ++ srtS le (A1 ++ B1)) A2 B2 Q (by omega) (fun r hr => by
      simp only [List.mem_append, or_assoc] at hr
      have := fun h => (srtS_perm le (A1 ++ B1)).mem_iff (a := r) |>.1 h
      simp only [List.mem_append] at this
      exact okm r (by grind)) (by simp only [List.length_append, srtS_len]; omega) sA.2.1 sB.2.1 d (nn - p) e (by simp only [List.length_append, srtS_len]; omega) (by omega) (by omega) hen
    have k0 : (p < m ∧ m < nn - p ∧ evS Dg 65 [.own b v 0 n, .int .i64 p, .int .i64 m, .int .i64 ((nn - p : Nat) : Int), .fn g []] (B (P ++ (A1 ++ A2) ++ (B1 ++ B2) ++ Q)) = some (.tup [], B (P ++ A1 ++ B1 ++ (A2 ++ B2 ++ Q)))) ∨ (¬ (p < m ∧ m < nn - p) ∧ P ++ A1 ++ B1 ++ (A2 ++ B2 ++ Q) = P ++ (A1 ++ A2) ++ (B1 ++ B2) ++ Q) := by
      by_cases hc : p < m ∧ m < nn - p
      · refine .inl ⟨hc.1, hc.2, ?_⟩
        have := s65 B b v L n g hB hn (P ++ A1) A2 B1 (B2 ++ Q) (by omega) (by omega) (fun r hr => hC.gd r (okm r (by simp only [List.mem_append] at hr; grind))) (by simp only [List.length_append]; omega) (by rw [List.length_append]; omega) p m (nn - p) (by rw [List.length_append]; omega) (by rw [List.length_append]; omega) (by rw [List.length_append]; omega)
        have u1 : P ++ A1 ++ A2 ++ B1 ++ (B2 ++ Q) = P ++ (A1 ++ A2) ++ (B1 ++ B2) ++ Q := by simp only [List.append_assoc]
        have u2 : P ++ A1 ++ B1 ++ A2 ++ (B2 ++ Q) = P ++ A1 ++ B1 ++ (A2 ++ B2 ++ Q) := by simp only [List.append_assoc]
        rw [u1, u2] at this
        exact this
      · refine .inr ⟨hc, ?_⟩
        have : A2.length = 0 ∨ B1.length = 0 := by omega
        rcases this with h | h
        · rw [List.length_eq_zero_iff.1 h]; simp only [List.append_assoc, List.nil_append, List.append_nil]
        · rw [List.length_eq_zero_iff.1 h]; simp only [List.append_assoc, List.nil_append, List.append_nil]
    have u3 : P ++ srtS le (A1 ++ B1) ++ (A2 ++ B2 ++ Q) = P ++ srtS le (A1 ++ B1) ++ A2 ++ B2 ++ Q := by simp only [List.append_assoc]
    have u4 : P ++ srtS le (A1 ++ B1) ++ srtS le (A2 ++ B2) ++ Q = P ++ (srtS le (A1 ++ B1) ++ srtS le (A2 ++ B2)) ++ Q := by simp only [List.append_assoc]
    rw [u3] at k1
    rw [u4] at k2
    exact r52 hB hn a m e d nn q p (nn - p) (by omega) (by omega) rfl _ _ _ _ f k0 k1 k2
  have g0 := hB.len
  have g3 := hB.tk
  have g4 := hB.lt
  have g5 : Nat.blt b L = true := by simpa [Nat.blt_eq] using hB.hb
  have w1 : IntKind.i64.wrap ((m : Int) - a) = (Al.length : Int) := by rw [wrap_i64 _ (by omega) (by omega)]; omega
  have w2 : IntKind.i64.wrap ((e : Int) - m) = (Bl.length : Int) := by rw [wrap_i64 _ (by omega) (by omega)]; omega
  have c1 : ¬ (Al.length : Int) = 1 := by omega
  have c2 : ¬ (Bl.length : Int) = 1 := by omega
  have w3 : IntKind.i64.wrap ((a : Int) + e) = ((a + e : Nat) : Int) := by rw [wrap_i64 _ (by omega) (by omega)]; omega
  have w4 : IntKind.u64.wrap ((a + e : Nat) : Int) = ((a + e : Nat) : Int) := wrap_u64 _ (by omega) (by omega)
  have w5 : Int.fdiv ((a + e : Nat) : Int) 2 = ((d : Nat) : Int) := by rw [half_fd, hd]
  have w6 : IntKind.i64.wrap ((d : Nat) : Int) = ((d : Nat) : Int) := wrap_i64 _ (by omega) (by omega)
  have w7 : IntKind.u64.wrap ((d : Nat) : Int) = ((d : Nat) : Int) := wrap_u64 _ (by omega) (by omega)
  have w8 : IntKind.i64.wrap ((d : Int) + m) = ((nn : Nat) : Int) := by rw [wrap_i64 _ (by omega) (by omega)]; omega
  have w9 : IntKind.i64.wrap ((nn : Int) - 1) = ((q : Nat) : Int) := by rw [wrap_i64 _ (by omega) (by omega)]; omega
  have hmin : Nat.min 1 IntKind.u64.bits = 1 := rfl
  have hloc : ((d : Int) < m ∧ IntKind.i64.wrap ((nn : Int) - e) = (lo : Int) ∧ hi = d) ∨ (¬ (d : Int) < m ∧ lo = a ∧ hi = m) := by
    rcases hlo with ⟨h1, h2, h3⟩ | ⟨h1, h2, h3⟩
    · exact .inl ⟨by omega, by rw [wrap_i64 _ (by omega) (by omega)]; omega, h3⟩
    · exact .inr ⟨by omega, h2, h3⟩
  have hf2 : n < n + 2 := by omega
  obtain ⟨D3, hD3⟩ : ∃ D3, P ++ srtS le (Al ++ Bl) ++ Q = D3 := ⟨_, rfl⟩
  rw [hD3] at hR ⊢
  refine evS_intro (n + 2) D52 rfl ?_
  generalize P ++ Al ++ Bl ++ Q = D at *
  generalize (Al.length : Int) = al at w1 c1
  generalize (Bl.length : Int) = bll at w2 c2
  generalize a + e = ae at w3 w4 w5
  clear hCut IH hO hl hSA hSB ha hm he hlen hd hnn hq hA2 hB2 hD3 hlo hen
  unfold c52
  simp [evCode, evOps, evOne, evOp, evPur, evEff, evPur.chunks, fillP, AOp.isEff, AO.ev, putP, PV.cells, PV.leaf, getB, getM, mapE, iterE, keyC, mapRows, mfind, eq1, eqL, scal, binP, unP, minP, maxP, foldP, PV.lt, PV.lt.ltL, endP, expoAll, expoG, expo, expo.expoL, frIds, frIds.frIdsL, nodupN, kill, cls, clsFuel, resO, RV.get, loadP, evC_p, evC_s, endS, endT, rowsOf, callP, thinL, unfr, unfr.unfrL, PV.noMem, PV.noMem.noMemL, optI, mapO, norm, trimT, trimB, forget, hasN, blksLt, List.set, softChk, softGo, softRd, effTg, rdP, w1, c1]
  unfold c52r4
  simp [evCode, evOps, evOne, evOp, evPur, evEff, evPur.chunks, fillP, AOp.isEff, AO.ev, putP, PV.cells, PV.leaf, getB, getM, mapE, iterE, keyC, mapRows, mfind, eq1, eqL, scal, binP, unP, minP, maxP, foldP, PV.lt, PV.lt.ltL, endP, expoAll, expoG, expo, expo.expoL, frIds, frIds.frIdsL, nodupN, kill, cls, clsFuel, resO, RV.get, loadP, evC_p, evC_s, endS, endT, rowsOf, callP, thinL, unfr, unfr.unfrL, PV.noMem, PV.noMem.noMemL, optI, mapO, norm, trimT, trimB, forget, hasN, blksLt, List.set, softChk, softGo, softRd, effTg, rdP, w2, c2]
  unfold c52r2
  rcases hloc with ⟨x1, x2, rfl⟩ | ⟨x1, rfl, rfl⟩
  · simp [evCode, evOps, evOne, evOp, evPur, evEff, evPur.chunks, fillP, AOp.isEff, AO.ev, putP, PV.cells, PV.leaf, getB, getM, mapE, iterE, keyC, mapRows, mfind, eq1, eqL, scal, binP, unP, minP, maxP, foldP, PV.lt, PV.lt.ltL, endP, expoAll, expoG, expo, expo.expoL, frIds, frIds.frIdsL, nodupN, kill, cls, clsFuel, resO, RV.get, loadP, evC_p, evC_s, endS, endT, rowsOf, callP, thinL, unfr, unfr.unfrL, PV.noMem, PV.noMem.noMemL, optI, mapO, norm, trimT, trimB, forget, hasN, blksLt, List.set, softChk, softGo, softRd, effTg, rdP, w3, w4, w5, w6, w7, w8, w9, hmin, x1, x2]
    rw [g0]
    generalize hE : evLoop (evCode (evC Dg) (n + 2) c52b0) [0, 1, 2, 3, 4, 18, 19, 20, 21, 22] L (n + 2) _ = E
    obtain ⟨p, h1, h2, h3, h4, rfl⟩ := hSr (n + 2) hf2 _ E hE (by simp [evCode, evOps, evOne, evOp, evPur, evEff, evPur.chunks, fillP, AOp.isEff, AO.ev, putP, PV.cells, PV.leaf, getB, getM, mapE, iterE, keyC, mapRows, mfind, eq1, eqL, scal, binP, unP, minP, maxP, foldP, PV.lt, PV.lt.ltL, endP, expoAll, expoG, expo, expo.expoL, frIds, frIds.frIdsL, nodupN, kill, cls, clsFuel, resO, RV.get, loadP, evC_p, evC_s, endS, endT, rowsOf, callP, thinL, unfr, unfr.unfrL, PV.noMem, PV.noMem.noMemL, optI, mapO, norm, trimT, trimB, forget, hasN, blksLt, List.set, softChk, softGo, softRd, effTg, rdP, CcS, g0, g3, g4, g5])
    obtain ⟨t, ht⟩ := hR p h1 h2 h3 h4 (n + 2)
    clear hE hSr hR
    simp [evCode, evOps, evOne, evOp, evPur, evEff, evPur.chunks, fillP, AOp.isEff, AO.ev, putP, PV.cells, PV.leaf, getB, getM, mapE, iterE, keyC, mapRows, mfind, eq1, eqL, scal, binP, unP, minP, maxP, foldP, PV.lt, PV.lt.ltL, endP, expoAll, expoG, expo, expo.expoL, frIds, frIds.frIdsL, nodupN, kill, cls, clsFuel, resO, RV.get, loadP, evC_p, evC_s, endS, endT, rowsOf, callP, thinL, unfr, unfr.unfrL, PV.noMem, PV.noMem.noMemL, optI, mapO, norm, trimT, trimB, forget, hasN, blksLt, List.set, softChk, softGo, softRd, effTg, rdP, ht, g0, g3, g4, g5]
  · simp [evCode, evOps, evOne, evOp, evPur, evEff, evPur.chunks, fillP, AOp.isEff, AO.ev, putP, PV.cells, PV.leaf, getB, getM, mapE, iterE, keyC, mapRows, mfind, eq1, eqL, scal, binP, unP, minP, maxP, foldP, PV.lt, PV.lt.ltL, endP, expoAll, expoG, expo, expo.expoL, frIds, frIds.frIdsL, nodupN, kill, cls, clsFuel, resO, RV.get, loadP, evC_p, evC_s, endS, endT, rowsOf, callP, thinL, unfr, unfr.unfrL, PV.noMem, PV.noMem.noMemL, optI, mapO, norm, trimT, trimB, forget, hasN, blksLt, List.set, softChk, softGo, softRd, effTg, rdP, w3, w4, w5, w6, w7, w8, w9, hmin, x1]
    rw [g0]
    generalize hE : evLoop (evCode (evC Dg) (n + 2) c52b0) [0, 1, 2, 3, 4, 18, 19, 20, 21, 22] L (n + 2) _ = E
    obtain ⟨p, h1, h2, h3, h4, rfl⟩ := hSr (n + 2) hf2 _ E hE (by simp [evCode, evOps, evOne, evOp, evPur, evEff, evPur.chunks, fillP, AOp.isEff, AO.ev, putP, PV.cells, PV.leaf, getB, getM, mapE, iterE, keyC, mapRows, mfind, eq1, eqL, scal, binP, unP, minP, maxP, foldP, PV.lt, PV.lt.ltL, endP, expoAll, expoG, expo, expo.expoL, frIds, frIds.frIdsL, nodupN, kill, cls, clsFuel, resO, RV.get, loadP, evC_p, evC_s, endS, endT, rowsOf, callP, thinL, unfr, unfr.unfrL, PV.noMem, PV.noMem.noMemL, optI, mapO, norm, trimT, trimB, forget, hasN, blksLt, List.set, softChk, softGo, softRd, effTg, rdP, CcS, g0, g3, g4, g5])
    obtain ⟨t, ht⟩ := hR p h1 h2 h3 h4 (n + 2)
    clear hE hSr hR
    simp [evCode, evOps, evOne, evOp, evPur, evEff, evPur.chunks, fillP, AOp.isEff, AO.ev, putP, PV.cells, PV.leaf, getB, getM, mapE, iterE, keyC, mapRows, mfind, eq1, eqL, scal, binP, unP, minP, maxP, foldP, PV.lt, PV.lt.ltL, endP, expoAll, expoG, expo, expo.expoL, frIds, frIds.frIdsL, nodupN, kill, cls, clsFuel, resO, RV.get, loadP, evC_p, evC_s, endS, endT, rowsOf, callP, thinL, unfr, unfr.unfrL, PV.noMem, PV.noMem.noMemL, optI, mapO, norm, trimT, trimB, forget, hasN, blksLt, List.set, softChk, softGo, softRd, effTg, rdP, ht, g0, g3, g4, g5]
theorem s52_all (hB : BB B b v L) (hC : Cmp g Ok le) (hn : n ≤ 1000000) : ∀ k, Sym B b v n g Ok le k
  | 0 => fun _ _ _ _ h => by omega
  | k + 1 => by
    have ih := s52_all hB hC hn k
    intro P Al Bl Q hk hA hB' hO hl hSA hSB a m e ha hm he hen
    by_cases h1 : Al.length = 1
    · obtain ⟨x, rfl⟩ := List.length_eq_one_iff.1 h1
      have u : P ++ [x] ++ Bl ++ Q = P ++ x :: (Bl ++ Q) := by simp
      rw [u] at hO hl ⊢
      exact s52_one hB hC hn P Bl Q x hO hl hSB a m e ha (by simpa using hm) he hen
    · by_cases h2 : Bl.length = 1
      · obtain ⟨x, rfl⟩ := List.length_eq_one_iff.1 h2
        have u : P ++ Al ++ [x] ++ Q = P ++ Al ++ x :: Q := by simp
        rw [u] at hO hl ⊢
        exact s52_last hB hC hn P Al Q x (by omega) hO hl hSA a m e ha hm (by simpa using he) hen
      · exact s52_gen hB hC hn P Al Bl Q (by omega) (by omega) hO hl hSA hSB a m e ha hm he hen (fun P' A' B' Q' hk' => ih P' A' B' Q' (by omega))
theorem s52 (hB : BB B b v L) (hC : Cmp g Ok le) (hn : n ≤ 1000000) (P Al Bl Q : List Rw) (hA : 0 < Al.length) (hB' : 0 < Bl.length) (hO : OkL Ok (P ++ Al ++ Bl ++ Q)) (hl : n ≤ (P ++ Al ++ Bl ++ Q).length) (hSA : Srt le Al) (hSB : Srt le Bl) (a m e : Nat) (ha : a = P.length) (hm : m = a + Al.length) (he : e = m + Bl.length) (hen : e ≤ n) :
    evS Dg 52 [.own b v 0 n, .int .i64 a, .int .i64 m, .int .i64 e, .fn g []] (B (P ++ Al ++ Bl ++ Q)) = some (.tup [], B (P ++ srtS le (Al ++ Bl) ++ Q)) :=
  s52_all hB hC hn _ P Al Bl Q (Nat.lt_succ_self _) hA hB' hO hl hSA hSB a m e ha hm he hen
end
end Go.Proofs.Ytalmhggbdfjalaa
