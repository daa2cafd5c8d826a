/- spans: gaps, Meet, Minus. -/
import Derived.Test.YtildbjepbnjbfaaSpD
namespace Go.Proofs.Ytildbjepbnjbfaa
open Go Go.RowKit
set_option linter.unusedVariables false
set_option linter.unusedSimpArgs false
set_option maxHeartbeats 8000000

theorem loop_stop {σ : Type} {body : St → Option Out} {keep : List Nat} {n0 : Nat} (S : σ → St) (μ : σ → Nat) (I : σ → Prop) (stop : σ → Prop)
    (h : ∀ x, I x → ¬ stop x → ∃ x' s', body (S x) = some (.normal s') ∧ norm keep n0 s' = S x' ∧ I x' ∧ μ x' < μ x) (hs : ∀ x, I x → stop x → ∀ s, body (S x) ≠ some (.normal s))
    {fuel : Nat} (x0 : σ) (hI0 : I x0) (hf : μ x0 < fuel) (s0 : St) (E : Option Out) (hE : evLoop body keep n0 fuel s0 = E) (h0 : norm keep n0 s0 = S x0) : ∃ x, I x ∧ stop x ∧ E = body (S x) := by
  subst hE
  induction fuel generalizing x0 s0 with
  | zero => omega
  | succ f ih =>
    by_cases hst : stop x0
    · refine ⟨x0, hI0, hst, ?_⟩
      rw [evLoop, h0]
      have := hs x0 hI0 hst
      split
      · rename_i s hb; exact absurd hb (this s)
      · rfl
    · obtain ⟨x', s', h1, h2, h3, h4⟩ := h x0 hI0 hst
      rw [evLoop, h0, h1]
      exact ih x' h3 (by omega) s' h2

def gapS (x : List Sp × Int) (s : Sp) : List Sp × Int := (x.1 ++ [(x.2, s.1)], s.2)
theorem gapS_fold : ∀ (l : List Sp) (x : List Sp × Int), (l.foldl gapS x).1 ++ [((l.foldl gapS x).2, MT)] = x.1 ++ gapF x.2 l
  | [], x => by simp [gapF]
  | s :: l, x => by
    rw [List.foldl_cons, gapS_fold l]
    simp [gapS, gapF]
def S33 (x : Bool) (l : List Sp) (k : Nat) (u : List Sp × Int) : St :=
  ⟨[.top, .top, .top, .own 1 u.1.length 0 u.1.length, .int .i64 u.2, .top, .top, eS x l, .int .i64 l.length, .int .i64 k] ++ List.replicate 18 .top,
    [some ⟨0, 2, true, []⟩, some ⟨u.1.length, 2, true, spRows u.1⟩]⟩
set_option maxRecDepth 100000 in
theorem f33 (x : Bool) (l : List Sp) (hl : l.length ≤ 1000) : evE Dg 33 [eS x l] = some (.fr 2 (spRows (gapF 0 l))) := by
  have e1 := spRows_len l
  have H1 := loop_foldE (body := evCode (evC Dg) (l.length + 1) c33b0) (keep := [3, 4, 7, 8, 9]) (n0 := 2) (fuel := l.length + 1) l (S33 x l) gapS (fun k u => u.1.length = k)
    (by
      intro k a u ha hk hv
      have hk' : (k : Int) < l.length := by omega
      have w1 := wrap_i64 ((k : Int) + 1) (by omega) (by omega)
      have r1 := spRows_get ha
      have g1 := spRows_got ha
      have e2 := spRows_len u.1
      have m1 : (u.1.length + 1) * 16 ≤ 140737488355328 := by omega
      have m2 : u.1.length + 1 ≤ 140737488355328 := by omega
      have e3 := spRows_app u.1 [(u.2, a.1)]
      have e4 : spRows [(u.2, a.1)] = [[.int .i64 u.2, .int .i64 a.1]] := rfl
      refine ⟨by simp [gapS]; omega, ?_⟩
      unfold c33b0
      simp [evCode, evOps, evOne, evOp, evPur, evEff, evPur.chunks, fillP, AOp.isEff, AO.ev, putP, PV.cells, PV.leaf, getB, getM, mapE, keyC, mapRows, mfind, eq1, eqL, scal, binP, unP, minP, maxP, foldP, PV.lt, PV.lt.ltL, endP, expoAll, expo, expo.expoL, frIds, frIds.frIdsL, nodupN, kill, cls, clsFuel, resO, RV.get, loadP, evC_p, evC_s, endS, endT, rowsOf, callP, thinL, unfr, unfr.unfrL, PV.noMem, PV.noMem.noMemL, optI, mapO, norm, trimT, trimB, forget, hasN, blksLt, List.set, S33, eS, e1, e2, r1, g1, hk, hk', w1, gapS, e3, e4, m1, m2])
    (by
      intro u hu s
      unfold c33b0
      simp [evCode, evOps, evOne, evOp, evPur, evEff, evPur.chunks, fillP, AOp.isEff, AO.ev, putP, PV.cells, PV.leaf, getB, getM, mapE, keyC, mapRows, mfind, eq1, eqL, scal, binP, unP, minP, maxP, foldP, PV.lt, PV.lt.ltL, endP, expoAll, expo, expo.expoL, frIds, frIds.frIdsL, nodupN, kill, cls, clsFuel, resO, RV.get, loadP, evC_p, evC_s, endS, endT, rowsOf, callP, thinL, unfr, unfr.unfrL, PV.noMem, PV.noMem.noMemL, optI, mapO, norm, trimT, trimB, forget, hasN, blksLt, List.set, S33, eS, e1])
    (by omega) ([], 0) (by simp)
  refine evE_intro (l.length + 1) D33 rfl ?_
  unfold c33
  simp [evCode, evOps, evOne, evOp, evPur, evEff, evPur.chunks, fillP, AOp.isEff, AO.ev, putP, PV.cells, PV.leaf, getB, getM, mapE, keyC, mapRows, mfind, eq1, eqL, scal, binP, unP, minP, maxP, foldP, PV.lt, PV.lt.ltL, endP, expoAll, expo, expo.expoL, frIds, frIds.frIdsL, nodupN, kill, cls, clsFuel, resO, RV.get, loadP, evC_p, evC_s, endS, endT, rowsOf, callP, thinL, unfr, unfr.unfrL, PV.noMem, PV.noMem.noMemL, optI, mapO, norm, trimT, trimB, forget, hasN, blksLt, List.set, eS, e1]
  generalize hE : evLoop _ _ _ _ _ = E
  obtain ⟨E1, hlen⟩ := H1 _ _ hE (by simp [evCode, evOps, evOne, evOp, evPur, evEff, evPur.chunks, fillP, AOp.isEff, AO.ev, putP, PV.cells, PV.leaf, getB, getM, mapE, keyC, mapRows, mfind, eq1, eqL, scal, binP, unP, minP, maxP, foldP, PV.lt, PV.lt.ltL, endP, expoAll, expo, expo.expoL, frIds, frIds.frIdsL, nodupN, kill, cls, clsFuel, resO, RV.get, loadP, evC_p, evC_s, endS, endT, rowsOf, callP, thinL, unfr, unfr.unfrL, PV.noMem, PV.noMem.noMemL, optI, mapO, norm, trimT, trimB, forget, hasN, blksLt, List.set, S33, eS, spRows_nil])
  have key := gapS_fold l ([], 0)
  rw [E1]
  clear hE E1 H1
  generalize List.foldl gapS ([], 0) l = u at *
  simp only [List.nil_append] at key
  rw [← key, spRows_app]
  have e2 := spRows_len u.1
  have m1 : (u.1.length + 1) * 16 ≤ 140737488355328 := by omega
  have m2 : u.1.length + 1 ≤ 140737488355328 := by omega
  have e4 : spRows [(u.2, MT)] = [[.int .i64 u.2, .int .i64 1000000000000]] := rfl
  rw [e4]
  unfold c33b0
  simp [evCode, evOps, evOne, evOp, evPur, evEff, evPur.chunks, fillP, AOp.isEff, AO.ev, putP, PV.cells, PV.leaf, getB, getM, mapE, keyC, mapRows, mfind, eq1, eqL, scal, binP, unP, minP, maxP, foldP, PV.lt, PV.lt.ltL, endP, expoAll, expo, expo.expoL, frIds, frIds.frIdsL, nodupN, kill, cls, clsFuel, resO, RV.get, loadP, evC_p, evC_s, endS, endT, rowsOf, callP, thinL, unfr, unfr.unfrL, PV.noMem, PV.noMem.noMemL, optI, mapO, norm, trimT, trimB, forget, hasN, blksLt, List.set, S33, eS, e1, e2, m1, m2]

def S22 (u : List Sp × List Sp × List Sp) : St :=
  ⟨[eS false u.1, eS false u.2.1, .top, .top, .top, .own 1 u.2.2.length 0 u.2.2.length] ++ List.replicate 55 .top,
    [some ⟨0, 2, true, []⟩, some ⟨u.2.2.length, 2, true, spRows u.2.2⟩]⟩
theorem spRows_cons (s : Sp) (l : List Sp) : spRows (s :: l) = [.int .i64 s.1, .int .i64 s.2] :: spRows l := rfl
theorem meetF_nil1 : ∀ n b, meetF n [] b = []
  | 0, _ => rfl
  | n + 1, _ => by unfold meetF; rfl
theorem meetF_nil2 : ∀ n a, meetF n a [] = []
  | 0, _ => rfl
  | n + 1, [] => by unfold meetF; rfl
  | n + 1, x :: a => by unfold meetF; rfl
set_option maxRecDepth 100000 in
theorem meet22 (A B : List Sp) (hA : A.length ≤ 2000) (hB : B.length ≤ 2000) (E : Option Out) (s0 : St) (hE : evLoop (evCode (evC Dg) 4001 c22b0) [0, 1, 5] 2 4001 s0 = E) (h0 : norm [0, 1, 5] 2 s0 = S22 (A, B, [])) :
    ∃ a b, (a = [] ∨ b = []) ∧ E = evCode (evC Dg) 4001 c22b0 (S22 (a, b, meetF (A.length + B.length) A B)) := by
  obtain ⟨R, hR⟩ := ex_eq (meetF (A.length + B.length) A B)
  have H := loop_stop (body := evCode (evC Dg) 4001 c22b0) (keep := [0, 1, 5]) (n0 := 2) (fuel := 4001) S22 (fun u => u.1.length + u.2.1.length) (fun u => u.2.2.length + u.1.length + u.2.1.length ≤ 4000 ∧ ∃ n, u.1.length + u.2.1.length ≤ n ∧ u.2.2 ++ meetF n u.1 u.2.1 = R) (fun u => u.1 = [] ∨ u.2.1 = [])
    (by
      rintro ⟨a, b, r⟩ ⟨hlen, n, hn, hm⟩ hs
      simp only at hlen hn hm hs
      cases a with
      | nil => exact absurd (.inl rfl) hs
      | cons x a => cases b with
        | nil => exact absurd (.inr rfl) hs
        | cons y b =>
          clear hs
          simp only [List.length_cons] at hlen hn
          obtain ⟨n, rfl⟩ : ∃ m, n = m + 1 := ⟨n - 1, by omega⟩
          unfold meetF at hm
          have ea := spRows_len a
          have eb := spRows_len b
          have er := spRows_len r
          have ca := spRows_cons x a
          have cb := spRows_cons y b
          have m1 : (r.length + 1) * 16 ≤ 140737488355328 := by omega
          have m2 : r.length + 1 ≤ 140737488355328 := by omega
          have p1 : (0 : Int) < a.length + 1 := by omega
          have p2 : (0 : Int) < b.length + 1 := by omega
          have p3 : (1 : Int) ≤ a.length + 1 := by omega
          have p4 : (1 : Int) ≤ b.length + 1 := by omega
          have t1 : ((a.length : Int) + 1).toNat = a.length + 1 := by omega
          have t2 : ((b.length : Int) + 1).toNat = b.length + 1 := by omega
          have k1 : List.take a.length (spRows a) = spRows a := by rw [← ea, List.take_length]
          have k2 : List.take b.length (spRows b) = spRows b := by rw [← eb, List.take_length]
          simp only at hm
          obtain ⟨f, hf⟩ := ex_eq (if x.1 < y.1 then y.1 else x.1)
          obtain ⟨t, ht⟩ := ex_eq (if y.2 < x.2 then y.2 else x.2)
          rw [hf, ht] at hm
          have q3 := spRows_app r [(f, t)]
          have q4 : spRows [(f, t)] = [[.int .i64 f, .int .i64 t]] := rfl
          by_cases c1 : x.2 < y.2
          · rw [if_pos c1] at hm
            by_cases c2 : f < t
            · rw [if_pos c2] at hm
              refine ⟨(a, y :: b, r ++ [(f, t)]), ?_⟩
              unfold c22b0
              simp [evCode, evOps, evOne, evOp, evPur, evEff, evPur.chunks, fillP, AOp.isEff, AO.ev, putP, PV.cells, PV.leaf, getB, getM, mapE, keyC, mapRows, mfind, eq1, eqL, scal, binP, unP, minP, maxP, foldP, PV.lt, PV.lt.ltL, endP, expoAll, expo, expo.expoL, frIds, frIds.frIdsL, nodupN, kill, cls, clsFuel, resO, RV.get, loadP, evC_p, evC_s, endS, endT, rowsOf, callP, thinL, unfr, unfr.unfrL, PV.noMem, PV.noMem.noMemL, optI, mapO, norm, trimT, trimB, forget, hasN, blksLt, List.set, S22, eS, ea, eb, er, ca, cb, m1, m2, p1, p2, p3, p4, t1, t2, k1, k2, hf, ht, q3, q4, c1, c2]
              first | exact ⟨by omega, n, by omega, by simpa using hm⟩ | exact ⟨by omega, ⟨n, by omega, by simpa using hm⟩, by omega⟩
            · rw [if_neg c2] at hm
              refine ⟨(a, y :: b, r), ?_⟩
              unfold c22b0
              simp [evCode, evOps, evOne, evOp, evPur, evEff, evPur.chunks, fillP, AOp.isEff, AO.ev, putP, PV.cells, PV.leaf, getB, getM, mapE, keyC, mapRows, mfind, eq1, eqL, scal, binP, unP, minP, maxP, foldP, PV.lt, PV.lt.ltL, endP, expoAll, expo, expo.expoL, frIds, frIds.frIdsL, nodupN, kill, cls, clsFuel, resO, RV.get, loadP, evC_p, evC_s, endS, endT, rowsOf, callP, thinL, unfr, unfr.unfrL, PV.noMem, PV.noMem.noMemL, optI, mapO, norm, trimT, trimB, forget, hasN, blksLt, List.set, S22, eS, ea, eb, er, ca, cb, m1, m2, p1, p2, p3, p4, t1, t2, k1, k2, hf, ht, q3, q4, c1, c2]
              first | exact ⟨by omega, n, by omega, by simpa using hm⟩ | exact ⟨by omega, ⟨n, by omega, by simpa using hm⟩, by omega⟩
          · rw [if_neg c1] at hm
            by_cases c2 : f < t
            · rw [if_pos c2] at hm
              refine ⟨(x :: a, b, r ++ [(f, t)]), ?_⟩
              unfold c22b0
              simp [evCode, evOps, evOne, evOp, evPur, evEff, evPur.chunks, fillP, AOp.isEff, AO.ev, putP, PV.cells, PV.leaf, getB, getM, mapE, keyC, mapRows, mfind, eq1, eqL, scal, binP, unP, minP, maxP, foldP, PV.lt, PV.lt.ltL, endP, expoAll, expo, expo.expoL, frIds, frIds.frIdsL, nodupN, kill, cls, clsFuel, resO, RV.get, loadP, evC_p, evC_s, endS, endT, rowsOf, callP, thinL, unfr, unfr.unfrL, PV.noMem, PV.noMem.noMemL, optI, mapO, norm, trimT, trimB, forget, hasN, blksLt, List.set, S22, eS, ea, eb, er, ca, cb, m1, m2, p1, p2, p3, p4, t1, t2, k1, k2, hf, ht, q3, q4, c1, c2]
              first | exact ⟨by omega, n, by omega, by simpa using hm⟩ | exact ⟨by omega, ⟨n, by omega, by simpa using hm⟩, by omega⟩
            · rw [if_neg c2] at hm
              refine ⟨(x :: a, b, r), ?_⟩
              unfold c22b0
              simp [evCode, evOps, evOne, evOp, evPur, evEff, evPur.chunks, fillP, AOp.isEff, AO.ev, putP, PV.cells, PV.leaf, getB, getM, mapE, keyC, mapRows, mfind, eq1, eqL, scal, binP, unP, minP, maxP, foldP, PV.lt, PV.lt.ltL, endP, expoAll, expo, expo.expoL, frIds, frIds.frIdsL, nodupN, kill, cls, clsFuel, resO, RV.get, loadP, evC_p, evC_s, endS, endT, rowsOf, callP, thinL, unfr, unfr.unfrL, PV.noMem, PV.noMem.noMemL, optI, mapO, norm, trimT, trimB, forget, hasN, blksLt, List.set, S22, eS, ea, eb, er, ca, cb, m1, m2, p1, p2, p3, p4, t1, t2, k1, k2, hf, ht, q3, q4, c1, c2]
              first | exact ⟨by omega, n, by omega, by simpa using hm⟩ | exact ⟨by omega, ⟨n, by omega, by simpa using hm⟩, by omega⟩)
    (by
      rintro ⟨a, b, r⟩ _ hs s
      simp only at hs
      rcases hs with rfl | rfl
      · unfold c22b0
        simp [evCode, evOps, evOne, evOp, evPur, evEff, evPur.chunks, fillP, AOp.isEff, AO.ev, putP, PV.cells, PV.leaf, getB, getM, mapE, keyC, mapRows, mfind, eq1, eqL, scal, binP, unP, minP, maxP, foldP, PV.lt, PV.lt.ltL, endP, expoAll, expo, expo.expoL, frIds, frIds.frIdsL, nodupN, kill, cls, clsFuel, resO, RV.get, loadP, evC_p, evC_s, endS, endT, rowsOf, callP, thinL, unfr, unfr.unfrL, PV.noMem, PV.noMem.noMemL, optI, mapO, norm, trimT, trimB, forget, hasN, blksLt, List.set, S22, eS, spRows_nil]
      · have ea := spRows_len a
        unfold c22b0
        by_cases c : (0 : Int) < a.length
        · have c' : 0 < a.length := by omega
          simp [evCode, evOps, evOne, evOp, evPur, evEff, evPur.chunks, fillP, AOp.isEff, AO.ev, putP, PV.cells, PV.leaf, getB, getM, mapE, keyC, mapRows, mfind, eq1, eqL, scal, binP, unP, minP, maxP, foldP, PV.lt, PV.lt.ltL, endP, expoAll, expo, expo.expoL, frIds, frIds.frIdsL, nodupN, kill, cls, clsFuel, resO, RV.get, loadP, evC_p, evC_s, endS, endT, rowsOf, callP, thinL, unfr, unfr.unfrL, PV.noMem, PV.noMem.noMemL, optI, mapO, norm, trimT, trimB, forget, hasN, blksLt, List.set, S22, eS, spRows_nil, ea, c, c']
        · have c' : ¬ 0 < a.length := by omega
          simp [evCode, evOps, evOne, evOp, evPur, evEff, evPur.chunks, fillP, AOp.isEff, AO.ev, putP, PV.cells, PV.leaf, getB, getM, mapE, keyC, mapRows, mfind, eq1, eqL, scal, binP, unP, minP, maxP, foldP, PV.lt, PV.lt.ltL, endP, expoAll, expo, expo.expoL, frIds, frIds.frIdsL, nodupN, kill, cls, clsFuel, resO, RV.get, loadP, evC_p, evC_s, endS, endT, rowsOf, callP, thinL, unfr, unfr.unfrL, PV.noMem, PV.noMem.noMemL, optI, mapO, norm, trimT, trimB, forget, hasN, blksLt, List.set, S22, eS, spRows_nil, ea, c, c'])
    (A, B, []) ⟨by simp only [List.length_nil]; omega, _, Nat.le_refl _, by simpa using hR⟩ (by simp only; omega) s0 E hE h0
  obtain ⟨⟨a, b, r⟩, ⟨_, n, _, hm⟩, hs, h⟩ := H
  simp only at hm hs h
  refine ⟨a, b, hs, ?_⟩
  have : r = R := by
    rcases hs with rfl | rfl
    · rw [meetF_nil1] at hm; simpa using hm
    · rw [meetF_nil2] at hm; simpa using hm
  rw [h, hR, this]
def meeF (a b : List Sp) : List Sp := meetF ((norF a).length + (norF b).length) (norF a) (norF b)
theorem meeF_spec (a b : List Sp) : Nrm (meeF a b) ∧ ∀ t, inS t (meeF a b) ↔ setOf t a ∧ setOf t b := by
  obtain ⟨a1, a2⟩ := norF_spec a
  obtain ⟨b1, b2⟩ := norF_spec b
  obtain ⟨h1, h2, _⟩ := meetF_spec _ (norF a) (norF b) (Nat.le_refl _) a1 b1
  exact ⟨h1, fun t => by unfold meeF; rw [h2, a2, b2]⟩
theorem meetF_len : ∀ n a b, (meetF n a b).length ≤ n
  | 0, a, b => by simp [meetF]
  | n + 1, [], b => by simp [meetF]
  | n + 1, x :: a, [] => by simp [meetF]
  | n + 1, x :: a, y :: b => by
    have h1 := meetF_len n a (y :: b)
    have h2 := meetF_len n (x :: a) b
    unfold meetF
    simp only
    have h3 : (if x.2 < y.2 then meetF n a (y :: b) else meetF n (x :: a) b).length ≤ n := by split <;> assumption
    generalize (if x.2 < y.2 then meetF n a (y :: b) else meetF n (x :: a) b) = r at h3 ⊢
    have : ∀ (c : Prop) [Decidable c] (s : Sp), (if c then s :: r else r).length ≤ n + 1 := fun c _ s => by
      split
      · simp only [List.length_cons]; omega
      · omega
    exact this _ _
theorem meeF_len (a b : List Sp) : (meeF a b).length ≤ a.length + b.length := by
  have := meetF_len ((norF a).length + (norF b).length) (norF a) (norF b)
  have := norF_len a
  have := norF_len b
  unfold meeF
  omega
set_option maxRecDepth 100000 in
theorem f22 (x y : Bool) (a b : List Sp) (ha : a.length ≤ 1000) (hb : b.length ≤ 1000) : evE Dg 22 [eS x a, eS y b] = some (.fr 2 (spRows (meeF a b))) := by
  have fa := f14 x a ha
  have fb := f14 y b hb
  have la := norF_len a
  have lb := norF_len b
  obtain ⟨A, hA⟩ := ex_eq (norF a)
  obtain ⟨B, hB⟩ := ex_eq (norF b)
  unfold meeF
  rw [hA] at fa la ⊢
  rw [hB] at fb lb ⊢
  simp only [eS] at fa fb
  have T := meet22 A B (by omega) (by omega)
  generalize meetF (A.length + B.length) A B = R at T ⊢
  have eR := spRows_len R
  refine evE_intro 4001 D22 rfl ?_
  unfold c22
  simp [evCode, evOps, evOne, evOp, evPur, evEff, evPur.chunks, fillP, AOp.isEff, AO.ev, putP, PV.cells, PV.leaf, getB, getM, mapE, keyC, mapRows, mfind, eq1, eqL, scal, binP, unP, minP, maxP, foldP, PV.lt, PV.lt.ltL, endP, expoAll, expo, expo.expoL, frIds, frIds.frIdsL, nodupN, kill, cls, clsFuel, resO, RV.get, loadP, evC_p, evC_s, endS, endT, rowsOf, callP, thinL, unfr, unfr.unfrL, PV.noMem, PV.noMem.noMemL, optI, mapO, norm, trimT, trimB, forget, hasN, blksLt, List.set, eS, fa, fb]
  generalize hE : evLoop _ _ _ _ _ = E
  obtain ⟨p, q, hs, h⟩ := T _ _ hE (by simp [evCode, evOps, evOne, evOp, evPur, evEff, evPur.chunks, fillP, AOp.isEff, AO.ev, putP, PV.cells, PV.leaf, getB, getM, mapE, keyC, mapRows, mfind, eq1, eqL, scal, binP, unP, minP, maxP, foldP, PV.lt, PV.lt.ltL, endP, expoAll, expo, expo.expoL, frIds, frIds.frIdsL, nodupN, kill, cls, clsFuel, resO, RV.get, loadP, evC_p, evC_s, endS, endT, rowsOf, callP, thinL, unfr, unfr.unfrL, PV.noMem, PV.noMem.noMemL, optI, mapO, norm, trimT, trimB, forget, hasN, blksLt, List.set, S22, eS, spRows_nil])
  rw [h]
  clear hE h
  rcases hs with rfl | rfl
  · unfold c22b0
    simp [evCode, evOps, evOne, evOp, evPur, evEff, evPur.chunks, fillP, AOp.isEff, AO.ev, putP, PV.cells, PV.leaf, getB, getM, mapE, keyC, mapRows, mfind, eq1, eqL, scal, binP, unP, minP, maxP, foldP, PV.lt, PV.lt.ltL, endP, expoAll, expo, expo.expoL, frIds, frIds.frIdsL, nodupN, kill, cls, clsFuel, resO, RV.get, loadP, evC_p, evC_s, endS, endT, rowsOf, callP, thinL, unfr, unfr.unfrL, PV.noMem, PV.noMem.noMemL, optI, mapO, norm, trimT, trimB, forget, hasN, blksLt, List.set, S22, eS, spRows_nil, eR]
  · have ep := spRows_len p
    unfold c22b0
    by_cases c : (0 : Int) < p.length
    · have c' : 0 < p.length := by omega
      simp [evCode, evOps, evOne, evOp, evPur, evEff, evPur.chunks, fillP, AOp.isEff, AO.ev, putP, PV.cells, PV.leaf, getB, getM, mapE, keyC, mapRows, mfind, eq1, eqL, scal, binP, unP, minP, maxP, foldP, PV.lt, PV.lt.ltL, endP, expoAll, expo, expo.expoL, frIds, frIds.frIdsL, nodupN, kill, cls, clsFuel, resO, RV.get, loadP, evC_p, evC_s, endS, endT, rowsOf, callP, thinL, unfr, unfr.unfrL, PV.noMem, PV.noMem.noMemL, optI, mapO, norm, trimT, trimB, forget, hasN, blksLt, List.set, S22, eS, spRows_nil, ep, c, c', eR]
    · have c' : ¬ 0 < p.length := by omega
      simp [evCode, evOps, evOne, evOp, evPur, evEff, evPur.chunks, fillP, AOp.isEff, AO.ev, putP, PV.cells, PV.leaf, getB, getM, mapE, keyC, mapRows, mfind, eq1, eqL, scal, binP, unP, minP, maxP, foldP, PV.lt, PV.lt.ltL, endP, expoAll, expo, expo.expoL, frIds, frIds.frIdsL, nodupN, kill, cls, clsFuel, resO, RV.get, loadP, evC_p, evC_s, endS, endT, rowsOf, callP, thinL, unfr, unfr.unfrL, PV.noMem, PV.noMem.noMemL, optI, mapO, norm, trimT, trimB, forget, hasN, blksLt, List.set, S22, eS, spRows_nil, ep, c, c', eR]

def minF (a b : List Sp) : List Sp := meeF a (gapF 0 (norF b))
theorem minF_spec (a b : List Sp) : Nrm (minF a b) ∧ ∀ t, inS t (minF a b) ↔ setOf t a ∧ ¬ setOf t b := by
  obtain ⟨h1, h2⟩ := meeF_spec a (gapF 0 (norF b))
  obtain ⟨b1, b2⟩ := norF_spec b
  refine ⟨h1, fun t => ?_⟩
  unfold minF
  rw [h2, gapF_spec (norF b) 0 (by omega) (by unfold MT; omega) b1 (fun s hs => (b1.1 s hs).1) t, b2]
  constructor
  · rintro ⟨q1, _, _, q2⟩; exact ⟨q1, q2⟩
  · rintro ⟨⟨s, hs, hv, q1, q2⟩, q3⟩
    unfold vl at hv
    exact ⟨⟨s, hs, hv, q1, q2⟩, by omega, by omega, q3⟩
theorem gapF_len : ∀ f l, (gapF f l).length = l.length + 1
  | _, [] => rfl
  | _, s :: l => by unfold gapF; simp [gapF_len]
theorem minF_len (a b : List Sp) : (minF a b).length ≤ a.length + b.length + 1 := by
  have := meeF_len a (gapF 0 (norF b))
  have := norF_len b
  unfold minF
  rw [gapF_len] at *
  omega
theorem f24 (x y : Bool) (a b : List Sp) (ha : a.length ≤ 900) (hb : b.length ≤ 900) : evE Dg 24 [eS x a, eS y b] = some (eS false (minF a b)) := by
  have fb := f14 y b (by omega)
  have lb := norF_len b
  have fg := f33 false (norF b) (by omega)
  have fm := f22 x false a (gapF 0 (norF b)) (by omega) (by rw [gapF_len]; omega)
  unfold minF
  generalize norF b = B at *
  generalize gapF 0 B = G at *
  generalize meeF a G = M at *
  simp only [eS] at fb fg fm
  have eM := spRows_len M
  refine evE_intro 5 D24 rfl ?_
  unfold c24
  simp [evCode, evOps, evOne, evOp, evPur, evEff, evPur.chunks, fillP, AOp.isEff, AO.ev, putP, PV.cells, PV.leaf, getB, getM, mapE, keyC, mapRows, mfind, eq1, eqL, scal, binP, unP, minP, maxP, foldP, PV.lt, PV.lt.ltL, endP, expoAll, expo, expo.expoL, frIds, frIds.frIdsL, nodupN, kill, cls, clsFuel, resO, RV.get, loadP, evC_p, evC_s, endS, endT, rowsOf, callP, thinL, unfr, unfr.unfrL, PV.noMem, PV.noMem.noMemL, optI, mapO, norm, trimT, trimB, forget, hasN, blksLt, List.set, eS, fb, fg, fm, eM]
end Go.Proofs.Ytildbjepbnjbfaa
