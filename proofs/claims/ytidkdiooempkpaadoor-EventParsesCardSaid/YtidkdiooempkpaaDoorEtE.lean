/- event: the reference's numbers and Check. -/
-- LATT
-- BIG
import Derived.Test.YtidkdiooempkpaaDoorEtD
namespace Go.Proofs.YtidkdiooempkpaaDoor
open Go Go.RowKit
attribute [local simp] evCode evOps evOne evOp evPur evEff evPur.chunks fillP AOp.isEff AO.ev putP PV.cells PV.leaf getB getM mapE iterE keyC mapRows mfind eq1 eqL scal binP unP minP maxP foldP PV.lt PV.lt.ltL endP expoAll expoG expo expo.expoL frIds frIds.frIdsL nodupN kill cls clsFuel resO RV.get loadP evC_p evC_s endS endT rowsOf callP thinL unfr unfr.unfrL PV.noMem PV.noMem.noMemL optI mapO norm trimT trimB forget hasN blksLt List.set softChk softGo softRd effTg tgOf chgN sameB PV.same PV.same.sameL PV.same.sameLL rdP
set_option linter.unusedVariables false
set_option linter.unusedSimpArgs false
set_option maxHeartbeats 4000000
set_option maxRecDepth 100000

theorem f28_k (a k n m : Int) (nm : List UInt8) (S : List (List PV)) (h1 : ¬ k < 1) (h2 : ¬ 12 < k) (hb : kB k = false → n = 0) (hc : kC k = false → m = 0) :
    evE Dg 28 [.agg [.int .i64 a, .int .i64 k, .str nm, .int .i64 n, .int .i64 m, .sl false 1 S]] = some (.int .i64 (numV ⟨a, k, nm, n, m, []⟩)) := by
  have w1 := f44 n (-1000000000000000) 1000000000000000
  have w2 := f44 n 1 1000000000000
  have w3 := f44 n 0 63
  have w4 := f44 n 0 3
  have w5 := f44 n 0 1000000000000000
  have m1 := f44 m 0 1000000000000000
  have m2 := f44 m 1 1000000000000
  unfold numV
  rcases kinds h1 h2 with rfl | rfl | rfl | rfl | rfl | rfl | rfl | rfl | rfl | rfl | rfl | rfl
  · obtain rfl := hb rfl
    obtain rfl := hc rfl
    refine evE_intro 1 D28 rfl ?_
    unfold c28
    simp (maxSteps := 100000000) [kLo, kHi, kC, mE, uM, wE]
  · obtain rfl := hb rfl
    obtain rfl := hc rfl
    refine evE_intro 1 D28 rfl ?_
    unfold c28
    simp (maxSteps := 100000000) [kLo, kHi, kC, mE, uM, wE]
  · obtain rfl := hb rfl
    obtain rfl := hc rfl
    refine evE_intro 1 D28 rfl ?_
    unfold c28
    simp (maxSteps := 100000000) [kLo, kHi, kC, mE, uM, wE]
  · obtain rfl := hc rfl
    generalize hq : wE n (-1000000000000000) 1000000000000000 = q at *
    refine evE_intro 1 D28 rfl ?_
    unfold c28
    by_cases q0 : q = 0
    · simp (maxSteps := 100000000) [kLo, kHi, kC, mE, uM, w1, hq, q0]
    · simp (maxSteps := 100000000) [kLo, kHi, kC, mE, uM, w1, hq, q0]
  · obtain rfl := hc rfl
    generalize hq : wE n 1 1000000000000 = q at *
    refine evE_intro 1 D28 rfl ?_
    unfold c28
    by_cases q0 : q = 0
    · simp (maxSteps := 100000000) [kLo, kHi, kC, mE, uM, w2, hq, q0]
    · simp (maxSteps := 100000000) [kLo, kHi, kC, mE, uM, w2, hq, q0]
  · obtain rfl := hc rfl
    generalize hq : wE n 0 1000000000000000 = q at *
    refine evE_intro 1 D28 rfl ?_
    unfold c28
    by_cases q0 : q = 0
    · simp (maxSteps := 100000000) [kLo, kHi, kC, mE, uM, w5, hq, q0]
    · simp (maxSteps := 100000000) [kLo, kHi, kC, mE, uM, w5, hq, q0]
  · obtain rfl := hc rfl
    generalize hq : wE n 0 1000000000000000 = q at *
    refine evE_intro 1 D28 rfl ?_
    unfold c28
    by_cases q0 : q = 0
    · simp (maxSteps := 100000000) [kLo, kHi, kC, mE, uM, w5, hq, q0]
    · simp (maxSteps := 100000000) [kLo, kHi, kC, mE, uM, w5, hq, q0]
  · obtain rfl := hc rfl
    generalize hq : wE n 0 63 = q at *
    refine evE_intro 1 D28 rfl ?_
    unfold c28
    by_cases q0 : q = 0
    · simp (maxSteps := 100000000) [kLo, kHi, kC, mE, uM, w3, hq, q0]
    · simp (maxSteps := 100000000) [kLo, kHi, kC, mE, uM, w3, hq, q0]
  · generalize hq : wE n 0 3 = q at *
    generalize hp : wE m 0 1000000000000000 = p at *
    refine evE_intro 1 D28 rfl ?_
    unfold c28
    by_cases q0 : q = 0
    · by_cases n2 : n = 2
      · subst n2
        simp (maxSteps := 100000000) [kLo, kHi, kC, mE, uM, w4, hq, q0, m1, hp]
      · by_cases m0 : m = 0
        · simp (maxSteps := 100000000) [kLo, kHi, kC, mE, uM, w4, hq, q0, n2, eq_true m0]
        · simp (maxSteps := 100000000) [kLo, kHi, kC, mE, uM, w4, hq, q0, n2, m0]
    · simp (maxSteps := 100000000) [kLo, kHi, kC, mE, uM, w4, hq, q0]
  · obtain rfl := hc rfl
    generalize hq : wE n 0 1000000000000000 = q at *
    refine evE_intro 1 D28 rfl ?_
    unfold c28
    by_cases q0 : q = 0
    · simp (maxSteps := 100000000) [kLo, kHi, kC, mE, uM, w5, hq, q0]
    · simp (maxSteps := 100000000) [kLo, kHi, kC, mE, uM, w5, hq, q0]
  · generalize hq : wE n 0 1000000000000000 = q at *
    generalize hp : wE m 1 1000000000000 = p at *
    refine evE_intro 1 D28 rfl ?_
    unfold c28
    by_cases q0 : q = 0
    · simp (maxSteps := 100000000) [kLo, kHi, kC, mE, uM, w5, hq, q0, m2, hp]
    · simp (maxSteps := 100000000) [kLo, kHi, kC, mE, uM, w5, hq, q0]
  · obtain rfl := hc rfl
    generalize hq : wE n 0 1000000000000000 = q at *
    refine evE_intro 1 D28 rfl ?_
    unfold c28
    by_cases q0 : q = 0
    · simp (maxSteps := 100000000) [kLo, kHi, kC, mE, uM, w5, hq, q0]
    · simp (maxSteps := 100000000) [kLo, kHi, kC, mE, uM, w5, hq, q0]
theorem chk77 {a b c d : Bool} {e : Ev} (h : chkC a b c d e 77 = 77) : (b = false → e.n = 0) ∧ (c = false → e.m = 0) := by
  have hfr : ∀ l, framesE l ≠ 77 := fun l => by unfold framesE; split <;> (try split) <;> decide
  unfold chkC at h
  split at h
  · cases h
  · rename_i hn
    constructor
    · intro hb
      apply Decidable.byContradiction
      intro h0
      exact hn (.inr (.inl ⟨hb, h0⟩))
    · intro hc
      apply Decidable.byContradiction
      intro h0
      exact hn (.inr (.inr (.inl ⟨hc, h0⟩)))
theorem f12 (e : Ev) : evE Dg 12 [eE e] = some (.int .i64 (errV e)) := by
  unfold errV
  by_cases ha : e.at_ < 0 ∨ 1000000000000 < e.at_
  · rw [if_pos ha]; exact f12_at e ha
  · have h1 : ¬ e.at_ < 0 := fun h => ha (.inl h)
    have h2 : ¬ 1000000000000 < e.at_ := fun h => ha (.inr h)
    rw [if_neg ha]
    by_cases hk : e.k < 1 ∨ 12 < e.k
    · rw [if_pos hk]; exact f12_k e h1 h2 hk
    · have k1 : ¬ e.k < 1 := fun h => hk (.inl h)
      have k2 : ¬ 12 < e.k := fun h => hk (.inr h)
      rw [if_neg hk]
      have h25 := f25 e.k
      have h28 : chkC (kA e.k) (kB e.k) (kC e.k) (kD e.k) e 77 = 77 → evE Dg 28 [eE e] = some (.int .i64 (numV e)) := fun h => by
        obtain ⟨hb, hc⟩ := chk77 h
        exact f28_k e.at_ e.k e.n e.m e.name _ k1 k2 hb hc
      rcases combo k1 k2 with ⟨a, b, c, d⟩ | ⟨a, b, c, d⟩ | ⟨a, b, c, d⟩ | ⟨a, b, c, d⟩ | ⟨a, b, c, d⟩ | ⟨a, b, c, d⟩ | ⟨a, b, c, d⟩ <;> rw [a, b, c, d] at h25 h28 ⊢
      · exact f12_0 e h1 h2 k1 k2 h25 _ h28
      · exact f12_1 e h1 h2 k1 k2 h25 _ h28
      · exact f12_2 e h1 h2 k1 k2 h25 _ h28
      · exact f12_3 e h1 h2 k1 k2 h25 _ h28
      · exact f12_4 e h1 h2 k1 k2 h25 _ h28
      · exact f12_5 e h1 h2 k1 k2 h25 _ h28
      · exact f12_6 e h1 h2 k1 k2 h25 _ h28
end Go.Proofs.YtidkdiooempkpaaDoor
