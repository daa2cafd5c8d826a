/- event: Check of both. -/
-- LATT
import Derived.Test.YtidkdiooempkpaaDoorEtB0
import Derived.Test.YtidkdiooempkpaaDoorEtB1
import Derived.Test.YtidkdiooempkpaaDoorEtB2
import Derived.Test.YtidkdiooempkpaaDoorEtB3
import Derived.Test.YtidkdiooempkpaaDoorEtB4
import Derived.Test.YtidkdiooempkpaaDoorEtB5
import Derived.Test.YtidkdiooempkpaaDoorEtB6
import Derived.Test.YtidkdiooempkpaaDoorEtCC
namespace Go.Proofs.YtidkdiooempkpaaDoor
open Go Go.RowKit
attribute [local simp] evCode evOps evOne evOp evPur evEff evPur.chunks fillP AOp.isEff AO.ev putP PV.cells PV.leaf getB getM mapE iterE keyC mapRows mfind eq1 eqL scal binP unP minP maxP foldP PV.lt PV.lt.ltL endP expoAll expoG expo expo.expoL frIds frIds.frIdsL nodupN kill cls clsFuel resO RV.get loadP evC_p evC_s endS endT rowsOf callP thinL unfr unfr.unfrL PV.noMem PV.noMem.noMemL optI mapO norm trimT trimB forget hasN blksLt List.set softChk softGo softRd effTg tgOf chgN sameB PV.same PV.same.sameL PV.same.sameLL rdP
set_option linter.unusedVariables false
set_option linter.unusedSimpArgs false
set_option maxHeartbeats 4000000
set_option maxRecDepth 100000

/-- the error of an event -/
def errV (e : Ev) : Int :=
  if e.at_ < 0 ∨ 1000000000000 < e.at_ then 2
  else if e.k < 1 ∨ 12 < e.k then 1
  else chkC (kA e.k) (kB e.k) (kC e.k) (kD e.k) e (numV e)
theorem numV_eq (e : Ev) : (if e.n < kLo e.k then 2 else if kHi e.k < e.n then 2 else mE (kC e.k) e.k e.n e.m) = numV e := by
  unfold numV wE
  split
  · simp
  · split
    · simp
    · simp
theorem combo {k : Int} (h1 : ¬ k < 1) (h2 : ¬ 12 < k) : (kA k = true ∧ kB k = false ∧ kC k = false ∧ kD k = false) ∨ (kA k = false ∧ kB k = false ∧ kC k = false ∧ kD k = false) ∨ (kA k = true ∧ kB k = true ∧ kC k = false ∧ kD k = false) ∨
    (kA k = false ∧ kB k = true ∧ kC k = false ∧ kD k = true) ∨ (kA k = false ∧ kB k = true ∧ kC k = false ∧ kD k = false) ∨ (kA k = false ∧ kB k = true ∧ kC k = true ∧ kD k = false) ∨ (kA k = false ∧ kB k = true ∧ kC k = true ∧ kD k = true) := by
  rcases kinds h1 h2 with rfl | rfl | rfl | rfl | rfl | rfl | rfl | rfl | rfl | rfl | rfl | rfl <;> decide
theorem f11_at (e : Ev) (h : e.at_ < 0 ∨ 1000000000000 < e.at_) : evE Dg 11 [eE e] = some (.int .i64 2) := by
  obtain ⟨a, k, nm, n, m, st⟩ := e
  simp only at h
  refine evE_intro 1 D11 rfl ?_
  unfold c11
  by_cases h1 : a < 0
  · simp [eE, eC, eTx, h1]
  · have h2 : 1000000000000 < a := by omega
    simp [eE, eC, eTx, h1, h2]
theorem f12_at (e : Ev) (h : e.at_ < 0 ∨ 1000000000000 < e.at_) : evE Dg 12 [eE e] = some (.int .i64 2) := by
  obtain ⟨a, k, nm, n, m, st⟩ := e
  simp only at h
  refine evE_intro 1 D12 rfl ?_
  unfold c12
  by_cases h1 : a < 0
  · simp [eE, eC, eTx, h1]
  · have h2 : 1000000000000 < a := by omega
    simp [eE, eC, eTx, h1, h2]
theorem f11_k (e : Ev) (h1 : ¬ e.at_ < 0) (h2 : ¬ 1000000000000 < e.at_) (h : e.k < 1 ∨ 12 < e.k) : evE Dg 11 [eE e] = some (.int .i64 1) := by
  obtain ⟨a, k, nm, n, m, st⟩ := e
  simp only at h h1 h2
  have h21 := f21_no k h
  refine evE_intro 1 D11 rfl ?_
  unfold c11
  simp [eE, eC, eTx, h1, h2, h21]
theorem f12_k (e : Ev) (h1 : ¬ e.at_ < 0) (h2 : ¬ 1000000000000 < e.at_) (h : e.k < 1 ∨ 12 < e.k) : evE Dg 12 [eE e] = some (.int .i64 1) := by
  obtain ⟨a, k, nm, n, m, st⟩ := e
  simp only at h h1 h2
  refine evE_intro 1 D12 rfl ?_
  unfold c12
  by_cases h3 : k < 1
  · simp [eE, eC, eTx, h1, h2, h3]
  · have h4 : 12 < k := by omega
    simp [eE, eC, eTx, h1, h2, h3, h4]
theorem f11 (e : Ev) : evE Dg 11 [eE e] = some (.int .i64 (errV e)) := by
  unfold errV
  by_cases ha : e.at_ < 0 ∨ 1000000000000 < e.at_
  · rw [if_pos ha]; exact f11_at e ha
  · have h1 : ¬ e.at_ < 0 := fun h => ha (.inl h)
    have h2 : ¬ 1000000000000 < e.at_ := fun h => ha (.inr h)
    rw [if_neg ha]
    by_cases hk : e.k < 1 ∨ 12 < e.k
    · rw [if_pos hk]; exact f11_k e h1 h2 hk
    · have k1 : ¬ e.k < 1 := fun h => hk (.inl h)
      have k2 : ¬ 12 < e.k := fun h => hk (.inr h)
      rw [if_neg hk]
      have h21 := f21 e.k k1 k2
      rw [← numV_eq]
      rcases combo k1 k2 with ⟨a, b, c, d⟩ | ⟨a, b, c, d⟩ | ⟨a, b, c, d⟩ | ⟨a, b, c, d⟩ | ⟨a, b, c, d⟩ | ⟨a, b, c, d⟩ | ⟨a, b, c, d⟩ <;> rw [a, b, c, d] at h21 ⊢
      · exact f11_0 e h1 h2 _ _ _ h21
      · exact f11_1 e h1 h2 _ _ _ h21
      · exact f11_2 e h1 h2 _ _ _ h21
      · exact f11_3 e h1 h2 _ _ _ h21
      · exact f11_4 e h1 h2 _ _ _ h21
      · exact f11_5 e h1 h2 _ _ _ h21
      · exact f11_6 e h1 h2 _ _ _ h21
end Go.Proofs.YtidkdiooempkpaaDoor
