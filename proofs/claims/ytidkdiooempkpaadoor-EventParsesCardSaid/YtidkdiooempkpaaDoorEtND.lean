/- event: Check of both where the stack is nil (written by mkEtND.py). -/
-- LATT
import Derived.Test.YtidkdiooempkpaaDoorEtNB0
import Derived.Test.YtidkdiooempkpaaDoorEtNB1
import Derived.Test.YtidkdiooempkpaaDoorEtNB2
import Derived.Test.YtidkdiooempkpaaDoorEtNB3
import Derived.Test.YtidkdiooempkpaaDoorEtNB4
import Derived.Test.YtidkdiooempkpaaDoorEtNB5
import Derived.Test.YtidkdiooempkpaaDoorEtNB6
import Derived.Test.YtidkdiooempkpaaDoorEtNX3
import Derived.Test.YtidkdiooempkpaaDoorEtTT
namespace Go.Proofs.YtidkdiooempkpaaDoor
open Go Go.RowKit Go.Lib
attribute [local simp] evCode evOps evOne evOp evPur evEff evPur.chunks fillP AOp.isEff AO.ev putP PV.cells PV.leaf getB getM mapE iterE keyC mapRows mfind eq1 eqL scal binP unP minP maxP foldP PV.lt PV.lt.ltL endP expoAll expoG expo expo.expoL frIds frIds.frIdsL nodupN kill cls clsFuel resO RV.get loadP evC_p evC_s endS endT rowsOf callP thinL unfr unfr.unfrL PV.noMem PV.noMem.noMemL optI mapO norm trimT trimB forget hasN blksLt List.set softChk softGo softRd effTg tgOf chgN sameB PV.same PV.same.sameL PV.same.sameLL rdP
set_option linter.unusedVariables false
set_option linter.unusedSimpArgs false
set_option maxHeartbeats 4000000
set_option maxRecDepth 100000

theorem f11N_at (e : Ev) (h : e.at_ < 0 ∨ 1000000000000 < e.at_) : evE Dg 11 [eN e] = some (.int .i64 2) := by
  obtain ⟨a, k, nm, n, m, st⟩ := e
  simp only at h
  refine evE_intro 1 D11 rfl ?_
  unfold c11
  by_cases h1 : a < 0
  · simp [eN, h1]
  · have h2 : 1000000000000 < a := by omega
    simp [eN, h1, h2]
theorem f12N_at (e : Ev) (h : e.at_ < 0 ∨ 1000000000000 < e.at_) : evE Dg 12 [eN e] = some (.int .i64 2) := by
  obtain ⟨a, k, nm, n, m, st⟩ := e
  simp only at h
  refine evE_intro 1 D12 rfl ?_
  unfold c12
  by_cases h1 : a < 0
  · simp [eN, h1]
  · have h2 : 1000000000000 < a := by omega
    simp [eN, h1, h2]
theorem f11N_k (e : Ev) (h1 : ¬ e.at_ < 0) (h2 : ¬ 1000000000000 < e.at_) (h : e.k < 1 ∨ 12 < e.k) : evE Dg 11 [eN e] = some (.int .i64 1) := by
  obtain ⟨a, k, nm, n, m, st⟩ := e
  simp only at h h1 h2
  have h21 := f21_no k h
  refine evE_intro 1 D11 rfl ?_
  unfold c11
  simp [eN, h1, h2, h21]
theorem f12N_k (e : Ev) (h1 : ¬ e.at_ < 0) (h2 : ¬ 1000000000000 < e.at_) (h : e.k < 1 ∨ 12 < e.k) : evE Dg 12 [eN e] = some (.int .i64 1) := by
  obtain ⟨a, k, nm, n, m, st⟩ := e
  simp only at h h1 h2
  refine evE_intro 1 D12 rfl ?_
  unfold c12
  by_cases h3 : k < 1
  · simp [eN, h1, h2, h3]
  · have h4 : 12 < k := by omega
    simp [eN, h1, h2, h3, h4]
theorem f11N (e : Ev) (hst : e.st = []) : evE Dg 11 [eN e] = some (.int .i64 (errV e)) := by
  unfold errV
  by_cases ha : e.at_ < 0 ∨ 1000000000000 < e.at_
  · rw [if_pos ha]; exact f11N_at e ha
  · have h1 : ¬ e.at_ < 0 := fun h => ha (.inl h)
    have h2 : ¬ 1000000000000 < e.at_ := fun h => ha (.inr h)
    rw [if_neg ha]
    by_cases hk : e.k < 1 ∨ 12 < e.k
    · rw [if_pos hk]; exact f11N_k e h1 h2 hk
    · have k1 : ¬ e.k < 1 := fun h => hk (.inl h)
      have k2 : ¬ 12 < e.k := fun h => hk (.inr h)
      rw [if_neg hk]
      have h21 := f21 e.k k1 k2
      rw [← numV_eq]
      rcases combo k1 k2 with ⟨a, b, c, d⟩ | ⟨a, b, c, d⟩ | ⟨a, b, c, d⟩ | ⟨a, b, c, d⟩ | ⟨a, b, c, d⟩ | ⟨a, b, c, d⟩ | ⟨a, b, c, d⟩ <;> rw [a, b, c, d] at h21 ⊢
      · exact f11n_0 e hst h1 h2 _ _ _ h21
      · exact f11n_1 e hst h1 h2 _ _ _ h21
      · exact f11n_2 e hst h1 h2 _ _ _ h21
      · exact f11n_3 e hst h1 h2 _ _ _ h21
      · exact f11n_4 e hst h1 h2 _ _ _ h21
      · exact f11n_5 e hst h1 h2 _ _ _ h21
      · exact f11n_6 e hst h1 h2 _ _ _ h21
theorem f12N (e : Ev) (hst : e.st = []) : evE Dg 12 [eN e] = some (.int .i64 (errV e)) := by
  unfold errV
  by_cases ha : e.at_ < 0 ∨ 1000000000000 < e.at_
  · rw [if_pos ha]; exact f12N_at e ha
  · have h1 : ¬ e.at_ < 0 := fun h => ha (.inl h)
    have h2 : ¬ 1000000000000 < e.at_ := fun h => ha (.inr h)
    rw [if_neg ha]
    by_cases hk : e.k < 1 ∨ 12 < e.k
    · rw [if_pos hk]; exact f12N_k e h1 h2 hk
    · have k1 : ¬ e.k < 1 := fun h => hk (.inl h)
      have k2 : ¬ 12 < e.k := fun h => hk (.inr h)
      rw [if_neg hk]
      have h25 := f25 e.k
      have h28 : chkC (kA e.k) (kB e.k) (kC e.k) (kD e.k) e 77 = 77 → evE Dg 28 [eN e] = some (.int .i64 (numV e)) := fun h => by
        obtain ⟨hb, hc⟩ := chk77 h
        exact f28N_k e.at_ e.k e.n e.m e.name k1 k2 hb hc
      rcases combo k1 k2 with ⟨a, b, c, d⟩ | ⟨a, b, c, d⟩ | ⟨a, b, c, d⟩ | ⟨a, b, c, d⟩ | ⟨a, b, c, d⟩ | ⟨a, b, c, d⟩ | ⟨a, b, c, d⟩ <;> rw [a, b, c, d] at h25 h28 ⊢
      · exact f12n_0 e hst h1 h2 k1 k2 h25 _ h28
      · exact f12n_1 e hst h1 h2 k1 k2 h25 _ h28
      · exact f12n_2 e hst h1 h2 k1 k2 h25 _ h28
      · exact f12n_3 e hst h1 h2 k1 k2 h25 _ h28
      · exact f12n_4 e hst h1 h2 k1 k2 h25 _ h28
      · exact f12n_5 e hst h1 h2 k1 k2 h25 _ h28
      · exact f12n_6 e hst h1 h2 k1 k2 h25 _ h28
end Go.Proofs.YtidkdiooempkpaaDoor
