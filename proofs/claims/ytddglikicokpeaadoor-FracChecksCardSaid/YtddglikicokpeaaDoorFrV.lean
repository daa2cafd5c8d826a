/- FracField, FracOrders. -/
import Derived.Test.YtddglikicokpeaaDoorFrU
import Derived.Test.YtddglikicokpeaaDoorGc
namespace Go.Proofs.YtddglikicokpeaaDoor
open Go Go.RowKit
set_option linter.unusedVariables false
set_option linter.unusedSimpArgs false
set_option maxHeartbeats 8000000

theorem toF64 (q : Rat) : i64F (toF q).1 := by
  cases h : (toF q).2 with
  | true => exact ⟨(valid64 (toF_ok h).1).1, (valid64 (toF_ok h).1).2⟩
  | false => rw [toF_bad h]; exact ⟨⟨by decide, by decide⟩, ⟨by decide, by decide⟩⟩
theorem zero64 : i64F (0, 0) := ⟨⟨by decide, by decide⟩, ⟨by decide, by decide⟩⟩
theorem add64 (a b : Fr) : i64F (addS a b).1 := by
  unfold addS
  split
  · exact toF64 _
  · exact zero64
theorem mul64 (a b : Fr) : i64F (mulS a b).1 := by
  unfold mulS
  split
  · exact toF64 _
  · exact zero64
theorem in_frac {d : Nat} {t : TypeId} {p : PV} (hu : ∃ f1 f2 : Field, Tryd.prog.underlying t = some (.struct #[f1, f2]) ∧ f1.type = 3 ∧ f2.type = 3) (h : ArgT Tryd.prog (d + 3) t p) : ∃ a : Fr, p = eF a ∧ i64F a := by
  obtain ⟨f1, f2, hu, e1, e2⟩ := hu
  obtain ⟨qs, hq, h2⟩ := argT_struct hu h
  subst hq
  have h := ht_struct hu h2
  obtain ⟨p0, q0, rfl, h0, h⟩ := htf_cons h
  obtain ⟨p1, q1, rfl, h1, h⟩ := htf_cons h
  obtain rfl := htf_nil h
  rw [e1] at h0
  rw [e2] at h1
  obtain ⟨i0, rfl, w0⟩ := ht_int Tryd.underlying3 h0
  obtain ⟨i1, rfl, w1⟩ := ht_int Tryd.underlying3 h1
  exact ⟨(i0, i1), rfl, wf_i64 w0, wf_i64 w1⟩
theorem frac23 : ∃ f1 f2 : Field, Tryd.prog.underlying 23 = some (.struct #[f1, f2]) ∧ f1.type = 3 ∧ f2.type = 3 := ⟨_, _, Tryd.underlying23, rfl, rfl⟩
theorem in23 {d : Nat} {p : PV} (h : ArgT Tryd.prog (d + 3) 23 p) : ∃ a : Fr, p = eF a ∧ i64F a := in_frac frac23 h
end Go.Proofs.YtddglikicokpeaaDoor
