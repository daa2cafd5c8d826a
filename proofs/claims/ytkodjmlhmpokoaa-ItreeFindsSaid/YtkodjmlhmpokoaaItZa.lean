/- itree: the arguments of ItreeFinds. -/
import Derived.Test.YtkodjmlhmpokoaaItZ
namespace Go.Proofs.Ytkodjmlhmpokoaa
open Go Go.RowKit
set_option linter.unusedVariables false
theorem in_int {d : Nat} {p : PV} (h : ArgT Try.prog (d + 1) 3 p) : ∃ t : Int, p = .int .i64 t ∧ -9223372036854775808 ≤ t ∧ t ≤ 9223372036854775807 := by
  obtain ⟨t, rfl, w⟩ := argT_int Try.underlying3 h
  exact ⟨t, rfl, wf64 w⟩
theorem law6 (ps : List PV) (h : ArgL Try.prog 12 [22, 32, 3] ps) : evE Dg 6 ps = some (.bool true) := by
  obtain ⟨p, q, r, rfl, h1, h2, h3⟩ := argL3 h
  obtain ⟨l, rfl⟩ := in_spans h1
  obtain ⟨s, rfl, _, _⟩ := in_span h2
  obtain ⟨t, rfl, w1, w2⟩ := in_int h3
  exact f6 false l s t w1 w2
end Go.Proofs.Ytkodjmlhmpokoaa
