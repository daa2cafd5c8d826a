/- num: what comes in: NumSums, NumUndoes, NumQuotients. -/
import Derived.Test.YtnodcoemjojlhaaDoorNuJ
import Derived.Test.YtnodcoemjojlhaaDoorEvIn
namespace Go.Proofs.YtnodcoemjojlhaaDoor
open Go Go.RowKit
set_option linter.unusedVariables false

theorem law3 (ps : List PV) (h : ArgL Tryd.prog 12 [3, 3] ps) : evE Dg 3 ps = some (.bool true) := by
  obtain ⟨p, q, rfl, h1, h2⟩ := argL2 h
  obtain ⟨a, rfl, _⟩ := argT_int Tryd.underlying3 h1
  obtain ⟨b, rfl, _⟩ := argT_int Tryd.underlying3 h2
  exact n3 a b
theorem law4 (ps : List PV) (h : ArgL Tryd.prog 12 [3, 3] ps) : evE Dg 4 ps = some (.bool true) := by
  obtain ⟨p, q, rfl, h1, h2⟩ := argL2 h
  obtain ⟨a, rfl, _⟩ := argT_int Tryd.underlying3 h1
  obtain ⟨b, rfl, _⟩ := argT_int Tryd.underlying3 h2
  exact n4 a b
theorem law5 (ps : List PV) (h : ArgL Tryd.prog 12 [3, 3, 3] ps) : evE Dg 5 ps = some (.bool true) := by
  obtain ⟨p, q, r, rfl, h1, h2, h3⟩ := argL3 h
  obtain ⟨a, rfl, _⟩ := argT_int Tryd.underlying3 h1
  obtain ⟨b, rfl, _⟩ := argT_int Tryd.underlying3 h2
  obtain ⟨c, rfl, hc⟩ := argT_int Tryd.underlying3 h3
  exact n5 a b c (wf_i64 hc)
end Go.Proofs.YtnodcoemjojlhaaDoor
