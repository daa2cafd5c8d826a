/- itree: ItreeOf. -/
import Derived.Test.YtkodjmlhmpokoaaItH
import Derived.Test.YtkodjmlhmpokoaaItK
import Derived.Test.YtkodjmlhmpokoaaGc
namespace Go.Proofs.Ytkodjmlhmpokoaa
open Go Go.RowKit
set_option linter.unusedVariables false
set_option linter.unusedSimpArgs false
theorem f3 (x : Bool) (l : List Sp) : evE Dg 3 [eS x l] = some (.bool true) := by
  by_cases h : l.length ≤ 200
  · exact f3_of x l h (ord_eq l) (most_eq l)
  · exact f3_many x l (by omega)
set_option maxRecDepth 100000 in
theorem in_spans {d : Nat} {p : PV} (h : ArgT Try.prog (d + 4) 22 p) : ∃ l, p = eS false l := by
  obtain ⟨l, h1, _, _⟩ := argT_rows (f := fun s : Sp => [.int .i64 s.1, .int .i64 s.2]) (Q := fun _ => True) Try.underlying22 (c := 2) (by kernel_rfl) (fun r hr => by
    have hf := ht_struct Try.underlying32 hr
    obtain ⟨p1, q1, rfl, a1, b1⟩ := htf_cons hf
    obtain ⟨p2, q2, rfl, a2, b2⟩ := htf_cons b1
    obtain rfl := htf_nil b2
    obtain ⟨u, rfl, _⟩ := ht_int Try.underlying3 a1
    obtain ⟨v, rfl, _⟩ := ht_int Try.underlying3 a2
    exact ⟨(u, v), rfl, trivial⟩) (argT_slice Try.underlying22 h)
  exact ⟨l, by simp at h1; exact h1⟩
theorem law3 (ps : List PV) (h : ArgL Try.prog 12 [22] ps) : evE Dg 3 ps = some (.bool true) := by
  obtain ⟨p, rfl, h1⟩ := argL1 h
  obtain ⟨a, rfl⟩ := in_spans h1
  exact f3 false a
end Go.Proofs.Ytkodjmlhmpokoaa
