/- spans: what comes in; two laws. -/
import Derived.Test.YtildbjepbnjbfaaSpG
import Derived.Test.YtildbjepbnjbfaaEvIn
namespace Go.Proofs.Ytildbjepbnjbfaa
open Go Go.RowKit
set_option linter.unusedVariables false
set_option linter.unusedSimpArgs false

theorem in_spans {d : Nat} {p : PV} (h : ArgT Try.prog (d + 4) 22 p) : ∃ l, p = eS false l := by
  obtain ⟨l, h1, _, _⟩ := argT_rows (f := fun s : Sp => [.int .i64 s.1, .int .i64 s.2]) (Q := fun _ => True) Try.underlying22 (c := 2) (by kernel_rfl) (fun r hr => by
    have hf := ht_struct Try.underlying27 hr
    obtain ⟨p1, q1, rfl, a1, b1⟩ := htf_cons hf
    obtain ⟨p2, q2, rfl, a2, b2⟩ := htf_cons b1
    obtain rfl := htf_nil b2
    obtain ⟨u, rfl, _⟩ := ht_int Try.underlying3 a1
    obtain ⟨v, rfl, _⟩ := ht_int Try.underlying3 a2
    exact ⟨(u, v), rfl, trivial⟩) (argT_slice Try.underlying22 h)
  exact ⟨l, by simp at h1; exact h1⟩
theorem law6 (ps : List PV) (h : ArgL Try.prog 12 [22, 22] ps) : evE Dg 6 ps = some (.bool true) := by
  obtain ⟨p, q, rfl, h1, h2⟩ := argL2 h
  obtain ⟨a, rfl⟩ := in_spans h1
  obtain ⟨b, rfl⟩ := in_spans h2
  exact f6 false false a b
theorem law7 (ps : List PV) (h : ArgL Try.prog 12 [22, 22] ps) : evE Dg 7 ps = some (.bool true) := by
  obtain ⟨p, q, rfl, h1, h2⟩ := argL2 h
  obtain ⟨a, rfl⟩ := in_spans h1
  obtain ⟨b, rfl⟩ := in_spans h2
  exact f7 false false a b
end Go.Proofs.Ytildbjepbnjbfaa
