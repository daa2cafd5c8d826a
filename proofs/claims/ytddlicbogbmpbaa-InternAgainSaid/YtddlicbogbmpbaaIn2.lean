/- intern: the other laws. -/
import Derived.Test.YtddlicbogbmpbaaIP13
import Derived.Test.YtddlicbogbmpbaaIP16
import Derived.Test.YtddlicbogbmpbaaIn
namespace Go.Proofs.Ytddlicbogbmpbaa
open Go Go.RowKit
set_option linter.unusedVariables false
set_option linter.unusedSimpArgs false

theorem law3 (ps : List PV) (h : ArgL Try.prog 12 [25, 22, 3] ps) : evE Dg 3 ps = some (.bool true) := by
  obtain ⟨p, q, r, rfl, h1, h2, h3⟩ := argL3 h
  obtain ⟨n, T, rfl⟩ := in_tables h1
  obtain ⟨l, rfl⟩ := in_list h2
  obtain ⟨i, rfl, _⟩ := argT_int Try.underlying3 h3
  exact f3 n T l i
theorem law5 (ps : List PV) (h : ArgL Try.prog 12 [25, 22] ps) : evE Dg 5 ps = some (.bool true) := by
  obtain ⟨p, q, rfl, h1, h2⟩ := argL2 h
  obtain ⟨n, T, rfl⟩ := in_tables h1
  obtain ⟨l, rfl⟩ := in_list h2
  exact f5 n T l
theorem law6 (ps : List PV) (h : ArgL Try.prog 12 [25, 22, 22] ps) : evE Dg 6 ps = some (.bool true) := by
  obtain ⟨p, q, r, rfl, h1, h2, h3⟩ := argL3 h
  obtain ⟨n, T, rfl⟩ := in_tables h1
  obtain ⟨l, rfl⟩ := in_list h2
  obtain ⟨m, rfl⟩ := in_list h3
  exact f6 n T l m
theorem law7 (ps : List PV) (h : ArgL Try.prog 12 [5] ps) : evE Dg 7 ps = some (.bool true) := by
  obtain ⟨p, rfl, h1⟩ := argL1 h
  obtain ⟨i, rfl, hi⟩ := argT_int Try.underlying5 h1
  have h0 : 0 ≤ i ∧ i ≤ 255 := by
    have : (Lit.int .u8 i).wf = true := hi
    simp [Lit.wf, IntKind.min, IntKind.max, IntKind.bits, IntKind.signed] at this
    omega
  obtain ⟨b, rfl⟩ : ∃ b : Nat, i = b := ⟨i.toNat, by omega⟩
  exact f7 b (by omega)
end Go.Proofs.Ytddlicbogbmpbaa
