/- intern: what comes in. -/
import Derived.Test.YtddlicbogbmpbaaIP8
import Derived.Test.YtddlicbogbmpbaaEvIn
namespace Go.Proofs.Ytddlicbogbmpbaa
open Go Go.RowKit
set_option linter.unusedVariables false
set_option linter.unusedSimpArgs false

theorem in_names {d : Nat} {ps : List PV} (h : HT Try.prog (d + 2) 22 ps) : ∃ l : List (List UInt8), ps = [eN false l] := by
  obtain ⟨l, h1, _, _⟩ := argT_rows (f := fun t => [.str t]) (Q := fun t => t.length ≤ maxLen) Try.underlying22 (c := 1) (by kernel_rfl) (fun r hr => ht_string Try.underlying9 hr) h
  exact ⟨l, h1⟩
theorem in_pair {d : Nat} {ps : List PV} (h : HT Try.prog (d + 2) 46 ps) : ∃ p : Int × Int, ps = eP p ∧ True := by
  obtain ⟨q0, r0, rfl, h0, h⟩ := hta_cons (ht_array Try.underlying46 h)
  obtain ⟨q1, r1, rfl, h1, h⟩ := hta_cons h
  obtain rfl := hta_nil h
  obtain ⟨i0, rfl, w0⟩ := ht_int Try.underlying3 h0
  obtain ⟨i1, rfl, w1⟩ := ht_int Try.underlying3 h1
  exact ⟨(i0, i1), rfl, trivial⟩
theorem in_pairs {d : Nat} {ps : List PV} (h : HT Try.prog (d + 3) 23 ps) : ∃ T : List (Int × Int), ps = [eSt false T] := by
  obtain ⟨l, h1, _, _⟩ := argT_rows (f := eP) (Q := fun _ => True) Try.underlying23 (c := 2) (by kernel_rfl) (fun r hr => in_pair hr) h
  exact ⟨l, h1⟩
theorem in_tables {d : Nat} {p : PV} (h : ArgT Try.prog (d + 4) 25 p) : ∃ n T, p = .agg [eN false n, eSt false T] := by
  obtain ⟨ps, rfl, g⟩ := argT_struct Try.underlying25 h
  clear h
  obtain ⟨q0, r0, rfl, h0, h⟩ := htf_cons (ht_struct Try.underlying25 g)
  obtain ⟨q1, r1, rfl, h1, h⟩ := htf_cons h
  obtain rfl := htf_nil h
  obtain ⟨n, rfl⟩ := in_names h0
  obtain ⟨T, rfl⟩ := in_pairs h1
  exact ⟨n, T, rfl⟩
theorem in_list {d : Nat} {p : PV} (h : ArgT Try.prog (d + 2) 22 p) : ∃ l, p = eTx l := by
  obtain ⟨l, h1⟩ := in_names (argT_slice Try.underlying22 h)
  exact ⟨l, by simp at h1; exact h1⟩

theorem law4 (ps : List PV) (h : ArgL Try.prog 12 [25, 9, 22] ps) : evE Dg 4 ps = some (.bool true) := by
  obtain ⟨p, q, r, rfl, h1, h2, h3⟩ := argL3 h
  obtain ⟨n, T, rfl⟩ := in_tables h1
  obtain ⟨s, rfl, _⟩ := argT_string Try.underlying9 h2
  obtain ⟨l, rfl⟩ := in_list h3
  exact f4 n T s l
end Go.Proofs.Ytddlicbogbmpbaa
