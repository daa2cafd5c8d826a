/- Samples: what comes in. -/
import Derived.Test.YtgipbahlcnageaaPr4
import Derived.Test.YtgipbahlcnageaaEvIn
namespace Go.Proofs.Ytgipbahlcnageaa
open Go Go.RowKit
set_option linter.unusedVariables false
set_option linter.unusedSimpArgs false

theorem in_texts {d : Nat} {ps : List PV} (h : HT Try.prog (d + 2) 28 ps) : ∃ l : List (List UInt8), ps = [eTx l] ∧ l.length ≤ maxLen ∧ ∀ t ∈ l, t.length ≤ maxLen := by
  exact argT_rows (f := fun t => [.str t]) (Q := fun t => t.length ≤ maxLen) Try.underlying28 (by kernel_rfl) (fun r hr => ht_string Try.underlying9 hr) h

def Wf (i : Int) : Prop := -9223372036854775808 ≤ i ∧ i ≤ 9223372036854775807
structure SmpOk (s : Smp) : Prop where
  th : Wf s.th
  at_ : Wf s.at_
  wt : Wf s.wt
  len : s.st.length ≤ maxLen
  txt : ∀ t ∈ s.st, t.length ≤ maxLen

theorem in_smp {d : Nat} {ps : List PV} (h : HT Try.prog (d + 4) 42 ps) : ∃ s : Smp, ps = eSmp s ∧ SmpOk s := by
  obtain ⟨q0, r0, rfl, h0, h⟩ := htf_cons (ht_struct Try.underlying42 h)
  obtain ⟨q1, r1, rfl, h1, h⟩ := htf_cons h
  obtain ⟨q2, r2, rfl, h2, h⟩ := htf_cons h
  obtain ⟨q3, r3, rfl, h3, h⟩ := htf_cons h
  obtain rfl := htf_nil h
  obtain ⟨i0, rfl, w0⟩ := ht_int Try.underlying3 h0
  obtain ⟨i1, rfl, w1⟩ := ht_int Try.underlying3 h1
  obtain ⟨i2, rfl, w2⟩ := ht_int Try.underlying3 h2
  obtain ⟨l, rfl, g1, g2⟩ := in_texts h3
  exact ⟨⟨i0, i1, i2, l⟩, rfl, wf_i64 w0, wf_i64 w1, wf_i64 w2, g1, g2⟩

theorem in_smps {d : Nat} {p : PV} (h : ArgT Try.prog (d + 5) 36 p) : ∃ l : List Smp, p = eSmps l ∧ l.length ≤ maxLen ∧ ∀ s ∈ l, SmpOk s := by
  obtain ⟨l, h1, h2, h3⟩ := argT_rows (f := eSmp) (Q := SmpOk) Try.underlying36 (c := 4) (by kernel_rfl) (fun r hr => in_smp hr) (argT_slice Try.underlying36 h)
  exact ⟨l, by simpa [eSmps] using h1, h2, h3⟩
theorem in_arr3 {d : Nat} {p : PV} (h : ArgT Try.prog (d + 2) 50 p) : ∃ a b c, p = .agg [.int .i64 a, .int .i64 b, .int .i64 c] := by
  obtain ⟨ps, rfl, g⟩ := argT_array Try.underlying50 h
  clear h
  obtain ⟨q0, r0, rfl, h0, h⟩ := hta_cons (ht_array Try.underlying50 g)
  obtain ⟨q1, r1, rfl, h1, h⟩ := hta_cons h
  obtain ⟨q2, r2, rfl, h2, h⟩ := hta_cons h
  obtain rfl := hta_nil h
  obtain ⟨i0, rfl, w0⟩ := ht_int Try.underlying3 h0
  obtain ⟨i1, rfl, w1⟩ := ht_int Try.underlying3 h1
  obtain ⟨i2, rfl, w2⟩ := ht_int Try.underlying3 h2
  exact ⟨i0, i1, i2, rfl⟩
theorem law6 (ps : List PV) (h : ArgL Try.prog 12 [36, 50] ps) : evE Dg 6 ps = some (.bool true) := by
  obtain ⟨p, q, rfl, h1, h2⟩ := argL2 h
  obtain ⟨l, rfl, _⟩ := in_smps h1
  obtain ⟨a, b, c, rfl⟩ := in_arr3 h2
  exact f6 l a b c
end Go.Proofs.Ytgipbahlcnageaa
