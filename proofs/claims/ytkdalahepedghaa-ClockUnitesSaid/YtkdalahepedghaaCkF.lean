/- Snapshots as arguments. -/
import Derived.Test.YtkdalahepedghaaCkE
namespace Go.Proofs.Ytkdalahepedghaa
open Go Go.RowKit
set_option maxHeartbeats 4000000
set_option linter.unusedVariables false

def is64 (z : Int) : Prop := -9223372036854775808 ≤ z ∧ z ≤ 9223372036854775807
theorem wfi64 {i : Int} (h : (Lit.int .i64 i).wf = true) : is64 i := by
  simp [Lit.wf, IntKind.min, IntKind.max, IntKind.signed, IntKind.bits] at h
  unfold is64
  omega
theorem ht_snap {d : Nat} {r : List PV} (hr : HT Try.prog (d + 3) 37 r) : ∃ s : Sn, r = eN s := by
  obtain ⟨q0, r0, rfl, h0, hr⟩ := htf_cons (ht_struct Try.underlying37 hr)
  obtain ⟨q1, r1, rfl, h1, hr⟩ := htf_cons hr
  obtain ⟨q2, r2, rfl, h2, hr⟩ := htf_cons hr
  obtain ⟨q3, r3, rfl, h3, hr⟩ := htf_cons hr
  obtain rfl := htf_nil hr
  obtain ⟨i0, rfl, w0⟩ := ht_int Try.underlying3 h0
  obtain ⟨i1, rfl, w1⟩ := ht_int Try.underlying3 h1
  obtain ⟨i2, rfl, w2⟩ := ht_int Try.underlying3 h2
  obtain ⟨u0, s0, rfl, h4, hr⟩ := htf_cons (ht_struct Try.underlying35 h3)
  obtain ⟨u1, s1, rfl, h5, hr⟩ := htf_cons hr
  obtain rfl := htf_nil hr
  obtain ⟨i3, rfl, w3⟩ := ht_int Try.underlying3 h4
  obtain ⟨i4, rfl, w4⟩ := ht_int Try.underlying3 h5
  exact ⟨⟨i0, i1, i2, i3, i4⟩, rfl⟩
theorem in_snaps {d : Nat} {p : PV} (h : ArgT Try.prog (d + 4) 23 p) : ∃ l : List Sn, p = eNs false l := by
  obtain ⟨l, h1, h2, h3⟩ := argT_rows (f := eN) (Q := fun s => True) Try.underlying23 (c := 5) (by kernel_rfl) (fun r hr => by
    obtain ⟨s, rfl⟩ := ht_snap hr
    exact ⟨s, rfl, trivial⟩) (argT_slice Try.underlying23 h)
  exact ⟨l, (List.cons.inj h1).1⟩
theorem law3 (ps : List PV) (h : ArgL Try.prog 12 [22, 23] ps) : evE Dg 3 ps = some (.bool true) := by
  obtain ⟨p, q, rfl, h1, h2⟩ := argL2 h
  obtain ⟨d, rfl⟩ := in_doms h1
  obtain ⟨l, rfl⟩ := in_snaps h2
  exact f3 false false d l
end Go.Proofs.Ytkdalahepedghaa
