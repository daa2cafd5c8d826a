/- CounterLooks; arguments that are lists of steps. -/
import Derived.Test.YtecmcggnpgjbiaaCtC
import Derived.Test.YtecmcggnpgjbiaaCtD
import Derived.Test.YtecmcggnpgjbiaaEvIn
namespace Go.Proofs.Ytecmcggnpgjbiaa
open Go Go.RowKit
set_option linter.unusedVariables false
set_option linter.unusedSimpArgs false
set_option maxHeartbeats 4000000

set_option maxRecDepth 100000 in
theorem f6 (l : List Stp) (name : List UInt8) (t : Int) : evE Dg 6 [eSp false l, .str name, .int .i64 t] = some (.bool true) := by
  have el : (l.map row).length = l.length := by simp
  have aw := f10
  by_cases c : 60 < l.length
  · have c' : (60 : Int) < l.length := by omega
    refine evE_intro 3 D6 rfl ?_
    unfold c6
    simp [evCode, evOps, evOne, evOp, evPur, evEff, evPur.chunks, fillP, AOp.isEff, AO.ev, putP, PV.cells, PV.leaf, getB, getM, mapE, keyC, mapRows, mfind, eq1, eqL, scal, binP, unP, minP, maxP, foldP, PV.lt, PV.lt.ltL, endP, expoAll, expo, expo.expoL, frIds, frIds.frIdsL, nodupN, kill, cls, clsFuel, resO, RV.get, loadP, evC_p, evC_s, endS, endT, rowsOf, callP, thinL, unfr, unfr.unfrL, PV.noMem, PV.noMem.noMemL, optI, mapO, norm, trimT, trimB, forget, hasN, blksLt, List.set, eSp, el, c, c', aw]
  · have c' : ¬ (60 : Int) < l.length := by omega
    have h16 := f16 false l (by omega)
    by_cases ce : chkC l = 0
    · rw [ce] at h16
      have h15 := f15 false l (by omega) name t
      have h17 := f17 false l (by omega) name t
      have h18 := f18 false l (by omega) name
      have h19 := f19 false l (by omega) name
      have hm : (atF name t l).2 = true → (pkF name l).2 = true ∧ (atF name t l).1 ≤ (pkF name l).1.2.2 := fun h => by
        obtain ⟨s, h1, h2, h3⟩ := at_some h
        obtain ⟨h4, h5⟩ := pk_max h1 h2
        exact ⟨h4, by rw [← h3]; exact h5⟩
      generalize atF name t l = u at *
      generalize pkF name l = p at *
      obtain ⟨u1, u2⟩ := u
      obtain ⟨⟨p1, p2, p3⟩, p4⟩ := p
      simp only at hm h15 h17 h18 h19
      simp only [eSp, row] at h15 h16 h17 h18 h19
      cases u2 with
      | false =>
        refine evE_intro 3 D6 rfl ?_
        unfold c6
        cases p4 <;> simp [evCode, evOps, evOne, evOp, evPur, evEff, evPur.chunks, fillP, AOp.isEff, AO.ev, putP, PV.cells, PV.leaf, getB, getM, mapE, keyC, mapRows, mfind, eq1, eqL, scal, binP, unP, minP, maxP, foldP, PV.lt, PV.lt.ltL, endP, expoAll, expo, expo.expoL, frIds, frIds.frIdsL, nodupN, kill, cls, clsFuel, resO, RV.get, loadP, evC_p, evC_s, endS, endT, rowsOf, callP, thinL, unfr, unfr.unfrL, PV.noMem, PV.noMem.noMemL, optI, mapO, norm, trimT, trimB, forget, hasN, blksLt, List.set, eSp, row, el, c, c', h16, h15, h17, h18, h19, aw]
      | true =>
        obtain ⟨rfl, hm⟩ := hm rfl
        refine evE_intro 3 D6 rfl ?_
        unfold c6
        simp [evCode, evOps, evOne, evOp, evPur, evEff, evPur.chunks, fillP, AOp.isEff, AO.ev, putP, PV.cells, PV.leaf, getB, getM, mapE, keyC, mapRows, mfind, eq1, eqL, scal, binP, unP, minP, maxP, foldP, PV.lt, PV.lt.ltL, endP, expoAll, expo, expo.expoL, frIds, frIds.frIdsL, nodupN, kill, cls, clsFuel, resO, RV.get, loadP, evC_p, evC_s, endS, endT, rowsOf, callP, thinL, unfr, unfr.unfrL, PV.noMem, PV.noMem.noMemL, optI, mapO, norm, trimT, trimB, forget, hasN, blksLt, List.set, eSp, row, el, c, c', h16, h15, h17, h18, h19, hm, aw]
    · generalize chkC l = e at *
      simp only [eSp] at h16
      refine evE_intro 3 D6 rfl ?_
      unfold c6
      simp [evCode, evOps, evOne, evOp, evPur, evEff, evPur.chunks, fillP, AOp.isEff, AO.ev, putP, PV.cells, PV.leaf, getB, getM, mapE, keyC, mapRows, mfind, eq1, eqL, scal, binP, unP, minP, maxP, foldP, PV.lt, PV.lt.ltL, endP, expoAll, expo, expo.expoL, frIds, frIds.frIdsL, nodupN, kill, cls, clsFuel, resO, RV.get, loadP, evC_p, evC_s, endS, endT, rowsOf, callP, thinL, unfr, unfr.unfrL, PV.noMem, PV.noMem.noMemL, optI, mapO, norm, trimT, trimB, forget, hasN, blksLt, List.set, eSp, el, c, c', h16, ce, aw]
def is64 (z : Int) : Prop := -9223372036854775808 ≤ z ∧ z ≤ 9223372036854775807
theorem wfi64 {i : Int} (h : (Lit.int .i64 i).wf = true) : is64 i := by
  simp [Lit.wf, IntKind.min, IntKind.max, IntKind.signed, IntKind.bits] at h
  unfold is64
  omega
/-- a list of steps as an argument -/
theorem in_steps {d : Nat} {p : PV} (h : ArgT Try.prog (d + 3) 25 p) : ∃ l : List Stp, p = eSp false l ∧ ∀ s ∈ l, is64 s.2.1 ∧ is64 s.2.2 := by
  obtain ⟨l, h1, h2, h3⟩ := argT_rows (f := row) (Q := fun s => is64 s.2.1 ∧ is64 s.2.2) Try.underlying25 (c := 3) (by kernel_rfl) (fun r hr => by
    obtain ⟨q0, r0, rfl, h0, hr⟩ := htf_cons (ht_struct Try.underlying45 hr)
    obtain ⟨q1, r1, rfl, h1, hr⟩ := htf_cons hr
    obtain ⟨q2, r2, rfl, h2, hr⟩ := htf_cons hr
    obtain rfl := htf_nil hr
    obtain ⟨s, rfl, _⟩ := ht_string Try.underlying9 h0
    obtain ⟨i1, rfl, w1⟩ := ht_int Try.underlying3 h1
    obtain ⟨i2, rfl, w2⟩ := ht_int Try.underlying3 h2
    exact ⟨(s, i1, i2), rfl, wfi64 w1, wfi64 w2⟩) (argT_slice Try.underlying25 h)
  exact ⟨l, (List.cons.inj h1).1, h3⟩
theorem law5 (ps : List PV) (h : ArgL Try.prog 12 [25] ps) : evE Dg 5 ps = some (.bool true) := by
  obtain ⟨p, rfl, h1⟩ := argL1 h
  obtain ⟨l, rfl, _⟩ := in_steps h1
  exact f5 l
theorem law6 (ps : List PV) (h : ArgL Try.prog 12 [25, 9, 3] ps) : evE Dg 6 ps = some (.bool true) := by
  obtain ⟨p, q, r, rfl, h1, h2, h3⟩ := argL3 h
  obtain ⟨l, rfl, _⟩ := in_steps h1
  obtain ⟨s, rfl, _⟩ := argT_string Try.underlying9 h2
  obtain ⟨i, rfl, _⟩ := argT_int Try.underlying3 h3
  exact f6 l s i
end Go.Proofs.Ytecmcggnpgjbiaa
