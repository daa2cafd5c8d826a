/- FlowChecks. -/
import Derived.Test.YtlnaibkpmklkiaaFlC
import Derived.Test.YtlnaibkpmklkiaaEvIn
namespace Go.Proofs.Ytlnaibkpmklkiaa
open Go Go.RowKit
set_option linter.unusedVariables false
set_option linter.unusedSimpArgs false

theorem ht_id {d : Nat} {r : List PV} (h : HT Try.prog (d + 2) 40 r) : ∃ a b, r = [.int .i64 a, .int .i64 b] := by
  have h := ht_struct Try.underlying40 h
  obtain ⟨p0, q0, rfl, h0, h⟩ := htf_cons h
  obtain ⟨p1, q1, rfl, h1, h⟩ := htf_cons h
  obtain rfl := htf_nil h
  obtain ⟨i0, rfl, w0⟩ := ht_int Try.underlying3 h0
  obtain ⟨i1, rfl, w1⟩ := ht_int Try.underlying3 h1
  exact ⟨i0, i1, rfl⟩
theorem ht_flow {d : Nat} {r : List PV} (h : HT Try.prog (d + 3) 46 r) : ∃ f : Fl, r = fRow f := by
  have h := ht_struct Try.underlying46 h
  obtain ⟨p0, q0, rfl, h0, h⟩ := htf_cons h
  obtain ⟨p1, q1, rfl, h1, h⟩ := htf_cons h
  obtain ⟨p2, q2, rfl, h2, h⟩ := htf_cons h
  obtain ⟨p3, q3, rfl, h3, h⟩ := htf_cons h
  obtain ⟨p4, q4, rfl, h4, h⟩ := htf_cons h
  obtain rfl := htf_nil h
  obtain ⟨i0, rfl, w0⟩ := ht_int Try.underlying3 h0
  obtain ⟨a, b, rfl⟩ := ht_id h1
  obtain ⟨c, e, rfl⟩ := ht_id h2
  obtain ⟨i3, rfl, w3⟩ := ht_int Try.underlying3 h3
  obtain ⟨i4, rfl, w4⟩ := ht_int Try.underlying3 h4
  exact ⟨⟨i0, a, b, c, e, i3, i4⟩, rfl⟩
theorem in_flows {d : Nat} {p : PV} (h : ArgT Try.prog (d + 4) 25 p) : ∃ l : List Fl, p = .sl false 7 (fRows l) := by
  obtain ⟨l, h1, h2, h3⟩ := argT_rows (f := fRow) (Q := fun s => True) Try.underlying25 (c := 7) (by kernel_rfl) (fun r hr => by
    obtain ⟨s, rfl⟩ := ht_flow hr
    exact ⟨s, rfl, trivial⟩) (argT_slice Try.underlying25 h)
  exact ⟨l, (List.cons.inj h1).1⟩

theorem btw_len (x y : Int) (l : List Fl) : (l.foldl (btw x y) []).length ≤ l.length := by
  have key : ∀ (l o : List Fl), (l.foldl (btw x y) o).length ≤ o.length + l.length := by
    intro l
    induction l with
    | nil => intro o; simp
    | cons f l ih =>
      intro o
      have h := ih (btw x y o f)
      have h2 : (btw x y o f).length ≤ o.length + 1 := by unfold btw; split <;> simp
      simp only [List.foldl_cons, List.length_cons]
      omega
  simpa using key l []

set_option maxRecDepth 100000 in
theorem f4 (l : List Fl) (x y : Int) : evE Dg 4 [.sl false 7 (fRows l), .int .i64 x, .int .i64 y] = some (.bool true) := by
  refine evE_intro 1 D4 rfl ?_
  unfold c4
  have eL := fRows_len l
  have h9 := f9
  by_cases hl : 1000 < l.length
  · have hl' : (1000 : Int) < l.length := by omega
    simp [evCode, evOps, evOne, evOp, evPur, evEff, evPur.chunks, fillP, AOp.isEff, AO.ev, putP, PV.cells, PV.leaf, getB, getM, mapE, iterE, keyC, mapRows, mfind, eq1, eqL, scal, binP, unP, minP, maxP, foldP, PV.lt, PV.lt.ltL, endP, expoAll, expoG, expo, expo.expoL, frIds, frIds.frIdsL, nodupN, kill, cls, clsFuel, resO, RV.get, loadP, evC_p, evC_s, endS, endT, rowsOf, callP, thinL, unfr, unfr.unfrL, PV.noMem, PV.noMem.noMemL, optI, mapO, norm, trimT, trimB, forget, hasN, blksLt, List.set, softChk, softGo, softRd, effTg, rdP, eL, hl, hl', h9]
  · have hl' : ¬ (1000 : Int) < l.length := by omega
    have h1 := f16 false l (by omega)
    have h2 := f17 false l (by omega)
    have h3 := f18 false l x y (by omega)
    have h4 := f19 false l x y (by omega)
    have hb := btw_len x y l
    generalize l.foldl (btw x y) [] = o at *
    have h5 := f10 false false o (by omega)
    simp [evCode, evOps, evOne, evOp, evPur, evEff, evPur.chunks, fillP, AOp.isEff, AO.ev, putP, PV.cells, PV.leaf, getB, getM, mapE, iterE, keyC, mapRows, mfind, eq1, eqL, scal, binP, unP, minP, maxP, foldP, PV.lt, PV.lt.ltL, endP, expoAll, expoG, expo, expo.expoL, frIds, frIds.frIdsL, nodupN, kill, cls, clsFuel, resO, RV.get, loadP, evC_p, evC_s, endS, endT, rowsOf, callP, thinL, unfr, unfr.unfrL, PV.noMem, PV.noMem.noMemL, optI, mapO, norm, trimT, trimB, forget, hasN, blksLt, List.set, softChk, softGo, softRd, effTg, rdP, eL, hl, hl', h9, h1, h2, h3, h4, h5]
theorem law4 (ps : List PV) (h : ArgL Try.prog 12 [25, 3, 3] ps) : evE Dg 4 ps = some (.bool true) := by
  obtain ⟨p, q, r, rfl, h1, h2, h3⟩ := argL3 h
  obtain ⟨l, rfl⟩ := in_flows h1
  obtain ⟨x, rfl, _⟩ := argT_int Try.underlying3 h2
  obtain ⟨y, rfl, _⟩ := argT_int Try.underlying3 h3
  exact f4 l x y
end Go.Proofs.Ytlnaibkpmklkiaa
