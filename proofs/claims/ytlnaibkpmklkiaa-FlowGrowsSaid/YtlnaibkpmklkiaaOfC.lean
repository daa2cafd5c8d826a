/- FlowGrows. -/
import Derived.Test.YtlnaibkpmklkiaaOfB
namespace Go.Proofs.Ytlnaibkpmklkiaa
open Go Go.RowKit
set_option linter.unusedVariables false
set_option linter.unusedSimpArgs false

theorem lastI_take (l : List Tm) (j : Nat) (n : Int) : ∀ k, k ≤ j → lastI (l.take j) k n = lastI l k n
  | 0, _ => rfl
  | k + 1, h => by
    have ih := lastI_take l j n k (by omega)
    simp only [lastI, ih]
    rw [List.getElem?_take_of_lt (by omega)]
theorem flows_take (l : List Tm) (j : Nat) : ∀ k, k ≤ j → flows (l.take j) k = flows l k
  | 0, _ => rfl
  | k + 1, h => by
    have ih := flows_take l j k (by omega)
    have h1 : ∀ n, lastT (l.take j) k n = lastT l k n := fun n => by
      unfold lastT
      rw [lastI_take l j n k (by omega)]
      cases hi : lastI l k n with
      | none => rfl
      | some i =>
        have := (lastI_lt l n k i hi).1
        simp only [Option.bind_some]
        rw [List.getElem?_take_of_lt (by omega)]
    simp only [flows, ih]
    rw [List.getElem?_take_of_lt (by omega)]
    simp only [h1]
theorem flows_prefix (l : List Tm) (j : Nat) : ∀ k, j ≤ k → ∃ r, flows l k = flows l j ++ r
  | 0, h => ⟨[], by obtain rfl : j = 0 := by omega
                    simp⟩
  | k + 1, h => by
    by_cases hj : j = k + 1
    · subst hj; exact ⟨[], by simp⟩
    · obtain ⟨r, hr⟩ := flows_prefix l j k (by omega)
      exact ⟨_, by simp only [flows, hr, List.append_assoc]; rfl⟩
theorem tRows_takeN (l : List Tm) (n : Nat) : (tRows l).take n = tRows (l.take n) := by simp [tRows, List.map_take]

set_option maxRecDepth 100000 in
theorem f6 (l : List Tm) (u : Nat) (hu : u ≤ 65535) : evE Dg 6 [.sl false 10 (tRows l), .int .u16 u] = some (.bool true) := by
  refine evE_intro 1 D6 rfl ?_
  unfold c6
  have eL := tRows_len l
  have h9 := f9
  by_cases hl : 300 < l.length
  · have hl' : (300 : Int) < l.length := by omega
    simp [evCode, evOps, evOne, evOp, evPur, evEff, evPur.chunks, fillP, AOp.isEff, AO.ev, putP, PV.cells, PV.leaf, getB, getM, mapE, iterE, keyC, mapRows, mfind, eq1, eqL, scal, binP, unP, minP, maxP, foldP, PV.lt, PV.lt.ltL, endP, expoAll, expoG, expo, expo.expoL, frIds, frIds.frIdsL, nodupN, kill, cls, clsFuel, resO, RV.get, loadP, evC_p, evC_s, endS, endT, rowsOf, callP, thinL, unfr, unfr.unfrL, PV.noMem, PV.noMem.noMemL, optI, mapO, norm, trimT, trimB, forget, hasN, blksLt, List.set, softChk, softGo, softRd, effTg, rdP, eL, hl, hl', h9]
  · have hl' : ¬ (300 : Int) < l.length := by omega
    have w1 := wrap_i64 ((l.length : Int) + 1) (by omega) (by omega)
    have w2 := wrap_i64 (u : Int) (by omega) (by omega)
    have hm : (u : Int).tmod ((l.length : Int) + 1) = ((u % (l.length + 1) : Nat) : Int) := by
      rw [Int.tmod_eq_emod_of_nonneg (by omega)]; simp
    have hj : u % (l.length + 1) ≤ l.length := by have := Nat.mod_lt u (show 0 < l.length + 1 by omega); omega
    have hz : ¬ (l.length : Int) + 1 = 0 := by omega
    generalize u % (l.length + 1) = j at *
    have h1 := f11 false l (by omega)
    have ht : (l.take j).length = j := by rw [List.length_take]; omega
    have h2 := f11 false (l.take j) (by omega)
    rw [ht, flows_take l j j (Nat.le_refl _)] at h2
    obtain ⟨r, hr⟩ := flows_prefix l j l.length hj
    have hfl := flows_len l j
    have hfL := flows_len l l.length
    rw [hr] at h1
    have hlen : (flows l j).length ≤ 2000 := by omega
    have h3 := f10 false false (flows l j) hlen
    have e1 := fRows_len (flows l j)
    have e2 := fRows_len (flows l j ++ r)
    have e3 : (fRows (flows l j ++ r)).take (flows l j).length = fRows (flows l j) := by rw [fRows_take]; simp
    have e4 := tRows_takeN l j
    have hab : (flows l j).length ≤ (flows l j ++ r).length := by simp
    have hab' : ((flows l j).length : Int) ≤ (flows l j ++ r).length := by omega
    generalize hA : flows l j ++ r = A at *
    generalize flows l j = C at *
    have j1 : (j : Int) ≤ l.length := by omega
    simp [evCode, evOps, evOne, evOp, evPur, evEff, evPur.chunks, fillP, AOp.isEff, AO.ev, putP, PV.cells, PV.leaf, getB, getM, mapE, iterE, keyC, mapRows, mfind, eq1, eqL, scal, binP, unP, minP, maxP, foldP, PV.lt, PV.lt.ltL, endP, expoAll, expoG, expo, expo.expoL, frIds, frIds.frIdsL, nodupN, kill, cls, clsFuel, resO, RV.get, loadP, evC_p, evC_s, endS, endT, rowsOf, callP, thinL, unfr, unfr.unfrL, PV.noMem, PV.noMem.noMemL, optI, mapO, norm, trimT, trimB, forget, hasN, blksLt, List.set, softChk, softGo, softRd, effTg, rdP, eL, hl, hl', h9, w1, w2, hm, hz, h1, h2, h3, e1, e2, e3, e4, hab, hab', hj, j1]
theorem ht_strs {d : Nat} {r : List PV} (h : HT Try.prog (d + 1) 36 r) : ∃ p : PV, r = [p] ∧ p.leaf = true ∧ p.lt 0 = true := by
  obtain ⟨rows, rfl, _⟩ := ht_slice Try.underlying36 h
  exact ⟨_, rfl, rfl, rfl⟩
theorem ht_timed {d : Nat} {r : List PV} (h : HT Try.prog (d + 4) 44 r) : ∃ t : Tm, r = tRow t := by
  have h := ht_struct Try.underlying44 h
  obtain ⟨p0, q0, rfl, h0, h⟩ := htf_cons h
  obtain ⟨p1, q1, rfl, h1, h⟩ := htf_cons h
  obtain ⟨p2, q2, rfl, h2, h⟩ := htf_cons h
  obtain rfl := htf_nil h
  obtain ⟨a, b, rfl⟩ := ht_id h0
  have h1 := ht_struct Try.underlying38 h1
  obtain ⟨x0, y0, rfl, k0, h1⟩ := htf_cons h1
  obtain ⟨x1, y1, rfl, k1, h1⟩ := htf_cons h1
  obtain ⟨x2, y2, rfl, k2, h1⟩ := htf_cons h1
  obtain ⟨x3, y3, rfl, k3, h1⟩ := htf_cons h1
  obtain ⟨x4, y4, rfl, k4, h1⟩ := htf_cons h1
  obtain ⟨x5, y5, rfl, k5, h1⟩ := htf_cons h1
  obtain rfl := htf_nil h1
  have h2 := ht_struct Try.underlying42 h2
  obtain ⟨z0, v0, rfl, m0, h2⟩ := htf_cons h2
  obtain ⟨z1, v1, rfl, m1, h2⟩ := htf_cons h2
  obtain rfl := htf_nil h2
  obtain ⟨i0, rfl, _⟩ := ht_int Try.underlying3 k0
  obtain ⟨i1, rfl, _⟩ := ht_int Try.underlying35 k1
  obtain ⟨s, rfl, _⟩ := ht_string Try.underlying9 k2
  obtain ⟨i3, rfl, _⟩ := ht_int Try.underlying3 k3
  obtain ⟨i4, rfl, _⟩ := ht_int Try.underlying3 k4
  obtain ⟨p, rfl, p1, p2⟩ := ht_strs k5
  obtain ⟨j0, rfl, _⟩ := ht_int Try.underlying3 m0
  obtain ⟨j1, rfl, _⟩ := ht_int Try.underlying3 m1
  exact ⟨⟨a, b, i0, i1, s, i3, i4, p, j0, j1, p1, p2⟩, rfl⟩
theorem in_timed {d : Nat} {p : PV} (h : ArgT Try.prog (d + 5) 22 p) : ∃ l : List Tm, p = .sl false 10 (tRows l) := by
  obtain ⟨l, h1, h2, h3⟩ := argT_rows (f := tRow) (Q := fun s => True) Try.underlying22 (c := 10) (by kernel_rfl) (fun r hr => by
    obtain ⟨s, rfl⟩ := ht_timed hr
    exact ⟨s, rfl, trivial⟩) (argT_slice Try.underlying22 h)
  exact ⟨l, (List.cons.inj h1).1⟩
theorem law6 (ps : List PV) (h : ArgL Try.prog 12 [22, 49] ps) : evE Dg 6 ps = some (.bool true) := by
  obtain ⟨p, q, rfl, h1, h2⟩ := argL2 h
  obtain ⟨l, rfl⟩ := in_timed h1
  obtain ⟨i, rfl, hw⟩ := argT_int Try.underlying49 h2
  simp [Lit.wf, IntKind.min, IntKind.max, IntKind.signed, IntKind.bits] at hw
  obtain ⟨u, rfl⟩ : ∃ u : Nat, i = u := ⟨i.toNat, by omega⟩
  exact f6 l u (by omega)
end Go.Proofs.Ytlnaibkpmklkiaa
