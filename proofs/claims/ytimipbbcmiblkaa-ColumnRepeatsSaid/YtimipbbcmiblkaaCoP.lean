/- column: ColumnShort, whole. -/
import Derived.Test.YtimipbbcmiblkaaCoO
namespace Go.Proofs.Ytimipbbcmiblkaa
open Go Go.RowKit
set_option linter.unusedVariables false
set_option linter.unusedSimpArgs false
set_option maxHeartbeats 4000000

theorem few_true {l : List Val} (h : fewB l = true) : l.length ≤ 60 ∧ ∀ w ∈ l, w.2.2.length ≤ 300 := by
  unfold fewB at h
  simp only [Bool.and_eq_true, decide_eq_true_eq, List.all_eq_true] at h
  exact h
theorem enc_cases (k : Int) (l : List Val) (hl : l.length ≤ 60) : (∃ e, e ≠ 0 ∧ encP k l = noP e) ∨ (errL k l = 0 ∧ encP k l = .tup [.agg [.int .i64 k, .int .i64 (l.length : Int), .fr 1 (bR (short k l))], .int .i64 0]) := by
  unfold encP
  by_cases ht : typB k = true
  · rw [if_pos ht, if_neg (by omega)]
    by_cases he : errL k l = 0
    · rw [if_pos he]; exact .inr ⟨he, rfl⟩
    · rw [if_neg he]; exact .inl ⟨_, he, rfl⟩
  · rw [if_neg ht]; exact .inl ⟨1, by decide, rfl⟩
set_option maxRecDepth 100000 in
theorem f6_few (x : Bool) (k : Int) (l : List Val) (hv : ∀ v ∈ l, i64V v) (hf : fewB l = true) : evE Dg 6 [.int .i64 k, eV x l] = some (.bool true) := by
  obtain ⟨hl, ha⟩ := few_true hf
  have h10 := f10
  have h11 := f11 x l
  rw [hf] at h11
  have h12 := f12 x k l hv
  have e1 := vRows_len l
  have hb0 : ∀ b, Nat.blt b 0 = false := fun b => by cases b <;> rfl
  have n1 : Nat.blt 0 1 = true := rfl
  rcases enc_cases k l hl with ⟨e, he, hE⟩ | ⟨he, hE⟩
  · rw [hE] at h12
    simp only [eV, noP] at h11 h12
    refine evE_intro 1 D6 rfl ?_
    unfold c6
    simp [evCode, evOps, evOne, evOp, evPur, evEff, evPur.chunks, fillP, AOp.isEff, AO.ev, putP, PV.cells, PV.leaf, getB, getM, mapE, iterE, keyC, mapRows, mfind, eq1, eqL, scal, binP, unP, minP, maxP, foldP, PV.lt, PV.lt.ltL, endP, expoAll, expoG, expo, expo.expoL, frIds, frIds.frIdsL, nodupN, kill, cls, clsFuel, resO, RV.get, loadP, evC_p, evC_s, endS, endT, rowsOf, callP, thinL, unfr, unfr.unfrL, PV.noMem, PV.noMem.noMemL, optI, mapO, norm, trimT, trimB, forget, hasN, blksLt, List.set, softChk, softGo, softRd, effTg, rdP, eV, h10, h11, h12, he, hb0]
  · rw [hE] at h12
    have hok : ∀ v ∈ l, okW v := fun v hm => valV_ok (errL_all he v hm) (hv v hm)
    have hS := short_le k hok
    generalize short k l = B at *
    have H := loop_inv (body := evCode (evC Dg) (l.length + 1) c6b0) (keep := [1, 5, 7, 8]) (n0 := 1) (fuel := l.length + 1) l (S6 x k l B) (fun _ _ => True) (fun _ => False)
      (by
        rintro i v _ hu hi _
        left
        obtain ⟨s', q1, q2⟩ := step6 x k l B i v _ hu hi hl ha
        exact ⟨(), s', q1, q2, trivial⟩)
      (by
        rintro _ _ s
        unfold c6b0
        simp [evCode, evOps, evOne, evOp, evPur, evEff, evPur.chunks, fillP, AOp.isEff, AO.ev, putP, PV.cells, PV.leaf, getB, getM, mapE, iterE, keyC, mapRows, mfind, eq1, eqL, scal, binP, unP, minP, maxP, foldP, PV.lt, PV.lt.ltL, endP, expoAll, expoG, expo, expo.expoL, frIds, frIds.frIdsL, nodupN, kill, cls, clsFuel, resO, RV.get, loadP, evC_p, evC_s, endS, endT, rowsOf, callP, thinL, unfr, unfr.unfrL, PV.noMem, PV.noMem.noMemL, optI, mapO, norm, trimT, trimB, forget, hasN, blksLt, List.set, softChk, softGo, softRd, effTg, rdP, S6, eV, e1])
      (by omega) () trivial
    have tk : l.take l.length = l := List.take_length
    have t0 : smL [] = 0 := rfl
    have lB := bR_len B
    have nB := bR_lt B
    simp only [eV] at h11 h12
    refine evE_intro (l.length + 1) D6 rfl ?_
    unfold c6
    simp [evCode, evOps, evOne, evOp, evPur, evEff, evPur.chunks, fillP, AOp.isEff, AO.ev, putP, PV.cells, PV.leaf, getB, getM, mapE, iterE, keyC, mapRows, mfind, eq1, eqL, scal, binP, unP, minP, maxP, foldP, PV.lt, PV.lt.ltL, endP, expoAll, expoG, expo, expo.expoL, frIds, frIds.frIdsL, nodupN, kill, cls, clsFuel, resO, RV.get, loadP, evC_p, evC_s, endS, endT, rowsOf, callP, thinL, unfr, unfr.unfrL, PV.noMem, PV.noMem.noMemL, optI, mapO, norm, trimT, trimB, forget, hasN, blksLt, List.set, softChk, softGo, softRd, effTg, rdP, eV, h10, h11, h12, hb0, nB]
    generalize hE : evLoop _ _ _ _ _ = E
    rcases H _ _ hE (by simp [evCode, evOps, evOne, evOp, evPur, evEff, evPur.chunks, fillP, AOp.isEff, AO.ev, putP, PV.cells, PV.leaf, getB, getM, mapE, iterE, keyC, mapRows, mfind, eq1, eqL, scal, binP, unP, minP, maxP, foldP, PV.lt, PV.lt.ltL, endP, expoAll, expoG, expo, expo.expoL, frIds, frIds.frIdsL, nodupN, kill, cls, clsFuel, resO, RV.get, loadP, evC_p, evC_s, endS, endT, rowsOf, callP, thinL, unfr, unfr.unfrL, PV.noMem, PV.noMem.noMemL, optI, mapO, norm, trimT, trimB, forget, hasN, blksLt, List.set, softChk, softGo, softRd, effTg, rdP, S6, eV, t0]) with ⟨_, _, q2⟩ | ⟨_, _, q3⟩
    · rw [q2]
      have c1 : (B.length : Int) ≤ ((1 + smL l : Nat) : Int) := by omega
      have c2 : (B.length : Int) ≤ 1 + (smL l : Int) := by omega
      unfold c6b0
      simp [evCode, evOps, evOne, evOp, evPur, evEff, evPur.chunks, fillP, AOp.isEff, AO.ev, putP, PV.cells, PV.leaf, getB, getM, mapE, iterE, keyC, mapRows, mfind, eq1, eqL, scal, binP, unP, minP, maxP, foldP, PV.lt, PV.lt.ltL, endP, expoAll, expoG, expo, expo.expoL, frIds, frIds.frIdsL, nodupN, kill, cls, clsFuel, resO, RV.get, loadP, evC_p, evC_s, endS, endT, rowsOf, callP, thinL, unfr, unfr.unfrL, PV.noMem, PV.noMem.noMemL, optI, mapO, norm, trimT, trimB, forget, hasN, blksLt, List.set, softChk, softGo, softRd, effTg, rdP, S6, eV, e1, tk, lB, c1, c2]
    · exact q3.elim
theorem f6 (x : Bool) (k : Int) (l : List Val) (hv : ∀ v ∈ l, i64V v) : evE Dg 6 [.int .i64 k, eV x l] = some (.bool true) := by
  cases hf : fewB l with
  | true => exact f6_few x k l hv hf
  | false =>
    have h10 := f10
    have h11 := f11 x l
    rw [hf] at h11
    simp only [eV] at h11
    refine evE_intro 1 D6 rfl ?_
    unfold c6
    simp [evCode, evOps, evOne, evOp, evPur, evEff, evPur.chunks, fillP, AOp.isEff, AO.ev, putP, PV.cells, PV.leaf, getB, getM, mapE, iterE, keyC, mapRows, mfind, eq1, eqL, scal, binP, unP, minP, maxP, foldP, PV.lt, PV.lt.ltL, endP, expoAll, expoG, expo, expo.expoL, frIds, frIds.frIdsL, nodupN, kill, cls, clsFuel, resO, RV.get, loadP, evC_p, evC_s, endS, endT, rowsOf, callP, thinL, unfr, unfr.unfrL, PV.noMem, PV.noMem.noMemL, optI, mapO, norm, trimT, trimB, forget, hasN, blksLt, List.set, softChk, softGo, softRd, effTg, rdP, eV, h10, h11]
theorem wf64 {i : Int} (h : (Lit.int .i64 i).wf = true) : -9223372036854775808 ≤ i ∧ i ≤ 9223372036854775807 := by
  simp [Lit.wf, IntKind.min, IntKind.max, IntKind.signed, IntKind.bits] at h
  omega
set_option maxRecDepth 100000 in
theorem in_vals {d : Nat} {p : PV} (h : ArgT Try.prog (d + 4) 29 p) : ∃ l : List Val, p = eV false l ∧ ∀ v ∈ l, i64V v := by
  obtain ⟨l, h1, _, h3⟩ := argT_rows (f := vRow) (Q := i64V) Try.underlying29 (c := 3) (by kernel_rfl) (fun r hr => by
    have hf := ht_struct Try.underlying24 hr
    obtain ⟨p1, q1, rfl, a1, b1⟩ := htf_cons hf
    obtain ⟨p2, q2, rfl, a2, b2⟩ := htf_cons b1
    obtain ⟨p3, q3, rfl, a3, b3⟩ := htf_cons b2
    obtain rfl := htf_nil b3
    obtain ⟨u, rfl, w1⟩ := ht_int Try.underlying22 a1
    obtain ⟨v, rfl, w2⟩ := ht_int Try.underlying3 a2
    obtain ⟨s, rfl, w3⟩ := ht_string Try.underlying9 a3
    exact ⟨(u, v, s), rfl, wf64 w2⟩) (argT_slice Try.underlying29 h)
  exact ⟨l, by simp at h1; exact h1, h3⟩
theorem law6 (ps : List PV) (h : ArgL Try.prog 12 [22, 29] ps) : evE Dg 6 ps = some (.bool true) := by
  obtain ⟨p, q, rfl, h1, h2⟩ := argL2 h
  obtain ⟨k, rfl⟩ := in_kind h1
  obtain ⟨l, rfl, hv⟩ := in_vals h2
  exact f6 false k l hv
end Go.Proofs.Ytimipbbcmiblkaa
