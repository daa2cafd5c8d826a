/- Samples: SampleChecks, SampleOf, SampleOrdered. -/
import Derived.Test.YtgipbahlcnageaaPr8
import Derived.Test.YtgipbahlcnageaaPr5
namespace Go.Proofs.Ytgipbahlcnageaa
open Go Go.RowKit
set_option linter.unusedVariables false
set_option linter.unusedSimpArgs false

theorem few_spec {l : List Smp} (h : few l = true) : l.length ≤ 40 ∧ ∀ s ∈ l, s.st.length ≤ 60 := by
  simp only [few, Bool.and_eq_true, decide_eq_true_eq, List.all_eq_true] at h
  refine ⟨h.1, fun s hs => ?_⟩
  have := h.2 s hs
  simp only [smT, Bool.and_eq_true, decide_eq_true_eq] at this
  exact this.1

theorem f5 (l : List Smp) (u v : Int) (n : List UInt8) : evE Dg 5 [eSmps l, .agg [.int .i64 u, .int .i64 v], .str n] = some (.bool true) := by
  refine evE_intro 1 D5 rfl ?_
  have h8 := f8
  have h14 := f14 l
  unfold c5
  by_cases hf : few l = true
  · rw [hf] at h14
    by_cases h1 : n.length ≤ 200
    · have h1' : ¬ ((200 : Int) < n.length) := by omega
      obtain ⟨g1, g2⟩ := few_spec hf
      have hc := f13 l (by omega)
      have hc2 := f15 l (by omega)
      have hw := f16 u v l (by omega)
      have hw2 := f17 u v l (by omega)
      have hsame := f10 (l.filter (inW u v)) (Nat.le_trans (List.length_filter_le _ _) (by omega)) (fun s hs => by have := g2 s (List.mem_filter.1 hs).1; omega)
      have hlf := f18 n l (by omega) (fun s hs => by have := g2 s hs; omega)
      have hlf2 := f19 n l (by omega) (fun s hs => by have := g2 s hs; omega)
      have ht := f20 l (by omega)
      have ht2 := f21 l (by omega)
      generalize l.filter (inW u v) = z at *
      simp only [eSmps] at h14 hc hc2 hw hw2 hsame hlf hlf2 ht ht2
      simp [evCode, evOps, evOne, evOp, evPur, evEff, evPur.chunks, fillP, AOp.isEff, AO.ev, putP, PV.cells, PV.leaf, getB, scal, binP, unP, minP, maxP, foldP, PV.lt, PV.lt.ltL, endP, expoAll, expo, expo.expoL, frIds, frIds.frIdsL, nodupN, kill, cls, clsFuel, resP, rowsOf, callP, unfr, unfr.unfrL, PV.noMem, PV.noMem.noMemL, optI, mapO, norm, forget, hasN, blksLt, List.set, eSmps, h8, h14, h1', hc, hc2, hw, hw2, hsame, hlf, hlf2, ht, ht2]
    · have h1' : (200 : Int) < n.length := by omega
      simp only [eSmps] at h14
      simp [evCode, evOps, evOne, evOp, evPur, evEff, evPur.chunks, fillP, AOp.isEff, AO.ev, putP, PV.cells, PV.leaf, getB, scal, binP, unP, minP, maxP, foldP, PV.lt, PV.lt.ltL, endP, expoAll, expo, expo.expoL, frIds, frIds.frIdsL, nodupN, kill, cls, clsFuel, resP, rowsOf, callP, unfr, unfr.unfrL, PV.noMem, PV.noMem.noMemL, optI, mapO, norm, forget, hasN, blksLt, List.set, eSmps, h8, h14, h1']
  · have hf : few l = false := by simpa using hf
    rw [hf] at h14
    simp only [eSmps] at h14
    simp [evCode, evOps, evOne, evOp, evPur, evEff, evPur.chunks, fillP, AOp.isEff, AO.ev, putP, PV.cells, PV.leaf, getB, scal, binP, unP, minP, maxP, foldP, PV.lt, PV.lt.ltL, endP, expoAll, expo, expo.expoL, frIds, frIds.frIdsL, nodupN, kill, cls, clsFuel, resP, rowsOf, callP, unfr, unfr.unfrL, PV.noMem, PV.noMem.noMemL, optI, mapO, norm, forget, hasN, blksLt, List.set, eSmps, h8, h14]

theorem in_span {d : Nat} {p : PV} (h : ArgT Try.prog (d + 2) 44 p) : ∃ a b, p = .agg [.int .i64 a, .int .i64 b] := by
  obtain ⟨ps, rfl, g⟩ := argT_struct Try.underlying44 h
  clear h
  obtain ⟨q0, r0, rfl, h0, h⟩ := htf_cons (ht_struct Try.underlying44 g)
  obtain ⟨q1, r1, rfl, h1, h⟩ := htf_cons h
  obtain rfl := htf_nil h
  obtain ⟨i0, rfl, w0⟩ := ht_int Try.underlying3 h0
  obtain ⟨i1, rfl, w1⟩ := ht_int Try.underlying3 h1
  exact ⟨i0, i1, rfl⟩

theorem law5 (ps : List PV) (h : ArgL Try.prog 12 [36, 44, 9] ps) : evE Dg 5 ps = some (.bool true) := by
  obtain ⟨p, q, r, rfl, h1, h2, h3⟩ := argL3 h
  obtain ⟨l, rfl, _⟩ := in_smps h1
  obtain ⟨a, b, rfl⟩ := in_span h2
  obtain ⟨n, rfl, _⟩ := argT_string Try.underlying9 h3
  exact f5 l a b n

theorem in_tmd {d : Nat} {ps : List PV} (h : HT Try.prog (d + 6) 34 ps) : ∃ x : Tmd, ps = eTmd x ∧ True := by
  obtain ⟨q0, r0, rfl, h0, h⟩ := htf_cons (ht_struct Try.underlying34 h)
  obtain ⟨q1, r1, rfl, h1, h⟩ := htf_cons h
  obtain ⟨q2, r2, rfl, h2, h⟩ := htf_cons h
  obtain rfl := htf_nil h
  clear h
  obtain ⟨a0, b0, rfl, h0', h⟩ := htf_cons (ht_struct Try.underlying26 h0)
  obtain ⟨a1, b1, rfl, g1, h⟩ := htf_cons h
  obtain rfl := htf_nil h
  obtain ⟨i0, rfl, w0⟩ := ht_int Try.underlying3 h0'
  obtain ⟨i1, rfl, w1⟩ := ht_int Try.underlying3 g1
  obtain ⟨c0, d0, rfl, k0, h⟩ := htf_cons (ht_struct Try.underlying30 h1)
  obtain ⟨c1, d1, rfl, k1, h⟩ := htf_cons h
  obtain ⟨c2, d2, rfl, k2, h⟩ := htf_cons h
  obtain ⟨c3, d3, rfl, k3, h⟩ := htf_cons h
  obtain ⟨c4, d4, rfl, k4, h⟩ := htf_cons h
  obtain ⟨c5, d5, rfl, k5, h⟩ := htf_cons h
  obtain rfl := htf_nil h
  obtain ⟨j0, rfl, w2⟩ := ht_int Try.underlying3 k0
  obtain ⟨j1, rfl, w3⟩ := ht_int Try.underlying27 k1
  obtain ⟨j2, rfl, w4⟩ := ht_string Try.underlying9 k2
  obtain ⟨j3, rfl, w5⟩ := ht_int Try.underlying3 k3
  obtain ⟨j4, rfl, w6⟩ := ht_int Try.underlying3 k4
  obtain ⟨tx, rfl, w7, w8⟩ := in_texts k5
  obtain ⟨e0, f0, rfl, l0, h⟩ := htf_cons (ht_struct Try.underlying32 h2)
  obtain ⟨e1, f1, rfl, l1, h⟩ := htf_cons h
  obtain rfl := htf_nil h
  obtain ⟨m0, rfl, w9⟩ := ht_int Try.underlying3 l0
  obtain ⟨m1, rfl, w10⟩ := ht_int Try.underlying3 l1
  exact ⟨⟨i0, i1, ⟨j0, j1, j2, j3, j4, tx⟩, m0, m1⟩, rfl, trivial⟩
theorem in_tmds {d : Nat} {p : PV} (h : ArgT Try.prog (d + 7) 22 p) : ∃ l : List Tmd, p = eTmds l ∧ l.length ≤ maxLen := by
  obtain ⟨l, h1, h2, h3⟩ := argT_rows (f := eTmd) (Q := fun _ => True) Try.underlying22 (c := 10) (by kernel_rfl) (fun r hr => in_tmd hr) (argT_slice Try.underlying22 h)
  exact ⟨l, by simpa [eTmds] using h1, h2⟩

def S3 (l : List Tmd) (k : Nat) : St := ⟨[eTmds l, .top, .top, .int .i64 k] ++ List.replicate 26 .top, []⟩

theorem ofT_mem {l : List Tmd} {s : Smp} (h : s ∈ ofT l) : ∃ a ∈ l, s = smpT a := by
  have key : ∀ (r : List Tmd) (x : List Smp), (∀ s ∈ x, ∃ a ∈ l, s = smpT a) → (∀ a ∈ r, a ∈ l) → ∀ s ∈ r.foldl addT x, ∃ a ∈ l, s = smpT a := by
    intro r
    induction r with
    | nil => intro x hx _; exact hx
    | cons b r ih =>
      intro x hx hr
      refine ih _ (fun s hs => ?_) (fun a ha => hr a (by simp [ha]))
      unfold addT at hs
      split at hs
      · rcases List.mem_append.1 hs with h | h
        · exact hx s h
        · simp at h; exact ⟨b, hr b (by simp), h⟩
      · exact hx s hs
  exact key l [] (by simp) (fun a ha => ha) s h
theorem ofT_len (l : List Tmd) : (ofT l).length ≤ l.length := by
  have key : ∀ (r : List Tmd) (x : List Smp), (r.foldl addT x).length ≤ x.length + r.length := by
    intro r
    induction r with
    | nil => intro x; simp
    | cons b r ih =>
      intro x
      have := ih (addT x b)
      have h2 : (addT x b).length ≤ x.length + 1 := by unfold addT; split <;> simp
      simp only [List.foldl, List.length_cons]
      omega
  have := key l []
  rw [List.length_nil, Nat.zero_add] at this
  exact this

theorem small_st {e : Evt} (h : small e = true) : e.st.length ≤ 60 := by
  simp only [small, smT, Bool.and_eq_true, decide_eq_true_eq] at h
  exact h.2.1

theorem f3 (l : List Tmd) : evE Dg 3 [eTmds l] = some (.bool true) := by
  refine evE_intro (l.length + 1) D3 rfl ?_
  have h8 := f8
  by_cases hl : l.length ≤ 60
  · have hl' : ¬ ((60 : Int) < l.length) := by omega
    have H := loop_all (body := evCode (evE Dg) (l.length + 1) c3b0) (keep := [0, 3]) (n0 := 0) (fuel := l.length + 1) l (S3 l) (fun a => small a.ev) (fun s => s.sl[2]?.getD .top = .bool true)
      (by
        intro k a ha hk hq
        have hk' : (k : Int) < l.length := by omega
        have h1 := wrap_i64 ((k : Int) + 1) (by omega) (by omega)
        have h9 := f9 a.ev
        simp only [hq, eEvt, eTx] at h9
        unfold c3b0
        simp [evCode, evOps, evOne, evOp, evPur, evEff, evPur.chunks, fillP, AOp.isEff, AO.ev, putP, PV.cells, PV.leaf, getB, scal, binP, unP, minP, maxP, foldP, PV.lt, PV.lt.ltL, endP, expoAll, expo, expo.expoL, frIds, frIds.frIdsL, nodupN, kill, cls, clsFuel, resP, rowsOf, callP, unfr, unfr.unfrL, PV.noMem, PV.noMem.noMemL, optI, mapO, norm, forget, hasN, blksLt, List.set, S3, eTmds, eTmd, eTx, ha, hk', h1, h9])
      (by
        intro k a ha hk hq
        have hk' : (k : Int) < l.length := by omega
        have h9 := f9 a.ev
        simp only [hq, eEvt, eTx] at h9
        unfold c3b0
        simp [evCode, evOps, evOne, evOp, evPur, evEff, evPur.chunks, fillP, AOp.isEff, AO.ev, putP, PV.cells, PV.leaf, getB, scal, binP, unP, minP, maxP, foldP, PV.lt, PV.lt.ltL, endP, expoAll, expo, expo.expoL, frIds, frIds.frIdsL, nodupN, kill, cls, clsFuel, resP, rowsOf, callP, unfr, unfr.unfrL, PV.noMem, PV.noMem.noMemL, optI, mapO, norm, forget, hasN, blksLt, List.set, S3, eTmds, eTmd, eTx, ha, hk', h9])
      (by
        intro s
        unfold c3b0
        simp [evCode, evOps, evOne, evOp, evPur, evEff, evPur.chunks, fillP, AOp.isEff, AO.ev, putP, PV.cells, PV.leaf, getB, scal, binP, unP, minP, maxP, foldP, PV.lt, PV.lt.ltL, endP, expoAll, expo, expo.expoL, frIds, frIds.frIdsL, nodupN, kill, cls, clsFuel, resP, rowsOf, callP, unfr, unfr.unfrL, PV.noMem, PV.noMem.noMemL, optI, mapO, norm, forget, hasN, blksLt, List.set, S3, eTmds]) (by omega)
    unfold c3
    simp [evCode, evOps, evOne, evOp, evPur, evEff, evPur.chunks, fillP, AOp.isEff, AO.ev, putP, PV.cells, PV.leaf, getB, scal, binP, unP, minP, maxP, foldP, PV.lt, PV.lt.ltL, endP, expoAll, expo, expo.expoL, frIds, frIds.frIdsL, nodupN, kill, cls, clsFuel, resP, rowsOf, callP, unfr, unfr.unfrL, PV.noMem, PV.noMem.noMemL, optI, mapO, norm, forget, hasN, blksLt, List.set, eTmds, h8, hl']
    generalize hE : evLoop _ _ _ _ _ = E
    rcases H _ _ hE (by simp [evCode, evOps, evOne, evOp, evPur, evEff, evPur.chunks, fillP, AOp.isEff, AO.ev, putP, PV.cells, PV.leaf, getB, scal, binP, unP, minP, maxP, foldP, PV.lt, PV.lt.ltL, endP, expoAll, expo, expo.expoL, frIds, frIds.frIdsL, nodupN, kill, cls, clsFuel, resP, rowsOf, callP, unfr, unfr.unfrL, PV.noMem, PV.noMem.noMemL, optI, mapO, norm, forget, hasN, blksLt, List.set, S3, eTmds]) with ⟨h1, h2⟩ | ⟨h1, s, h2, h3⟩
    · rw [h2]
      have o1 := f11 l (by omega)
      have o2 := f12 l (by omega)
      have o3 := f10 (ofT l) (Nat.le_trans (ofT_len l) (by omega)) (fun s hs => by
        obtain ⟨a, ha, rfl⟩ := ofT_mem hs
        have := small_st (List.all_eq_true.1 h1 a ha)
        simp only [smpT]; omega)
      simp only [eTmds, eSmps] at o1 o2 o3
      unfold c3b0
      simp [evCode, evOps, evOne, evOp, evPur, evEff, evPur.chunks, fillP, AOp.isEff, AO.ev, putP, PV.cells, PV.leaf, getB, scal, binP, unP, minP, maxP, foldP, PV.lt, PV.lt.ltL, endP, expoAll, expo, expo.expoL, frIds, frIds.frIdsL, nodupN, kill, cls, clsFuel, resP, rowsOf, callP, unfr, unfr.unfrL, PV.noMem, PV.noMem.noMemL, optI, mapO, norm, forget, hasN, blksLt, List.set, S3, eTmds]
      unfold c3r0
      simp [evCode, evOps, evOne, evOp, evPur, evEff, evPur.chunks, fillP, AOp.isEff, AO.ev, putP, PV.cells, PV.leaf, getB, scal, binP, unP, minP, maxP, foldP, PV.lt, PV.lt.ltL, endP, expoAll, expo, expo.expoL, frIds, frIds.frIdsL, nodupN, kill, cls, clsFuel, resP, rowsOf, callP, unfr, unfr.unfrL, PV.noMem, PV.noMem.noMemL, optI, mapO, norm, forget, hasN, blksLt, List.set, eTmds, o1, o2, o3]
    · rw [h2]
      simp [evCode, evOps, evOne, evOp, evPur, evEff, evPur.chunks, fillP, AOp.isEff, AO.ev, putP, PV.cells, PV.leaf, getB, scal, binP, unP, minP, maxP, foldP, PV.lt, PV.lt.ltL, endP, expoAll, expo, expo.expoL, frIds, frIds.frIdsL, nodupN, kill, cls, clsFuel, resP, rowsOf, callP, unfr, unfr.unfrL, PV.noMem, PV.noMem.noMemL, optI, mapO, norm, forget, hasN, blksLt, List.set, h3]
  · have hl' : ((60 : Int) < l.length) := by omega
    unfold c3
    simp [evCode, evOps, evOne, evOp, evPur, evEff, evPur.chunks, fillP, AOp.isEff, AO.ev, putP, PV.cells, PV.leaf, getB, scal, binP, unP, minP, maxP, foldP, PV.lt, PV.lt.ltL, endP, expoAll, expo, expo.expoL, frIds, frIds.frIdsL, nodupN, kill, cls, clsFuel, resP, rowsOf, callP, unfr, unfr.unfrL, PV.noMem, PV.noMem.noMemL, optI, mapO, norm, forget, hasN, blksLt, List.set, eTmds, h8, hl']

theorem law3 (ps : List PV) (h : ArgL Try.prog 12 [22] ps) : evE Dg 3 ps = some (.bool true) := by
  obtain ⟨p, rfl, h1⟩ := argL1 h
  obtain ⟨l, rfl, _⟩ := in_tmds h1
  exact f3 l
end Go.Proofs.Ytgipbahlcnageaa
